/-
  Proved here: plain facts on what the document's plain gathers; a result stored. No condition.
-/
import Derived.Test.YtjallmncajhamaaDoorVL
namespace Go.Proofs.YtjallmncajhamaaDoor
open Go.RowKit
set_option maxRecDepth 100000

theorem tw_fin {S : Nat → Prop} {w w3 : World} {t : Tm} {ds : Array Value} (hb : Below w.heap.size w w3) (ht : UmV (fun b => (b < w.heap.size ∧ S b) ∨ w.heap.size + 1 < b) w3 t ds) : Below w.heap.size w (w3.setRow (w.heap.size + 1) ds) ∧ UmV (Old S w) (w3.setRow (w.heap.size + 1) ds) t ds :=
  ⟨bel_row hb (by omega) _, um_on ht fun b _ hS => ⟨by
    rcases hS with h | h
    · exact Or.inl h
    · exact Or.inr (by omega), setRow_other w3 _ b _ (by rcases hS with h | h <;> omega)⟩⟩
theorem one_ks {b : Bool} {t : Tm} (h : oneT b t = true) (h6 : 1 ≤ lst1 t.op) : t.ks ≠ [] := by
  obtain ⟨op, fd, n, ks⟩ := t
  have h1 := (oneT_iff.1 h).2.1
  rintro h2
  have h3 : ks = [] := h2
  rw [h3] at h1
  have h4 : lst1 op ≤ 0 := h1
  have h5 : 1 ≤ lst1 op := h6
  omega
theorem one_kid {b : Bool} {t : Tm} (h : oneT b t = true) : ∀ x ∈ t.ks, ∃ b', oneT b' x = true := by
  obtain ⟨op, fd, n, ks⟩ := t
  exact fun x hx => ⟨_, (oneT_iff.1 h).2.2.2.2 x hx⟩
theorem row_good {b : Bool} {op : Nat} {L : List Tm} (hr : isRow op = true) (h : ∀ k ∈ L, oneT b k = true) : ∀ k ∈ L, (k.op = 6 → k.ks ≠ []) ∧ (k.op = op → k.ks ≠ [] ∧ ∀ x ∈ k.ks, x.op = 6 → x.ks ≠ []) := fun k hk => by
  refine ⟨fun h6 => one_ks (h k hk) (by rw [h6]; decide), fun ho => ⟨one_ks (h k hk) ?_, fun x hx h6 => ?_⟩⟩
  · rw [ho]; rcases isRow_iff.1 hr with rfl | rfl | rfl | rfl <;> decide
  · obtain ⟨b', h'⟩ := one_kid (h k hk) x hx
    exact one_ks h' (by rw [h6]; decide)
theorem finD_fin1 (op : Nat) (l : List Tm) : finD op (sayT (iop op) op) l = fin1 op l := by
  match l with
  | [] => rfl
  | [x] => rfl
  | a :: b :: l => rfl
theorem hd_11 {L : List Tm} (h : ∀ k ∈ L, oneT false k = true) : L.any (fun k => decide (hd k = 11)) = false := by
  rw [List.any_eq_false]
  intro k hk
  have h4 := h k hk
  have h3 : hd k ≠ 11 := by
    obtain ⟨op, fd, n, ks'⟩ := k
    have h5 := sideT_f.1 (oneT_side h4)
    by_cases h6 : op = 6
    · subst h6
      rw [hd_six]
      cases ks' with
      | nil => simp [hdk]
      | cons q ks' =>
        have h7 := (oneT_iff.1 h4).2.2.2.2 q (List.mem_cons_self ..)
        have h8 := sideT_t.1 (oneT_side h7)
        simp only [hdk]
        omega
    · rw [hd_not (t := .mk op fd n ks') h6]
      have : op ≤ 10 := h5.2
      show op ≠ 11
      omega
  simpa using h3
theorem pl_row {op fd n : Nat} {ks : List Tm} (hr : isRow op = true) : pl (.mk op fd n ks) = jnd op (ks.map pl) := by
  rw [pl_mk]
  unfold plK
  rw [if_neg (by rcases isRow_iff.1 hr with rfl | rfl | rfl | rfl <;> decide), if_pos hr]
/-- a row of which one says all -/
theorem pl_found {op fd n : Nat} {ks : List Tm} (hr : isRow op = true) (hg : ∀ k ∈ ks.map pl, oneT (decide (op ≤ 5)) k = true ∧ Nf k) (he : eop op ≤ 1) (h : fndD op (eop op) (decide (6 ≤ op)) (ks.map pl) = true) : pl (.mk op fd n ks) = sayT (eop op) op := by
  rw [pl_row hr]
  unfold jnd
  rw [if_pos]
  rw [← (outD_gth hr hg).2 _ he rfl]
  exact h
theorem pl_left {op fd n : Nat} {ks : List Tm} (hr : isRow op = true) (hg : ∀ k ∈ ks.map pl, oneT (decide (op ≤ 5)) k = true ∧ Nf k) (h : (ks.map pl).any (fun k => decide (hd k = eop op)) = false) : pl (.mk op fd n ks) = finD op (sayT (iop op) op) (outD op (iop op) (decide (6 ≤ op)) (ks.map pl)) := by
  rw [pl_row hr, finD_fin1]
  unfold jnd
  rw [if_neg (by rw [h]; decide), (outD_gth hr hg).1]
theorem pl_none {op fd n : Nat} {ks : List Tm} (hr : isRow op = true) (hg : ∀ k ∈ ks.map pl, oneT (decide (op ≤ 5)) k = true ∧ Nf k) (he : eop op ≤ 1) (h : fndD op (eop op) (decide (6 ≤ op)) (ks.map pl) = false) : pl (.mk op fd n ks) = finD op (sayT (iop op) op) (outD op (iop op) (decide (6 ≤ op)) (ks.map pl)) :=
  pl_left hr hg (by rw [← (outD_gth hr hg).2 _ he rfl]; exact h)
end Go.Proofs.YtjallmncajhamaaDoor
