/-
  Plain: a term of which a part is replaced by Yes (or a Filter of Yes) is one of its side still; kids read one by one. No condition.
-/
import Derived.Test.YtjallmncajhamaaDoorTH
namespace Go.Proofs.YtjallmncajhamaaDoor
open Go.RowKit

def cutT (op : Nat) : Tm := if op ≤ 5 then leaf 1 else .mk 6 0 0 [leaf 1]
/-- which kid a number names -/
def pix (a : Int) (n : Nat) : Nat := ((a.tmod (n : Int) + (n : Int)).tmod (n : Int)).toNat
/-- a term, with the part that a path leads to replaced -/
def repT : List Int → Tm → Tm
  | [], .mk op _ _ _ => cutT op
  | _ :: _, .mk op _ _ [] => cutT op
  | a :: p, .mk op fd n (k :: ks) => .mk op fd n ((k :: ks).set (pix a (k :: ks).length) (repT p ((k :: ks).getD (pix a (k :: ks).length) k)))
theorem repT_nil (op fd n : Nat) (ks : List Tm) : repT [] (.mk op fd n ks) = cutT op := by rw [repT]
theorem repT_no (p : List Int) (op fd n : Nat) : repT p (.mk op fd n []) = cutT op := by cases p <;> rw [repT]
theorem repT_at (a : Int) (p : List Int) (op fd n : Nat) {ks : List Tm} (i : Nat) (hi : i < ks.length) (hp : pix a ks.length = i) : repT (a :: p) (.mk op fd n ks) = .mk op fd n (ks.set i (repT p ks[i])) := by
  cases ks with
  | nil => simp at hi
  | cons k ks =>
    rw [repT, hp, List.getD_eq_getElem?_getD, List.getElem?_eq_getElem hi]
    rfl
theorem neg_tmod_lt (a : Int) {n : Int} (h : 0 < n) : -n < a.tmod n := by
  have h1 := Int.tmod_lt_of_pos (-a) h
  rw [Int.neg_tmod] at h1
  omega
theorem pix_lt (a : Int) {n : Nat} (h : 0 < n) : pix a n < n ∧ ((a.tmod (n : Int) + (n : Int)).tmod (n : Int)) = ((pix a n : Nat) : Int) := by
  have h1 : -(n : Int) < a.tmod (n : Int) := neg_tmod_lt a (by omega)
  have h2 : 0 ≤ a.tmod (n : Int) + (n : Int) := by omega
  have h3 : (a.tmod (n : Int) + (n : Int)).tmod (n : Int) = (a.tmod (n : Int) + (n : Int)) % (n : Int) := Int.tmod_eq_emod_of_nonneg h2
  have h4 := Int.emod_nonneg (a.tmod (n : Int) + (n : Int)) (show (n : Int) ≠ 0 by omega)
  have h5 := Int.emod_lt_of_pos (a.tmod (n : Int) + (n : Int)) (show (0 : Int) < (n : Int) by omega)
  unfold pix
  rw [h3]
  omega
theorem tmod_rng (a : Int) {n : Nat} (h : 0 < n) : -(n : Int) < a.tmod (n : Int) ∧ a.tmod (n : Int) < (n : Int) := ⟨neg_tmod_lt a (by omega), Int.tmod_lt_of_pos a (by omega)⟩
theorem one_cut {b : Bool} {op : Nat} (h : sideT b op = true) : oneT b (cutT op) = true := by
  obtain rfl := side_op h
  unfold cutT
  by_cases h5 : op ≤ 5
  · rw [if_pos h5, decide_eq_true h5]; rfl
  · rw [if_neg h5, decide_eq_false h5]; rfl
theorem one_rep : ∀ (p : List Int) (b : Bool) (t : Tm), oneT b t = true → oneT b (repT p t) = true
  | [], b, .mk op fd n ks, h => by rw [repT]; exact one_cut (oneT_iff.1 h).1
  | a :: p, b, .mk op fd n [], h => by rw [repT]; exact one_cut (oneT_iff.1 h).1
  | a :: p, b, .mk op fd n (k :: ks), h => by
    obtain ⟨h1, h2, h3, h4, h5⟩ := oneT_iff.1 h
    have hi := (pix_lt a (n := (k :: ks).length) (by simp)).1
    rw [repT_at a p op fd n _ hi rfl]
    refine oneT_iff.2 ⟨h1, by rw [List.length_set]; exact h2, by rw [List.length_set]; exact h3, h4, fun x hx => ?_⟩
    rcases List.mem_or_eq_of_mem_set hx with hx | rfl
    · exact h5 x hx
    · exact one_rep p _ _ (h5 _ (List.getElem_mem hi))
theorem rng_app {w : World} {g o : Nat} {xs ys : List Value} (h1 : w.rangeAt g o xs) (h2 : w.rangeAt g (o + xs.length) ys) : w.rangeAt g o (xs ++ ys) := fun j v hj => by
  by_cases h : j < xs.length
  · rw [List.getElem?_append_left h] at hj; exact h1 j v hj
  · rw [List.getElem?_append_right (by omega)] at hj
    have := h2 (j - xs.length) v hj
    rwa [show o + xs.length + (j - xs.length) = o + j by omega] at this
/-- kids, read one by one -/
theorem til_of {S : Nat → Prop} {w : World} {g : Nat} : ∀ (ks : List Ti) (o : Nat), (∀ q (hq : q < ks.length), ∃ cs, TiV S w ks[q] cs ∧ w.rangeAt g (o + q * 4) cs.toList) → ∃ xs, xs.length = ks.length * 4 ∧ TiL S w ks xs ∧ w.rangeAt g o xs
  | [], o, _ => ⟨[], rfl, by rw [TiL], fun j v hj => by simp at hj⟩
  | t :: ts, o, h => by
    obtain ⟨cs, h1, h2⟩ := h 0 (by simp)
    have hs := h1.size
    obtain ⟨ys, h3, h4, h5⟩ := til_of ts (o + 4) fun q hq => by
      obtain ⟨ds, h6, h7⟩ := h (q + 1) (by simpa using hq)
      exact ⟨ds, h6, by rwa [show o + 4 + q * 4 = o + (q + 1) * 4 by omega]⟩
    refine ⟨cs.toList ++ ys, by simp; omega, by rw [TiL]; exact ⟨cs, ys, rfl, h1, h4⟩, rng_app (by simpa using h2) ?_⟩
    rwa [show o + cs.toList.length = o + 4 by simp [hs]]
end Go.Proofs.YtjallmncajhamaaDoor
