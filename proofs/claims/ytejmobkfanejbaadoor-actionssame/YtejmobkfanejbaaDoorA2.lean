/-
  Plain: what actions do to a header, what goes out, who punts; when an action may stand in a rule. No program is spoken of.
-/
import Derived.Test.YtejmobkfanejbaaDoorA1
namespace Go.Proofs.YtejmobkfanejbaaDoor
open Go.RowKit

/-- A field. -/
def isF (f : Int) : Bool := widV f != 0
theorem isF_iff {f : Int} : isF f = true ↔ 0 ≤ f ∧ f < 11 := by
  unfold isF widV
  constructor
  · intro h
    by_cases hf : 0 ≤ f ∧ f < 11
    · exact hf
    · rw [if_neg hf] at h; simp at h
  · intro hf
    rw [if_pos hf]
    have hk : f.toNat < 11 := by omega
    generalize f.toNat = k at hk
    have h : k = 0 ∨ k = 1 ∨ k = 2 ∨ k = 3 ∨ k = 4 ∨ k = 5 ∨ k = 6 ∨ k = 7 ∨ k = 8 ∨ k = 9 ∨ k = 10 := by omega
    rcases h with rfl | rfl | rfl | rfl | rfl | rfl | rfl | rfl | rfl | rfl | rfl <;> rfl
theorem isF_false {f : Int} : isF f = false ↔ ¬ (0 ≤ f ∧ f < 11) := by
  rw [← isF_iff]; simp
/-- The copy's header behind an action. -/
def setH (h : Nat → Int) (a : Ac) : Nat → Int := if a.dw = 0 ∧ isF a.fd = true then upd h a.fd.toNat a.n else h
def atP (h : Nat → Int) (n : Int) : Nat → Int := if n = 0 then h else upd h 9 n
def aft (h : Nat → Int) (l : List Ac) : Nat → Int := l.foldl setH h
/-- What one action sends. -/
def sen1 (h : Nat → Int) (a : Ac) : List (Nat → Int) := if a.dw = 1 then [atP h a.n] else []
/-- What a copy sends. -/
def sens (h : Nat → Int) : List Ac → List (Nat → Int)
  | [] => []
  | a :: l => sen1 h a ++ sens (setH h a) l
def pnt (l : List Ac) : Bool := l.any fun a => a.dw == 2
def here (ps : List Int) (x : Int) : Bool := ps.any fun p => p == x
def flt (ps : List Int) (l : List (Nat → Int)) : List (Nat → Int) := l.filter fun x => here ps (x 9)
def outs (h : Nat → Int) (ps : List Int) (c : List (List Ac)) : List (Nat → Int) := c.flatMap fun l => flt ps (sens h l)
def pnts (c : List (List Ac)) : Bool := c.any pnt
theorem aft_app (h : Nat → Int) (a b : List Ac) : aft h (a ++ b) = aft (aft h a) b := by simp [aft]
theorem aft_one (h : Nat → Int) (l : List Ac) (a : Ac) : aft h (l ++ [a]) = setH (aft h l) a := by simp [aft]
theorem sens_app : ∀ (h : Nat → Int) (a b : List Ac), sens h (a ++ b) = sens h a ++ sens (aft h a) b
  | _, [], _ => rfl
  | h, x :: a, b => by
    rw [List.cons_append, sens, sens, sens_app (setH h x) a b, List.append_assoc]; rfl
theorem sens_one (h : Nat → Int) (l : List Ac) (a : Ac) : sens h (l ++ [a]) = sens h l ++ sen1 (aft h l) a := by
  rw [sens_app]; simp [sens]
theorem pnt_one (l : List Ac) (a : Ac) : pnt (l ++ [a]) = (pnt l || a.dw == 2) := by simp [pnt]
theorem pnts_one (c : List (List Ac)) (l : List Ac) : pnts (c ++ [l]) = (pnts c || pnt l) := by simp [pnts]
theorem outs_one (h : Nat → Int) (ps : List Int) (c : List (List Ac)) (l : List Ac) : outs h ps (c ++ [l]) = outs h ps c ++ flt ps (sens h l) := by simp [outs]
theorem outs_app (h : Nat → Int) (ps : List Int) (a b : List (List Ac)) : outs h ps (a ++ b) = outs h ps a ++ outs h ps b := by simp [outs]
theorem pnts_app (a b : List (List Ac)) : pnts (a ++ b) = (pnts a || pnts b) := by simp [pnts]
theorem sen1_len (h : Nat → Int) (a : Ac) : (sen1 h a).length ≤ 1 := by unfold sen1; split <;> simp
theorem sens_len : ∀ (h : Nat → Int) (l : List Ac), (sens h l).length ≤ l.length
  | _, [] => by simp [sens]
  | h, a :: l => by
    have := sens_len (setH h a) l
    have := sen1_len h a
    simp only [sens, List.length_append, List.length_cons]; omega
/-- How many actions. -/
def cnt (c : List (List Ac)) : Nat := (c.map List.length).sum
theorem cnt_one (c : List (List Ac)) (l : List Ac) : cnt (c ++ [l]) = cnt c + l.length := by simp [cnt]
theorem cnt_app (a b : List (List Ac)) : cnt (a ++ b) = cnt a + cnt b := by simp [cnt]
theorem flt_len (ps : List Int) (l : List (Nat → Int)) : (flt ps l).length ≤ l.length := List.length_filter_le _ _
theorem outs_len (h : Nat → Int) (ps : List Int) : ∀ c : List (List Ac), (outs h ps c).length ≤ cnt c
  | [] => by simp [outs]
  | l :: c => by
    have h1 := outs_len h ps c
    have h2 := flt_len ps (sens h l)
    have h3 := sens_len h l
    simp only [outs, cnt, List.flatMap_cons, List.length_append, List.map_cons, List.sum_cons] at h1 ⊢
    omega
theorem cnt_take (c : List (List Ac)) (k : Nat) : cnt (c.take k) ≤ cnt c := by
  have := cnt_app (c.take k) (c.drop k)
  rw [List.take_append_drop] at this
  omega
theorem take_one' {α : Type} (l : List α) (k : Nat) (h : k < l.length) : l.take (k + 1) = l.take k ++ [l[k]] := by
  rw [List.take_succ_eq_append_getElem h]
theorem cnt_mem {c : List (List Ac)} {k : Nat} (h : k < c.length) : c[k].length ≤ cnt c := by
  have h1 := cnt_take c (k + 1)
  rw [take_one' c k h, cnt_one] at h1
  omega
/-- The numbers of headers, one behind the other. -/
def hcs (l : List (Nat → Int)) : List Value := l.flatMap fun f => (row 11 f).toList
theorem hcs_app (a b : List (Nat → Int)) : hcs (a ++ b) = hcs a ++ hcs b := by simp [hcs]
theorem hcs_one (f : Nat → Int) : hcs [f] = (row 11 f).toList := by simp [hcs]
theorem hcs_len : ∀ l : List (Nat → Int), (hcs l).length = l.length * 11
  | [] => rfl
  | f :: l => by
    have := hcs_len l
    rw [show hcs (f :: l) = (row 11 f).toList ++ hcs l from rfl, List.length_append, this, List.length_cons]
    simp [row_size]; omega
theorem hcs_at : ∀ (l : List (Nat → Int)) (j i : Nat) (hj : j < l.length), i < 11 → (hcs l)[j * 11 + i]? = some (.int .u64 (l[j] i))
  | f :: l, 0, i, _, hi => by
    rw [show hcs (f :: l) = (row 11 f).toList ++ hcs l from rfl, List.getElem?_append_left (by simp [row_size]; omega)]
    have := row_at 11 f i hi
    simpa using this
  | f :: l, j + 1, i, hj, hi => by
    rw [show hcs (f :: l) = (row 11 f).toList ++ hcs l from rfl, List.getElem?_append_right (by simp [row_size]; omega)]
    have := hcs_at l j i (by simpa using hj) hi
    rw [show (j + 1) * 11 + i - (row 11 f).toList.length = j * 11 + i by simp [row_size]; omega]
    exact this
theorem hcs_one' (l : List (Nat → Int)) : ∀ x ∈ hcs l, x.oneCell' = true := by
  intro x hx
  simp only [hcs, List.mem_flatMap] at hx
  obtain ⟨f, _, hf⟩ := hx
  have := row_one 11 f
  rw [Array.all_eq_true_iff_forall_mem] at this
  exact this x (by simpa using hf)
/-- May an action stand in a rule? -/
def mayF (f : Int) : Bool := !(f == 9 || f == 10 || f == 2 || f == 6) && isF f
def fits (f n : Int) : Bool := n / 2 ^ (widV f).toNat == 0
def isAc (a : Ac) : Bool := if a.dw = 0 then mayF a.fd && fits a.fd a.n else if a.dw = 1 then a.fd == 0 && fits 9 a.n else if a.dw = 2 then a.fd == 0 && a.n == 0 else false
def few (c : List (List Ac)) : Bool := decide (c.length ≤ 64) && c.all (fun l => decide (l.length ≤ 16)) && decide (cnt c ≤ 640)
def okC (c : List (List Ac)) : Bool := c.all fun l => l.all isAc
/-- What Check says of a rule. -/
def ckR (r : Rl) : Int := if mOk r.mt then (if few r.cp && okC r.cp then 0 else 2) else 20
end Go.Proofs.YtejmobkfanejbaaDoor
