/-
  Proved here: ahead of package tuples; placed at entries puts one to its place. Condition: fewer than 2 to 31 entries.
-/
import Derived.Test.YtimenbkfkdpdcaaDoorIE
import Derived.Deep.RegionHeld
namespace Go.Proofs.YtimenbkfkdpdcaaDoor
open Go.RowKit

/-- An entry: its rank, its number. -/
structure En where
  r : Int
  k : Int
def ahd (a b : En) : Bool := decide (b.r < a.r) || (a.r == b.r && decide (a.k < b.k))
abbrev ev (a : En) : Value := .agg #[.int .i64 a.r, .int .i64 a.k]
def c2 (a : En) : List Value := [.int .i64 a.r, .int .i64 a.k]
def ces (l : List En) : List Value := l.flatMap c2
theorem ces_app (a b : List En) : ces (a ++ b) = ces a ++ ces b := by simp [ces]
theorem ces_one (q : En) : ces [q] = c2 q := by simp [ces]
theorem ces_len : ∀ l : List En, (ces l).length = l.length * 2
  | [] => rfl
  | q :: l => by
    have := ces_len l
    simp only [ces] at this
    simp [ces, c2, this]; omega
theorem ces_drop : ∀ (l : List En) (k : Nat), (ces l).drop (k * 2) = ces (l.drop k)
  | _, 0 => by simp
  | [], k + 1 => by simp [ces]
  | q :: l, k + 1 => by
    have := ces_drop l k
    rw [show (k + 1) * 2 = k * 2 + 2 by omega]
    simpa [ces, c2] using this
theorem ces_take : ∀ (l : List En) (k : Nat), (ces l).take (k * 2) = ces (l.take k)
  | _, 0 => by simp [ces]
  | [], k + 1 => by simp [ces]
  | q :: l, k + 1 => by
    have := ces_take l k
    rw [show (k + 1) * 2 = k * 2 + 2 by omega]
    simpa [ces, c2] using this
theorem ces_at (l : List En) (j i : Nat) (hj : j < l.length) (hi : i < 2) : (ces l)[j * 2 + i]? = (c2 l[j])[i]? := by
  have h := ces_drop l j
  rw [← List.getElem?_drop, h, List.drop_eq_getElem_cons hj]
  show (c2 l[j] ++ ces (l.drop (j + 1)))[i]? = _
  rw [List.getElem?_append_left (by simp [c2]; exact hi)]
theorem ces_one' (l : List En) : ∀ x ∈ ces l, x.oneCell' = true := by
  intro x hx
  obtain ⟨q, hq, hx⟩ := List.mem_flatMap.1 hx
  simp only [c2, List.mem_cons, List.not_mem_nil, or_false] at hx
  rcases hx with rfl | rfl <;> rfl
/-- Where an entry goes, from the first q on. -/
def posd (l : List En) (e : En) : Nat → Nat
  | 0 => 0
  | k + 1 => if ahd e (l.getD k ⟨0, 0⟩) then posd l e k else k + 1
def place (l : List En) (e : En) : List En := l.take (posd l e l.length) ++ [e] ++ l.drop (posd l e l.length)
theorem posd_le (l : List En) (e : En) : ∀ k, posd l e k ≤ k
  | 0 => Nat.le_refl _
  | k + 1 => by
    have := posd_le l e k
    unfold posd
    split <;> omega

set_option maxHeartbeats 800000 in
theorem ahead_any (a b : En) (w : World) : Calls Tryd.prog 25 #[ev a, ev b] w fun e w' => e = .returned (.bool (ahd a b)) ∧ Below w.heap.size w w' := by
  obtain ⟨ar, ak⟩ := a
  obtain ⟨br, bk⟩ := b
  have HL : Hid (Below w.heap.size w ((w.alloc (.cells #[.int .i64 ar, .int .i64 ak] 61)).alloc (.cells #[.int .i64 br, .int .i64 bk] 61))) := ((Below.refl _ _).alloc (Nat.le_refl _) _).alloc (by simp) _
  by_cases h1 : br < ar
  · have e : ahd ⟨ar, ak⟩ ⟨br, bk⟩ = true := by simp [ahd, h1]
    rw [e]
    go_enter Tryd.func25, Tryd.ntmps25
    go_wp2
    go_ret
    exact ⟨rfl, HL.out⟩
  · have d1 : decide (br < ar) = false := decide_eq_false h1
    by_cases h2 : ar = br
    · subst h2
      by_cases h3 : ak < bk
      · have e : ahd ⟨ar, ak⟩ ⟨ar, bk⟩ = true := by simp [ahd, h3]
        rw [e]
        go_enter Tryd.func25, Tryd.ntmps25
        go_wp2
        go_ret
        exact ⟨rfl, HL.out⟩
      · have e : ahd ⟨ar, ak⟩ ⟨ar, bk⟩ = false := by simp [ahd, h3]
        have d3 : decide (ak < bk) = false := decide_eq_false h3
        rw [e]
        go_enter Tryd.func25, Tryd.ntmps25
        go_wp2
        go_ret
        exact ⟨rfl, HL.out⟩
    · have e : ahd ⟨ar, ak⟩ ⟨br, bk⟩ = false := by simp [ahd, h1, h2]
      have d2 : (ar == br) = false := beq_eq_false_iff_ne.2 h2
      rw [e]
      go_enter Tryd.func25, Tryd.ntmps25
      go_wp2
      go_ret
      exact ⟨rfl, HL.out⟩
/-- What placed leaves. -/
def PlE (S : Nat → Prop) (w : World) (v : Value) (l : List En) (r : Ending) (w' : World) : Prop := ∃ v', r = .returned v' ∧ Apd w v w' ∧ Rw (fun b => S b ∨ w.heap.size ≤ b) 2 61 w' v' l.length (ces l)
/-- The end of placed: one is inserted at q. -/
theorem plE_fin {S : Nat → Prop} {w wr : World} {v : Value} {l : List En} {e : En} (h : Rw S 2 61 w v l.length (ces l)) (hb : Below w.heap.size w wr) {q : Nat} (hq : posd l e l.length = q) (hql : q ≤ l.length) (hn : l.length < 2147483647) :
    Calls Tryd.prog 38 #[v, .int .i64 (q : Nat), .slice (some ⟨wr.heap.size, 0, none⟩) 1 1] (wr.alloc (.cells #[.int .i64 e.r, .int .i64 e.k] 61)) fun r w' => PlE S w v (place l e) r w' := by
  have hs := hb.size
  have hw : Below w.heap.size w (wr.alloc (.cells #[.int .i64 e.r, .int .i64 e.k] 61)) := hb.alloc hs _
  have hR : Rw S 2 61 (wr.alloc (.cells #[.int .i64 e.r, .int .i64 e.k] 61)) v l.length (ces l) := h.carry fun b hb' hS => ⟨hS, hw.block b hb'⟩
  refine (inE_any _ v l.length q wr.heap.size (ces l) (c2 e) hR hql rfl hn (heap_alloc_new _ _) (fun e => by have := h.ownLt _ e; omega) (ces_one' l) (fun x hx => by simp only [c2, List.mem_cons, List.not_mem_nil, or_false] at hx; rcases hx with rfl | rfl <;> rfl)).mono ?_
  rintro r w' ⟨v', rfl, hA, hR'⟩
  have hs2 := hw.size
  have hpl : (place l e).length = l.length + 1 := by unfold place; rw [hq]; simp; omega
  refine ⟨v', rfl, ⟨hA.os.trans hw.os, hA.tape.trans hw.tape, hA.output.trans hw.output, Nat.le_trans hs2 hA.size, fun k hk hne => by rw [hA.block k (by omega) hne, hw.block k hk]⟩, ?_⟩
  rw [hpl]
  have e1 : ces (place l e) = (ces l).take (q * 2) ++ c2 e ++ (ces l).drop (q * 2) := by
    unfold place; rw [hq, ces_app, ces_app, ces_one, ces_take, ces_drop]
  rw [e1]
  refine hR'.carry fun b _ hS => ⟨?_, rfl⟩
  rcases hS with hS | hS
  · exact Or.inl hS
  · exact Or.inr (by omega)
end Go.Proofs.YtimenbkfkdpdcaaDoor
