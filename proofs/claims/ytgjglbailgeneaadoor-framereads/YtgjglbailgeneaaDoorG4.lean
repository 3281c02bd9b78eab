/-
  Proved here: the document's Parse answers what Parse answers (prH, prB, prE), for every bytes that a slice holds; no old memory turns. No condition.
-/
import Derived.Test.YtgjglbailgeneaaDoorG3
namespace Go.Proofs.YtgjglbailgeneaaDoor
open Go.RowKit

theorem psz_three (p : Int) : psz p = 0 ∨ psz p = 8 ∨ psz p = 20 := by
  unfold psz; split
  · exact Or.inr (Or.inr rfl)
  · split
    · exact Or.inr (Or.inl rfl)
    · exact Or.inl rfl
theorem upd_nn {h : Nat → Int} (h0 : ∀ k, 0 ≤ h k) (j : Nat) {x : Int} (hx : 0 ≤ x) : ∀ k, 0 ≤ upd h j x k := fun k => by
  unfold upd
  cases Nat.beq k j
  · exact h0 k
  · exact hx
theorem zf_nn : ∀ k, 0 ≤ zf k := fun _ => Int.le_refl _
theorem gt_nn {l : List Int} (hl : IsB l) (a k : Nat) (h : k ≤ 8) : 0 ≤ gt l a k := (gt_bd hl a k h).1
theorem facts_tag {bs b : List Int} {F : Nat → Int} (f : Facts bs b F) (h : gt bs 12 2 = 33024) : F 3 ≠ 0 ∧ afterKind F = 18 ∧ 18 ≤ bs.length ∧ F 3 = gt bs 14 2 ∧ F 2 = gt bs 16 2 := by
  have h3 : F 3 ≠ 0 := fun e => f.kind (by rw [← f.plain e, h])
  obtain ⟨q1, q2, q3, q4⟩ := f.tag h3
  exact ⟨h3, by unfold afterKind; rw [if_neg h3], q1, q3.symm, q4.symm⟩
theorem facts_bare {bs b : List Int} {F : Nat → Int} (f : Facts bs b F) (h : gt bs 12 2 ≠ 33024) : F 3 = 0 ∧ afterKind F = 14 ∧ F 2 = gt bs 12 2 := by
  have h3 : F 3 = 0 := by
    rcases Decidable.em (F 3 = 0) with e | e
    · exact e
    · exact absurd (f.tag e).2.1 h
  exact ⟨h3, by unfold afterKind; rw [if_pos h3], (f.plain h3).symm⟩
theorem getD_ext {a b : List Int} (hl : a.length = b.length) (h : ∀ j, j < b.length → a.getD j 0 = b.getD j 0) : a = b := by
  apply List.ext_getElem?
  intro j
  by_cases hj : j < b.length
  · have := h j hj
    simp only [List.getD_eq_getElem?_getD] at this
    rw [List.getElem?_eq_getElem (by omega), List.getElem?_eq_getElem hj] at this ⊢
    simpa using this
  · rw [List.getElem?_eq_none (by omega), List.getElem?_eq_none (by omega)]
theorem sl_cell {B b o cap n j : Nat} {w : World} {bs : List Int} (h : Sl B w (.slice (some ⟨b, o, none⟩) n cap) bs) (hj : j < bs.length) : w.cell? ⟨b, o + j, none⟩ = some (.int .u8 (bs.getD j 0)) := by
  obtain ⟨ao, cap', e, _, _, _, _, hc⟩ := h
  simp only [Value.slice.injEq] at e
  obtain ⟨rfl, rfl, rfl⟩ := e
  obtain ⟨b', o', _, e2, hcc⟩ := hc (fun e => by rw [e] at hj; simp at hj)
  simp only [Option.some.injEq, Addr.mk.injEq, and_true] at e2
  obtain ⟨rfl, rfl⟩ := e2
  exact hcc j hj
theorem out_isB {h : Nat → Int} {bs : List Int} (h0 : ∀ k, 0 ≤ h k) (hB : IsB bs) : IsB (bOut h bs) := by
  by_cases e : bErr h bs = 0
  · have c := can_of h0 hB e
    rw [can_out c]; exact can_isB c
  · unfold bOut; rw [if_neg e]; exact IsB.nil
theorem out_len {h : Nat → Int} {bs : List Int} (h0 : ∀ k, 0 ≤ h k) (hB : IsB bs) : (bOut h bs).length ≤ 2000 := by
  by_cases e : bErr h bs = 0
  · have c := can_of h0 hB e
    rw [can_out c]
    have h1 := ethL_len h
    have h2 := c.short
    have h3 := ipL_len h (ahead h + bs.length)
    have h4 := ahead_bd h
    unfold pktL
    rw [List.length_append]
    split
    · rw [arpL_len]; omega
    · split
      · rw [List.length_append]; omega
      · omega
  · unfold bOut; rw [if_neg e]; simp
theorem owns_none' (w : World) : Owns w.heap.size (w.alloc (.cells #[] 5)) (.slice (some ⟨w.heap.size, 0, none⟩) 0 0) [] :=
  ⟨by simp, Or.inr ⟨w.heap.size, 0, #[], rfl, Nat.le_refl _, heap_alloc_new _ _, by simp, by unfold maxLen; omega, by simp, by simp⟩⟩
theorem two_le {w W : World} {C : Nat → Int} {v vr : Value} {B : Nat} {bs : List Int} (h : Rst w W C v B vr bs) : w.heap.size + 2 ≤ W.heap.size := h.2.2.1.lt
theorem hmv {W6 X WQ : World} {n : Nat} {v' : Value} {ys : List Int} (h : W6 = X) (hn : W6.heap.size = n) (XX : Ext n (X.alloc (.cells #[] 5)) (.slice (some ⟨n, 0, none⟩) 0 0) WQ v' ys) : Below W6.heap.size W6 WQ := by
  subst h
  subst hn
  exact ((Below.refl _ _).alloc (Nat.le_refl _) _).trans (XX.below (owns_none' W6) (by simp))
end Go.Proofs.YtgjglbailgeneaaDoor
