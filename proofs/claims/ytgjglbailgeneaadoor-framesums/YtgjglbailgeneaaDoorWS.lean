/-
  Proved here: FrameSums's body returns true for every bytes; no old memory turns. Conditions: the widths' table holds its eleven numbers; the slice is within the reach of every statement (2 to 47 less 4096 bytes).
-/
import Derived.Test.YtgjglbailgeneaaDoorL2
namespace Go.Proofs.YtgjglbailgeneaaDoor
open Go.RowKit

theorem totTo_app (bs l : List Int) : ∀ k, k ≤ bs.length → totTo (bs ++ l) k = totTo bs k
  | 0, _ => rfl
  | k + 1, h => by
    have e : (bs ++ l).getD k 0 = bs.getD k 0 := by
      simp only [List.getD_eq_getElem?_getD]
      rw [List.getElem?_append_left (by omega)]
    simp only [totTo, totTo_app bs l k (by omega), e]
theorem tot_two (bs : List Int) (x y : Int) (h : bs.length % 2 = 0) : tot (bs ++ [x, y]) = tot bs + x * 256 + y := by
  unfold tot
  rw [show (bs ++ [x, y]).length = bs.length + 1 + 1 by simp]
  have e0 : (bs ++ [x, y]).getD bs.length 0 = x := by simp [List.getD_eq_getElem?_getD]
  have e1 : (bs ++ [x, y]).getD (bs.length + 1) 0 = y := by
    rw [List.getD_eq_getElem?_getD, List.getElem?_append_right (by omega)]
    simp
  simp only [totTo, e0, e1, totTo_app bs [x, y] bs.length (Nat.le_refl _), if_pos h]
  rw [if_neg (by omega)]
theorem sum_zero (bs : List Int) (hB : IsB bs) (h : bs.length % 2 = 0) : sumL (bs ++ [sumL bs / 256, sumL bs % 256]) = 0 := by
  have hb := sumL_bd hB
  unfold sumL at hb ⊢
  rw [tot_two bs _ _ h]
  have ht := (totTo_bd hB bs.length).1
  unfold tot at *
  generalize totTo bs bs.length = t at *
  have e : t + (65535 - fold16 t) / 256 * 256 + (65535 - fold16 t) % 256 = t + (65535 - fold16 t) := by omega
  rw [e]
  unfold fold16 at *
  by_cases h0 : t = 0
  · subst h0; decide
  · rw [if_neg h0] at hb ⊢
    rw [if_neg (by omega)]
    omega
/-- What is left of the bytes: an even number. -/
def evn (bs : List Int) : List Int := if bs.length % 2 = 1 then bs.take (bs.length - 1) else bs
theorem evn_even (bs : List Int) : (evn bs).length % 2 = 0 := by
  unfold evn
  split
  · rw [List.length_take]; omega
  · omega
theorem evn_len (bs : List Int) : (evn bs).length ≤ bs.length := by
  unfold evn
  split
  · rw [List.length_take]; omega
  · omega
/-- A cut of a slice of bytes. -/
theorem Sl.take {B : Nat} {w : World} {ao : Option Addr} {cap : Nat} {bs : List Int} (h : Sl B w (.slice ao bs.length cap) bs) (k : Nat) (hk : k ≤ bs.length) : Sl B w (.slice ao k cap) (bs.take k) := by
  obtain ⟨ao', cap', e, h2, h3, h4, h6, h5⟩ := h
  simp only [Value.slice.injEq, true_and] at e
  obtain ⟨rfl, rfl⟩ := e
  have hl : (bs.take k).length = k := by rw [List.length_take]; omega
  refine ⟨ao, cap, by rw [hl], by omega, by omega, h4.take k, h6, fun hne => ?_⟩
  obtain ⟨b, o, hlt, rfl, hc⟩ := h5 (fun e => hne (by rw [e]; simp))
  refine ⟨b, o, hlt, rfl, fun j hj => ?_⟩
  rw [hl] at hj
  rw [hc j (by omega)]
  simp only [List.getD_eq_getElem?_getD, List.getElem?_take, if_pos hj]

theorem owns_none (w : World) : Owns w.heap.size (w.alloc (.cells #[] 5)) (.slice (some ⟨w.heap.size, 0, none⟩) 0 0) [] :=
  ⟨by simp, Or.inr ⟨w.heap.size, 0, #[], rfl, Nat.le_refl _, heap_alloc_new _ _, by simp, by unfold maxLen; omega, by simp, by simp⟩⟩
theorem sl_two (w : World) (x y : Int) (h0 : 0 ≤ x) (h1 : x < 256) (h2 : 0 ≤ y) (h3 : y < 256) : Sl (w.heap.size + 1) (w.alloc (.cells #[.int .u8 x, .int .u8 y] 5)) (.slice (some ⟨w.heap.size, 0, none⟩) 2 2) [x, y] :=
  sl_lit w [x, y] (IsB.cons h0 h1 (IsB.cons h2 h3 IsB.nil)) (by simp)

set_option maxHeartbeats 1600000 in
/-- FrameSums. -/
theorem sums_any (B : Nat) (v : Value) (bs : List Int) (w : World) (hs : Sl B w v bs) (hB : B ≤ w.heap.size) (hw : Tab w) (hr : bs.length ≤ 140737488351232) :
    Calls Tryd.prog 7 #[v] w fun e w' => e = .returned (.bool true) ∧ Below w.heap.size w w' := by
  have hlen := hs.len
  have HS : Hid (Sl B w v bs) := hs
  obtain ⟨ao, cap, rfl, q1, _⟩ := hs
  by_cases hodd : bs.length % 2 = 1
  · have hm : ((bs.length : Int)).tmod 2 = 1 := by rw [Int.tmod_eq_emod_of_nonneg (by omega)]; omega
    have g0 : (0 : Int) ≤ (bs.length : Int) - 1 := by omega
    have g1 : (bs.length : Int) - 1 ≤ cap := by omega
    have S1 : Hid (Sl B w (.slice ao (bs.length - 1) cap) (evn bs)) := by
      show Sl _ _ _ _
      unfold evn; rw [if_pos hodd]; exact HS.out.take _ (by omega)
    clear hodd HS
    go_enter Tryd.func7, Tryd.ntmps7
    go_wp2_with fail
    go_fit (sum_any B (.slice ao (bs.length - 1) cap) (evn bs) w S1.out)
    rintro e w0 ⟨rfl, hw0⟩
    subst w0
    have hb := sumL_bd S1.out.isB
    have hz : Hid (sumL (evn bs ++ [sumL (evn bs) / 256, sumL (evn bs) % 256]) = 0) := sum_zero _ S1.out.isB (evn_even bs)
    obtain ⟨q, hq⟩ : ∃ q, q = sumL (evn bs) := ⟨_, rfl⟩
    rw [← hq] at hb hz ⊢
    clear hq
    have hel := evn_len bs
    have O0 : Hid (Owns w.heap.size (w.alloc (.cells #[] 5)) (.slice (some ⟨w.heap.size, 0, none⟩) 0 0) []) := owns_none w
    have S2 : Hid (Sl B (w.alloc (.cells #[] 5)) (.slice ao (bs.length - 1) cap) (evn bs)) := S1.out.on (((Below.refl _ _).alloc (Nat.le_refl _) _).mono hB)
    have hl1 : Below w.heap.size w (w.alloc (.cells #[] 5)) := (Below.refl _ _).alloc (Nat.le_refl _) _
    clear S1
    go_wp2_with (first | (at_builtin; refine app22 (.tmp 15) (.tmp 16) rfl rfl rfl rfl O0.out S2.out (by simp) (by simp only [List.length_nil]; omega) ?_; intro v1 w1 X1) | (at_builtin; (refine app22 (.tmp 17) (.tmp 23) rfl rfl rfl rfl (X1.own.alloc _) (sl_two w1 (q / 256) (q % 256) (by omega) (by omega) (by omega) (by omega)) (by have := X1.grown.size; simp at this ⊢; omega) (by simp only [List.length_nil, List.length_append, List.length_cons]; omega) ?_); intro v2 w2 X2))
    rw [List.nil_append] at X1 X2
    have hl2 : Below w.heap.size w w1 := hl1.trans (X1.below O0.out (by simp))
    have hl3 : Below w.heap.size w w2 := (hl2.alloc hl2.size _).trans (X2.below (X1.own.alloc _) (by have := hl2.size; simp; omega))
    have HS2 : Hid (Calls Tryd.prog 11 #[v2] w2 fun e w' => e = .returned (.int .u16 0) ∧ w' = w2) := by
      have hsl := Sl.own X2.own (by simp only [List.length_append, List.length_cons, List.length_nil]; omega) (S2.out.isB.app (IsB.cons (by omega) (by omega) (IsB.cons (by omega) (by omega) IsB.nil)))
      have := sum_any _ v2 _ w2 hsl
      rwa [hz.out] at this
    have HWK : Hid (Calls Tryd.prog 13 #[] w2 fun e w' => e = .returned (.bool true) ∧ Below w2.heap.size w2 w') := wakes_any w2 (hw.on hl3)
    clear X1 X2 hl1 hl2 O0 S2 hz hw
    go_fit HS2.out
    rintro e w3 ⟨rfl, hw3⟩
    subst w3
    go_wp2_with fail
    go_fit HWK.out
    rintro e w4 ⟨rfl, hb4⟩
    have hl4 := hl3.trans (hb4.mono hl3.size)
    clear HS2 HWK hb4
    go_wp2
    go_ret
    exact ⟨rfl, hl4⟩
  · have hm : ((bs.length : Int)).tmod 2 = 0 := by rw [Int.tmod_eq_emod_of_nonneg (by omega)]; omega
    have S1 : Hid (Sl B w (.slice ao bs.length cap) (evn bs)) := by
      show Sl _ _ _ _
      unfold evn; rw [if_neg hodd]; exact HS.out
    clear hodd HS
    go_enter Tryd.func7, Tryd.ntmps7
    go_wp2_with fail
    go_fit (sum_any B (.slice ao bs.length cap) (evn bs) w S1.out)
    rintro e w0 ⟨rfl, hw0⟩
    subst w0
    have hb := sumL_bd S1.out.isB
    have hz : Hid (sumL (evn bs ++ [sumL (evn bs) / 256, sumL (evn bs) % 256]) = 0) := sum_zero _ S1.out.isB (evn_even bs)
    obtain ⟨q, hq⟩ : ∃ q, q = sumL (evn bs) := ⟨_, rfl⟩
    rw [← hq] at hb hz ⊢
    clear hq
    have hel := evn_len bs
    have O0 : Hid (Owns w.heap.size (w.alloc (.cells #[] 5)) (.slice (some ⟨w.heap.size, 0, none⟩) 0 0) []) := owns_none w
    have S2 : Hid (Sl B (w.alloc (.cells #[] 5)) (.slice ao bs.length cap) (evn bs)) := S1.out.on (((Below.refl _ _).alloc (Nat.le_refl _) _).mono hB)
    have hl1 : Below w.heap.size w (w.alloc (.cells #[] 5)) := (Below.refl _ _).alloc (Nat.le_refl _) _
    clear S1
    go_wp2_with (first | (at_builtin; refine app22 (.tmp 15) (.tmp 16) rfl rfl rfl rfl O0.out S2.out (by simp) (by simp only [List.length_nil]; omega) ?_; intro v1 w1 X1) | (at_builtin; (refine app22 (.tmp 17) (.tmp 23) rfl rfl rfl rfl (X1.own.alloc _) (sl_two w1 (q / 256) (q % 256) (by omega) (by omega) (by omega) (by omega)) (by have := X1.grown.size; simp at this ⊢; omega) (by simp only [List.length_nil, List.length_append, List.length_cons]; omega) ?_); intro v2 w2 X2))
    rw [List.nil_append] at X1 X2
    have hl2 : Below w.heap.size w w1 := hl1.trans (X1.below O0.out (by simp))
    have hl3 : Below w.heap.size w w2 := (hl2.alloc hl2.size _).trans (X2.below (X1.own.alloc _) (by have := hl2.size; simp; omega))
    have HS2 : Hid (Calls Tryd.prog 11 #[v2] w2 fun e w' => e = .returned (.int .u16 0) ∧ w' = w2) := by
      have hsl := Sl.own X2.own (by simp only [List.length_append, List.length_cons, List.length_nil]; omega) (S2.out.isB.app (IsB.cons (by omega) (by omega) (IsB.cons (by omega) (by omega) IsB.nil)))
      have := sum_any _ v2 _ w2 hsl
      rwa [hz.out] at this
    have HWK : Hid (Calls Tryd.prog 13 #[] w2 fun e w' => e = .returned (.bool true) ∧ Below w2.heap.size w2 w') := wakes_any w2 (hw.on hl3)
    clear X1 X2 hl1 hl2 O0 S2 hz hw
    go_fit HS2.out
    rintro e w3 ⟨rfl, hw3⟩
    subst w3
    go_wp2_with fail
    go_fit HWK.out
    rintro e w4 ⟨rfl, hb4⟩
    have hl4 := hl3.trans (hb4.mono hl3.size)
    clear HS2 HWK hb4
    go_wp2
    go_ret
    exact ⟨rfl, hl4⟩
end Go.Proofs.YtgjglbailgeneaaDoor
