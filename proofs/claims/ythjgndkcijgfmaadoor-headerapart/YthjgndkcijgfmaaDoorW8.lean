/-
  Proved here: Text returns the string of 'txtOf' for every header of numbers below 2 to 64; no old memory turns. Condition: the three tables hold what they should.
-/
import Derived.Test.YthjgndkcijgfmaaDoorW7
namespace Go.Proofs.YthjgndkcijgfmaaDoor
open Go.RowKit

set_option maxHeartbeats 1600000 in
theorem text_ok (h : Nat → Int) (hbd : ∀ k, 0 ≤ h k ∧ h k < 18446744073709551616) (w : World) (hT : Tabs w) (hyes : hOk h = true) :
    Calls Tryd.prog 10 #[hv h] w fun e w' => e = .returned (.string ⟨(txtL h).toArray⟩) ∧ Below w.heap.size w w' := by
  obtain ⟨i0, hi, hz0, hz1, hz2⟩ := info5'
  have hb0 : Below w.heap.size w (w.alloc (.cells (hcs h) 24)) := (Below.refl _ _).alloc (Nat.le_refl _) _
  have hT0 := hT.on hb0
  have c := check_any h (w.alloc (.cells (hcs h) 24)) hT0.wid
  rw [chk_ok hyes] at c
  have C := Lib.hid c
  clear c
  go_enter Tryd.func10, Tryd.ntmps10
  go_wp2_with fail
  refine (C.out).mono ?_
  rintro e w1 ⟨rfl, hb1⟩
  have hT1 : Tabs w1 := hT0.on hb1
  have hh : w1.heap[w.heap.size]? = some (Obj.cells (hcs h) 24 (0, 0)) := by rw [hb1.block _ (by simp), heap_alloc_new]
  have hlow : Below w.heap.size w w1 := hb0.trans (hb1.mono (by simp))
  have hle : w.heap.size ≤ w1.heap.size := hlow.size
  clear C hT0 hT hb0 hb1
  go_wp2_with (refine wpList_load_row rfl 24 (.tmp 1) rfl w.heap.size rfl 24 (hcs h) (0, 0) _ hh Tryd.underlying24 rfl (size24 h) ?_)
  clear hh
  go_loopw [3, 10] (fun b i wr => ∃ (k : Nat) (l : List UInt8), k ≤ 11 ∧ i = .int .i64 k ∧ Own wr w1.heap.size b l ∧ l = txtUpto h k ∧ Below w1.heap.size w1 wr) (fun _ i _ => 11 - (intOf i).toNat)
  case atStart => exact ⟨0, [], by omega, rfl, World.ownsRow_nil _ _ _ _, rfl, Below.refl _ _⟩
  case round =>
    obtain ⟨k, l, hk, rfl, ho, hl, hbl⟩ := hrel
    obtain ⟨sa, sc, rfl⟩ := own_shape ho
    have HL : Hid (l = txtUpto h k) := hl
    clear hl
    by_cases hlt : k < 11
    · obtain ⟨m, hm⟩ := Int.eq_ofNat_of_zero_le (hbd k).1
      have hidx : ∀ W, (Instr.index 24 (.agg (hcs h)) (.int .i64 (k : Int))).run Tryd.prog W = .ok (.int .u64 (h k)) W := fun W => idx_hv h k hlt W
      have hm64 : m < 18446744073709551616 := by have := (hbd k).2; omega
      have hlen : l.length ≤ 1100 := by have := txtUpto_len h hbd k; rw [HL.out]; omega
      rw [hm] at hidx
      have HSTEP : Hid (txtUpto h (k + 1) = if h k = 0 then txtUpto h k else sep (txtUpto h k) ++ (nameL k ++ 61 :: numL k (h k).toNat)) := rfl
      have HM : Hid (h k = (m : Int)) := hm
      clear hm
      cases t0 : ((m : Int) == 0)
      · have hm0 : ¬ (m : Int) = 0 := by simpa using t0
        by_cases hlp : (0 : Int) < (l.length : Int)
        · have hB1 : w1.heap.size ≤ wr.heap.size := hbl.size
          go_wp2_with (at_builtin; refine wpList_append_own _ rfl _ _ 42 rfl w1.heap.size 5 i0 (.int .u8 0) 1 1 Tryd.underlying42 hi hz0 hz1 hz2 rfl (by decide) _ _ _ rfl (ho.alloc _) ⟨wr.heap.size, 0, none⟩ 1 1 [.int .u8 32] rfl rfl (cell_one_new _ _ _) (fun x hx => by simp at hx; subst hx; rfl) (by unfold maxLen; omega) (by omega) (by simp; omega) ?_)
          intro v2 w2 hown2 hgrow2 _
          have ho2' : Own w2 w1.heap.size v2 (l ++ [32]) := own_snoc (x := 32) hown2
          have hb2 : Below w1.heap.size w1 w2 := (hbl.alloc hB1 _).grown hgrow2 (by simp; omega) (fun j hj => (ho.lt j hj).1)
          obtain ⟨l2, hq2⟩ : ∃ l2, l2 = sep l := ⟨_, rfl⟩
          have hq2' : l2 = l ++ [32] := by rw [hq2, sep, if_neg (by intro e; rw [e] at hlp; simp at hlp)]
          have ho2 : Own w2 w1.heap.size v2 l2 := by rw [hq2']; exact ho2'
          have hl2 : l2.length ≤ 1101 := by rw [hq2']; simp; omega
          have HQ2 : Hid (l2 = sep l) := hq2
          clear hown2 hgrow2 ho2' hq2 hq2'
          have hT2 := (hT1.on hb2).nam k hlt
          have hB2 : w1.heap.size ≤ w2.heap.size := hb2.size
          have hnl := nameL_len k
          go_wp2_with (at_builtin; refine Lib.wpList_append_own_string _ rfl _ _ 42 9 rfl w1.heap.size 5 i0 Tryd.underlying42 Tryd.underlying9 hi hz0 hz1 hz2 _ _ _ rfl ho2 ⟨(nameL k).toArray⟩ rfl (by show l2.length + (nameL k).length ≤ maxLen; unfold maxLen; omega) (by show l2.length + (nameL k).length ≤ _; omega) hB2 ?_)
          intro v3 w3 hown3 hgrow3 _
          have ho3 : Own w3 w1.heap.size v3 (l2 ++ nameL k) := own_str hown3
          have hb3 : Below w1.heap.size w1 w3 := hb2.grown hgrow3 hB2 (fun j hj => (ho2.lt j hj).1)
          have hB3 : w1.heap.size ≤ w3.heap.size := hb3.size
          have hl3 : (l2 ++ nameL k).length ≤ 1200 := by simp; omega
          clear hown3 hgrow3 hT2
          generalize hq3 : l2 ++ nameL k = l3 at *
          have HQ3 : Hid (l2 ++ nameL k = l3) := hq3
          clear hq3
          go_wp2_with (at_builtin; refine wpList_append_own _ rfl _ _ 42 rfl w1.heap.size 5 i0 (.int .u8 0) 1 1 Tryd.underlying42 hi hz0 hz1 hz2 rfl (by decide) _ _ _ rfl (ho3.alloc _) ⟨w3.heap.size, 0, none⟩ 1 1 [.int .u8 61] rfl rfl (cell_one_new _ _ _) (fun x hx => by simp at hx; subst hx; rfl) (by unfold maxLen; omega) (by omega) (by simp; omega) ?_)
          intro v4 w4 hown4 hgrow4 _
          have ho4 : Own w4 w1.heap.size v4 (l3 ++ [61]) := own_snoc (x := 61) hown4
          have hb4 : Below w1.heap.size w1 w4 := (hb3.alloc hB3 _).grown hgrow4 (by simp; omega) (fun j hj => (ho3.lt j hj).1)
          have hB4 : w1.heap.size ≤ w4.heap.size := hb4.size
          have hl4 : (l3 ++ [61]).length ≤ 1300 := by simp; omega
          clear hown4 hgrow4
          go_wp2_with (go_at_call 18; refine (num_any w1.heap.size m k hlt hm64 _ _ _ ho4 hB4 (by omega) ((Lib.tabBelow_of_tabIs hT1.pow).on hb4)).mono ?_; rintro e w5 ⟨v5, rfl, ho5, hb5⟩)
          go_roundw
          case rel =>
            refine ⟨k + 1, l3 ++ [61] ++ numL k m, by omega, by go_num, ho5, ?_, hb4.trans hb5⟩
            rw [HSTEP.out, HM.out, if_neg (by omega), ← HL.out, ← HQ2.out, ← HQ3.out]; simp
          case measure => simp [intOf]; omega
        · obtain ⟨l2, hq2⟩ : ∃ l2, l2 = sep l := ⟨_, rfl⟩
          have hl0 : l = [] := by cases l with
            | nil => rfl
            | cons x xs => exact absurd (show (0 : Int) < ((x :: xs).length : Int) by simp) hlp
          have hq2' : l2 = l := by rw [hq2, sep, if_pos hl0, hl0]
          have hb2 : Below w1.heap.size w1 wr := hbl
          have ho2 : Own wr w1.heap.size (.slice sa l.length sc) l2 := by rw [hq2']; exact ho
          have hl2 : l2.length ≤ 1101 := by rw [hq2']; omega
          have HQ2 : Hid (l2 = sep l) := hq2
          clear hq2 hq2' hl0
          have hT2 := (hT1.on hb2).nam k hlt
          have hB2 : w1.heap.size ≤ wr.heap.size := hb2.size
          have hnl := nameL_len k
          go_wp2_with (at_builtin; refine Lib.wpList_append_own_string _ rfl _ _ 42 9 rfl w1.heap.size 5 i0 Tryd.underlying42 Tryd.underlying9 hi hz0 hz1 hz2 _ _ _ rfl ho2 ⟨(nameL k).toArray⟩ rfl (by show l2.length + (nameL k).length ≤ maxLen; unfold maxLen; omega) (by show l2.length + (nameL k).length ≤ _; omega) hB2 ?_)
          intro v3 w3 hown3 hgrow3 _
          have ho3 : Own w3 w1.heap.size v3 (l2 ++ nameL k) := own_str hown3
          have hb3 : Below w1.heap.size w1 w3 := hb2.grown hgrow3 hB2 (fun j hj => (ho2.lt j hj).1)
          have hB3 : w1.heap.size ≤ w3.heap.size := hb3.size
          have hl3 : (l2 ++ nameL k).length ≤ 1200 := by simp; omega
          clear hown3 hgrow3 hT2
          generalize hq3 : l2 ++ nameL k = l3 at *
          have HQ3 : Hid (l2 ++ nameL k = l3) := hq3
          clear hq3
          go_wp2_with (at_builtin; refine wpList_append_own _ rfl _ _ 42 rfl w1.heap.size 5 i0 (.int .u8 0) 1 1 Tryd.underlying42 hi hz0 hz1 hz2 rfl (by decide) _ _ _ rfl (ho3.alloc _) ⟨w3.heap.size, 0, none⟩ 1 1 [.int .u8 61] rfl rfl (cell_one_new _ _ _) (fun x hx => by simp at hx; subst hx; rfl) (by unfold maxLen; omega) (by omega) (by simp; omega) ?_)
          intro v4 w4 hown4 hgrow4 _
          have ho4 : Own w4 w1.heap.size v4 (l3 ++ [61]) := own_snoc (x := 61) hown4
          have hb4 : Below w1.heap.size w1 w4 := (hb3.alloc hB3 _).grown hgrow4 (by simp; omega) (fun j hj => (ho3.lt j hj).1)
          have hB4 : w1.heap.size ≤ w4.heap.size := hb4.size
          have hl4 : (l3 ++ [61]).length ≤ 1300 := by simp; omega
          clear hown4 hgrow4
          go_wp2_with (go_at_call 18; refine (num_any w1.heap.size m k hlt hm64 _ _ _ ho4 hB4 (by omega) ((Lib.tabBelow_of_tabIs hT1.pow).on hb4)).mono ?_; rintro e w5 ⟨v5, rfl, ho5, hb5⟩)
          go_roundw
          case rel =>
            refine ⟨k + 1, l3 ++ [61] ++ numL k m, by omega, by go_num, ho5, ?_, hb4.trans hb5⟩
            rw [HSTEP.out, HM.out, if_neg (by omega), ← HL.out, ← HQ2.out, ← HQ3.out]; simp
          case measure => simp [intOf]; omega
      · have m0 : m = 0 := by simpa using t0
        have HN : Hid (txtUpto h (k + 1) = l) := by show txtUpto h (k + 1) = l; rw [HSTEP.out, HM.out, m0, HL.out]; simp
        go_wp2
        go_roundw
        case rel => exact ⟨k + 1, l, by omega, by go_num, ho, HN.out.symm, hbl⟩
        case measure => simp [intOf]; omega
    · obtain rfl : k = 11 := by omega
      have hconv := conv_own ho
      go_wp2
      go_ret
      refine ⟨?_, hlow.trans (hbl.mono hle)⟩
      rw [txtL, ← HL.out]; rfl

def txtOf (h : Nat → Int) : List UInt8 := if hOk h then txtL h else []
/-- WHAT Text ANSWERS. -/
theorem text_any (h : Nat → Int) (hbd : ∀ k, 0 ≤ h k ∧ h k < 18446744073709551616) (w : World) (hT : Tabs w) :
    Calls Tryd.prog 10 #[hv h] w fun e w' => e = .returned (.string ⟨(txtOf h).toArray⟩) ∧ Below w.heap.size w w' := by
  unfold txtOf
  cases hk : hOk h
  · exact text_bad h w hT hk
  · exact text_ok h hbd w hT hk
end Go.Proofs.YthjgndkcijgfmaaDoor
