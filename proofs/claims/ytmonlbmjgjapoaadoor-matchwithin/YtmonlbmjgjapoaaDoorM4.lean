/-
  Proved here: areMatches tells whether both are matches; no old memory turns. Condition: the widths' table holds its eleven numbers.
-/
import Derived.Test.YtmonlbmjgjapoaaDoorM3
namespace Go.Proofs.YtmonlbmjgjapoaaDoor
open Go.RowKit

abbrev W2 (w : World) (a b : Nat → Int) : World := (w.alloc (.cells (row 22 a) 26)).alloc (.cells (row 22 b) 26)
theorem W2.a (w : World) (a b : Nat → Int) : Blk (W2 w a b) w.heap.size 22 26 a := (Blk.new w 22 26 a).alloc _
theorem W2.b (w : World) (a b : Nat → Int) : Blk (W2 w a b) (w.heap.size + 1) 22 26 b := Blk.new1 w _ 22 26 b
theorem W2.low (w : World) (a b : Nat → Int) : Below w.heap.size w (W2 w a b) := ((Below.refl _ _).alloc (Nat.le_refl _) _).alloc (by simp) _

set_option maxHeartbeats 800000 in
/-- WHAT areMatches ANSWERS. -/
theorem are_any (a b : Nat → Int) (w : World) (hw : Tab w) :
    Calls Tryd.prog 23 #[mv a, mv b] w fun e w' => e = .returned (.bool (mOk a && mOk b)) ∧ Below w.heap.size w w' := by
  have hA0 := W2.a w a b
  have hB0 := W2.b w a b
  have hlow := W2.low w a b
  have hT : Hid (Tab (W2 w a b)) := hw.on hlow
  clear hw
  cases ha : mOk a
  · go_enter Tryd.func23, Tryd.ntmps23
    go_wp2_with (refine ld26 (.tmp 2) rfl _ rfl rfl a hA0 ?_)
    go_fit (check_any a _ hT.out)
    rw [chk_bad ha]
    rintro e w1 ⟨rfl, hb1⟩
    have hl1 := hlow.trans (hb1.mono hlow.size)
    go_wp2
    go_ret
    exact ⟨rfl, hl1⟩
  · cases hb : mOk b
    · go_enter Tryd.func23, Tryd.ntmps23
      go_wp2_with (refine ld26 (.tmp 2) rfl _ rfl rfl a hA0 ?_)
      go_fit (check_any a _ hT.out)
      rw [chk_ok ha]
      rintro e w1 ⟨rfl, hb1⟩
      have hl1 := hlow.trans (hb1.mono hlow.size)
      have hB1 := hB0.on hb1
      have hT1 : Hid (Tab w1) := hT.out.on hb1
      clear hb1 hA0 hB0 hT hlow
      go_wp2_with (refine ld26 (.tmp 3) rfl _ rfl rfl b hB1 ?_)
      go_fit (check_any b _ hT1.out)
      rw [chk_bad hb]
      rintro e w2 ⟨rfl, hb2⟩
      have hl2 := hl1.trans (hb2.mono hl1.size)
      go_wp2
      go_ret
      exact ⟨rfl, hl2⟩
    · go_enter Tryd.func23, Tryd.ntmps23
      go_wp2_with (refine ld26 (.tmp 2) rfl _ rfl rfl a hA0 ?_)
      go_fit (check_any a _ hT.out)
      rw [chk_ok ha]
      rintro e w1 ⟨rfl, hb1⟩
      have hl1 := hlow.trans (hb1.mono hlow.size)
      have hB1 := hB0.on hb1
      have hT1 : Hid (Tab w1) := hT.out.on hb1
      clear hb1 hA0 hB0 hT hlow
      go_wp2_with (refine ld26 (.tmp 3) rfl _ rfl rfl b hB1 ?_)
      go_fit (check_any b _ hT1.out)
      rw [chk_ok hb]
      rintro e w2 ⟨rfl, hb2⟩
      have hl2 := hl1.trans (hb2.mono hl1.size)
      go_wp2
      go_ret
      exact ⟨rfl, hl2⟩
end Go.Proofs.YtmonlbmjgjapoaaDoor
