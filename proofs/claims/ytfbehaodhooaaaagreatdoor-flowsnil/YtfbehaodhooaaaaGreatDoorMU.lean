/-
  Proved here: areMatches, Under of package match (and the document's Under, where it is there) tell what 'und' says, for every two matches; no old memory turns. Condition: the widths' table holds its eleven numbers.
-/
import Derived.Test.YtfbehaodhooaaaaGreatDoorMH
namespace Go.Proofs.YtfbehaodhooaaaaGreatDoor
set_option maxRecDepth 100000
open Go.RowKit

abbrev W2 (w : World) (a b : Nat → Int) : World := (w.alloc (.cells (row 22 a) 32)).alloc (.cells (row 22 b) 32)
theorem W2.a (w : World) (a b : Nat → Int) : Blk (W2 w a b) w.heap.size 22 32 a := (Blk.new w 22 32 a).alloc _
theorem W2.b (w : World) (a b : Nat → Int) : Blk (W2 w a b) (w.heap.size + 1) 22 32 b := Blk.new1 w _ 22 32 b
theorem W2.low (w : World) (a b : Nat → Int) : Below w.heap.size w (W2 w a b) := ((Below.refl _ _).alloc (Nat.le_refl _) _).alloc (by simp) _

set_option maxHeartbeats 800000 in
/-- WHAT areMatches ANSWERS. -/
theorem are_any (a b : Nat → Int) (w : World) (hw : Tab w) :
    Calls Tryz.prog 74 #[mv a, mv b] w fun e w' => e = .returned (.bool (mOk a && mOk b)) ∧ Below w.heap.size w w' := by
  have hA0 := W2.a w a b
  have hB0 := W2.b w a b
  have hlow := W2.low w a b
  have hT : Hid (Tab (W2 w a b)) := hw.on hlow
  clear hw
  cases ha : mOk a
  · go_enter Tryz.func74, Tryz.ntmps74
    go_wp2_with (refine ld26 (.tmp 2) rfl _ rfl rfl a hA0 ?_)
    go_fit (check_any a _ hT.out)
    rw [chk_bad ha]
    rintro e w1 ⟨rfl, hb1⟩
    have hl1 := hlow.trans (hb1.mono hlow.size)
    go_wp2
    go_ret
    exact ⟨rfl, hl1⟩
  · cases hb : mOk b
    · go_enter Tryz.func74, Tryz.ntmps74
      go_wp2_with (refine ld26 (.tmp 2) rfl _ rfl rfl a hA0 ?_)
      go_fit (check_any a _ hT.out)
      rw [chk_ok ha]
      rintro e w1 ⟨rfl, hb1⟩
      have hl1 := hlow.trans (hb1.mono hlow.size)
      have hB1 := hB0.on hb1
      have hT1 : Hid (Tab w1) := hT.out.on hb1
      clear hb1 hA0 hB0 hT hlow
      go_wp2_with (refine ld26 (.tmp 3) rfl _ rfl rfl b hB1 ?_)
      go_fit (check_any b _ hT1.out)
      rw [chk_bad hb]
      rintro e w2 ⟨rfl, hb2⟩
      have hl2 := hl1.trans (hb2.mono hl1.size)
      go_wp2
      go_ret
      exact ⟨rfl, hl2⟩
    · go_enter Tryz.func74, Tryz.ntmps74
      go_wp2_with (refine ld26 (.tmp 2) rfl _ rfl rfl a hA0 ?_)
      go_fit (check_any a _ hT.out)
      rw [chk_ok ha]
      rintro e w1 ⟨rfl, hb1⟩
      have hl1 := hlow.trans (hb1.mono hlow.size)
      have hB1 := hB0.on hb1
      have hT1 : Hid (Tab w1) := hT.out.on hb1
      clear hb1 hA0 hB0 hT hlow
      go_wp2_with (refine ld26 (.tmp 3) rfl _ rfl rfl b hB1 ?_)
      go_fit (check_any b _ hT1.out)
      rw [chk_ok hb]
      rintro e w2 ⟨rfl, hb2⟩
      have hl2 := hl1.trans (hb2.mono hl1.size)
      go_wp2
      go_ret
      exact ⟨rfl, hl2⟩

def over (a b : Nat → Int) (k : Nat) : Bool := bits .andNot .u64 (b (11 + k)) (a (11 + k)) != 0 || bits .and .u64 (a k) (b (11 + k)) != b k
def und (a b : Nat → Int) : Bool := mOk a && mOk b && allU (fun k => !over a b k) 11

set_option maxHeartbeats 1600000 in
theorem under_any (a b : Nat → Int) (w : World) (hw : Tab w) :
    Calls Tryz.prog 56 #[mv a, mv b] w fun e w' => e = .returned (.bool (und a b)) ∧ Below w.heap.size w w' := by
  have hA0 := W2.a w a b
  have hB0 := W2.b w a b
  have hlow := W2.low w a b
  have hT : Hid (Tab (W2 w a b)) := hw.on hlow
  clear hw
  cases hm : mOk a && mOk b
  · rw [show und a b = false by simp only [und, hm, Bool.false_and]]
    have hC : Hid (Calls Tryz.prog 74 #[mv a, mv b] (W2 w a b) fun e w' => e = .returned (.bool false) ∧ Below (W2 w a b).heap.size (W2 w a b) w') := by
      have := are_any a b _ hT.out
      rwa [hm] at this
    clear hm hT
    go_enter Tryz.func56, Tryz.ntmps56
    go_wp2_with (first | (refine ld26 (.tmp 2) rfl _ rfl rfl a hA0 ?_) | (refine ld26 (.tmp 3) rfl _ rfl rfl b hB0 ?_))
    go_fit hC.out
    rintro e w1 ⟨rfl, hb1⟩
    have hl1 := hlow.trans (hb1.mono hlow.size)
    go_wp2
    go_ret
    exact ⟨rfl, hl1⟩
  · rw [show und a b = allU (fun k => !over a b k) 11 by simp only [und, hm, Bool.true_and]]
    have hC : Hid (Calls Tryz.prog 74 #[mv a, mv b] (W2 w a b) fun e w' => e = .returned (.bool true) ∧ Below (W2 w a b).heap.size (W2 w a b) w') := by
      have := are_any a b _ hT.out
      rwa [hm] at this
    clear hm hT
    go_enter Tryz.func56, Tryz.ntmps56
    go_wp2_with (first | (refine ld26 (.tmp 2) rfl _ rfl rfl a hA0 ?_) | (refine ld26 (.tmp 3) rfl _ rfl rfl b hB0 ?_))
    go_fit hC.out
    rintro e w1 ⟨rfl, hb1⟩
    have hl1 := hlow.trans (hb1.mono hlow.size)
    have hA1 := hA0.on hb1
    have hB1 := hB0.on hb1
    clear hb1 hA0 hB0 hlow hC
    go_wp2_with (refine ldMask (.tmp 11) rfl _ rfl rfl b hB1 ?_)
    go_loopw [13] (fun i wr => ∃ k : Nat, k ≤ 11 ∧ i = .int .i64 k ∧ allU (fun k => !over a b k) k = true ∧ Blk wr w.heap.size 22 32 a ∧ Blk wr (w.heap.size + 1) 22 32 b ∧ Below w.heap.size w wr) (fun i _ => 11 - (intOf i).toNat)
    case atStart => exact ⟨0, by omega, rfl, rfl, hA1, hB1, hl1⟩
    case round =>
      clear hA1 hB1 hl1
      obtain ⟨k, hk, rfl, hall, hA, hB, hlow⟩ := hrel
      have HALL : Hid (allU (fun k => !over a b k) k = true) := hall
      clear hall
      by_cases hlt : k < 11
      · have hc1 : wr.cell? ⟨w.heap.size, k, none⟩ = some (.int .u64 (a k)) := hA.cell k (by omega)
        have hc2 : wr.cell? ⟨w.heap.size, 11 + k, none⟩ = some (.int .u64 (a (11 + k))) := hA.cell (11 + k) (by omega)
        have hc3 : wr.cell? ⟨w.heap.size + 1, k, none⟩ = some (.int .u64 (b k)) := hB.cell k (by omega)
        have hidx : ∀ W, (Instr.index 30 (hv fun k => b (11 + k)) (.int .i64 (k : Int))).run Tryz.prog W = .ok (.int .u64 (b (11 + k))) W := fun W => idx_hv (fun k => b (11 + k)) k hlt W
        cases t1 : (bits .andNot .u64 (b (11 + k)) (a (11 + k)) != 0)
        · cases t2 : (bits .and .u64 (a k) (b (11 + k)) != b k)
          · have HF : Hid (over a b k = false) := by show over a b k = false; simp [over, t1, t2]
            go_wp2_with fail
            go_quiet (fail)
            go_wp2
            go_roundw
            case rel => exact ⟨k + 1, by omega, by go_num, by simp [allU, HALL.out, HF.out], hA.drewN _, hB.drewN _, bel_drewN hlow _⟩
            case measure => simp [intOf]; omega
          · have HF : Hid (allU (fun k => !over a b k) 11 = false) := allU_false hlt (by simp [over, t2])
            go_wp2_with fail
            go_quiet (fail)
            go_wp2
            go_ret
            exact ⟨by rw [HF.out]; rfl, bel_drewN hlow _⟩
        · have HF : Hid (allU (fun k => !over a b k) 11 = false) := allU_false hlt (by simp [over, t1])
          go_wp2_with fail
          go_quiet (fail)
          go_wp2
          go_ret
          exact ⟨by rw [HF.out]; rfl, bel_drewN hlow _⟩
      · obtain rfl : k = 11 := by omega
        go_wp2
        go_ret
        exact ⟨by rw [HALL.out]; rfl, hlow⟩

end Go.Proofs.YtfbehaodhooaaaaGreatDoor
