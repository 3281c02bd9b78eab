/-
  Proved here: Under of package match and the document's Under tell what 'und' says, for every two matches; no old memory turns. Condition: the widths' table holds its eleven numbers (Under of package match alone).
-/
import Derived.Test.YtmonlbmjgjapoaaDoorM4
namespace Go.Proofs.YtmonlbmjgjapoaaDoor
open Go.RowKit

def over (a b : Nat → Int) (k : Nat) : Bool := bits .andNot .u64 (b (11 + k)) (a (11 + k)) != 0 || bits .and .u64 (a k) (b (11 + k)) != b k
def und (a b : Nat → Int) : Bool := mOk a && mOk b && allU (fun k => !over a b k) 11

set_option maxHeartbeats 1600000 in
theorem under_any (a b : Nat → Int) (w : World) (hw : Tab w) :
    Calls Tryd.prog 18 #[mv a, mv b] w fun e w' => e = .returned (.bool (und a b)) ∧ Below w.heap.size w w' := by
  have hA0 := W2.a w a b
  have hB0 := W2.b w a b
  have hlow := W2.low w a b
  have hT : Hid (Tab (W2 w a b)) := hw.on hlow
  clear hw
  cases hm : mOk a && mOk b
  · rw [show und a b = false by simp only [und, hm, Bool.false_and]]
    have hC : Hid (Calls Tryd.prog 23 #[mv a, mv b] (W2 w a b) fun e w' => e = .returned (.bool false) ∧ Below (W2 w a b).heap.size (W2 w a b) w') := by
      have := are_any a b _ hT.out
      rwa [hm] at this
    clear hm hT
    go_enter Tryd.func18, Tryd.ntmps18
    go_wp2_with (first | (refine ld26 (.tmp 2) rfl _ rfl rfl a hA0 ?_) | (refine ld26 (.tmp 3) rfl _ rfl rfl b hB0 ?_))
    go_fit hC.out
    rintro e w1 ⟨rfl, hb1⟩
    have hl1 := hlow.trans (hb1.mono hlow.size)
    go_wp2
    go_ret
    exact ⟨rfl, hl1⟩
  · rw [show und a b = allU (fun k => !over a b k) 11 by simp only [und, hm, Bool.true_and]]
    have hC : Hid (Calls Tryd.prog 23 #[mv a, mv b] (W2 w a b) fun e w' => e = .returned (.bool true) ∧ Below (W2 w a b).heap.size (W2 w a b) w') := by
      have := are_any a b _ hT.out
      rwa [hm] at this
    clear hm hT
    go_enter Tryd.func18, Tryd.ntmps18
    go_wp2_with (first | (refine ld26 (.tmp 2) rfl _ rfl rfl a hA0 ?_) | (refine ld26 (.tmp 3) rfl _ rfl rfl b hB0 ?_))
    go_fit hC.out
    rintro e w1 ⟨rfl, hb1⟩
    have hl1 := hlow.trans (hb1.mono hlow.size)
    have hA1 := hA0.on hb1
    have hB1 := hB0.on hb1
    clear hb1 hA0 hB0 hlow hC
    go_wp2_with (refine ldMask (.tmp 11) rfl _ rfl rfl b hB1 ?_)
    go_loopw [13] (fun i wr => ∃ k : Nat, k ≤ 11 ∧ i = .int .i64 k ∧ allU (fun k => !over a b k) k = true ∧ Blk wr w.heap.size 22 26 a ∧ Blk wr (w.heap.size + 1) 22 26 b ∧ Below w.heap.size w wr) (fun i _ => 11 - (intOf i).toNat)
    case atStart => exact ⟨0, by omega, rfl, rfl, hA1, hB1, hl1⟩
    case round =>
      clear hA1 hB1 hl1
      obtain ⟨k, hk, rfl, hall, hA, hB, hlow⟩ := hrel
      have HALL : Hid (allU (fun k => !over a b k) k = true) := hall
      clear hall
      by_cases hlt : k < 11
      · have hc1 : wr.cell? ⟨w.heap.size, k, none⟩ = some (.int .u64 (a k)) := hA.cell k (by omega)
        have hc2 : wr.cell? ⟨w.heap.size, 11 + k, none⟩ = some (.int .u64 (a (11 + k))) := hA.cell (11 + k) (by omega)
        have hc3 : wr.cell? ⟨w.heap.size + 1, k, none⟩ = some (.int .u64 (b k)) := hB.cell k (by omega)
        have hidx : ∀ W, (Instr.index 24 (hv fun k => b (11 + k)) (.int .i64 (k : Int))).run Tryd.prog W = .ok (.int .u64 (b (11 + k))) W := fun W => idx_hv (fun k => b (11 + k)) k hlt W
        cases t1 : (bits .andNot .u64 (b (11 + k)) (a (11 + k)) != 0)
        · cases t2 : (bits .and .u64 (a k) (b (11 + k)) != b k)
          · have HF : Hid (over a b k = false) := by show over a b k = false; simp [over, t1, t2]
            go_wp2_with fail
            go_quiet (fail)
            go_wp2
            go_roundw
            case rel => exact ⟨k + 1, by omega, by go_num, by simp [allU, HALL.out, HF.out], hA.drewN _, hB.drewN _, bel_drewN hlow _⟩
            case measure => simp [intOf]; omega
          · have HF : Hid (allU (fun k => !over a b k) 11 = false) := allU_false hlt (by simp [over, t2])
            go_wp2_with fail
            go_quiet (fail)
            go_wp2
            go_ret
            exact ⟨by rw [HF.out]; rfl, bel_drewN hlow _⟩
        · have HF : Hid (allU (fun k => !over a b k) 11 = false) := allU_false hlt (by simp [over, t1])
          go_wp2_with fail
          go_quiet (fail)
          go_wp2
          go_ret
          exact ⟨by rw [HF.out]; rfl, bel_drewN hlow _⟩
      · obtain rfl : k = 11 := by omega
        go_wp2
        go_ret
        exact ⟨by rw [HALL.out]; rfl, hlow⟩

set_option maxHeartbeats 1600000 in
theorem runder_any (a b : Nat → Int) (w : World) :
    Calls Tryd.prog 19 #[mv a, mv b] w fun e w' => e = .returned (.bool (und a b)) ∧ Below w.heap.size w w' := by
  have hA0 := W2.a w a b
  have hB0 := W2.b w a b
  have hlow := W2.low w a b
  cases ha : mOk a
  · rw [show und a b = false by simp only [und, ha, Bool.false_and]]
    go_enter Tryd.func19, Tryd.ntmps19
    go_wp2_with (refine ld26 (.tmp 2) rfl _ rfl rfl a hA0 ?_)
    go_fit (rcheck_any a _)
    rw [chk_bad ha]
    rintro e w1 ⟨rfl, hb1⟩
    have hl1 := hlow.trans (hb1.mono hlow.size)
    go_wp2
    go_ret
    exact ⟨rfl, hl1⟩
  cases hm : mOk b
  · rw [show und a b = false by simp only [und, hm, Bool.and_false, Bool.false_and]]
    go_enter Tryd.func19, Tryd.ntmps19
    go_wp2_with (refine ld26 (.tmp 2) rfl _ rfl rfl a hA0 ?_)
    go_fit (rcheck_any a _)
    rw [chk_ok ha]
    rintro e w1 ⟨rfl, hb1⟩
    have hl1 := hlow.trans (hb1.mono hlow.size)
    have hB1 := hB0.on hb1
    clear hb1 hA0 hB0 hlow
    go_wp2_with (refine ld26 (.tmp 3) rfl _ rfl rfl b hB1 ?_)
    go_fit (rcheck_any b _)
    rw [chk_bad hm]
    rintro e w2 ⟨rfl, hb2⟩
    have hl2 := hl1.trans (hb2.mono hl1.size)
    go_wp2
    go_ret
    exact ⟨rfl, hl2⟩
  · rw [show und a b = allU (fun k => !over a b k) 11 by simp only [und, ha, hm, Bool.true_and]]
    go_enter Tryd.func19, Tryd.ntmps19
    go_wp2_with (refine ld26 (.tmp 2) rfl _ rfl rfl a hA0 ?_)
    go_fit (rcheck_any a _)
    rw [chk_ok ha]
    rintro e w0 ⟨rfl, hb0⟩
    have hl0 := hlow.trans (hb0.mono hlow.size)
    have hA00 := hA0.on hb0
    have hB00 := hB0.on hb0
    clear hb0 hA0 hB0 hlow
    go_wp2_with (refine ld26 (.tmp 3) rfl _ rfl rfl b hB00 ?_)
    go_fit (rcheck_any b _)
    rw [chk_ok hm]
    rintro e w1 ⟨rfl, hb1⟩
    have hl1 := hl0.trans (hb1.mono hl0.size)
    have hA1 := hA00.on hb1
    have hB1 := hB00.on hb1
    clear hb1 hA00 hB00 hl0
    go_wp2
    go_loopw [5] (fun i wr => ∃ k : Nat, k ≤ 11 ∧ i = .int .i64 k ∧ allU (fun k => !over a b k) k = true ∧ Blk wr w.heap.size 22 26 a ∧ Blk wr (w.heap.size + 1) 22 26 b ∧ Below w.heap.size w wr) (fun i _ => 11 - (intOf i).toNat)
    case atStart => exact ⟨0, by omega, rfl, rfl, hA1, hB1, hl1⟩
    case round =>
      clear hA1 hB1 hl1
      obtain ⟨k, hk, rfl, hall, hA, hB, hlow⟩ := hrel
      have HALL : Hid (allU (fun k => !over a b k) k = true) := hall
      clear hall
      by_cases hlt : k < 11
      · have hc1 : wr.cell? ⟨w.heap.size, k, none⟩ = some (.int .u64 (a k)) := hA.cell k (by omega)
        have hc2 : wr.cell? ⟨w.heap.size, 11 + k, none⟩ = some (.int .u64 (a (11 + k))) := hA.cell (11 + k) (by omega)
        have hc3 : wr.cell? ⟨w.heap.size + 1, k, none⟩ = some (.int .u64 (b k)) := hB.cell k (by omega)
        have hc4 : wr.cell? ⟨w.heap.size + 1, 11 + k, none⟩ = some (.int .u64 (b (11 + k))) := hB.cell (11 + k) (by omega)
        cases t1 : (bits .andNot .u64 (b (11 + k)) (a (11 + k)) != 0)
        · cases t2 : (bits .and .u64 (a k) (b (11 + k)) != b k)
          · have HF : Hid (over a b k = false) := by show over a b k = false; simp [over, t1, t2]
            go_wp2_with fail
            go_quiet (fail)
            go_wp2
            go_roundw
            case rel => exact ⟨k + 1, by omega, by go_num, by simp [allU, HALL.out, HF.out], hA.drewN _, hB.drewN _, bel_drewN hlow _⟩
            case measure => simp [intOf]; omega
          · have HF : Hid (allU (fun k => !over a b k) 11 = false) := allU_false hlt (by simp [over, t2])
            go_wp2_with fail
            go_quiet (fail)
            go_wp2
            go_ret
            exact ⟨by rw [HF.out]; rfl, bel_drewN hlow _⟩
        · have HF : Hid (allU (fun k => !over a b k) 11 = false) := allU_false hlt (by simp [over, t1])
          go_wp2_with fail
          go_quiet (fail)
          go_wp2
          go_ret
          exact ⟨by rw [HF.out]; rfl, bel_drewN hlow _⟩
      · obtain rfl : k = 11 := by omega
        go_wp2
        go_ret
        exact ⟨by rw [HALL.out]; rfl, hlow⟩
end Go.Proofs.YtmonlbmjgjapoaaDoor
