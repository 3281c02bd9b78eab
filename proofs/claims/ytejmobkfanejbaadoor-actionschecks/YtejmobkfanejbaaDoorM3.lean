/-
  Proved here: the document's Check returns 0 or 20 as 'chk' says, for every match; no old memory turns. No condition.
-/
import Derived.Test.YtejmobkfanejbaaDoorM2
namespace Go.Proofs.YtejmobkfanejbaaDoor
open Go.RowKit

set_option maxHeartbeats 800000 in
/-- WHAT THE DOCUMENT's Check ANSWERS. -/
theorem rcheck_any (m : Nat → Int) (w : World) :
    Calls Tryd.prog 23 #[mv m] w fun e w' => e = .returned (.int .i64 (chk m)) ∧ Below w.heap.size w w' := by
  have hB0 : Blk (w.alloc (.cells (row 22 m) 26)) w.heap.size 22 26 m := Blk.new w 22 26 m
  have hlow0 : Below w.heap.size w (w.alloc (.cells (row 22 m) 26)) := (Below.refl _ _).alloc (Nat.le_refl _) _
  go_enter Tryd.func23, Tryd.ntmps23
  go_wp2
  go_loopw [3] (fun i wr => ∃ k : Nat, k ≤ 11 ∧ i = .int .i64 k ∧ allU (fun k => !bad m k) k = true ∧ Blk wr w.heap.size 22 26 m ∧ Below w.heap.size w wr) (fun i _ => 11 - (intOf i).toNat)
  case atStart => exact ⟨0, by omega, rfl, rfl, hB0, hlow0⟩
  case round =>
    clear hB0 hlow0
    obtain ⟨k, hk, rfl, hall, hB, hlow⟩ := hrel
    have HALL : Hid (allU (fun k => !bad m k) k = true) := hall
    clear hall
    by_cases hlt : k < 11
    · have hc1 : wr.cell? ⟨w.heap.size, k, none⟩ = some (.int .u64 (m k)) := hB.cell k (by omega)
      have hc2 : wr.cell? ⟨w.heap.size, 11 + k, none⟩ = some (.int .u64 (m (11 + k))) := hB.cell (11 + k) (by omega)
      have hbd := wid_bd k
      have HC : ∀ W, Hid (Calls Tryd.prog 31 #[.int .i8 (k : Int)] W fun e w' => e = .returned (.int .i64 (wid k)) ∧ w' = W) := fun W => by
        have hC := rwidth_any (k : Int) W
        rw [widV_nat k hlt] at hC
        exact hC
      cases t1 : (m (11 + k) / 2 ^ (wid k).toNat != 0)
      · cases t2 : (bits .andNot .u64 (m k) (m (11 + k)) != 0)
        · have HF : Hid (bad m k = false) := by show bad m k = false; simp [bad, t1, t2]
          go_wp2_with fail
          go_quiet (first | (go_at_call 31; refine Calls.quiet_of_same (HC _).out))
          go_wp2
          go_roundw
          case rel => exact ⟨k + 1, by omega, by go_num, by simp [allU, HALL.out, HF.out], hB.drewN _, bel_drewN hlow _⟩
          case measure => simp [intOf]; omega
        · have HF : Hid (chk m = 20) := by
            show chk m = 20
            exact chk_bad (allU_false hlt (by simp [bad, t2]))
          go_wp2_with fail
          go_quiet (first | (go_at_call 31; refine Calls.quiet_of_same (HC _).out))
          go_wp2
          go_ret
          exact ⟨by rw [HF.out]; rfl, bel_drewN hlow _⟩
      · have HF : Hid (chk m = 20) := by
          show chk m = 20
          exact chk_bad (allU_false hlt (by simp [bad, t1]))
        go_wp2_with fail
        go_quiet (first | (go_at_call 31; refine Calls.quiet_of_same (HC _).out))
        go_wp2
        go_ret
        exact ⟨by rw [HF.out]; rfl, bel_drewN hlow _⟩
    · obtain rfl : k = 11 := by omega
      have HF : Hid (chk m = 0) := by
        show chk m = 0
        exact chk_ok HALL.out
      go_wp2
      go_ret
      exact ⟨by rw [HF.out]; rfl, hlow⟩
end Go.Proofs.YtejmobkfanejbaaDoor
