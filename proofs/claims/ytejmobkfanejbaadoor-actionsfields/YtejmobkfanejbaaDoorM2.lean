/-
  Proved here: Check of package match and the document's Check return 0 or 20 as 'chk' says, for every match; no old memory turns. Condition: the widths' table holds its eleven numbers (Check of package match alone).
-/
import Derived.Test.YtejmobkfanejbaaDoorM1
namespace Go.Proofs.YtejmobkfanejbaaDoor
open Go.RowKit

def bad (m : Nat → Int) (k : Nat) : Bool := m (11 + k) / 2 ^ (wid k).toNat != 0 || bits .andNot .u64 (m k) (m (11 + k)) != 0
def mOk (m : Nat → Int) : Bool := allU (fun k => !bad m k) 11
def chk (m : Nat → Int) : Int := if mOk m then 0 else 20
theorem chk_ok {m : Nat → Int} (h : mOk m = true) : chk m = 0 := by simp [chk, h]
theorem chk_bad {m : Nat → Int} (h : mOk m = false) : chk m = 20 := by simp [chk, h]

set_option maxHeartbeats 800000 in
/-- WHAT Check ANSWERS. -/
theorem check_any (m : Nat → Int) (w : World) (hw : Tab w) :
    Calls Tryd.prog 20 #[mv m] w fun e w' => e = .returned (.int .i64 (chk m)) ∧ Below w.heap.size w w' := by
  have hB : Blk (w.alloc (.cells (row 22 m) 26)) w.heap.size 22 26 m := Blk.new w 22 26 m
  have hlow : Below w.heap.size w (w.alloc (.cells (row 22 m) 26)) := (Below.refl _ _).alloc (Nat.le_refl _) _
  have hT : Hid (Tab (w.alloc (.cells (row 22 m) 26))) := hw.on hlow
  clear hw
  go_enter Tryd.func20, Tryd.ntmps20
  go_wp2_with (refine ldMask (.tmp 5) rfl _ rfl rfl m hB ?_)
  go_loop [7] (fun i => ∃ k : Nat, k ≤ 11 ∧ i = .int .i64 k ∧ allU (fun k => !bad m k) k = true) (fun i => 11 - (intOf i).toNat)
  case atStart => exact ⟨0, by omega, rfl, rfl⟩
  case round =>
    obtain ⟨k, hk, rfl, hall⟩ := hrel
    have HALL : Hid (allU (fun k => !bad m k) k = true) := hall
    clear hall
    by_cases hlt : k < 11
    · have hidx : ∀ W, (Instr.index 24 (hv fun k => m (11 + k)) (.int .i64 (k : Int))).run Tryd.prog W = .ok (.int .u64 (m (11 + k))) W := fun W => idx_hv (fun k => m (11 + k)) k hlt W
      have hc1 : (w.alloc (.cells (row 22 m) 26)).cell? ⟨w.heap.size, k, none⟩ = some (.int .u64 (m k)) := hB.cell k (by omega)
      have hbd := wid_bd k
      have hC := width_any (k : Int) _ hT.out
      rw [widV_nat k hlt] at hC
      have HC : Hid (Calls Tryd.prog 19 #[.int .i8 (k : Int)] (w.alloc (.cells (row 22 m) 26)) fun e w' => e = .returned (.int .i64 (wid k)) ∧ w' = w.alloc (.cells (row 22 m) 26)) := hC
      clear hC
      cases t1 : (m (11 + k) / 2 ^ (wid k).toNat != 0)
      · cases t2 : (bits .andNot .u64 (m k) (m (11 + k)) != 0)
        · have HF : Hid (bad m k = false) := by show bad m k = false; simp [bad, t1, t2]
          go_wp2_with (go_at_call 19; refine (HC.out).mono ?_; rintro e w' ⟨rfl, rfl⟩)
          go_round
          case rel => exact ⟨k + 1, by omega, by go_num, by simp [allU, HALL.out, HF.out]⟩
          case measure => simp [intOf]; omega
        · have HF : Hid (chk m = 20) := by
            show chk m = 20
            exact chk_bad (allU_false hlt (by simp [bad, t2]))
          go_wp2_with (go_at_call 19; refine (HC.out).mono ?_; rintro e w' ⟨rfl, rfl⟩)
          go_ret
          exact ⟨by rw [HF.out]; rfl, hlow⟩
      · have HF : Hid (chk m = 20) := by
          show chk m = 20
          exact chk_bad (allU_false hlt (by simp [bad, t1]))
        go_wp2_with (go_at_call 19; refine (HC.out).mono ?_; rintro e w' ⟨rfl, rfl⟩)
        go_ret
        exact ⟨by rw [HF.out]; rfl, hlow⟩
    · obtain rfl : k = 11 := by omega
      have HF : Hid (chk m = 0) := by
        show chk m = 0
        exact chk_ok HALL.out
      go_wp2
      go_ret
      exact ⟨by rw [HF.out]; rfl, hlow⟩
end Go.Proofs.YtejmobkfanejbaaDoor
