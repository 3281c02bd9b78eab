/-
  Proved here: atPort and runCopy of package actions: what a copy sends, and whether it punts; no old memory turns. Conditions: the widths' table holds its eleven numbers; fewer than a million actions.
-/
import Derived.Test.YtejmobkfanejbaaDoorX1
namespace Go.Proofs.YtejmobkfanejbaaDoor
open Go.RowKit

theorem resP (tmps : Array Value) (w : World) (g : Nat) (m : Nat → Int) (hp : tmps.getD 4 undef = .pointer (some ⟨g, 0, none⟩)) (hg : Blk w g 11 24 m) :
    (results Tryd.f33 tmps).run Tryd.prog w = .ok (hv m) w :=
  results_cell_row Tryd.results33 tmps w g 24 _ (0, 0) _ hp hg Tryd.underlying24 rfl (size24 m)
theorem zrow : (#[Value.int .u64 0, Value.int .u64 0, Value.int .u64 0, Value.int .u64 0, Value.int .u64 0, Value.int .u64 0, Value.int .u64 0, Value.int .u64 0, Value.int .u64 0, Value.int .u64 0, Value.int .u64 0] : Array Value) = row 11 zf := rfl
set_option maxHeartbeats 1600000 in
set_option maxRecDepth 100000 in
theorem atPort_any (h : Nat → Int) (n : Int) (w : World) : Calls Tryd.prog 33 #[hv h, .int .u64 n] w fun e w' => e = .returned (hv (atP h n)) ∧ Below w.heap.size w w' := by
  obtain ⟨W0, hW0⟩ : ∃ W0, W0 = (w.alloc (.cells (row 11 h) 24)).alloc (.cells (row 11 zf) 24) := ⟨_, rfl⟩
  have hB0 : Below w.heap.size w W0 := by rw [hW0]; exact ((Below.refl _ _).alloc (Nat.le_refl _) _).alloc (by simp) _
  have hA : Blk W0 w.heap.size 11 24 h := by rw [hW0]; exact (Blk.new w 11 24 h).alloc _
  have hZ : Blk W0 (w.heap.size + 1) 11 24 zf := by rw [hW0]; exact Blk.new1 w _ 11 24 zf
  have HW0 := hid hW0
  clear hW0
  by_cases hn : n = 0
  · have e : atP h n = h := by unfold atP; rw [if_pos hn]
    rw [e]
    subst hn
    have HWb := hid (show Blk (W0.setRow (w.heap.size + 1) (row 11 h)) (w.heap.size + 1) 11 24 h from setRow_heap W0 _ _ _ _ _ hZ)
    have HL := hid (show Below w.heap.size w (W0.setRow (w.heap.size + 1) (row 11 h)) from below_setRow hB0 (by omega) _)
    clear hB0 e
    go_enter Tryd.func33, Tryd.ntmps33
    go_upto_region 1 with fail
    rw [zrow, ← HW0.out]
    clear HW0
    go_wp2_with (first
      | (refine ld24 (.tmp 2) rfl _ rfl rfl h hA ?_)
      | (refine stRow 24 (.tmp 4) (.tmp 9) rfl rfl (w.heap.size + 1) (row 11 h) rfl rfl 24 (row 11 zf) hZ (size24 _) (by rw [row_size, row_size]) (row_one _ _) ?_))
    refine bodyPost_ret (v := hv h) (resP _ _ (w.heap.size + 1) h rfl HWb.out) rfl ⟨rfl, HL.out⟩
  · have e : atP h n = upd h 9 n := by unfold atP; rw [if_neg hn]
    rw [e]
    have hne : (n != 0) = true := by simpa using hn
    have hA1 := hA.set 9 n
    have hZ1 := hZ.setOther w.heap.size 9 (.int .u64 n) (by omega)
    have hB1 : Below w.heap.size w (W0.setCell ⟨w.heap.size, 9, none⟩ (.int .u64 n)) := hB0.setCell (p := ⟨w.heap.size, 9, none⟩) (Nat.le_refl _) _
    have hf := hA.frozen 9
    have hc := hA.cell 9 (by omega)
    obtain ⟨W1, hW1⟩ : ∃ W1, W1 = W0.setCell ⟨w.heap.size, 9, none⟩ (.int .u64 n) := ⟨_, rfl⟩
    rw [← hW1] at hA1 hZ1 hB1
    have HW1 := hid hW1
    have HWb := hid (show Blk (W1.setRow (w.heap.size + 1) (row 11 (upd h 9 n))) (w.heap.size + 1) 11 24 (upd h 9 n) from setRow_heap W1 _ _ _ _ _ hZ1)
    have HL := hid (show Below w.heap.size w (W1.setRow (w.heap.size + 1) (row 11 (upd h 9 n))) from below_setRow hB1 (by omega) _)
    clear hB0 e hB1 hW1 hn hA hZ
    go_enter Tryd.func33, Tryd.ntmps33
    go_upto_region 1 with fail
    rw [zrow, ← HW0.out]
    clear HW0
    go_upto_region 3 with fail
    rw [← HW1.out]
    clear HW1
    go_wp2_with (first
      | (refine ld24 (.tmp 2) rfl _ rfl rfl (upd h 9 n) hA1 ?_)
      | (refine stRow 24 (.tmp 4) (.tmp 9) rfl rfl (w.heap.size + 1) (row 11 (upd h 9 n)) rfl rfl 24 (row 11 zf) hZ1 (size24 _) (by rw [row_size, row_size]) (row_one _ _) ?_))
    refine bodyPost_ret (v := hv (upd h 9 n)) (resP _ _ (w.heap.size + 1) (upd h 9 n) rfl HWb.out) rfl ⟨rfl, HL.out⟩
end Go.Proofs.YtejmobkfanejbaaDoor
