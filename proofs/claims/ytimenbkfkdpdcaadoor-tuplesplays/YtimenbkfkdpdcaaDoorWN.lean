/-
  Proved here: TuplesNil's body says true. Condition: the widths' table holds its numbers.
-/
import Derived.Test.YtimenbkfkdpdcaaDoorWK
namespace Go.Proofs.YtimenbkfkdpdcaaDoor
open Go.RowKit

theorem sizeRule (r : Int) (m : Nat → Int) (cp : Value) (ck : Int) : (Tryd.prog.info? 36).map (·.size) = some (rc r m cp ck).size := by rw [rc_size]; kernel_rfl
theorem addNil (cs : Array Value) (w : World) : Calls Tryd.prog 8 #[.pointer none, .agg cs] w fun e w' => e = .returned (.tuple #[.int .i64 0, .int .i64 1]) ∧ Below w.heap.size w w' := by
  have HB : Hid (Below w.heap.size w (w.alloc (.cells cs 36))) := (Below.refl _ _).alloc (Nat.le_refl _) _
  go_enter Tryd.func8, Tryd.ntmps8
  go_wp2
  refine bodyPost_ret (results_tmp2 rfl _ _ _) rfl ?_
  exact ⟨rfl, HB.out⟩
theorem findNil (h : Nat → Int) (w : World) : Calls Tryd.prog 12 #[.pointer none, hv h] w fun e w' => e = .returned (.tuple #[.int .i64 0, .bool false]) ∧ Below w.heap.size w w' := by
  have HB : Hid (Below w.heap.size w (w.alloc (.cells (row 11 h) 31))) := (Below.refl _ _).alloc (Nat.le_refl _) _
  go_enter Tryd.func12, Tryd.ntmps12
  go_wp2
  go_step3
  go_wp2
  try rw [Exit.noGoto_ret]
  refine bodyPost_ret (results_tmp2 rfl _ _ _) rfl ?_
  exact ⟨rfl, HB.out⟩
theorem dropNil (id : Int) (w : World) : Calls Tryd.prog 10 #[.pointer none, .int .i64 id] w fun e w' => e = .returned (.bool false) ∧ w' = w := by
  go_enter Tryd.func10, Tryd.ntmps10
  go_wp2
  go_ret
  exact ⟨rfl, rfl⟩
theorem rowsNil (w : World) : Calls Tryd.prog 14 #[.pointer none] w fun e w' => e = .returned (.int .i64 0) ∧ w' = w := by
  go_enter Tryd.func14, Tryd.ntmps14
  go_wp2
  go_ret
  exact ⟨rfl, rfl⟩
set_option maxHeartbeats 1600000 in
set_option maxRecDepth 100000 in
theorem nil_any (w : World) (r : Int) (m : Nat → Int) (cp : Value) (ck : Int) (h : Nat → Int) (id : Int) (ht : Tab w) :
    Calls Tryd.prog 4 #[.agg (rc r m cp ck), hv h, .int .i64 id] w fun e w' => e = .returned (.bool true) ∧ Below w.heap.size w w' := by
  obtain ⟨W0, hW0⟩ : ∃ W0, W0 = (w.alloc (.cells (rc r m cp ck) 36)).alloc (.cells (row 11 h) 31) := ⟨_, rfl⟩
  have hB0 : Below w.heap.size w W0 := by rw [hW0]; exact ((Below.refl _ _).alloc (Nat.le_refl _) _).alloc (by simp) _
  have hs0 : W0.heap.size = w.heap.size + 2 := by rw [hW0]; simp
  have hG0 : W0.heap[w.heap.size]? = some (.cells (rc r m cp ck) 36 (0, 0)) := by rw [hW0, heap_alloc_old _ _ (by simp)]; exact heap_alloc_new _ _
  have hG1 : W0.heap[w.heap.size + 1]? = some (.cells (row 11 h) 31 (0, 0)) := by
    rw [hW0]
    have := heap_alloc_new (w.alloc (.cells (rc r m cp ck) 36)) (.cells (row 11 h) 31)
    simpa using this
  have HC : Hid (∀ w1, Below W0.heap.size W0 w1 → Blk w1 (w.heap.size + 1) 11 31 h ∧ Calls Tryd.prog 12 #[.pointer none, hv h] w1 fun e w' => e = .returned (.tuple #[.int .i64 0, .bool false]) ∧ Below w.heap.size w w') := fun w1 hb => by
    refine ⟨(hb.block _ (by omega)).trans hG1, (findNil h w1).mono ?_⟩
    rintro e w' ⟨rfl, hb'⟩
    exact ⟨rfl, hB0.trans ((hb.mono hB0.size).trans (hb'.mono (Nat.le_trans hB0.size hb.size)))⟩
  have HW : Hid (∀ W, Below w.heap.size w W → Calls Tryd.prog 16 #[] W fun e w' => e = .returned (.bool true) ∧ Below w.heap.size w w') := fun W hW => (wakes_any W (ht.on hW)).mono fun e w' ⟨h1, h2⟩ => ⟨h1, hW.trans (h2.mono hW.size)⟩
  have HW0 := hid hW0
  have HG0 := hid hG0
  clear hB0 hG1 hs0 hW0 hG0 ht
  go_enter Tryd.func4, Tryd.ntmps4
  go_upto_region 1 with fail
  rw [← HW0.out]
  clear HW0
  go_wp2_with (first
    | (refine ldRow 36 (.tmp 3) rfl rfl w.heap.size rfl 36 (rc r m cp ck) _ Tryd.underlying36 rfl (sizeRule _ _ _ _) HG0.out ?_)
    | (go_at_call 8; refine (addNil (rc r m cp ck) W0).mono ?_; rintro e x1 ⟨rfl, hb1⟩; obtain ⟨k1, k2⟩ := HC.out x1 hb1; have HK := hid k2; clear hb1 k2 HC)
    | (refine ld24 (.tmp 4) rfl _ rfl rfl h k1 ?_)
    | (go_at_call 12; refine (HK.out).mono ?_; rintro e x2 ⟨rfl, hb2⟩; have HB2 := hid hb2; clear hb2 HK)
    | (go_at_call 10; refine (dropNil id x2).mono ?_; rintro e x3 ⟨rfl, rfl⟩)
    | (go_at_call 14; refine (rowsNil _).mono ?_; rintro e x4 ⟨rfl, rfl⟩)
    | (go_at_call 16; refine (HW.out _ HB2.out).mono ?_; rintro e x5 ⟨rfl, hb5⟩; have HB5 := hid hb5; clear hb5))
  go_ret
  exact ⟨rfl, HB5.out⟩
end Go.Proofs.YtimenbkfkdpdcaaDoor
