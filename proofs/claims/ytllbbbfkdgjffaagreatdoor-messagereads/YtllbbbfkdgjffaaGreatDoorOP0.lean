/-
  Proved here: the document's bare at one kind of type (0 to 3, 8 to 10). Condition: the message's memory is as it says.
-/
import Derived.Test.YtllbbbfkdgjffaaGreatDoorOP
namespace Go.Proofs.YtllbbbfkdgjffaaGreatDoor
open Go.RowKit

set_option maxHeartbeats 6400000 in
set_option maxRecDepth 100000 in
theorem bare_0 {T : Nat → Prop} (m : Ms) (s : Sls) (w : World) (hs : Mss T w m s) (hty : m.ty = 0) :
    Calls Tryz.prog 48 #[.agg (msc m s)] w (BrP w m s) := by
  obtain ⟨acp, ccp, ecp, -⟩ := hs.cp.form
  obtain ⟨aps, cps, eps, -⟩ := hs.ps.form
  obtain ⟨aed, ced, eed, -⟩ := hs.ed.form
  obtain ⟨afr, cfr, efr, -⟩ := hs.fr
  obtain ⟨ahs, chs, ehs, -⟩ := hs.hs.form
  obtain ⟨W1, HW1⟩ : ∃ W, Hid (w.alloc (.cells (msc m s) 37) = W) := ⟨_, rfl⟩
  obtain ⟨W2, HW2⟩ : ∃ W, Hid (W1.alloc (.cells (msc zMs zSl) 37) = W) := ⟨_, rfl⟩
  obtain ⟨W3, HW3⟩ : ∃ W, Hid (W2.alloc (.cells (msc (m1 m) zSl) 37) = W) := ⟨_, rfl⟩
  obtain ⟨g, hg⟩ : ∃ g, g = w.heap.size := ⟨_, rfl⟩
  have hz1 : W1.heap.size = g + 1 := by rw [← HW1.out, hg]; simp
  have hz2 : W2.heap.size = g + 2 := by rw [← HW2.out]; simp [hz1]
  have hb1 : Below w.heap.size w W1 := by rw [← HW1.out]; exact (Below.refl _ _).alloc (Nat.le_refl _) _
  have hb2 : Below W1.heap.size W1 W2 := by rw [← HW2.out]; exact (Below.refl _ _).alloc (Nat.le_refl _) _
  have hb3 : Below W2.heap.size W2 W3 := by rw [← HW3.out]; exact (Below.refl _ _).alloc (Nat.le_refl _) _
  have hm1 : MB W1 g m s := by rw [← HW1.out, hg]; exact heap_alloc_new _ _
  have hm2 : MB W2 (g + 1) zMs zSl := by rw [← HW2.out, ← hz1]; exact heap_alloc_new _ _
  have hm3 : MB W3 (g + 2) (m1 m) zSl := by rw [← HW3.out, ← hz2]; exact heap_alloc_new _ _
  have hm1' : MB W2 g m s := (hb2.block g (by omega)).trans hm1
  have hBr : Br w g m s (m1 m) zSl W3 := ⟨hb1.trans ((hb2.mono (by omega)).trans (hb3.mono (by omega))), (hb3.block g (by omega)).trans hm1', (hb3.block (g + 1) (by omega)).trans hm2, hm3⟩
  have hgw : w.heap.size ≤ g := by omega
  obtain ⟨c0, c1, -⟩ := mb_cells hm1'
  have d0 := (mb_cells hBr.b1).1
  rw [hty] at d0
  have HOne := hid (hBr.one ⟨rfl, rfl, rfl, rfl, rfl⟩)
  have HFin := hid (hBr.fin hgw)
  have HL := hid hBr.b4
  have HZ := hid hBr.b2
  have HE : Hid (brM m = (⟨m.ty, m.id, 0, zRl, 0, false, 0, [], [], [], [], 0⟩ : Ms) ∧ brS m s = zSl ∧ isTy m.ty = true) := by
    refine And.intro ?_ (And.intro ?_ ?_)
    · unfold brM; rw [if_neg (by omega), if_neg (by omega), if_neg (by omega), if_neg (by omega), if_neg (by omega), if_neg (by omega)]; first | done | rfl
    · unfold brS; rw [if_neg (by omega), if_neg (by omega), if_neg (by omega), if_neg (by omega)]
    · rw [hty]; rfl
  clear hty ecp eps eed efr ehs hBr
  have HG := hid hg
  have HZ1 := hid hz1
  have HZ2 := hid hz2
  clear hg hz1 hz2 hb1 hb2 hb3 hm1 hm2 hm3 hm1' hs
  go_enter Tryz.func48, Tryz.ntmps48
  go_upto_region 1 with (refine bxMs (.tmp 0) rfl rfl m s rfl W1 HW1 ?_)
  rw [← zero_ms0, HW2.out, HZ1.out, ← HG.out]
  go_upto_region 2 with (first
    | (refine bldBr (.tmp 6) (.tmp 8) m.ty m.id rfl rfl rfl rfl ?_)
    | (refine stNew 37 (.tmp 4) (.tmp 9) rfl rfl W2 37 _ (msc (m1 m) zSl) rfl rfl rfl (sizeMs _ _) (by rw [msc_size]; rfl) (msc_one _ _ rfl rfl rfl rfl rfl) ?_))
  rw [HW3.out, HZ2.out]
  go_wp2_with (first
    | (refine ldRow 37 (.tmp 4) rfl rfl (g + 2) rfl 37 (msc (⟨m.ty, m.id, 0, zRl, 0, false, 0, [], [], [], [], 0⟩ : Ms) zSl) _ Tryz.underlying37 rfl (sizeMs _ _) HL.out ?_)
    | (refine stRow 37 (.tmp 2) (.tmp 70) rfl rfl (g + 1) (msc (⟨m.ty, m.id, 0, zRl, 0, false, 0, [], [], [], [], 0⟩ : Ms) zSl) rfl rfl 37 (msc zMs zSl) HZ.out (sizeMs _ _) (by rw [msc_size, msc_size]) HOne.out ?_))
  refine bodyPost_ret (v := .tuple #[.agg (msc (⟨m.ty, m.id, 0, zRl, 0, false, 0, [], [], [], [], 0⟩ : Ms) zSl), .bool true]) (resBr _ _ (g + 1) (⟨m.ty, m.id, 0, zRl, 0, false, 0, [], [], [], [], 0⟩ : Ms) zSl _ rfl rfl HFin.out.1) rfl ?_
  exact ⟨HFin.out.2, by rw [HE.out.1, HE.out.2.1, HE.out.2.2]⟩
set_option maxHeartbeats 6400000 in
set_option maxRecDepth 100000 in
theorem bare_1 {T : Nat → Prop} (m : Ms) (s : Sls) (w : World) (hs : Mss T w m s) (hty : m.ty = 1) :
    Calls Tryz.prog 48 #[.agg (msc m s)] w (BrP w m s) := by
  obtain ⟨acp, ccp, ecp, -⟩ := hs.cp.form
  obtain ⟨aps, cps, eps, -⟩ := hs.ps.form
  obtain ⟨aed, ced, eed, -⟩ := hs.ed.form
  obtain ⟨afr, cfr, efr, -⟩ := hs.fr
  obtain ⟨ahs, chs, ehs, -⟩ := hs.hs.form
  obtain ⟨W1, HW1⟩ : ∃ W, Hid (w.alloc (.cells (msc m s) 37) = W) := ⟨_, rfl⟩
  obtain ⟨W2, HW2⟩ : ∃ W, Hid (W1.alloc (.cells (msc zMs zSl) 37) = W) := ⟨_, rfl⟩
  obtain ⟨W3, HW3⟩ : ∃ W, Hid (W2.alloc (.cells (msc (m1 m) zSl) 37) = W) := ⟨_, rfl⟩
  obtain ⟨g, hg⟩ : ∃ g, g = w.heap.size := ⟨_, rfl⟩
  have hz1 : W1.heap.size = g + 1 := by rw [← HW1.out, hg]; simp
  have hz2 : W2.heap.size = g + 2 := by rw [← HW2.out]; simp [hz1]
  have hb1 : Below w.heap.size w W1 := by rw [← HW1.out]; exact (Below.refl _ _).alloc (Nat.le_refl _) _
  have hb2 : Below W1.heap.size W1 W2 := by rw [← HW2.out]; exact (Below.refl _ _).alloc (Nat.le_refl _) _
  have hb3 : Below W2.heap.size W2 W3 := by rw [← HW3.out]; exact (Below.refl _ _).alloc (Nat.le_refl _) _
  have hm1 : MB W1 g m s := by rw [← HW1.out, hg]; exact heap_alloc_new _ _
  have hm2 : MB W2 (g + 1) zMs zSl := by rw [← HW2.out, ← hz1]; exact heap_alloc_new _ _
  have hm3 : MB W3 (g + 2) (m1 m) zSl := by rw [← HW3.out, ← hz2]; exact heap_alloc_new _ _
  have hm1' : MB W2 g m s := (hb2.block g (by omega)).trans hm1
  have hBr : Br w g m s (m1 m) zSl W3 := ⟨hb1.trans ((hb2.mono (by omega)).trans (hb3.mono (by omega))), (hb3.block g (by omega)).trans hm1', (hb3.block (g + 1) (by omega)).trans hm2, hm3⟩
  have hgw : w.heap.size ≤ g := by omega
  obtain ⟨c0, c1, -⟩ := mb_cells hm1'
  have d0 := (mb_cells hBr.b1).1
  rw [hty] at d0
  have HOne := hid (hBr.one ⟨rfl, rfl, rfl, rfl, rfl⟩)
  have HFin := hid (hBr.fin hgw)
  have HL := hid hBr.b4
  have HZ := hid hBr.b2
  have HE : Hid (brM m = (⟨m.ty, m.id, 0, zRl, 0, false, 0, [], [], [], [], 0⟩ : Ms) ∧ brS m s = zSl ∧ isTy m.ty = true) := by
    refine And.intro ?_ (And.intro ?_ ?_)
    · unfold brM; rw [if_neg (by omega), if_neg (by omega), if_neg (by omega), if_neg (by omega), if_neg (by omega), if_neg (by omega)]; first | done | rfl
    · unfold brS; rw [if_neg (by omega), if_neg (by omega), if_neg (by omega), if_neg (by omega)]
    · rw [hty]; rfl
  clear hty ecp eps eed efr ehs hBr
  have HG := hid hg
  have HZ1 := hid hz1
  have HZ2 := hid hz2
  clear hg hz1 hz2 hb1 hb2 hb3 hm1 hm2 hm3 hm1' hs
  go_enter Tryz.func48, Tryz.ntmps48
  go_upto_region 1 with (refine bxMs (.tmp 0) rfl rfl m s rfl W1 HW1 ?_)
  rw [← zero_ms0, HW2.out, HZ1.out, ← HG.out]
  go_upto_region 2 with (first
    | (refine bldBr (.tmp 6) (.tmp 8) m.ty m.id rfl rfl rfl rfl ?_)
    | (refine stNew 37 (.tmp 4) (.tmp 9) rfl rfl W2 37 _ (msc (m1 m) zSl) rfl rfl rfl (sizeMs _ _) (by rw [msc_size]; rfl) (msc_one _ _ rfl rfl rfl rfl rfl) ?_))
  rw [HW3.out, HZ2.out]
  go_wp2_with (first
    | (refine ldRow 37 (.tmp 4) rfl rfl (g + 2) rfl 37 (msc (⟨m.ty, m.id, 0, zRl, 0, false, 0, [], [], [], [], 0⟩ : Ms) zSl) _ Tryz.underlying37 rfl (sizeMs _ _) HL.out ?_)
    | (refine stRow 37 (.tmp 2) (.tmp 70) rfl rfl (g + 1) (msc (⟨m.ty, m.id, 0, zRl, 0, false, 0, [], [], [], [], 0⟩ : Ms) zSl) rfl rfl 37 (msc zMs zSl) HZ.out (sizeMs _ _) (by rw [msc_size, msc_size]) HOne.out ?_))
  refine bodyPost_ret (v := .tuple #[.agg (msc (⟨m.ty, m.id, 0, zRl, 0, false, 0, [], [], [], [], 0⟩ : Ms) zSl), .bool true]) (resBr _ _ (g + 1) (⟨m.ty, m.id, 0, zRl, 0, false, 0, [], [], [], [], 0⟩ : Ms) zSl _ rfl rfl HFin.out.1) rfl ?_
  exact ⟨HFin.out.2, by rw [HE.out.1, HE.out.2.1, HE.out.2.2]⟩
set_option maxHeartbeats 6400000 in
set_option maxRecDepth 100000 in
theorem bare_2 {T : Nat → Prop} (m : Ms) (s : Sls) (w : World) (hs : Mss T w m s) (hty : m.ty = 2) :
    Calls Tryz.prog 48 #[.agg (msc m s)] w (BrP w m s) := by
  obtain ⟨acp, ccp, ecp, -⟩ := hs.cp.form
  obtain ⟨aps, cps, eps, -⟩ := hs.ps.form
  obtain ⟨aed, ced, eed, -⟩ := hs.ed.form
  obtain ⟨afr, cfr, efr, -⟩ := hs.fr
  obtain ⟨ahs, chs, ehs, -⟩ := hs.hs.form
  obtain ⟨W1, HW1⟩ : ∃ W, Hid (w.alloc (.cells (msc m s) 37) = W) := ⟨_, rfl⟩
  obtain ⟨W2, HW2⟩ : ∃ W, Hid (W1.alloc (.cells (msc zMs zSl) 37) = W) := ⟨_, rfl⟩
  obtain ⟨W3, HW3⟩ : ∃ W, Hid (W2.alloc (.cells (msc (m1 m) zSl) 37) = W) := ⟨_, rfl⟩
  obtain ⟨g, hg⟩ : ∃ g, g = w.heap.size := ⟨_, rfl⟩
  have hz1 : W1.heap.size = g + 1 := by rw [← HW1.out, hg]; simp
  have hz2 : W2.heap.size = g + 2 := by rw [← HW2.out]; simp [hz1]
  have hb1 : Below w.heap.size w W1 := by rw [← HW1.out]; exact (Below.refl _ _).alloc (Nat.le_refl _) _
  have hb2 : Below W1.heap.size W1 W2 := by rw [← HW2.out]; exact (Below.refl _ _).alloc (Nat.le_refl _) _
  have hb3 : Below W2.heap.size W2 W3 := by rw [← HW3.out]; exact (Below.refl _ _).alloc (Nat.le_refl _) _
  have hm1 : MB W1 g m s := by rw [← HW1.out, hg]; exact heap_alloc_new _ _
  have hm2 : MB W2 (g + 1) zMs zSl := by rw [← HW2.out, ← hz1]; exact heap_alloc_new _ _
  have hm3 : MB W3 (g + 2) (m1 m) zSl := by rw [← HW3.out, ← hz2]; exact heap_alloc_new _ _
  have hm1' : MB W2 g m s := (hb2.block g (by omega)).trans hm1
  have hBr : Br w g m s (m1 m) zSl W3 := ⟨hb1.trans ((hb2.mono (by omega)).trans (hb3.mono (by omega))), (hb3.block g (by omega)).trans hm1', (hb3.block (g + 1) (by omega)).trans hm2, hm3⟩
  have hgw : w.heap.size ≤ g := by omega
  obtain ⟨c0, c1, -⟩ := mb_cells hm1'
  have d0 := (mb_cells hBr.b1).1
  rw [hty] at d0
  have HOne := hid (hBr.one ⟨rfl, rfl, rfl, rfl, rfl⟩)
  have HFin := hid (hBr.fin hgw)
  have HL := hid hBr.b4
  have HZ := hid hBr.b2
  have HE : Hid (brM m = (⟨m.ty, m.id, 0, zRl, 0, false, 0, [], [], [], [], 0⟩ : Ms) ∧ brS m s = zSl ∧ isTy m.ty = true) := by
    refine And.intro ?_ (And.intro ?_ ?_)
    · unfold brM; rw [if_neg (by omega), if_neg (by omega), if_neg (by omega), if_neg (by omega), if_neg (by omega), if_neg (by omega)]; first | done | rfl
    · unfold brS; rw [if_neg (by omega), if_neg (by omega), if_neg (by omega), if_neg (by omega)]
    · rw [hty]; rfl
  clear hty ecp eps eed efr ehs hBr
  have HG := hid hg
  have HZ1 := hid hz1
  have HZ2 := hid hz2
  clear hg hz1 hz2 hb1 hb2 hb3 hm1 hm2 hm3 hm1' hs
  go_enter Tryz.func48, Tryz.ntmps48
  go_upto_region 1 with (refine bxMs (.tmp 0) rfl rfl m s rfl W1 HW1 ?_)
  rw [← zero_ms0, HW2.out, HZ1.out, ← HG.out]
  go_upto_region 2 with (first
    | (refine bldBr (.tmp 6) (.tmp 8) m.ty m.id rfl rfl rfl rfl ?_)
    | (refine stNew 37 (.tmp 4) (.tmp 9) rfl rfl W2 37 _ (msc (m1 m) zSl) rfl rfl rfl (sizeMs _ _) (by rw [msc_size]; rfl) (msc_one _ _ rfl rfl rfl rfl rfl) ?_))
  rw [HW3.out, HZ2.out]
  go_wp2_with (first
    | (refine ldRow 37 (.tmp 4) rfl rfl (g + 2) rfl 37 (msc (⟨m.ty, m.id, 0, zRl, 0, false, 0, [], [], [], [], 0⟩ : Ms) zSl) _ Tryz.underlying37 rfl (sizeMs _ _) HL.out ?_)
    | (refine stRow 37 (.tmp 2) (.tmp 70) rfl rfl (g + 1) (msc (⟨m.ty, m.id, 0, zRl, 0, false, 0, [], [], [], [], 0⟩ : Ms) zSl) rfl rfl 37 (msc zMs zSl) HZ.out (sizeMs _ _) (by rw [msc_size, msc_size]) HOne.out ?_))
  refine bodyPost_ret (v := .tuple #[.agg (msc (⟨m.ty, m.id, 0, zRl, 0, false, 0, [], [], [], [], 0⟩ : Ms) zSl), .bool true]) (resBr _ _ (g + 1) (⟨m.ty, m.id, 0, zRl, 0, false, 0, [], [], [], [], 0⟩ : Ms) zSl _ rfl rfl HFin.out.1) rfl ?_
  exact ⟨HFin.out.2, by rw [HE.out.1, HE.out.2.1, HE.out.2.2]⟩
set_option maxHeartbeats 6400000 in
set_option maxRecDepth 100000 in
theorem bare_3 {T : Nat → Prop} (m : Ms) (s : Sls) (w : World) (hs : Mss T w m s) (hty : m.ty = 3) :
    Calls Tryz.prog 48 #[.agg (msc m s)] w (BrP w m s) := by
  obtain ⟨acp, ccp, ecp, -⟩ := hs.cp.form
  obtain ⟨aps, cps, eps, -⟩ := hs.ps.form
  obtain ⟨aed, ced, eed, -⟩ := hs.ed.form
  obtain ⟨afr, cfr, efr, -⟩ := hs.fr
  obtain ⟨ahs, chs, ehs, -⟩ := hs.hs.form
  obtain ⟨W1, HW1⟩ : ∃ W, Hid (w.alloc (.cells (msc m s) 37) = W) := ⟨_, rfl⟩
  obtain ⟨W2, HW2⟩ : ∃ W, Hid (W1.alloc (.cells (msc zMs zSl) 37) = W) := ⟨_, rfl⟩
  obtain ⟨W3, HW3⟩ : ∃ W, Hid (W2.alloc (.cells (msc (m1 m) zSl) 37) = W) := ⟨_, rfl⟩
  obtain ⟨g, hg⟩ : ∃ g, g = w.heap.size := ⟨_, rfl⟩
  have hz1 : W1.heap.size = g + 1 := by rw [← HW1.out, hg]; simp
  have hz2 : W2.heap.size = g + 2 := by rw [← HW2.out]; simp [hz1]
  have hb1 : Below w.heap.size w W1 := by rw [← HW1.out]; exact (Below.refl _ _).alloc (Nat.le_refl _) _
  have hb2 : Below W1.heap.size W1 W2 := by rw [← HW2.out]; exact (Below.refl _ _).alloc (Nat.le_refl _) _
  have hb3 : Below W2.heap.size W2 W3 := by rw [← HW3.out]; exact (Below.refl _ _).alloc (Nat.le_refl _) _
  have hm1 : MB W1 g m s := by rw [← HW1.out, hg]; exact heap_alloc_new _ _
  have hm2 : MB W2 (g + 1) zMs zSl := by rw [← HW2.out, ← hz1]; exact heap_alloc_new _ _
  have hm3 : MB W3 (g + 2) (m1 m) zSl := by rw [← HW3.out, ← hz2]; exact heap_alloc_new _ _
  have hm1' : MB W2 g m s := (hb2.block g (by omega)).trans hm1
  have hBr : Br w g m s (m1 m) zSl W3 := ⟨hb1.trans ((hb2.mono (by omega)).trans (hb3.mono (by omega))), (hb3.block g (by omega)).trans hm1', (hb3.block (g + 1) (by omega)).trans hm2, hm3⟩
  have hgw : w.heap.size ≤ g := by omega
  obtain ⟨c0, c1, -⟩ := mb_cells hm1'
  have d0 := (mb_cells hBr.b1).1
  rw [hty] at d0
  have HOne := hid (hBr.one ⟨rfl, rfl, rfl, rfl, rfl⟩)
  have HFin := hid (hBr.fin hgw)
  have HL := hid hBr.b4
  have HZ := hid hBr.b2
  have HE : Hid (brM m = (⟨m.ty, m.id, 0, zRl, 0, false, 0, [], [], [], [], 0⟩ : Ms) ∧ brS m s = zSl ∧ isTy m.ty = true) := by
    refine And.intro ?_ (And.intro ?_ ?_)
    · unfold brM; rw [if_neg (by omega), if_neg (by omega), if_neg (by omega), if_neg (by omega), if_neg (by omega), if_neg (by omega)]; first | done | rfl
    · unfold brS; rw [if_neg (by omega), if_neg (by omega), if_neg (by omega), if_neg (by omega)]
    · rw [hty]; rfl
  clear hty ecp eps eed efr ehs hBr
  have HG := hid hg
  have HZ1 := hid hz1
  have HZ2 := hid hz2
  clear hg hz1 hz2 hb1 hb2 hb3 hm1 hm2 hm3 hm1' hs
  go_enter Tryz.func48, Tryz.ntmps48
  go_upto_region 1 with (refine bxMs (.tmp 0) rfl rfl m s rfl W1 HW1 ?_)
  rw [← zero_ms0, HW2.out, HZ1.out, ← HG.out]
  go_upto_region 2 with (first
    | (refine bldBr (.tmp 6) (.tmp 8) m.ty m.id rfl rfl rfl rfl ?_)
    | (refine stNew 37 (.tmp 4) (.tmp 9) rfl rfl W2 37 _ (msc (m1 m) zSl) rfl rfl rfl (sizeMs _ _) (by rw [msc_size]; rfl) (msc_one _ _ rfl rfl rfl rfl rfl) ?_))
  rw [HW3.out, HZ2.out]
  go_wp2_with (first
    | (refine ldRow 37 (.tmp 4) rfl rfl (g + 2) rfl 37 (msc (⟨m.ty, m.id, 0, zRl, 0, false, 0, [], [], [], [], 0⟩ : Ms) zSl) _ Tryz.underlying37 rfl (sizeMs _ _) HL.out ?_)
    | (refine stRow 37 (.tmp 2) (.tmp 70) rfl rfl (g + 1) (msc (⟨m.ty, m.id, 0, zRl, 0, false, 0, [], [], [], [], 0⟩ : Ms) zSl) rfl rfl 37 (msc zMs zSl) HZ.out (sizeMs _ _) (by rw [msc_size, msc_size]) HOne.out ?_))
  refine bodyPost_ret (v := .tuple #[.agg (msc (⟨m.ty, m.id, 0, zRl, 0, false, 0, [], [], [], [], 0⟩ : Ms) zSl), .bool true]) (resBr _ _ (g + 1) (⟨m.ty, m.id, 0, zRl, 0, false, 0, [], [], [], [], 0⟩ : Ms) zSl _ rfl rfl HFin.out.1) rfl ?_
  exact ⟨HFin.out.2, by rw [HE.out.1, HE.out.2.1, HE.out.2.2]⟩
set_option maxHeartbeats 6400000 in
set_option maxRecDepth 100000 in
theorem bare_8 {T : Nat → Prop} (m : Ms) (s : Sls) (w : World) (hs : Mss T w m s) (hty : m.ty = 8) :
    Calls Tryz.prog 48 #[.agg (msc m s)] w (BrP w m s) := by
  obtain ⟨acp, ccp, ecp, -⟩ := hs.cp.form
  obtain ⟨aps, cps, eps, -⟩ := hs.ps.form
  obtain ⟨aed, ced, eed, -⟩ := hs.ed.form
  obtain ⟨afr, cfr, efr, -⟩ := hs.fr
  obtain ⟨ahs, chs, ehs, -⟩ := hs.hs.form
  obtain ⟨W1, HW1⟩ : ∃ W, Hid (w.alloc (.cells (msc m s) 37) = W) := ⟨_, rfl⟩
  obtain ⟨W2, HW2⟩ : ∃ W, Hid (W1.alloc (.cells (msc zMs zSl) 37) = W) := ⟨_, rfl⟩
  obtain ⟨W3, HW3⟩ : ∃ W, Hid (W2.alloc (.cells (msc (m1 m) zSl) 37) = W) := ⟨_, rfl⟩
  obtain ⟨g, hg⟩ : ∃ g, g = w.heap.size := ⟨_, rfl⟩
  have hz1 : W1.heap.size = g + 1 := by rw [← HW1.out, hg]; simp
  have hz2 : W2.heap.size = g + 2 := by rw [← HW2.out]; simp [hz1]
  have hb1 : Below w.heap.size w W1 := by rw [← HW1.out]; exact (Below.refl _ _).alloc (Nat.le_refl _) _
  have hb2 : Below W1.heap.size W1 W2 := by rw [← HW2.out]; exact (Below.refl _ _).alloc (Nat.le_refl _) _
  have hb3 : Below W2.heap.size W2 W3 := by rw [← HW3.out]; exact (Below.refl _ _).alloc (Nat.le_refl _) _
  have hm1 : MB W1 g m s := by rw [← HW1.out, hg]; exact heap_alloc_new _ _
  have hm2 : MB W2 (g + 1) zMs zSl := by rw [← HW2.out, ← hz1]; exact heap_alloc_new _ _
  have hm3 : MB W3 (g + 2) (m1 m) zSl := by rw [← HW3.out, ← hz2]; exact heap_alloc_new _ _
  have hm1' : MB W2 g m s := (hb2.block g (by omega)).trans hm1
  have hBr : Br w g m s (m1 m) zSl W3 := ⟨hb1.trans ((hb2.mono (by omega)).trans (hb3.mono (by omega))), (hb3.block g (by omega)).trans hm1', (hb3.block (g + 1) (by omega)).trans hm2, hm3⟩
  have hgw : w.heap.size ≤ g := by omega
  obtain ⟨c0, c1, -⟩ := mb_cells hm1'
  have d0 := (mb_cells hBr.b1).1
  rw [hty] at d0
  have HOne := hid (hBr.one ⟨rfl, rfl, rfl, rfl, rfl⟩)
  have HFin := hid (hBr.fin hgw)
  have HL := hid hBr.b4
  have HZ := hid hBr.b2
  have HE : Hid (brM m = (⟨m.ty, m.id, 0, zRl, 0, false, 0, [], [], [], [], 0⟩ : Ms) ∧ brS m s = zSl ∧ isTy m.ty = true) := by
    refine And.intro ?_ (And.intro ?_ ?_)
    · unfold brM; rw [if_neg (by omega), if_neg (by omega), if_neg (by omega), if_neg (by omega), if_neg (by omega), if_neg (by omega)]; first | done | rfl
    · unfold brS; rw [if_neg (by omega), if_neg (by omega), if_neg (by omega), if_neg (by omega)]
    · rw [hty]; rfl
  clear hty ecp eps eed efr ehs hBr
  have HG := hid hg
  have HZ1 := hid hz1
  have HZ2 := hid hz2
  clear hg hz1 hz2 hb1 hb2 hb3 hm1 hm2 hm3 hm1' hs
  go_enter Tryz.func48, Tryz.ntmps48
  go_upto_region 1 with (refine bxMs (.tmp 0) rfl rfl m s rfl W1 HW1 ?_)
  rw [← zero_ms0, HW2.out, HZ1.out, ← HG.out]
  go_upto_region 2 with (first
    | (refine bldBr (.tmp 6) (.tmp 8) m.ty m.id rfl rfl rfl rfl ?_)
    | (refine stNew 37 (.tmp 4) (.tmp 9) rfl rfl W2 37 _ (msc (m1 m) zSl) rfl rfl rfl (sizeMs _ _) (by rw [msc_size]; rfl) (msc_one _ _ rfl rfl rfl rfl rfl) ?_))
  rw [HW3.out, HZ2.out]
  go_wp2_with (first
    | (refine ldRow 37 (.tmp 4) rfl rfl (g + 2) rfl 37 (msc (⟨m.ty, m.id, 0, zRl, 0, false, 0, [], [], [], [], 0⟩ : Ms) zSl) _ Tryz.underlying37 rfl (sizeMs _ _) HL.out ?_)
    | (refine stRow 37 (.tmp 2) (.tmp 70) rfl rfl (g + 1) (msc (⟨m.ty, m.id, 0, zRl, 0, false, 0, [], [], [], [], 0⟩ : Ms) zSl) rfl rfl 37 (msc zMs zSl) HZ.out (sizeMs _ _) (by rw [msc_size, msc_size]) HOne.out ?_))
  refine bodyPost_ret (v := .tuple #[.agg (msc (⟨m.ty, m.id, 0, zRl, 0, false, 0, [], [], [], [], 0⟩ : Ms) zSl), .bool true]) (resBr _ _ (g + 1) (⟨m.ty, m.id, 0, zRl, 0, false, 0, [], [], [], [], 0⟩ : Ms) zSl _ rfl rfl HFin.out.1) rfl ?_
  exact ⟨HFin.out.2, by rw [HE.out.1, HE.out.2.1, HE.out.2.2]⟩
set_option maxHeartbeats 6400000 in
set_option maxRecDepth 100000 in
theorem bare_9 {T : Nat → Prop} (m : Ms) (s : Sls) (w : World) (hs : Mss T w m s) (hty : m.ty = 9) :
    Calls Tryz.prog 48 #[.agg (msc m s)] w (BrP w m s) := by
  obtain ⟨acp, ccp, ecp, -⟩ := hs.cp.form
  obtain ⟨aps, cps, eps, -⟩ := hs.ps.form
  obtain ⟨aed, ced, eed, -⟩ := hs.ed.form
  obtain ⟨afr, cfr, efr, -⟩ := hs.fr
  obtain ⟨ahs, chs, ehs, -⟩ := hs.hs.form
  obtain ⟨W1, HW1⟩ : ∃ W, Hid (w.alloc (.cells (msc m s) 37) = W) := ⟨_, rfl⟩
  obtain ⟨W2, HW2⟩ : ∃ W, Hid (W1.alloc (.cells (msc zMs zSl) 37) = W) := ⟨_, rfl⟩
  obtain ⟨W3, HW3⟩ : ∃ W, Hid (W2.alloc (.cells (msc (m1 m) zSl) 37) = W) := ⟨_, rfl⟩
  obtain ⟨g, hg⟩ : ∃ g, g = w.heap.size := ⟨_, rfl⟩
  have hz1 : W1.heap.size = g + 1 := by rw [← HW1.out, hg]; simp
  have hz2 : W2.heap.size = g + 2 := by rw [← HW2.out]; simp [hz1]
  have hb1 : Below w.heap.size w W1 := by rw [← HW1.out]; exact (Below.refl _ _).alloc (Nat.le_refl _) _
  have hb2 : Below W1.heap.size W1 W2 := by rw [← HW2.out]; exact (Below.refl _ _).alloc (Nat.le_refl _) _
  have hb3 : Below W2.heap.size W2 W3 := by rw [← HW3.out]; exact (Below.refl _ _).alloc (Nat.le_refl _) _
  have hm1 : MB W1 g m s := by rw [← HW1.out, hg]; exact heap_alloc_new _ _
  have hm2 : MB W2 (g + 1) zMs zSl := by rw [← HW2.out, ← hz1]; exact heap_alloc_new _ _
  have hm3 : MB W3 (g + 2) (m1 m) zSl := by rw [← HW3.out, ← hz2]; exact heap_alloc_new _ _
  have hm1' : MB W2 g m s := (hb2.block g (by omega)).trans hm1
  have hBr : Br w g m s (m1 m) zSl W3 := ⟨hb1.trans ((hb2.mono (by omega)).trans (hb3.mono (by omega))), (hb3.block g (by omega)).trans hm1', (hb3.block (g + 1) (by omega)).trans hm2, hm3⟩
  have hgw : w.heap.size ≤ g := by omega
  obtain ⟨c0, c1, -⟩ := mb_cells hm1'
  have d0 := (mb_cells hBr.b1).1
  rw [hty] at d0
  have HOne := hid (hBr.one ⟨rfl, rfl, rfl, rfl, rfl⟩)
  have HFin := hid (hBr.fin hgw)
  have HL := hid hBr.b4
  have HZ := hid hBr.b2
  have HE : Hid (brM m = (⟨m.ty, m.id, 0, zRl, 0, false, 0, [], [], [], [], 0⟩ : Ms) ∧ brS m s = zSl ∧ isTy m.ty = true) := by
    refine And.intro ?_ (And.intro ?_ ?_)
    · unfold brM; rw [if_neg (by omega), if_neg (by omega), if_neg (by omega), if_neg (by omega), if_neg (by omega), if_neg (by omega)]; first | done | rfl
    · unfold brS; rw [if_neg (by omega), if_neg (by omega), if_neg (by omega), if_neg (by omega)]
    · rw [hty]; rfl
  clear hty ecp eps eed efr ehs hBr
  have HG := hid hg
  have HZ1 := hid hz1
  have HZ2 := hid hz2
  clear hg hz1 hz2 hb1 hb2 hb3 hm1 hm2 hm3 hm1' hs
  go_enter Tryz.func48, Tryz.ntmps48
  go_upto_region 1 with (refine bxMs (.tmp 0) rfl rfl m s rfl W1 HW1 ?_)
  rw [← zero_ms0, HW2.out, HZ1.out, ← HG.out]
  go_upto_region 2 with (first
    | (refine bldBr (.tmp 6) (.tmp 8) m.ty m.id rfl rfl rfl rfl ?_)
    | (refine stNew 37 (.tmp 4) (.tmp 9) rfl rfl W2 37 _ (msc (m1 m) zSl) rfl rfl rfl (sizeMs _ _) (by rw [msc_size]; rfl) (msc_one _ _ rfl rfl rfl rfl rfl) ?_))
  rw [HW3.out, HZ2.out]
  go_wp2_with (first
    | (refine ldRow 37 (.tmp 4) rfl rfl (g + 2) rfl 37 (msc (⟨m.ty, m.id, 0, zRl, 0, false, 0, [], [], [], [], 0⟩ : Ms) zSl) _ Tryz.underlying37 rfl (sizeMs _ _) HL.out ?_)
    | (refine stRow 37 (.tmp 2) (.tmp 70) rfl rfl (g + 1) (msc (⟨m.ty, m.id, 0, zRl, 0, false, 0, [], [], [], [], 0⟩ : Ms) zSl) rfl rfl 37 (msc zMs zSl) HZ.out (sizeMs _ _) (by rw [msc_size, msc_size]) HOne.out ?_))
  refine bodyPost_ret (v := .tuple #[.agg (msc (⟨m.ty, m.id, 0, zRl, 0, false, 0, [], [], [], [], 0⟩ : Ms) zSl), .bool true]) (resBr _ _ (g + 1) (⟨m.ty, m.id, 0, zRl, 0, false, 0, [], [], [], [], 0⟩ : Ms) zSl _ rfl rfl HFin.out.1) rfl ?_
  exact ⟨HFin.out.2, by rw [HE.out.1, HE.out.2.1, HE.out.2.2]⟩
set_option maxHeartbeats 6400000 in
set_option maxRecDepth 100000 in
theorem bare_10 {T : Nat → Prop} (m : Ms) (s : Sls) (w : World) (hs : Mss T w m s) (hty : m.ty = 10) :
    Calls Tryz.prog 48 #[.agg (msc m s)] w (BrP w m s) := by
  obtain ⟨acp, ccp, ecp, -⟩ := hs.cp.form
  obtain ⟨aps, cps, eps, -⟩ := hs.ps.form
  obtain ⟨aed, ced, eed, -⟩ := hs.ed.form
  obtain ⟨afr, cfr, efr, -⟩ := hs.fr
  obtain ⟨ahs, chs, ehs, -⟩ := hs.hs.form
  obtain ⟨W1, HW1⟩ : ∃ W, Hid (w.alloc (.cells (msc m s) 37) = W) := ⟨_, rfl⟩
  obtain ⟨W2, HW2⟩ : ∃ W, Hid (W1.alloc (.cells (msc zMs zSl) 37) = W) := ⟨_, rfl⟩
  obtain ⟨W3, HW3⟩ : ∃ W, Hid (W2.alloc (.cells (msc (m1 m) zSl) 37) = W) := ⟨_, rfl⟩
  obtain ⟨g, hg⟩ : ∃ g, g = w.heap.size := ⟨_, rfl⟩
  have hz1 : W1.heap.size = g + 1 := by rw [← HW1.out, hg]; simp
  have hz2 : W2.heap.size = g + 2 := by rw [← HW2.out]; simp [hz1]
  have hb1 : Below w.heap.size w W1 := by rw [← HW1.out]; exact (Below.refl _ _).alloc (Nat.le_refl _) _
  have hb2 : Below W1.heap.size W1 W2 := by rw [← HW2.out]; exact (Below.refl _ _).alloc (Nat.le_refl _) _
  have hb3 : Below W2.heap.size W2 W3 := by rw [← HW3.out]; exact (Below.refl _ _).alloc (Nat.le_refl _) _
  have hm1 : MB W1 g m s := by rw [← HW1.out, hg]; exact heap_alloc_new _ _
  have hm2 : MB W2 (g + 1) zMs zSl := by rw [← HW2.out, ← hz1]; exact heap_alloc_new _ _
  have hm3 : MB W3 (g + 2) (m1 m) zSl := by rw [← HW3.out, ← hz2]; exact heap_alloc_new _ _
  have hm1' : MB W2 g m s := (hb2.block g (by omega)).trans hm1
  have hBr : Br w g m s (m1 m) zSl W3 := ⟨hb1.trans ((hb2.mono (by omega)).trans (hb3.mono (by omega))), (hb3.block g (by omega)).trans hm1', (hb3.block (g + 1) (by omega)).trans hm2, hm3⟩
  have hgw : w.heap.size ≤ g := by omega
  obtain ⟨c0, c1, -⟩ := mb_cells hm1'
  have d0 := (mb_cells hBr.b1).1
  rw [hty] at d0
  have HOne := hid (hBr.one ⟨rfl, rfl, rfl, rfl, rfl⟩)
  have HFin := hid (hBr.fin hgw)
  have HL := hid hBr.b4
  have HZ := hid hBr.b2
  have HE : Hid (brM m = (⟨m.ty, m.id, 0, zRl, 0, false, 0, [], [], [], [], 0⟩ : Ms) ∧ brS m s = zSl ∧ isTy m.ty = true) := by
    refine And.intro ?_ (And.intro ?_ ?_)
    · unfold brM; rw [if_neg (by omega), if_neg (by omega), if_neg (by omega), if_neg (by omega), if_neg (by omega), if_neg (by omega)]; first | done | rfl
    · unfold brS; rw [if_neg (by omega), if_neg (by omega), if_neg (by omega), if_neg (by omega)]
    · rw [hty]; rfl
  clear hty ecp eps eed efr ehs hBr
  have HG := hid hg
  have HZ1 := hid hz1
  have HZ2 := hid hz2
  clear hg hz1 hz2 hb1 hb2 hb3 hm1 hm2 hm3 hm1' hs
  go_enter Tryz.func48, Tryz.ntmps48
  go_upto_region 1 with (refine bxMs (.tmp 0) rfl rfl m s rfl W1 HW1 ?_)
  rw [← zero_ms0, HW2.out, HZ1.out, ← HG.out]
  go_upto_region 2 with (first
    | (refine bldBr (.tmp 6) (.tmp 8) m.ty m.id rfl rfl rfl rfl ?_)
    | (refine stNew 37 (.tmp 4) (.tmp 9) rfl rfl W2 37 _ (msc (m1 m) zSl) rfl rfl rfl (sizeMs _ _) (by rw [msc_size]; rfl) (msc_one _ _ rfl rfl rfl rfl rfl) ?_))
  rw [HW3.out, HZ2.out]
  go_wp2_with (first
    | (refine ldRow 37 (.tmp 4) rfl rfl (g + 2) rfl 37 (msc (⟨m.ty, m.id, 0, zRl, 0, false, 0, [], [], [], [], 0⟩ : Ms) zSl) _ Tryz.underlying37 rfl (sizeMs _ _) HL.out ?_)
    | (refine stRow 37 (.tmp 2) (.tmp 70) rfl rfl (g + 1) (msc (⟨m.ty, m.id, 0, zRl, 0, false, 0, [], [], [], [], 0⟩ : Ms) zSl) rfl rfl 37 (msc zMs zSl) HZ.out (sizeMs _ _) (by rw [msc_size, msc_size]) HOne.out ?_))
  refine bodyPost_ret (v := .tuple #[.agg (msc (⟨m.ty, m.id, 0, zRl, 0, false, 0, [], [], [], [], 0⟩ : Ms) zSl), .bool true]) (resBr _ _ (g + 1) (⟨m.ty, m.id, 0, zRl, 0, false, 0, [], [], [], [], 0⟩ : Ms) zSl _ rfl rfl HFin.out.1) rfl ?_
  exact ⟨HFin.out.2, by rw [HE.out.1, HE.out.2.1, HE.out.2.2]⟩
end Go.Proofs.YtllbbbfkdgjffaaGreatDoor
