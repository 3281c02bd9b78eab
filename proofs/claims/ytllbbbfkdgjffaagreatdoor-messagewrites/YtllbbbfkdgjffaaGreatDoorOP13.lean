/-
  Proved here: the document's bare at one kind of type (11). Condition: the message's memory is as it says.
-/
/-
  Proved here: the document's bare at one kind of type (12). Condition: the message's memory is as it says.
-/
/-
  Proved here: the document's bare at one kind of type (13). Condition: the message's memory is as it says.
-/
import Derived.Test.YtllbbbfkdgjffaaGreatDoorOP
namespace Go.Proofs.YtllbbbfkdgjffaaGreatDoor
open Go.RowKit

set_option maxHeartbeats 6400000 in
set_option maxRecDepth 100000 in
theorem bare_11 {T : Nat → Prop} (m : Ms) (s : Sls) (w : World) (hs : Mss T w m s) (hty : m.ty = 11) :
    Calls Tryz.prog 48 #[.agg (msc m s)] w (BrP w m s) := by
  obtain ⟨acp, ccp, ecp, -⟩ := hs.cp.form
  obtain ⟨aps, cps, eps, -⟩ := hs.ps.form
  obtain ⟨aed, ced, eed, -⟩ := hs.ed.form
  obtain ⟨afr, cfr, efr, -⟩ := hs.fr
  obtain ⟨ahs, chs, ehs, -⟩ := hs.hs.form
  obtain ⟨W1, HW1⟩ : ∃ W, Hid (w.alloc (.cells (msc m s) 37) = W) := ⟨_, rfl⟩
  obtain ⟨W2, HW2⟩ : ∃ W, Hid (W1.alloc (.cells (msc zMs zSl) 37) = W) := ⟨_, rfl⟩
  obtain ⟨W3, HW3⟩ : ∃ W, Hid (W2.alloc (.cells (msc (m1 m) zSl) 37) = W) := ⟨_, rfl⟩
  obtain ⟨g, hg⟩ : ∃ g, g = w.heap.size := ⟨_, rfl⟩
  have hz1 : W1.heap.size = g + 1 := by rw [← HW1.out, hg]; simp
  have hz2 : W2.heap.size = g + 2 := by rw [← HW2.out]; simp [hz1]
  have hb1 : Below w.heap.size w W1 := by rw [← HW1.out]; exact (Below.refl _ _).alloc (Nat.le_refl _) _
  have hb2 : Below W1.heap.size W1 W2 := by rw [← HW2.out]; exact (Below.refl _ _).alloc (Nat.le_refl _) _
  have hb3 : Below W2.heap.size W2 W3 := by rw [← HW3.out]; exact (Below.refl _ _).alloc (Nat.le_refl _) _
  have hm1 : MB W1 g m s := by rw [← HW1.out, hg]; exact heap_alloc_new _ _
  have hm2 : MB W2 (g + 1) zMs zSl := by rw [← HW2.out, ← hz1]; exact heap_alloc_new _ _
  have hm3 : MB W3 (g + 2) (m1 m) zSl := by rw [← HW3.out, ← hz2]; exact heap_alloc_new _ _
  have hm1' : MB W2 g m s := (hb2.block g (by omega)).trans hm1
  have hBr : Br w g m s (m1 m) zSl W3 := ⟨hb1.trans ((hb2.mono (by omega)).trans (hb3.mono (by omega))), (hb3.block g (by omega)).trans hm1', (hb3.block (g + 1) (by omega)).trans hm2, hm3⟩
  have hgw : w.heap.size ≤ g := by omega
  obtain ⟨c0, c1, -⟩ := mb_cells hm1'
  have d0 := (mb_cells hBr.b1).1
  rw [hty] at d0
  obtain ⟨V1, HV1⟩ : ∃ V, Hid (W3.setCell ⟨g + 2, 28, none⟩ (.int .u16 m.po) = V) := ⟨_, rfl⟩
  have hB1 : Br w g m s (⟨m.ty, m.id, 0, zRl, m.po, false, 0, [], [], [], [], 0⟩ : Ms) zSl V1 := by rw [← HV1.out]; exact hBr.set hgw (by exact set_po _ _ _)
  obtain ⟨-, -, -, k1, -⟩ := mb_cells hBr.b1
  obtain ⟨-, -, -, l1, -⟩ := mb_cells hBr.b4
  have f1 := mb_free hBr.b4 28
  obtain ⟨V2, HV2⟩ : ∃ V, Hid (V1.setCell ⟨g + 2, 34, none⟩ (.slice ahs m.hs.length chs) = V) := ⟨_, rfl⟩
  have hB2 : Br w g m s (⟨m.ty, m.id, 0, zRl, m.po, false, 0, [], [], [], m.hs, 0⟩ : Ms) (⟨nilS, nilS, nilS, nilS, s.hs⟩ : Sls) V2 := by rw [← HV2.out]; exact hB1.set hgw (by rw [← ehs]; exact set_hs _ _ m.hs _)
  obtain ⟨-, -, -, -, -, -, -, -, -, k2, -⟩ := mb_cells hB1.b1
  obtain ⟨-, -, -, -, -, -, -, -, -, l2, -⟩ := mb_cells hB1.b4
  rw [ehs] at k2
  have f2 := mb_free hB1.b4 34
  have HOne := hid (hB2.one ⟨rfl, rfl, rfl, rfl, by rw [ehs]; rfl⟩)
  have HFin := hid (hB2.fin hgw)
  have HL := hid hB2.b4
  have HZ := hid hB2.b2
  have HE : Hid (brM m = (⟨m.ty, m.id, 0, zRl, m.po, false, 0, [], [], [], m.hs, 0⟩ : Ms) ∧ brS m s = (⟨nilS, nilS, nilS, nilS, s.hs⟩ : Sls) ∧ isTy m.ty = true) := by
    refine And.intro ?_ (And.intro ?_ ?_)
    · unfold brM; rw [if_neg (by omega), if_neg (by omega), if_neg (by omega), if_pos hty]; first | done | rfl
    · unfold brS; rw [if_neg (by omega), if_neg (by omega), if_neg (by omega), if_pos hty]; first | done | rfl
    · rw [hty]; rfl
  clear hty ecp eps eed efr ehs hBr hB1 hB2
  have HG := hid hg
  have HZ1 := hid hz1
  have HZ2 := hid hz2
  clear hg hz1 hz2 hb1 hb2 hb3 hm1 hm2 hm3 hm1' hs
  go_enter Tryz.func48, Tryz.ntmps48
  go_upto_region 1 with (refine bxMs (.tmp 0) rfl rfl m s rfl W1 HW1 ?_)
  rw [← zero_ms0, HW2.out, HZ1.out, ← HG.out]
  go_upto_region 2 with (first
    | (refine bldBr (.tmp 6) (.tmp 8) m.ty m.id rfl rfl rfl rfl ?_)
    | (refine stNew 37 (.tmp 4) (.tmp 9) rfl rfl W2 37 _ (msc (m1 m) zSl) rfl rfl rfl (sizeMs _ _) (by rw [msc_size]; rfl) (msc_one _ _ rfl rfl rfl rfl rfl) ?_))
  rw [HW3.out, HZ2.out]
  go_upto_region 24 with fail
  rw [HV1.out]
  go_upto_region 30 with fail
  rw [HV2.out]
  go_wp2_with (first
    | (refine ldRow 37 (.tmp 4) rfl rfl (g + 2) rfl 37 (msc (⟨m.ty, m.id, 0, zRl, m.po, false, 0, [], [], [], m.hs, 0⟩ : Ms) (⟨nilS, nilS, nilS, nilS, s.hs⟩ : Sls)) _ Tryz.underlying37 rfl (sizeMs _ _) HL.out ?_)
    | (refine stRow 37 (.tmp 2) (.tmp 70) rfl rfl (g + 1) (msc (⟨m.ty, m.id, 0, zRl, m.po, false, 0, [], [], [], m.hs, 0⟩ : Ms) (⟨nilS, nilS, nilS, nilS, s.hs⟩ : Sls)) rfl rfl 37 (msc zMs zSl) HZ.out (sizeMs _ _) (by rw [msc_size, msc_size]) HOne.out ?_))
  refine bodyPost_ret (v := .tuple #[.agg (msc (⟨m.ty, m.id, 0, zRl, m.po, false, 0, [], [], [], m.hs, 0⟩ : Ms) (⟨nilS, nilS, nilS, nilS, s.hs⟩ : Sls)), .bool true]) (resBr _ _ (g + 1) (⟨m.ty, m.id, 0, zRl, m.po, false, 0, [], [], [], m.hs, 0⟩ : Ms) (⟨nilS, nilS, nilS, nilS, s.hs⟩ : Sls) _ rfl rfl HFin.out.1) rfl ?_
  exact ⟨HFin.out.2, by rw [HE.out.1, HE.out.2.1, HE.out.2.2]⟩
end Go.Proofs.YtllbbbfkdgjffaaGreatDoor
namespace Go.Proofs.YtllbbbfkdgjffaaGreatDoor
open Go.RowKit

set_option maxHeartbeats 6400000 in
set_option maxRecDepth 100000 in
theorem bare_12 {T : Nat → Prop} (m : Ms) (s : Sls) (w : World) (hs : Mss T w m s) (hty : m.ty = 12) :
    Calls Tryz.prog 48 #[.agg (msc m s)] w (BrP w m s) := by
  obtain ⟨acp, ccp, ecp, -⟩ := hs.cp.form
  obtain ⟨aps, cps, eps, -⟩ := hs.ps.form
  obtain ⟨aed, ced, eed, -⟩ := hs.ed.form
  obtain ⟨afr, cfr, efr, -⟩ := hs.fr
  obtain ⟨ahs, chs, ehs, -⟩ := hs.hs.form
  obtain ⟨W1, HW1⟩ : ∃ W, Hid (w.alloc (.cells (msc m s) 37) = W) := ⟨_, rfl⟩
  obtain ⟨W2, HW2⟩ : ∃ W, Hid (W1.alloc (.cells (msc zMs zSl) 37) = W) := ⟨_, rfl⟩
  obtain ⟨W3, HW3⟩ : ∃ W, Hid (W2.alloc (.cells (msc (m1 m) zSl) 37) = W) := ⟨_, rfl⟩
  obtain ⟨g, hg⟩ : ∃ g, g = w.heap.size := ⟨_, rfl⟩
  have hz1 : W1.heap.size = g + 1 := by rw [← HW1.out, hg]; simp
  have hz2 : W2.heap.size = g + 2 := by rw [← HW2.out]; simp [hz1]
  have hb1 : Below w.heap.size w W1 := by rw [← HW1.out]; exact (Below.refl _ _).alloc (Nat.le_refl _) _
  have hb2 : Below W1.heap.size W1 W2 := by rw [← HW2.out]; exact (Below.refl _ _).alloc (Nat.le_refl _) _
  have hb3 : Below W2.heap.size W2 W3 := by rw [← HW3.out]; exact (Below.refl _ _).alloc (Nat.le_refl _) _
  have hm1 : MB W1 g m s := by rw [← HW1.out, hg]; exact heap_alloc_new _ _
  have hm2 : MB W2 (g + 1) zMs zSl := by rw [← HW2.out, ← hz1]; exact heap_alloc_new _ _
  have hm3 : MB W3 (g + 2) (m1 m) zSl := by rw [← HW3.out, ← hz2]; exact heap_alloc_new _ _
  have hm1' : MB W2 g m s := (hb2.block g (by omega)).trans hm1
  have hBr : Br w g m s (m1 m) zSl W3 := ⟨hb1.trans ((hb2.mono (by omega)).trans (hb3.mono (by omega))), (hb3.block g (by omega)).trans hm1', (hb3.block (g + 1) (by omega)).trans hm2, hm3⟩
  have hgw : w.heap.size ≤ g := by omega
  obtain ⟨c0, c1, -⟩ := mb_cells hm1'
  have d0 := (mb_cells hBr.b1).1
  rw [hty] at d0
  obtain ⟨V1, HV1⟩ : ∃ V, Hid (W3.setCell ⟨g + 2, 28, none⟩ (.int .u16 m.po) = V) := ⟨_, rfl⟩
  have hB1 : Br w g m s (⟨m.ty, m.id, 0, zRl, m.po, false, 0, [], [], [], [], 0⟩ : Ms) zSl V1 := by rw [← HV1.out]; exact hBr.set hgw (by exact set_po _ _ _)
  obtain ⟨-, -, -, k1, -⟩ := mb_cells hBr.b1
  obtain ⟨-, -, -, l1, -⟩ := mb_cells hBr.b4
  have f1 := mb_free hBr.b4 28
  obtain ⟨V2, HV2⟩ : ∃ V, Hid (V1.setCell ⟨g + 2, 29, none⟩ (.bool m.up) = V) := ⟨_, rfl⟩
  have hB2 : Br w g m s (⟨m.ty, m.id, 0, zRl, m.po, m.up, 0, [], [], [], [], 0⟩ : Ms) zSl V2 := by rw [← HV2.out]; exact hB1.set hgw (by exact set_up _ _ _)
  obtain ⟨-, -, -, -, k2, -⟩ := mb_cells hB1.b1
  obtain ⟨-, -, -, -, l2, -⟩ := mb_cells hB1.b4
  have f2 := mb_free hB1.b4 29
  have HOne := hid (hB2.one ⟨rfl, rfl, rfl, rfl, rfl⟩)
  have HFin := hid (hB2.fin hgw)
  have HL := hid hB2.b4
  have HZ := hid hB2.b2
  have HE : Hid (brM m = (⟨m.ty, m.id, 0, zRl, m.po, m.up, 0, [], [], [], [], 0⟩ : Ms) ∧ brS m s = zSl ∧ isTy m.ty = true) := by
    refine And.intro ?_ (And.intro ?_ ?_)
    · unfold brM; rw [if_neg (by omega), if_neg (by omega), if_neg (by omega), if_neg (by omega), if_pos hty]; first | done | rfl
    · unfold brS; rw [if_neg (by omega), if_neg (by omega), if_neg (by omega), if_neg (by omega)]
    · rw [hty]; rfl
  clear hty ecp eps eed efr ehs hBr hB1 hB2
  have HG := hid hg
  have HZ1 := hid hz1
  have HZ2 := hid hz2
  clear hg hz1 hz2 hb1 hb2 hb3 hm1 hm2 hm3 hm1' hs
  go_enter Tryz.func48, Tryz.ntmps48
  go_upto_region 1 with (refine bxMs (.tmp 0) rfl rfl m s rfl W1 HW1 ?_)
  rw [← zero_ms0, HW2.out, HZ1.out, ← HG.out]
  go_upto_region 2 with (first
    | (refine bldBr (.tmp 6) (.tmp 8) m.ty m.id rfl rfl rfl rfl ?_)
    | (refine stNew 37 (.tmp 4) (.tmp 9) rfl rfl W2 37 _ (msc (m1 m) zSl) rfl rfl rfl (sizeMs _ _) (by rw [msc_size]; rfl) (msc_one _ _ rfl rfl rfl rfl rfl) ?_))
  rw [HW3.out, HZ2.out]
  go_upto_region 27 with fail
  rw [HV1.out]
  go_upto_region 30 with fail
  rw [HV2.out]
  go_wp2_with (first
    | (refine ldRow 37 (.tmp 4) rfl rfl (g + 2) rfl 37 (msc (⟨m.ty, m.id, 0, zRl, m.po, m.up, 0, [], [], [], [], 0⟩ : Ms) zSl) _ Tryz.underlying37 rfl (sizeMs _ _) HL.out ?_)
    | (refine stRow 37 (.tmp 2) (.tmp 70) rfl rfl (g + 1) (msc (⟨m.ty, m.id, 0, zRl, m.po, m.up, 0, [], [], [], [], 0⟩ : Ms) zSl) rfl rfl 37 (msc zMs zSl) HZ.out (sizeMs _ _) (by rw [msc_size, msc_size]) HOne.out ?_))
  refine bodyPost_ret (v := .tuple #[.agg (msc (⟨m.ty, m.id, 0, zRl, m.po, m.up, 0, [], [], [], [], 0⟩ : Ms) zSl), .bool true]) (resBr _ _ (g + 1) (⟨m.ty, m.id, 0, zRl, m.po, m.up, 0, [], [], [], [], 0⟩ : Ms) zSl _ rfl rfl HFin.out.1) rfl ?_
  exact ⟨HFin.out.2, by rw [HE.out.1, HE.out.2.1, HE.out.2.2]⟩
end Go.Proofs.YtllbbbfkdgjffaaGreatDoor
namespace Go.Proofs.YtllbbbfkdgjffaaGreatDoor
open Go.RowKit

set_option maxHeartbeats 6400000 in
set_option maxRecDepth 100000 in
theorem bare_13 {T : Nat → Prop} (m : Ms) (s : Sls) (w : World) (hs : Mss T w m s) (hty : m.ty = 13) :
    Calls Tryz.prog 48 #[.agg (msc m s)] w (BrP w m s) := by
  obtain ⟨acp, ccp, ecp, -⟩ := hs.cp.form
  obtain ⟨aps, cps, eps, -⟩ := hs.ps.form
  obtain ⟨aed, ced, eed, -⟩ := hs.ed.form
  obtain ⟨afr, cfr, efr, -⟩ := hs.fr
  obtain ⟨ahs, chs, ehs, -⟩ := hs.hs.form
  obtain ⟨W1, HW1⟩ : ∃ W, Hid (w.alloc (.cells (msc m s) 37) = W) := ⟨_, rfl⟩
  obtain ⟨W2, HW2⟩ : ∃ W, Hid (W1.alloc (.cells (msc zMs zSl) 37) = W) := ⟨_, rfl⟩
  obtain ⟨W3, HW3⟩ : ∃ W, Hid (W2.alloc (.cells (msc (m1 m) zSl) 37) = W) := ⟨_, rfl⟩
  obtain ⟨g, hg⟩ : ∃ g, g = w.heap.size := ⟨_, rfl⟩
  have hz1 : W1.heap.size = g + 1 := by rw [← HW1.out, hg]; simp
  have hz2 : W2.heap.size = g + 2 := by rw [← HW2.out]; simp [hz1]
  have hb1 : Below w.heap.size w W1 := by rw [← HW1.out]; exact (Below.refl _ _).alloc (Nat.le_refl _) _
  have hb2 : Below W1.heap.size W1 W2 := by rw [← HW2.out]; exact (Below.refl _ _).alloc (Nat.le_refl _) _
  have hb3 : Below W2.heap.size W2 W3 := by rw [← HW3.out]; exact (Below.refl _ _).alloc (Nat.le_refl _) _
  have hm1 : MB W1 g m s := by rw [← HW1.out, hg]; exact heap_alloc_new _ _
  have hm2 : MB W2 (g + 1) zMs zSl := by rw [← HW2.out, ← hz1]; exact heap_alloc_new _ _
  have hm3 : MB W3 (g + 2) (m1 m) zSl := by rw [← HW3.out, ← hz2]; exact heap_alloc_new _ _
  have hm1' : MB W2 g m s := (hb2.block g (by omega)).trans hm1
  have hBr : Br w g m s (m1 m) zSl W3 := ⟨hb1.trans ((hb2.mono (by omega)).trans (hb3.mono (by omega))), (hb3.block g (by omega)).trans hm1', (hb3.block (g + 1) (by omega)).trans hm2, hm3⟩
  have hgw : w.heap.size ≤ g := by omega
  obtain ⟨c0, c1, -⟩ := mb_cells hm1'
  have d0 := (mb_cells hBr.b1).1
  rw [hty] at d0
  obtain ⟨V1, HV1⟩ : ∃ V, Hid (W3.setCell ⟨g + 2, 35, none⟩ (.int .u16 m.co) = V) := ⟨_, rfl⟩
  have hB1 : Br w g m s (⟨m.ty, m.id, 0, zRl, 0, false, 0, [], [], [], [], m.co⟩ : Ms) zSl V1 := by rw [← HV1.out]; exact hBr.set hgw (by exact set_co _ _ _)
  obtain ⟨-, -, -, -, -, -, -, -, -, -, k1⟩ := mb_cells hBr.b1
  obtain ⟨-, -, -, -, -, -, -, -, -, -, l1⟩ := mb_cells hBr.b4
  have f1 := mb_free hBr.b4 35
  have HOne := hid (hB1.one ⟨rfl, rfl, rfl, rfl, rfl⟩)
  have HFin := hid (hB1.fin hgw)
  have HL := hid hB1.b4
  have HZ := hid hB1.b2
  have HE : Hid (brM m = (⟨m.ty, m.id, 0, zRl, 0, false, 0, [], [], [], [], m.co⟩ : Ms) ∧ brS m s = zSl ∧ isTy m.ty = true) := by
    refine And.intro ?_ (And.intro ?_ ?_)
    · unfold brM; rw [if_neg (by omega), if_neg (by omega), if_neg (by omega), if_neg (by omega), if_neg (by omega), if_pos hty]; first | done | rfl
    · unfold brS; rw [if_neg (by omega), if_neg (by omega), if_neg (by omega), if_neg (by omega)]
    · rw [hty]; rfl
  clear hty ecp eps eed efr ehs hBr hB1
  have HG := hid hg
  have HZ1 := hid hz1
  have HZ2 := hid hz2
  clear hg hz1 hz2 hb1 hb2 hb3 hm1 hm2 hm3 hm1' hs
  go_enter Tryz.func48, Tryz.ntmps48
  go_upto_region 1 with (refine bxMs (.tmp 0) rfl rfl m s rfl W1 HW1 ?_)
  rw [← zero_ms0, HW2.out, HZ1.out, ← HG.out]
  go_upto_region 2 with (first
    | (refine bldBr (.tmp 6) (.tmp 8) m.ty m.id rfl rfl rfl rfl ?_)
    | (refine stNew 37 (.tmp 4) (.tmp 9) rfl rfl W2 37 _ (msc (m1 m) zSl) rfl rfl rfl (sizeMs _ _) (by rw [msc_size]; rfl) (msc_one _ _ rfl rfl rfl rfl rfl) ?_))
  rw [HW3.out, HZ2.out]
  go_upto_region 30 with fail
  rw [HV1.out]
  go_wp2_with (first
    | (refine ldRow 37 (.tmp 4) rfl rfl (g + 2) rfl 37 (msc (⟨m.ty, m.id, 0, zRl, 0, false, 0, [], [], [], [], m.co⟩ : Ms) zSl) _ Tryz.underlying37 rfl (sizeMs _ _) HL.out ?_)
    | (refine stRow 37 (.tmp 2) (.tmp 70) rfl rfl (g + 1) (msc (⟨m.ty, m.id, 0, zRl, 0, false, 0, [], [], [], [], m.co⟩ : Ms) zSl) rfl rfl 37 (msc zMs zSl) HZ.out (sizeMs _ _) (by rw [msc_size, msc_size]) HOne.out ?_))
  refine bodyPost_ret (v := .tuple #[.agg (msc (⟨m.ty, m.id, 0, zRl, 0, false, 0, [], [], [], [], m.co⟩ : Ms) zSl), .bool true]) (resBr _ _ (g + 1) (⟨m.ty, m.id, 0, zRl, 0, false, 0, [], [], [], [], m.co⟩ : Ms) zSl _ rfl rfl HFin.out.1) rfl ?_
  exact ⟨HFin.out.2, by rw [HE.out.1, HE.out.2.1, HE.out.2.2]⟩
end Go.Proofs.YtllbbbfkdgjffaaGreatDoor
