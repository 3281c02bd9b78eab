/-
  Proved here: the document's bare at one kind of type (4). Condition: the message's memory is as it says.
-/
/-
  Proved here: the document's bare at one kind of type (5). Condition: the message's memory is as it says.
-/
/-
  Proved here: the document's bare at one kind of type (6). Condition: the message's memory is as it says.
-/
/-
  Proved here: the document's bare at one kind of type (7). Condition: the message's memory is as it says.
-/
import Derived.Test.YtllbbbfkdgjffaaGreatDoorOP
namespace Go.Proofs.YtllbbbfkdgjffaaGreatDoor
open Go.RowKit

set_option maxHeartbeats 6400000 in
set_option maxRecDepth 100000 in
theorem bare_4 {T : Nat → Prop} (m : Ms) (s : Sls) (w : World) (hs : Mss T w m s) (hty : m.ty = 4) :
    Calls Tryz.prog 48 #[.agg (msc m s)] w (BrP w m s) := by
  obtain ⟨acp, ccp, ecp, -⟩ := hs.cp.form
  obtain ⟨aps, cps, eps, -⟩ := hs.ps.form
  obtain ⟨aed, ced, eed, -⟩ := hs.ed.form
  obtain ⟨afr, cfr, efr, -⟩ := hs.fr
  obtain ⟨ahs, chs, ehs, -⟩ := hs.hs.form
  obtain ⟨W1, HW1⟩ : ∃ W, Hid (w.alloc (.cells (msc m s) 37) = W) := ⟨_, rfl⟩
  obtain ⟨W2, HW2⟩ : ∃ W, Hid (W1.alloc (.cells (msc zMs zSl) 37) = W) := ⟨_, rfl⟩
  obtain ⟨W3, HW3⟩ : ∃ W, Hid (W2.alloc (.cells (msc (m1 m) zSl) 37) = W) := ⟨_, rfl⟩
  obtain ⟨g, hg⟩ : ∃ g, g = w.heap.size := ⟨_, rfl⟩
  have hz1 : W1.heap.size = g + 1 := by rw [← HW1.out, hg]; simp
  have hz2 : W2.heap.size = g + 2 := by rw [← HW2.out]; simp [hz1]
  have hb1 : Below w.heap.size w W1 := by rw [← HW1.out]; exact (Below.refl _ _).alloc (Nat.le_refl _) _
  have hb2 : Below W1.heap.size W1 W2 := by rw [← HW2.out]; exact (Below.refl _ _).alloc (Nat.le_refl _) _
  have hb3 : Below W2.heap.size W2 W3 := by rw [← HW3.out]; exact (Below.refl _ _).alloc (Nat.le_refl _) _
  have hm1 : MB W1 g m s := by rw [← HW1.out, hg]; exact heap_alloc_new _ _
  have hm2 : MB W2 (g + 1) zMs zSl := by rw [← HW2.out, ← hz1]; exact heap_alloc_new _ _
  have hm3 : MB W3 (g + 2) (m1 m) zSl := by rw [← HW3.out, ← hz2]; exact heap_alloc_new _ _
  have hm1' : MB W2 g m s := (hb2.block g (by omega)).trans hm1
  have hBr : Br w g m s (m1 m) zSl W3 := ⟨hb1.trans ((hb2.mono (by omega)).trans (hb3.mono (by omega))), (hb3.block g (by omega)).trans hm1', (hb3.block (g + 1) (by omega)).trans hm2, hm3⟩
  have hgw : w.heap.size ≤ g := by omega
  obtain ⟨c0, c1, -⟩ := mb_cells hm1'
  have d0 := (mb_cells hBr.b1).1
  rw [hty] at d0
  obtain ⟨V1, HV1⟩ : ∃ V, Hid (W3.setCell ⟨g + 2, 30, none⟩ (.int .u16 m.sw) = V) := ⟨_, rfl⟩
  have hB1 : Br w g m s (⟨m.ty, m.id, 0, zRl, 0, false, m.sw, [], [], [], [], 0⟩ : Ms) zSl V1 := by rw [← HV1.out]; exact hBr.set hgw (by exact set_sw _ _ _)
  obtain ⟨-, -, -, -, -, k1, -⟩ := mb_cells hBr.b1
  obtain ⟨-, -, -, -, -, l1, -⟩ := mb_cells hBr.b4
  have f1 := mb_free hBr.b4 30
  obtain ⟨V2, HV2⟩ : ∃ V, Hid (V1.setCell ⟨g + 2, 31, none⟩ (.slice aps m.ps.length cps) = V) := ⟨_, rfl⟩
  have hB2 : Br w g m s (⟨m.ty, m.id, 0, zRl, 0, false, m.sw, m.ps, [], [], [], 0⟩ : Ms) (⟨nilS, s.ps, nilS, nilS, nilS⟩ : Sls) V2 := by rw [← HV2.out]; exact hB1.set hgw (by rw [← eps]; exact set_ps _ _ m.ps _)
  obtain ⟨-, -, -, -, -, -, k2, -⟩ := mb_cells hB1.b1
  obtain ⟨-, -, -, -, -, -, l2, -⟩ := mb_cells hB1.b4
  rw [eps] at k2
  have f2 := mb_free hB1.b4 31
  obtain ⟨V3, HV3⟩ : ∃ V, Hid (V2.setCell ⟨g + 2, 32, none⟩ (.slice aed m.ed.length ced) = V) := ⟨_, rfl⟩
  have hB3 : Br w g m s (⟨m.ty, m.id, 0, zRl, 0, false, m.sw, m.ps, m.ed, [], [], 0⟩ : Ms) (⟨nilS, s.ps, s.ed, nilS, nilS⟩ : Sls) V3 := by rw [← HV3.out]; exact hB2.set hgw (by rw [← eed]; exact set_ed _ _ m.ed _)
  obtain ⟨-, -, -, -, -, -, -, k3, -⟩ := mb_cells hB2.b1
  obtain ⟨-, -, -, -, -, -, -, l3, -⟩ := mb_cells hB2.b4
  rw [eed] at k3
  have f3 := mb_free hB2.b4 32
  have HOne := hid (hB3.one ⟨rfl, by rw [eps]; rfl, by rw [eed]; rfl, rfl, rfl⟩)
  have HFin := hid (hB3.fin hgw)
  have HL := hid hB3.b4
  have HZ := hid hB3.b2
  have HE : Hid (brM m = (⟨m.ty, m.id, 0, zRl, 0, false, m.sw, m.ps, m.ed, [], [], 0⟩ : Ms) ∧ brS m s = (⟨nilS, s.ps, s.ed, nilS, nilS⟩ : Sls) ∧ isTy m.ty = true) := by
    refine And.intro ?_ (And.intro ?_ ?_)
    · unfold brM; rw [if_pos hty]; first | done | rfl
    · unfold brS; rw [if_pos hty]; first | done | rfl
    · rw [hty]; rfl
  clear hty ecp eps eed efr ehs hBr hB1 hB2 hB3
  have HG := hid hg
  have HZ1 := hid hz1
  have HZ2 := hid hz2
  clear hg hz1 hz2 hb1 hb2 hb3 hm1 hm2 hm3 hm1' hs
  go_enter Tryz.func48, Tryz.ntmps48
  go_upto_region 1 with (refine bxMs (.tmp 0) rfl rfl m s rfl W1 HW1 ?_)
  rw [← zero_ms0, HW2.out, HZ1.out, ← HG.out]
  go_upto_region 2 with (first
    | (refine bldBr (.tmp 6) (.tmp 8) m.ty m.id rfl rfl rfl rfl ?_)
    | (refine stNew 37 (.tmp 4) (.tmp 9) rfl rfl W2 37 _ (msc (m1 m) zSl) rfl rfl rfl (sizeMs _ _) (by rw [msc_size]; rfl) (msc_one _ _ rfl rfl rfl rfl rfl) ?_))
  rw [HW3.out, HZ2.out]
  go_upto_region 13 with fail
  rw [HV1.out]
  go_upto_region 14 with fail
  rw [HV2.out]
  go_upto_region 30 with fail
  rw [HV3.out]
  go_wp2_with (first
    | (refine ldRow 37 (.tmp 4) rfl rfl (g + 2) rfl 37 (msc (⟨m.ty, m.id, 0, zRl, 0, false, m.sw, m.ps, m.ed, [], [], 0⟩ : Ms) (⟨nilS, s.ps, s.ed, nilS, nilS⟩ : Sls)) _ Tryz.underlying37 rfl (sizeMs _ _) HL.out ?_)
    | (refine stRow 37 (.tmp 2) (.tmp 70) rfl rfl (g + 1) (msc (⟨m.ty, m.id, 0, zRl, 0, false, m.sw, m.ps, m.ed, [], [], 0⟩ : Ms) (⟨nilS, s.ps, s.ed, nilS, nilS⟩ : Sls)) rfl rfl 37 (msc zMs zSl) HZ.out (sizeMs _ _) (by rw [msc_size, msc_size]) HOne.out ?_))
  refine bodyPost_ret (v := .tuple #[.agg (msc (⟨m.ty, m.id, 0, zRl, 0, false, m.sw, m.ps, m.ed, [], [], 0⟩ : Ms) (⟨nilS, s.ps, s.ed, nilS, nilS⟩ : Sls)), .bool true]) (resBr _ _ (g + 1) (⟨m.ty, m.id, 0, zRl, 0, false, m.sw, m.ps, m.ed, [], [], 0⟩ : Ms) (⟨nilS, s.ps, s.ed, nilS, nilS⟩ : Sls) _ rfl rfl HFin.out.1) rfl ?_
  exact ⟨HFin.out.2, by rw [HE.out.1, HE.out.2.1, HE.out.2.2]⟩
end Go.Proofs.YtllbbbfkdgjffaaGreatDoor
namespace Go.Proofs.YtllbbbfkdgjffaaGreatDoor
open Go.RowKit

set_option maxHeartbeats 6400000 in
set_option maxRecDepth 100000 in
theorem bare_5 {T : Nat → Prop} (m : Ms) (s : Sls) (w : World) (hs : Mss T w m s) (hty : m.ty = 5) :
    Calls Tryz.prog 48 #[.agg (msc m s)] w (BrP w m s) := by
  obtain ⟨acp, ccp, ecp, -⟩ := hs.cp.form
  obtain ⟨aps, cps, eps, -⟩ := hs.ps.form
  obtain ⟨aed, ced, eed, -⟩ := hs.ed.form
  obtain ⟨afr, cfr, efr, -⟩ := hs.fr
  obtain ⟨ahs, chs, ehs, -⟩ := hs.hs.form
  obtain ⟨W1, HW1⟩ : ∃ W, Hid (w.alloc (.cells (msc m s) 37) = W) := ⟨_, rfl⟩
  obtain ⟨W2, HW2⟩ : ∃ W, Hid (W1.alloc (.cells (msc zMs zSl) 37) = W) := ⟨_, rfl⟩
  obtain ⟨W3, HW3⟩ : ∃ W, Hid (W2.alloc (.cells (msc (m1 m) zSl) 37) = W) := ⟨_, rfl⟩
  obtain ⟨g, hg⟩ : ∃ g, g = w.heap.size := ⟨_, rfl⟩
  have hz1 : W1.heap.size = g + 1 := by rw [← HW1.out, hg]; simp
  have hz2 : W2.heap.size = g + 2 := by rw [← HW2.out]; simp [hz1]
  have hb1 : Below w.heap.size w W1 := by rw [← HW1.out]; exact (Below.refl _ _).alloc (Nat.le_refl _) _
  have hb2 : Below W1.heap.size W1 W2 := by rw [← HW2.out]; exact (Below.refl _ _).alloc (Nat.le_refl _) _
  have hb3 : Below W2.heap.size W2 W3 := by rw [← HW3.out]; exact (Below.refl _ _).alloc (Nat.le_refl _) _
  have hm1 : MB W1 g m s := by rw [← HW1.out, hg]; exact heap_alloc_new _ _
  have hm2 : MB W2 (g + 1) zMs zSl := by rw [← HW2.out, ← hz1]; exact heap_alloc_new _ _
  have hm3 : MB W3 (g + 2) (m1 m) zSl := by rw [← HW3.out, ← hz2]; exact heap_alloc_new _ _
  have hm1' : MB W2 g m s := (hb2.block g (by omega)).trans hm1
  have hBr : Br w g m s (m1 m) zSl W3 := ⟨hb1.trans ((hb2.mono (by omega)).trans (hb3.mono (by omega))), (hb3.block g (by omega)).trans hm1', (hb3.block (g + 1) (by omega)).trans hm2, hm3⟩
  have hgw : w.heap.size ≤ g := by omega
  obtain ⟨c0, c1, -⟩ := mb_cells hm1'
  have d0 := (mb_cells hBr.b1).1
  rw [hty] at d0
  obtain ⟨V1, HV1⟩ : ∃ V, Hid (W3.setCell ⟨g + 2, 2, none⟩ (.int .i8 m.dw) = V) := ⟨_, rfl⟩
  have hB1 : Br w g m s (⟨m.ty, m.id, m.dw, zRl, 0, false, 0, [], [], [], [], 0⟩ : Ms) zSl V1 := by rw [← HV1.out]; exact hBr.set hgw (by exact set_dw _ _ _)
  obtain ⟨-, -, k1, -⟩ := mb_cells hBr.b1
  obtain ⟨-, -, l1, -⟩ := mb_cells hBr.b4
  have f1 := mb_free hBr.b4 2
  obtain ⟨V2, HV2⟩ : ∃ V, Hid (V1.setCells (g + 2) 3 (rlc m.r s.cp).toList = V) := ⟨_, rfl⟩
  have hB2 : Br w g m s (⟨m.ty, m.id, m.dw, m.r, 0, false, 0, [], [], [], [], 0⟩ : Ms) (⟨s.cp, nilS, nilS, nilS, nilS⟩ : Sls) V2 := by rw [← HV2.out]; exact hB1.rule hgw
  have HRt2 := hid hB1.there
  have HRs2 := hid (mb_range hB1.b1)
  have HRo2 := hid (rlc_one (r := m.r) (u := s.cp) (by rw [ecp]; rfl))
  have HOne := hid (hB2.one ⟨by rw [ecp]; rfl, rfl, rfl, rfl, rfl⟩)
  have HFin := hid (hB2.fin hgw)
  have HL := hid hB2.b4
  have HZ := hid hB2.b2
  have HE : Hid (brM m = (⟨m.ty, m.id, m.dw, m.r, 0, false, 0, [], [], [], [], 0⟩ : Ms) ∧ brS m s = (⟨s.cp, nilS, nilS, nilS, nilS⟩ : Sls) ∧ isTy m.ty = true) := by
    refine And.intro ?_ (And.intro ?_ ?_)
    · unfold brM; rw [if_neg (by omega), if_pos hty]; first | done | rfl
    · unfold brS; rw [if_neg (by omega), if_pos hty]; first | done | rfl
    · rw [hty]; rfl
  clear hty ecp eps eed efr ehs hBr hB1 hB2
  have HG := hid hg
  have HZ1 := hid hz1
  have HZ2 := hid hz2
  clear hg hz1 hz2 hb1 hb2 hb3 hm1 hm2 hm3 hm1' hs
  go_enter Tryz.func48, Tryz.ntmps48
  go_upto_region 1 with (refine bxMs (.tmp 0) rfl rfl m s rfl W1 HW1 ?_)
  rw [← zero_ms0, HW2.out, HZ1.out, ← HG.out]
  go_upto_region 2 with (first
    | (refine bldBr (.tmp 6) (.tmp 8) m.ty m.id rfl rfl rfl rfl ?_)
    | (refine stNew 37 (.tmp 4) (.tmp 9) rfl rfl W2 37 _ (msc (m1 m) zSl) rfl rfl rfl (sizeMs _ _) (by rw [msc_size]; rfl) (msc_one _ _ rfl rfl rfl rfl rfl) ?_))
  rw [HW3.out, HZ2.out]
  go_upto_region 17 with fail
  rw [HV1.out]
  go_upto_region 30 with (first
    | (refine ldMid 31 (.tmp 37) rfl rfl g 3 rfl (rlc m.r s.cp) _ Tryz.underlying31 rfl (sizeRl _ _) HRs2.out ?_)
    | (refine stMid 31 (.tmp 39) (.tmp 38) rfl rfl (g + 2) 3 (rlc m.r s.cp) rfl rfl (by rw [rlc_size]; exact HRt2.out) (sizeRl _ _) HRo2.out ?_))
  rw [HV2.out]
  go_wp2_with (first
    | (refine ldRow 37 (.tmp 4) rfl rfl (g + 2) rfl 37 (msc (⟨m.ty, m.id, m.dw, m.r, 0, false, 0, [], [], [], [], 0⟩ : Ms) (⟨s.cp, nilS, nilS, nilS, nilS⟩ : Sls)) _ Tryz.underlying37 rfl (sizeMs _ _) HL.out ?_)
    | (refine stRow 37 (.tmp 2) (.tmp 70) rfl rfl (g + 1) (msc (⟨m.ty, m.id, m.dw, m.r, 0, false, 0, [], [], [], [], 0⟩ : Ms) (⟨s.cp, nilS, nilS, nilS, nilS⟩ : Sls)) rfl rfl 37 (msc zMs zSl) HZ.out (sizeMs _ _) (by rw [msc_size, msc_size]) HOne.out ?_))
  refine bodyPost_ret (v := .tuple #[.agg (msc (⟨m.ty, m.id, m.dw, m.r, 0, false, 0, [], [], [], [], 0⟩ : Ms) (⟨s.cp, nilS, nilS, nilS, nilS⟩ : Sls)), .bool true]) (resBr _ _ (g + 1) (⟨m.ty, m.id, m.dw, m.r, 0, false, 0, [], [], [], [], 0⟩ : Ms) (⟨s.cp, nilS, nilS, nilS, nilS⟩ : Sls) _ rfl rfl HFin.out.1) rfl ?_
  exact ⟨HFin.out.2, by rw [HE.out.1, HE.out.2.1, HE.out.2.2]⟩
end Go.Proofs.YtllbbbfkdgjffaaGreatDoor
namespace Go.Proofs.YtllbbbfkdgjffaaGreatDoor
open Go.RowKit

set_option maxHeartbeats 6400000 in
set_option maxRecDepth 100000 in
theorem bare_6 {T : Nat → Prop} (m : Ms) (s : Sls) (w : World) (hs : Mss T w m s) (hty : m.ty = 6) :
    Calls Tryz.prog 48 #[.agg (msc m s)] w (BrP w m s) := by
  obtain ⟨acp, ccp, ecp, -⟩ := hs.cp.form
  obtain ⟨aps, cps, eps, -⟩ := hs.ps.form
  obtain ⟨aed, ced, eed, -⟩ := hs.ed.form
  obtain ⟨afr, cfr, efr, -⟩ := hs.fr
  obtain ⟨ahs, chs, ehs, -⟩ := hs.hs.form
  obtain ⟨W1, HW1⟩ : ∃ W, Hid (w.alloc (.cells (msc m s) 37) = W) := ⟨_, rfl⟩
  obtain ⟨W2, HW2⟩ : ∃ W, Hid (W1.alloc (.cells (msc zMs zSl) 37) = W) := ⟨_, rfl⟩
  obtain ⟨W3, HW3⟩ : ∃ W, Hid (W2.alloc (.cells (msc (m1 m) zSl) 37) = W) := ⟨_, rfl⟩
  obtain ⟨g, hg⟩ : ∃ g, g = w.heap.size := ⟨_, rfl⟩
  have hz1 : W1.heap.size = g + 1 := by rw [← HW1.out, hg]; simp
  have hz2 : W2.heap.size = g + 2 := by rw [← HW2.out]; simp [hz1]
  have hb1 : Below w.heap.size w W1 := by rw [← HW1.out]; exact (Below.refl _ _).alloc (Nat.le_refl _) _
  have hb2 : Below W1.heap.size W1 W2 := by rw [← HW2.out]; exact (Below.refl _ _).alloc (Nat.le_refl _) _
  have hb3 : Below W2.heap.size W2 W3 := by rw [← HW3.out]; exact (Below.refl _ _).alloc (Nat.le_refl _) _
  have hm1 : MB W1 g m s := by rw [← HW1.out, hg]; exact heap_alloc_new _ _
  have hm2 : MB W2 (g + 1) zMs zSl := by rw [← HW2.out, ← hz1]; exact heap_alloc_new _ _
  have hm3 : MB W3 (g + 2) (m1 m) zSl := by rw [← HW3.out, ← hz2]; exact heap_alloc_new _ _
  have hm1' : MB W2 g m s := (hb2.block g (by omega)).trans hm1
  have hBr : Br w g m s (m1 m) zSl W3 := ⟨hb1.trans ((hb2.mono (by omega)).trans (hb3.mono (by omega))), (hb3.block g (by omega)).trans hm1', (hb3.block (g + 1) (by omega)).trans hm2, hm3⟩
  have hgw : w.heap.size ≤ g := by omega
  obtain ⟨c0, c1, -⟩ := mb_cells hm1'
  have d0 := (mb_cells hBr.b1).1
  rw [hty] at d0
  obtain ⟨V1, HV1⟩ : ∃ V, Hid (W3.setCell ⟨g + 2, 28, none⟩ (.int .u16 m.po) = V) := ⟨_, rfl⟩
  have hB1 : Br w g m s (⟨m.ty, m.id, 0, zRl, m.po, false, 0, [], [], [], [], 0⟩ : Ms) zSl V1 := by rw [← HV1.out]; exact hBr.set hgw (by exact set_po _ _ _)
  obtain ⟨-, -, -, k1, -⟩ := mb_cells hBr.b1
  obtain ⟨-, -, -, l1, -⟩ := mb_cells hBr.b4
  have f1 := mb_free hBr.b4 28
  obtain ⟨V2, HV2⟩ : ∃ V, Hid (V1.setCell ⟨g + 2, 33, none⟩ (.slice afr m.fr.length cfr) = V) := ⟨_, rfl⟩
  have hB2 : Br w g m s (⟨m.ty, m.id, 0, zRl, m.po, false, 0, [], [], m.fr, [], 0⟩ : Ms) (⟨nilS, nilS, nilS, s.fr, nilS⟩ : Sls) V2 := by rw [← HV2.out]; exact hB1.set hgw (by rw [← efr]; exact set_fr _ _ m.fr _)
  obtain ⟨-, -, -, -, -, -, -, -, k2, -⟩ := mb_cells hB1.b1
  obtain ⟨-, -, -, -, -, -, -, -, l2, -⟩ := mb_cells hB1.b4
  rw [efr] at k2
  have f2 := mb_free hB1.b4 33
  have HOne := hid (hB2.one ⟨rfl, rfl, rfl, by rw [efr]; rfl, rfl⟩)
  have HFin := hid (hB2.fin hgw)
  have HL := hid hB2.b4
  have HZ := hid hB2.b2
  have HE : Hid (brM m = (⟨m.ty, m.id, 0, zRl, m.po, false, 0, [], [], m.fr, [], 0⟩ : Ms) ∧ brS m s = (⟨nilS, nilS, nilS, s.fr, nilS⟩ : Sls) ∧ isTy m.ty = true) := by
    refine And.intro ?_ (And.intro ?_ ?_)
    · unfold brM; rw [if_neg (by omega), if_neg (by omega), if_pos (by omega)]; first | done | rfl
    · unfold brS; rw [if_neg (by omega), if_neg (by omega), if_pos (by omega)]; first | done | rfl
    · rw [hty]; rfl
  clear hty ecp eps eed efr ehs hBr hB1 hB2
  have HG := hid hg
  have HZ1 := hid hz1
  have HZ2 := hid hz2
  clear hg hz1 hz2 hb1 hb2 hb3 hm1 hm2 hm3 hm1' hs
  go_enter Tryz.func48, Tryz.ntmps48
  go_upto_region 1 with (refine bxMs (.tmp 0) rfl rfl m s rfl W1 HW1 ?_)
  rw [← zero_ms0, HW2.out, HZ1.out, ← HG.out]
  go_upto_region 2 with (first
    | (refine bldBr (.tmp 6) (.tmp 8) m.ty m.id rfl rfl rfl rfl ?_)
    | (refine stNew 37 (.tmp 4) (.tmp 9) rfl rfl W2 37 _ (msc (m1 m) zSl) rfl rfl rfl (sizeMs _ _) (by rw [msc_size]; rfl) (msc_one _ _ rfl rfl rfl rfl rfl) ?_))
  rw [HW3.out, HZ2.out]
  go_upto_region 21 with fail
  rw [HV1.out]
  go_upto_region 30 with fail
  rw [HV2.out]
  go_wp2_with (first
    | (refine ldRow 37 (.tmp 4) rfl rfl (g + 2) rfl 37 (msc (⟨m.ty, m.id, 0, zRl, m.po, false, 0, [], [], m.fr, [], 0⟩ : Ms) (⟨nilS, nilS, nilS, s.fr, nilS⟩ : Sls)) _ Tryz.underlying37 rfl (sizeMs _ _) HL.out ?_)
    | (refine stRow 37 (.tmp 2) (.tmp 70) rfl rfl (g + 1) (msc (⟨m.ty, m.id, 0, zRl, m.po, false, 0, [], [], m.fr, [], 0⟩ : Ms) (⟨nilS, nilS, nilS, s.fr, nilS⟩ : Sls)) rfl rfl 37 (msc zMs zSl) HZ.out (sizeMs _ _) (by rw [msc_size, msc_size]) HOne.out ?_))
  refine bodyPost_ret (v := .tuple #[.agg (msc (⟨m.ty, m.id, 0, zRl, m.po, false, 0, [], [], m.fr, [], 0⟩ : Ms) (⟨nilS, nilS, nilS, s.fr, nilS⟩ : Sls)), .bool true]) (resBr _ _ (g + 1) (⟨m.ty, m.id, 0, zRl, m.po, false, 0, [], [], m.fr, [], 0⟩ : Ms) (⟨nilS, nilS, nilS, s.fr, nilS⟩ : Sls) _ rfl rfl HFin.out.1) rfl ?_
  exact ⟨HFin.out.2, by rw [HE.out.1, HE.out.2.1, HE.out.2.2]⟩
end Go.Proofs.YtllbbbfkdgjffaaGreatDoor
namespace Go.Proofs.YtllbbbfkdgjffaaGreatDoor
open Go.RowKit

set_option maxHeartbeats 6400000 in
set_option maxRecDepth 100000 in
theorem bare_7 {T : Nat → Prop} (m : Ms) (s : Sls) (w : World) (hs : Mss T w m s) (hty : m.ty = 7) :
    Calls Tryz.prog 48 #[.agg (msc m s)] w (BrP w m s) := by
  obtain ⟨acp, ccp, ecp, -⟩ := hs.cp.form
  obtain ⟨aps, cps, eps, -⟩ := hs.ps.form
  obtain ⟨aed, ced, eed, -⟩ := hs.ed.form
  obtain ⟨afr, cfr, efr, -⟩ := hs.fr
  obtain ⟨ahs, chs, ehs, -⟩ := hs.hs.form
  obtain ⟨W1, HW1⟩ : ∃ W, Hid (w.alloc (.cells (msc m s) 37) = W) := ⟨_, rfl⟩
  obtain ⟨W2, HW2⟩ : ∃ W, Hid (W1.alloc (.cells (msc zMs zSl) 37) = W) := ⟨_, rfl⟩
  obtain ⟨W3, HW3⟩ : ∃ W, Hid (W2.alloc (.cells (msc (m1 m) zSl) 37) = W) := ⟨_, rfl⟩
  obtain ⟨g, hg⟩ : ∃ g, g = w.heap.size := ⟨_, rfl⟩
  have hz1 : W1.heap.size = g + 1 := by rw [← HW1.out, hg]; simp
  have hz2 : W2.heap.size = g + 2 := by rw [← HW2.out]; simp [hz1]
  have hb1 : Below w.heap.size w W1 := by rw [← HW1.out]; exact (Below.refl _ _).alloc (Nat.le_refl _) _
  have hb2 : Below W1.heap.size W1 W2 := by rw [← HW2.out]; exact (Below.refl _ _).alloc (Nat.le_refl _) _
  have hb3 : Below W2.heap.size W2 W3 := by rw [← HW3.out]; exact (Below.refl _ _).alloc (Nat.le_refl _) _
  have hm1 : MB W1 g m s := by rw [← HW1.out, hg]; exact heap_alloc_new _ _
  have hm2 : MB W2 (g + 1) zMs zSl := by rw [← HW2.out, ← hz1]; exact heap_alloc_new _ _
  have hm3 : MB W3 (g + 2) (m1 m) zSl := by rw [← HW3.out, ← hz2]; exact heap_alloc_new _ _
  have hm1' : MB W2 g m s := (hb2.block g (by omega)).trans hm1
  have hBr : Br w g m s (m1 m) zSl W3 := ⟨hb1.trans ((hb2.mono (by omega)).trans (hb3.mono (by omega))), (hb3.block g (by omega)).trans hm1', (hb3.block (g + 1) (by omega)).trans hm2, hm3⟩
  have hgw : w.heap.size ≤ g := by omega
  obtain ⟨c0, c1, -⟩ := mb_cells hm1'
  have d0 := (mb_cells hBr.b1).1
  rw [hty] at d0
  obtain ⟨V1, HV1⟩ : ∃ V, Hid (W3.setCell ⟨g + 2, 28, none⟩ (.int .u16 m.po) = V) := ⟨_, rfl⟩
  have hB1 : Br w g m s (⟨m.ty, m.id, 0, zRl, m.po, false, 0, [], [], [], [], 0⟩ : Ms) zSl V1 := by rw [← HV1.out]; exact hBr.set hgw (by exact set_po _ _ _)
  obtain ⟨-, -, -, k1, -⟩ := mb_cells hBr.b1
  obtain ⟨-, -, -, l1, -⟩ := mb_cells hBr.b4
  have f1 := mb_free hBr.b4 28
  obtain ⟨V2, HV2⟩ : ∃ V, Hid (V1.setCell ⟨g + 2, 33, none⟩ (.slice afr m.fr.length cfr) = V) := ⟨_, rfl⟩
  have hB2 : Br w g m s (⟨m.ty, m.id, 0, zRl, m.po, false, 0, [], [], m.fr, [], 0⟩ : Ms) (⟨nilS, nilS, nilS, s.fr, nilS⟩ : Sls) V2 := by rw [← HV2.out]; exact hB1.set hgw (by rw [← efr]; exact set_fr _ _ m.fr _)
  obtain ⟨-, -, -, -, -, -, -, -, k2, -⟩ := mb_cells hB1.b1
  obtain ⟨-, -, -, -, -, -, -, -, l2, -⟩ := mb_cells hB1.b4
  rw [efr] at k2
  have f2 := mb_free hB1.b4 33
  have HOne := hid (hB2.one ⟨rfl, rfl, rfl, by rw [efr]; rfl, rfl⟩)
  have HFin := hid (hB2.fin hgw)
  have HL := hid hB2.b4
  have HZ := hid hB2.b2
  have HE : Hid (brM m = (⟨m.ty, m.id, 0, zRl, m.po, false, 0, [], [], m.fr, [], 0⟩ : Ms) ∧ brS m s = (⟨nilS, nilS, nilS, s.fr, nilS⟩ : Sls) ∧ isTy m.ty = true) := by
    refine And.intro ?_ (And.intro ?_ ?_)
    · unfold brM; rw [if_neg (by omega), if_neg (by omega), if_pos (by omega)]; first | done | rfl
    · unfold brS; rw [if_neg (by omega), if_neg (by omega), if_pos (by omega)]; first | done | rfl
    · rw [hty]; rfl
  clear hty ecp eps eed efr ehs hBr hB1 hB2
  have HG := hid hg
  have HZ1 := hid hz1
  have HZ2 := hid hz2
  clear hg hz1 hz2 hb1 hb2 hb3 hm1 hm2 hm3 hm1' hs
  go_enter Tryz.func48, Tryz.ntmps48
  go_upto_region 1 with (refine bxMs (.tmp 0) rfl rfl m s rfl W1 HW1 ?_)
  rw [← zero_ms0, HW2.out, HZ1.out, ← HG.out]
  go_upto_region 2 with (first
    | (refine bldBr (.tmp 6) (.tmp 8) m.ty m.id rfl rfl rfl rfl ?_)
    | (refine stNew 37 (.tmp 4) (.tmp 9) rfl rfl W2 37 _ (msc (m1 m) zSl) rfl rfl rfl (sizeMs _ _) (by rw [msc_size]; rfl) (msc_one _ _ rfl rfl rfl rfl rfl) ?_))
  rw [HW3.out, HZ2.out]
  go_upto_region 21 with fail
  rw [HV1.out]
  go_upto_region 30 with fail
  rw [HV2.out]
  go_wp2_with (first
    | (refine ldRow 37 (.tmp 4) rfl rfl (g + 2) rfl 37 (msc (⟨m.ty, m.id, 0, zRl, m.po, false, 0, [], [], m.fr, [], 0⟩ : Ms) (⟨nilS, nilS, nilS, s.fr, nilS⟩ : Sls)) _ Tryz.underlying37 rfl (sizeMs _ _) HL.out ?_)
    | (refine stRow 37 (.tmp 2) (.tmp 70) rfl rfl (g + 1) (msc (⟨m.ty, m.id, 0, zRl, m.po, false, 0, [], [], m.fr, [], 0⟩ : Ms) (⟨nilS, nilS, nilS, s.fr, nilS⟩ : Sls)) rfl rfl 37 (msc zMs zSl) HZ.out (sizeMs _ _) (by rw [msc_size, msc_size]) HOne.out ?_))
  refine bodyPost_ret (v := .tuple #[.agg (msc (⟨m.ty, m.id, 0, zRl, m.po, false, 0, [], [], m.fr, [], 0⟩ : Ms) (⟨nilS, nilS, nilS, s.fr, nilS⟩ : Sls)), .bool true]) (resBr _ _ (g + 1) (⟨m.ty, m.id, 0, zRl, m.po, false, 0, [], [], m.fr, [], 0⟩ : Ms) (⟨nilS, nilS, nilS, s.fr, nilS⟩ : Sls) _ rfl rfl HFin.out.1) rfl ?_
  exact ⟨HFin.out.2, by rw [HE.out.1, HE.out.2.1, HE.out.2.2]⟩
end Go.Proofs.YtllbbbfkdgjffaaGreatDoor
