/-
  Proved here: the document's bare at one kind of type (11). Condition: the message's memory is as it says.
-/
/-
  Proved here: the document's bare at one kind of type (12). Condition: the message's memory is as it says.
-/
/-
  Proved here: the document's bare at one kind of type (13). Condition: the message's memory is as it says.
-/
/-
  Proved here: the document's bare at one kind of type (none). Condition: the message's memory is as it says.
-/
/-
  Proved here: the document's bare at one kind of type (all). Condition: the message's memory is as it says.
-/
/-
  Proved here: what the document's bare keeps lies in memory as it says. No condition.
-/
/-
  Proved here: the document's only (of package tollbridgeref07) tells whether a message has nothing but what counts; no old memory turns. Condition: the message's memory is as it says.
-/
import Derived.Test.YtllbbbfkdgjffaaGreatDoorOP
import Derived.Test.YtllbbbfkdgjffaaGreatDoorOP0
import Derived.Test.YtllbbbfkdgjffaaGreatDoorOP7
import Derived.Test.YtllbbbfkdgjffaaGreatDoorR1
namespace Go.Proofs.YtllbbbfkdgjffaaGreatDoor
open Go.RowKit

set_option maxHeartbeats 6400000 in
set_option maxRecDepth 100000 in
theorem bare_11 {T : Nat → Prop} (m : Ms) (s : Sls) (w : World) (hs : Mss T w m s) (hty : m.ty = 11) :
    Calls Tryz.prog 48 #[.agg (msc m s)] w (BrP w m s) := by
  obtain ⟨acp, ccp, ecp, -⟩ := hs.cp.form
  obtain ⟨aps, cps, eps, -⟩ := hs.ps.form
  obtain ⟨aed, ced, eed, -⟩ := hs.ed.form
  obtain ⟨afr, cfr, efr, -⟩ := hs.fr
  obtain ⟨ahs, chs, ehs, -⟩ := hs.hs.form
  obtain ⟨W1, HW1⟩ : ∃ W, Hid (w.alloc (.cells (msc m s) 37) = W) := ⟨_, rfl⟩
  obtain ⟨W2, HW2⟩ : ∃ W, Hid (W1.alloc (.cells (msc zMs zSl) 37) = W) := ⟨_, rfl⟩
  obtain ⟨W3, HW3⟩ : ∃ W, Hid (W2.alloc (.cells (msc (m1 m) zSl) 37) = W) := ⟨_, rfl⟩
  obtain ⟨g, hg⟩ : ∃ g, g = w.heap.size := ⟨_, rfl⟩
  have hz1 : W1.heap.size = g + 1 := by rw [← HW1.out, hg]; simp
  have hz2 : W2.heap.size = g + 2 := by rw [← HW2.out]; simp [hz1]
  have hb1 : Below w.heap.size w W1 := by rw [← HW1.out]; exact (Below.refl _ _).alloc (Nat.le_refl _) _
  have hb2 : Below W1.heap.size W1 W2 := by rw [← HW2.out]; exact (Below.refl _ _).alloc (Nat.le_refl _) _
  have hb3 : Below W2.heap.size W2 W3 := by rw [← HW3.out]; exact (Below.refl _ _).alloc (Nat.le_refl _) _
  have hm1 : MB W1 g m s := by rw [← HW1.out, hg]; exact heap_alloc_new _ _
  have hm2 : MB W2 (g + 1) zMs zSl := by rw [← HW2.out, ← hz1]; exact heap_alloc_new _ _
  have hm3 : MB W3 (g + 2) (m1 m) zSl := by rw [← HW3.out, ← hz2]; exact heap_alloc_new _ _
  have hm1' : MB W2 g m s := (hb2.block g (by omega)).trans hm1
  have hBr : Br w g m s (m1 m) zSl W3 := ⟨hb1.trans ((hb2.mono (by omega)).trans (hb3.mono (by omega))), (hb3.block g (by omega)).trans hm1', (hb3.block (g + 1) (by omega)).trans hm2, hm3⟩
  have hgw : w.heap.size ≤ g := by omega
  obtain ⟨c0, c1, -⟩ := mb_cells hm1'
  have d0 := (mb_cells hBr.b1).1
  rw [hty] at d0
  obtain ⟨V1, HV1⟩ : ∃ V, Hid (W3.setCell ⟨g + 2, 28, none⟩ (.int .u16 m.po) = V) := ⟨_, rfl⟩
  have hB1 : Br w g m s (⟨m.ty, m.id, 0, zRl, m.po, false, 0, [], [], [], [], 0⟩ : Ms) zSl V1 := by rw [← HV1.out]; exact hBr.set hgw (by exact set_po _ _ _)
  obtain ⟨-, -, -, k1, -⟩ := mb_cells hBr.b1
  obtain ⟨-, -, -, l1, -⟩ := mb_cells hBr.b4
  have f1 := mb_free hBr.b4 28
  obtain ⟨V2, HV2⟩ : ∃ V, Hid (V1.setCell ⟨g + 2, 34, none⟩ (.slice ahs m.hs.length chs) = V) := ⟨_, rfl⟩
  have hB2 : Br w g m s (⟨m.ty, m.id, 0, zRl, m.po, false, 0, [], [], [], m.hs, 0⟩ : Ms) (⟨nilS, nilS, nilS, nilS, s.hs⟩ : Sls) V2 := by rw [← HV2.out]; exact hB1.set hgw (by rw [← ehs]; exact set_hs _ _ m.hs _)
  obtain ⟨-, -, -, -, -, -, -, -, -, k2, -⟩ := mb_cells hB1.b1
  obtain ⟨-, -, -, -, -, -, -, -, -, l2, -⟩ := mb_cells hB1.b4
  rw [ehs] at k2
  have f2 := mb_free hB1.b4 34
  have HOne := hid (hB2.one ⟨rfl, rfl, rfl, rfl, by rw [ehs]; rfl⟩)
  have HFin := hid (hB2.fin hgw)
  have HL := hid hB2.b4
  have HZ := hid hB2.b2
  have HE : Hid (brM m = (⟨m.ty, m.id, 0, zRl, m.po, false, 0, [], [], [], m.hs, 0⟩ : Ms) ∧ brS m s = (⟨nilS, nilS, nilS, nilS, s.hs⟩ : Sls) ∧ isTy m.ty = true) := by
    refine And.intro ?_ (And.intro ?_ ?_)
    · unfold brM; rw [if_neg (by omega), if_neg (by omega), if_neg (by omega), if_pos hty]; first | done | rfl
    · unfold brS; rw [if_neg (by omega), if_neg (by omega), if_neg (by omega), if_pos hty]; first | done | rfl
    · rw [hty]; rfl
  clear hty ecp eps eed efr ehs hBr hB1 hB2
  have HG := hid hg
  have HZ1 := hid hz1
  have HZ2 := hid hz2
  clear hg hz1 hz2 hb1 hb2 hb3 hm1 hm2 hm3 hm1' hs
  go_enter Tryz.func48, Tryz.ntmps48
  go_upto_region 1 with (refine bxMs (.tmp 0) rfl rfl m s rfl W1 HW1 ?_)
  rw [← zero_ms0, HW2.out, HZ1.out, ← HG.out]
  go_upto_region 2 with (first
    | (refine bldBr (.tmp 6) (.tmp 8) m.ty m.id rfl rfl rfl rfl ?_)
    | (refine stNew 37 (.tmp 4) (.tmp 9) rfl rfl W2 37 _ (msc (m1 m) zSl) rfl rfl rfl (sizeMs _ _) (by rw [msc_size]; rfl) (msc_one _ _ rfl rfl rfl rfl rfl) ?_))
  rw [HW3.out, HZ2.out]
  go_upto_region 24 with fail
  rw [HV1.out]
  go_upto_region 30 with fail
  rw [HV2.out]
  go_wp2_with (first
    | (refine ldRow 37 (.tmp 4) rfl rfl (g + 2) rfl 37 (msc (⟨m.ty, m.id, 0, zRl, m.po, false, 0, [], [], [], m.hs, 0⟩ : Ms) (⟨nilS, nilS, nilS, nilS, s.hs⟩ : Sls)) _ Tryz.underlying37 rfl (sizeMs _ _) HL.out ?_)
    | (refine stRow 37 (.tmp 2) (.tmp 70) rfl rfl (g + 1) (msc (⟨m.ty, m.id, 0, zRl, m.po, false, 0, [], [], [], m.hs, 0⟩ : Ms) (⟨nilS, nilS, nilS, nilS, s.hs⟩ : Sls)) rfl rfl 37 (msc zMs zSl) HZ.out (sizeMs _ _) (by rw [msc_size, msc_size]) HOne.out ?_))
  refine bodyPost_ret (v := .tuple #[.agg (msc (⟨m.ty, m.id, 0, zRl, m.po, false, 0, [], [], [], m.hs, 0⟩ : Ms) (⟨nilS, nilS, nilS, nilS, s.hs⟩ : Sls)), .bool true]) (resBr _ _ (g + 1) (⟨m.ty, m.id, 0, zRl, m.po, false, 0, [], [], [], m.hs, 0⟩ : Ms) (⟨nilS, nilS, nilS, nilS, s.hs⟩ : Sls) _ rfl rfl HFin.out.1) rfl ?_
  exact ⟨HFin.out.2, by rw [HE.out.1, HE.out.2.1, HE.out.2.2]⟩
end Go.Proofs.YtllbbbfkdgjffaaGreatDoor
namespace Go.Proofs.YtllbbbfkdgjffaaGreatDoor
open Go.RowKit

set_option maxHeartbeats 6400000 in
set_option maxRecDepth 100000 in
theorem bare_12 {T : Nat → Prop} (m : Ms) (s : Sls) (w : World) (hs : Mss T w m s) (hty : m.ty = 12) :
    Calls Tryz.prog 48 #[.agg (msc m s)] w (BrP w m s) := by
  obtain ⟨acp, ccp, ecp, -⟩ := hs.cp.form
  obtain ⟨aps, cps, eps, -⟩ := hs.ps.form
  obtain ⟨aed, ced, eed, -⟩ := hs.ed.form
  obtain ⟨afr, cfr, efr, -⟩ := hs.fr
  obtain ⟨ahs, chs, ehs, -⟩ := hs.hs.form
  obtain ⟨W1, HW1⟩ : ∃ W, Hid (w.alloc (.cells (msc m s) 37) = W) := ⟨_, rfl⟩
  obtain ⟨W2, HW2⟩ : ∃ W, Hid (W1.alloc (.cells (msc zMs zSl) 37) = W) := ⟨_, rfl⟩
  obtain ⟨W3, HW3⟩ : ∃ W, Hid (W2.alloc (.cells (msc (m1 m) zSl) 37) = W) := ⟨_, rfl⟩
  obtain ⟨g, hg⟩ : ∃ g, g = w.heap.size := ⟨_, rfl⟩
  have hz1 : W1.heap.size = g + 1 := by rw [← HW1.out, hg]; simp
  have hz2 : W2.heap.size = g + 2 := by rw [← HW2.out]; simp [hz1]
  have hb1 : Below w.heap.size w W1 := by rw [← HW1.out]; exact (Below.refl _ _).alloc (Nat.le_refl _) _
  have hb2 : Below W1.heap.size W1 W2 := by rw [← HW2.out]; exact (Below.refl _ _).alloc (Nat.le_refl _) _
  have hb3 : Below W2.heap.size W2 W3 := by rw [← HW3.out]; exact (Below.refl _ _).alloc (Nat.le_refl _) _
  have hm1 : MB W1 g m s := by rw [← HW1.out, hg]; exact heap_alloc_new _ _
  have hm2 : MB W2 (g + 1) zMs zSl := by rw [← HW2.out, ← hz1]; exact heap_alloc_new _ _
  have hm3 : MB W3 (g + 2) (m1 m) zSl := by rw [← HW3.out, ← hz2]; exact heap_alloc_new _ _
  have hm1' : MB W2 g m s := (hb2.block g (by omega)).trans hm1
  have hBr : Br w g m s (m1 m) zSl W3 := ⟨hb1.trans ((hb2.mono (by omega)).trans (hb3.mono (by omega))), (hb3.block g (by omega)).trans hm1', (hb3.block (g + 1) (by omega)).trans hm2, hm3⟩
  have hgw : w.heap.size ≤ g := by omega
  obtain ⟨c0, c1, -⟩ := mb_cells hm1'
  have d0 := (mb_cells hBr.b1).1
  rw [hty] at d0
  obtain ⟨V1, HV1⟩ : ∃ V, Hid (W3.setCell ⟨g + 2, 28, none⟩ (.int .u16 m.po) = V) := ⟨_, rfl⟩
  have hB1 : Br w g m s (⟨m.ty, m.id, 0, zRl, m.po, false, 0, [], [], [], [], 0⟩ : Ms) zSl V1 := by rw [← HV1.out]; exact hBr.set hgw (by exact set_po _ _ _)
  obtain ⟨-, -, -, k1, -⟩ := mb_cells hBr.b1
  obtain ⟨-, -, -, l1, -⟩ := mb_cells hBr.b4
  have f1 := mb_free hBr.b4 28
  obtain ⟨V2, HV2⟩ : ∃ V, Hid (V1.setCell ⟨g + 2, 29, none⟩ (.bool m.up) = V) := ⟨_, rfl⟩
  have hB2 : Br w g m s (⟨m.ty, m.id, 0, zRl, m.po, m.up, 0, [], [], [], [], 0⟩ : Ms) zSl V2 := by rw [← HV2.out]; exact hB1.set hgw (by exact set_up _ _ _)
  obtain ⟨-, -, -, -, k2, -⟩ := mb_cells hB1.b1
  obtain ⟨-, -, -, -, l2, -⟩ := mb_cells hB1.b4
  have f2 := mb_free hB1.b4 29
  have HOne := hid (hB2.one ⟨rfl, rfl, rfl, rfl, rfl⟩)
  have HFin := hid (hB2.fin hgw)
  have HL := hid hB2.b4
  have HZ := hid hB2.b2
  have HE : Hid (brM m = (⟨m.ty, m.id, 0, zRl, m.po, m.up, 0, [], [], [], [], 0⟩ : Ms) ∧ brS m s = zSl ∧ isTy m.ty = true) := by
    refine And.intro ?_ (And.intro ?_ ?_)
    · unfold brM; rw [if_neg (by omega), if_neg (by omega), if_neg (by omega), if_neg (by omega), if_pos hty]; first | done | rfl
    · unfold brS; rw [if_neg (by omega), if_neg (by omega), if_neg (by omega), if_neg (by omega)]
    · rw [hty]; rfl
  clear hty ecp eps eed efr ehs hBr hB1 hB2
  have HG := hid hg
  have HZ1 := hid hz1
  have HZ2 := hid hz2
  clear hg hz1 hz2 hb1 hb2 hb3 hm1 hm2 hm3 hm1' hs
  go_enter Tryz.func48, Tryz.ntmps48
  go_upto_region 1 with (refine bxMs (.tmp 0) rfl rfl m s rfl W1 HW1 ?_)
  rw [← zero_ms0, HW2.out, HZ1.out, ← HG.out]
  go_upto_region 2 with (first
    | (refine bldBr (.tmp 6) (.tmp 8) m.ty m.id rfl rfl rfl rfl ?_)
    | (refine stNew 37 (.tmp 4) (.tmp 9) rfl rfl W2 37 _ (msc (m1 m) zSl) rfl rfl rfl (sizeMs _ _) (by rw [msc_size]; rfl) (msc_one _ _ rfl rfl rfl rfl rfl) ?_))
  rw [HW3.out, HZ2.out]
  go_upto_region 27 with fail
  rw [HV1.out]
  go_upto_region 30 with fail
  rw [HV2.out]
  go_wp2_with (first
    | (refine ldRow 37 (.tmp 4) rfl rfl (g + 2) rfl 37 (msc (⟨m.ty, m.id, 0, zRl, m.po, m.up, 0, [], [], [], [], 0⟩ : Ms) zSl) _ Tryz.underlying37 rfl (sizeMs _ _) HL.out ?_)
    | (refine stRow 37 (.tmp 2) (.tmp 70) rfl rfl (g + 1) (msc (⟨m.ty, m.id, 0, zRl, m.po, m.up, 0, [], [], [], [], 0⟩ : Ms) zSl) rfl rfl 37 (msc zMs zSl) HZ.out (sizeMs _ _) (by rw [msc_size, msc_size]) HOne.out ?_))
  refine bodyPost_ret (v := .tuple #[.agg (msc (⟨m.ty, m.id, 0, zRl, m.po, m.up, 0, [], [], [], [], 0⟩ : Ms) zSl), .bool true]) (resBr _ _ (g + 1) (⟨m.ty, m.id, 0, zRl, m.po, m.up, 0, [], [], [], [], 0⟩ : Ms) zSl _ rfl rfl HFin.out.1) rfl ?_
  exact ⟨HFin.out.2, by rw [HE.out.1, HE.out.2.1, HE.out.2.2]⟩
end Go.Proofs.YtllbbbfkdgjffaaGreatDoor
namespace Go.Proofs.YtllbbbfkdgjffaaGreatDoor
open Go.RowKit

set_option maxHeartbeats 6400000 in
set_option maxRecDepth 100000 in
theorem bare_13 {T : Nat → Prop} (m : Ms) (s : Sls) (w : World) (hs : Mss T w m s) (hty : m.ty = 13) :
    Calls Tryz.prog 48 #[.agg (msc m s)] w (BrP w m s) := by
  obtain ⟨acp, ccp, ecp, -⟩ := hs.cp.form
  obtain ⟨aps, cps, eps, -⟩ := hs.ps.form
  obtain ⟨aed, ced, eed, -⟩ := hs.ed.form
  obtain ⟨afr, cfr, efr, -⟩ := hs.fr
  obtain ⟨ahs, chs, ehs, -⟩ := hs.hs.form
  obtain ⟨W1, HW1⟩ : ∃ W, Hid (w.alloc (.cells (msc m s) 37) = W) := ⟨_, rfl⟩
  obtain ⟨W2, HW2⟩ : ∃ W, Hid (W1.alloc (.cells (msc zMs zSl) 37) = W) := ⟨_, rfl⟩
  obtain ⟨W3, HW3⟩ : ∃ W, Hid (W2.alloc (.cells (msc (m1 m) zSl) 37) = W) := ⟨_, rfl⟩
  obtain ⟨g, hg⟩ : ∃ g, g = w.heap.size := ⟨_, rfl⟩
  have hz1 : W1.heap.size = g + 1 := by rw [← HW1.out, hg]; simp
  have hz2 : W2.heap.size = g + 2 := by rw [← HW2.out]; simp [hz1]
  have hb1 : Below w.heap.size w W1 := by rw [← HW1.out]; exact (Below.refl _ _).alloc (Nat.le_refl _) _
  have hb2 : Below W1.heap.size W1 W2 := by rw [← HW2.out]; exact (Below.refl _ _).alloc (Nat.le_refl _) _
  have hb3 : Below W2.heap.size W2 W3 := by rw [← HW3.out]; exact (Below.refl _ _).alloc (Nat.le_refl _) _
  have hm1 : MB W1 g m s := by rw [← HW1.out, hg]; exact heap_alloc_new _ _
  have hm2 : MB W2 (g + 1) zMs zSl := by rw [← HW2.out, ← hz1]; exact heap_alloc_new _ _
  have hm3 : MB W3 (g + 2) (m1 m) zSl := by rw [← HW3.out, ← hz2]; exact heap_alloc_new _ _
  have hm1' : MB W2 g m s := (hb2.block g (by omega)).trans hm1
  have hBr : Br w g m s (m1 m) zSl W3 := ⟨hb1.trans ((hb2.mono (by omega)).trans (hb3.mono (by omega))), (hb3.block g (by omega)).trans hm1', (hb3.block (g + 1) (by omega)).trans hm2, hm3⟩
  have hgw : w.heap.size ≤ g := by omega
  obtain ⟨c0, c1, -⟩ := mb_cells hm1'
  have d0 := (mb_cells hBr.b1).1
  rw [hty] at d0
  obtain ⟨V1, HV1⟩ : ∃ V, Hid (W3.setCell ⟨g + 2, 35, none⟩ (.int .u16 m.co) = V) := ⟨_, rfl⟩
  have hB1 : Br w g m s (⟨m.ty, m.id, 0, zRl, 0, false, 0, [], [], [], [], m.co⟩ : Ms) zSl V1 := by rw [← HV1.out]; exact hBr.set hgw (by exact set_co _ _ _)
  obtain ⟨-, -, -, -, -, -, -, -, -, -, k1⟩ := mb_cells hBr.b1
  obtain ⟨-, -, -, -, -, -, -, -, -, -, l1⟩ := mb_cells hBr.b4
  have f1 := mb_free hBr.b4 35
  have HOne := hid (hB1.one ⟨rfl, rfl, rfl, rfl, rfl⟩)
  have HFin := hid (hB1.fin hgw)
  have HL := hid hB1.b4
  have HZ := hid hB1.b2
  have HE : Hid (brM m = (⟨m.ty, m.id, 0, zRl, 0, false, 0, [], [], [], [], m.co⟩ : Ms) ∧ brS m s = zSl ∧ isTy m.ty = true) := by
    refine And.intro ?_ (And.intro ?_ ?_)
    · unfold brM; rw [if_neg (by omega), if_neg (by omega), if_neg (by omega), if_neg (by omega), if_neg (by omega), if_pos hty]; first | done | rfl
    · unfold brS; rw [if_neg (by omega), if_neg (by omega), if_neg (by omega), if_neg (by omega)]
    · rw [hty]; rfl
  clear hty ecp eps eed efr ehs hBr hB1
  have HG := hid hg
  have HZ1 := hid hz1
  have HZ2 := hid hz2
  clear hg hz1 hz2 hb1 hb2 hb3 hm1 hm2 hm3 hm1' hs
  go_enter Tryz.func48, Tryz.ntmps48
  go_upto_region 1 with (refine bxMs (.tmp 0) rfl rfl m s rfl W1 HW1 ?_)
  rw [← zero_ms0, HW2.out, HZ1.out, ← HG.out]
  go_upto_region 2 with (first
    | (refine bldBr (.tmp 6) (.tmp 8) m.ty m.id rfl rfl rfl rfl ?_)
    | (refine stNew 37 (.tmp 4) (.tmp 9) rfl rfl W2 37 _ (msc (m1 m) zSl) rfl rfl rfl (sizeMs _ _) (by rw [msc_size]; rfl) (msc_one _ _ rfl rfl rfl rfl rfl) ?_))
  rw [HW3.out, HZ2.out]
  go_upto_region 30 with fail
  rw [HV1.out]
  go_wp2_with (first
    | (refine ldRow 37 (.tmp 4) rfl rfl (g + 2) rfl 37 (msc (⟨m.ty, m.id, 0, zRl, 0, false, 0, [], [], [], [], m.co⟩ : Ms) zSl) _ Tryz.underlying37 rfl (sizeMs _ _) HL.out ?_)
    | (refine stRow 37 (.tmp 2) (.tmp 70) rfl rfl (g + 1) (msc (⟨m.ty, m.id, 0, zRl, 0, false, 0, [], [], [], [], m.co⟩ : Ms) zSl) rfl rfl 37 (msc zMs zSl) HZ.out (sizeMs _ _) (by rw [msc_size, msc_size]) HOne.out ?_))
  refine bodyPost_ret (v := .tuple #[.agg (msc (⟨m.ty, m.id, 0, zRl, 0, false, 0, [], [], [], [], m.co⟩ : Ms) zSl), .bool true]) (resBr _ _ (g + 1) (⟨m.ty, m.id, 0, zRl, 0, false, 0, [], [], [], [], m.co⟩ : Ms) zSl _ rfl rfl HFin.out.1) rfl ?_
  exact ⟨HFin.out.2, by rw [HE.out.1, HE.out.2.1, HE.out.2.2]⟩
end Go.Proofs.YtllbbbfkdgjffaaGreatDoor
namespace Go.Proofs.YtllbbbfkdgjffaaGreatDoor
open Go.RowKit

set_option maxHeartbeats 6400000 in
set_option maxRecDepth 100000 in
theorem bare_no {T : Nat → Prop} (m : Ms) (s : Sls) (w : World) (hs : Mss T w m s) (hno : m.ty < 0 ∨ 13 < m.ty) :
    Calls Tryz.prog 48 #[.agg (msc m s)] w (BrP w m s) := by
  obtain ⟨acp, ccp, ecp, -⟩ := hs.cp.form
  obtain ⟨aps, cps, eps, -⟩ := hs.ps.form
  obtain ⟨aed, ced, eed, -⟩ := hs.ed.form
  obtain ⟨afr, cfr, efr, -⟩ := hs.fr
  obtain ⟨ahs, chs, ehs, -⟩ := hs.hs.form
  obtain ⟨W1, HW1⟩ : ∃ W, Hid (w.alloc (.cells (msc m s) 37) = W) := ⟨_, rfl⟩
  obtain ⟨W2, HW2⟩ : ∃ W, Hid (W1.alloc (.cells (msc zMs zSl) 37) = W) := ⟨_, rfl⟩
  obtain ⟨W3, HW3⟩ : ∃ W, Hid (W2.alloc (.cells (msc (m1 m) zSl) 37) = W) := ⟨_, rfl⟩
  obtain ⟨g, hg⟩ : ∃ g, g = w.heap.size := ⟨_, rfl⟩
  have hz1 : W1.heap.size = g + 1 := by rw [← HW1.out, hg]; simp
  have hz2 : W2.heap.size = g + 2 := by rw [← HW2.out]; simp [hz1]
  have hb1 : Below w.heap.size w W1 := by rw [← HW1.out]; exact (Below.refl _ _).alloc (Nat.le_refl _) _
  have hb2 : Below W1.heap.size W1 W2 := by rw [← HW2.out]; exact (Below.refl _ _).alloc (Nat.le_refl _) _
  have hb3 : Below W2.heap.size W2 W3 := by rw [← HW3.out]; exact (Below.refl _ _).alloc (Nat.le_refl _) _
  have hm1 : MB W1 g m s := by rw [← HW1.out, hg]; exact heap_alloc_new _ _
  have hm2 : MB W2 (g + 1) zMs zSl := by rw [← HW2.out, ← hz1]; exact heap_alloc_new _ _
  have hm3 : MB W3 (g + 2) (m1 m) zSl := by rw [← HW3.out, ← hz2]; exact heap_alloc_new _ _
  have hm1' : MB W2 g m s := (hb2.block g (by omega)).trans hm1
  have hBr : Br w g m s (m1 m) zSl W3 := ⟨hb1.trans ((hb2.mono (by omega)).trans (hb3.mono (by omega))), (hb3.block g (by omega)).trans hm1', (hb3.block (g + 1) (by omega)).trans hm2, hm3⟩
  have hgw : w.heap.size ≤ g := by omega
  obtain ⟨c0, c1, -⟩ := mb_cells hm1'
  have d0 := (mb_cells hBr.b1).1
  have t0 : (m.ty == 0) = false := beq_eq_false_iff_ne.2 (by omega)
  have t1 : (m.ty == 1) = false := beq_eq_false_iff_ne.2 (by omega)
  have t2 : (m.ty == 2) = false := beq_eq_false_iff_ne.2 (by omega)
  have t3 : (m.ty == 3) = false := beq_eq_false_iff_ne.2 (by omega)
  have t4 : (m.ty == 4) = false := beq_eq_false_iff_ne.2 (by omega)
  have t5 : (m.ty == 5) = false := beq_eq_false_iff_ne.2 (by omega)
  have t6 : (m.ty == 6) = false := beq_eq_false_iff_ne.2 (by omega)
  have t7 : (m.ty == 7) = false := beq_eq_false_iff_ne.2 (by omega)
  have t8 : (m.ty == 8) = false := beq_eq_false_iff_ne.2 (by omega)
  have t9 : (m.ty == 9) = false := beq_eq_false_iff_ne.2 (by omega)
  have t10 : (m.ty == 10) = false := beq_eq_false_iff_ne.2 (by omega)
  have t11 : (m.ty == 11) = false := beq_eq_false_iff_ne.2 (by omega)
  have t12 : (m.ty == 12) = false := beq_eq_false_iff_ne.2 (by omega)
  have t13 : (m.ty == 13) = false := beq_eq_false_iff_ne.2 (by omega)
  have HOne := hid (hBr.one ⟨rfl, rfl, rfl, rfl, rfl⟩)
  have HFin := hid (hBr.fin hgw)
  have HL := hid hBr.b4
  have HZ := hid hBr.b2
  have HE : Hid (brM m = (⟨m.ty, m.id, 0, zRl, 0, false, 0, [], [], [], [], 0⟩ : Ms) ∧ brS m s = zSl ∧ isTy m.ty = false) := by
    refine And.intro ?_ (And.intro ?_ ?_)
    · unfold brM; rw [if_neg (by omega), if_neg (by omega), if_neg (by omega), if_neg (by omega), if_neg (by omega), if_neg (by omega)]; first | done | rfl
    · unfold brS; rw [if_neg (by omega), if_neg (by omega), if_neg (by omega), if_neg (by omega)]
    · unfold isTy; exact decide_eq_false (by omega)
  clear hno ecp eps eed efr ehs hBr
  have HG := hid hg
  have HZ1 := hid hz1
  have HZ2 := hid hz2
  clear hg hz1 hz2 hb1 hb2 hb3 hm1 hm2 hm3 hm1' hs
  go_enter Tryz.func48, Tryz.ntmps48
  go_upto_region 1 with (refine bxMs (.tmp 0) rfl rfl m s rfl W1 HW1 ?_)
  rw [← zero_ms0, HW2.out, HZ1.out, ← HG.out]
  go_upto_region 2 with (first
    | (refine bldBr (.tmp 6) (.tmp 8) m.ty m.id rfl rfl rfl rfl ?_)
    | (refine stNew 37 (.tmp 4) (.tmp 9) rfl rfl W2 37 _ (msc (m1 m) zSl) rfl rfl rfl (sizeMs _ _) (by rw [msc_size]; rfl) (msc_one _ _ rfl rfl rfl rfl rfl) ?_))
  rw [HW3.out, HZ2.out]
  go_wp2_with (first
    | (refine ldRow 37 (.tmp 4) rfl rfl (g + 2) rfl 37 (msc (⟨m.ty, m.id, 0, zRl, 0, false, 0, [], [], [], [], 0⟩ : Ms) zSl) _ Tryz.underlying37 rfl (sizeMs _ _) HL.out ?_)
    | (refine stRow 37 (.tmp 2) (.tmp 12) rfl rfl (g + 1) (msc (⟨m.ty, m.id, 0, zRl, 0, false, 0, [], [], [], [], 0⟩ : Ms) zSl) rfl rfl 37 (msc zMs zSl) HZ.out (sizeMs _ _) (by rw [msc_size, msc_size]) HOne.out ?_))
  refine bodyPost_ret (v := .tuple #[.agg (msc (⟨m.ty, m.id, 0, zRl, 0, false, 0, [], [], [], [], 0⟩ : Ms) zSl), .bool false]) (resBr _ _ (g + 1) (⟨m.ty, m.id, 0, zRl, 0, false, 0, [], [], [], [], 0⟩ : Ms) zSl _ rfl rfl HFin.out.1) rfl ?_
  exact ⟨HFin.out.2, by rw [HE.out.1, HE.out.2.1, HE.out.2.2]⟩
end Go.Proofs.YtllbbbfkdgjffaaGreatDoor
namespace Go.Proofs.YtllbbbfkdgjffaaGreatDoor
open Go.RowKit

/-- WHAT THE DOCUMENT's bare ANSWERS. -/
theorem rbare_any {T : Nat → Prop} (m : Ms) (s : Sls) (w : World) (hs : Mss T w m s) : Calls Tryz.prog 48 #[.agg (msc m s)] w (BrP w m s) := by
  by_cases hno : m.ty < 0 ∨ 13 < m.ty
  · exact bare_no m s w hs hno
  · have h : m.ty = 0 ∨ m.ty = 1 ∨ m.ty = 2 ∨ m.ty = 3 ∨ m.ty = 4 ∨ m.ty = 5 ∨ m.ty = 6 ∨ m.ty = 7 ∨ m.ty = 8 ∨ m.ty = 9 ∨ m.ty = 10 ∨ m.ty = 11 ∨ m.ty = 12 ∨ m.ty = 13 := by omega
    rcases h with h | h | h | h | h | h | h | h | h | h | h | h | h | h
    · exact bare_0 m s w hs h
    · exact bare_1 m s w hs h
    · exact bare_2 m s w hs h
    · exact bare_3 m s w hs h
    · exact bare_4 m s w hs h
    · exact bare_5 m s w hs h
    · exact bare_6 m s w hs h
    · exact bare_7 m s w hs h
    · exact bare_8 m s w hs h
    · exact bare_9 m s w hs h
    · exact bare_10 m s w hs h
    · exact bare_11 m s w hs h
    · exact bare_12 m s w hs h
    · exact bare_13 m s w hs h
end Go.Proofs.YtllbbbfkdgjffaaGreatDoor
namespace Go.Proofs.YtllbbbfkdgjffaaGreatDoor
open Go.RowKit

theorem br_mss {T : Nat → Prop} {w : World} {m : Ms} {s : Sls} (h : Mss T w m s) : Mss T w (brM m) (brS m s) := by
  have hz := Mss.zero T w m.ty m.id
  unfold brM brS
  by_cases h4 : m.ty = 4
  · rw [if_pos h4, if_pos h4]; exact ⟨hz.cp, h.ps, h.ed, hz.fr, hz.hs⟩
  rw [if_neg h4, if_neg h4]
  by_cases h5 : m.ty = 5
  · rw [if_pos h5, if_pos h5]; exact ⟨h.cp, hz.ps, hz.ed, hz.fr, hz.hs⟩
  rw [if_neg h5, if_neg h5]
  by_cases h6 : m.ty = 6 ∨ m.ty = 7
  · rw [if_pos h6, if_pos h6]; exact ⟨hz.cp, hz.ps, hz.ed, h.fr, hz.hs⟩
  rw [if_neg h6, if_neg h6]
  by_cases h11 : m.ty = 11
  · rw [if_pos h11, if_pos h11]; exact ⟨hz.cp, hz.ps, hz.ed, hz.fr, h.hs⟩
  rw [if_neg h11, if_neg h11]
  split
  · exact ⟨hz.cp, hz.ps, hz.ed, hz.fr, hz.hs⟩
  · split
    · exact ⟨hz.cp, hz.ps, hz.ed, hz.fr, hz.hs⟩
    · exact ⟨hz.cp, hz.ps, hz.ed, hz.fr, hz.hs⟩
theorem slc_form {T : Nat → Prop} {w : World} {v : Value} {l : List Int} (h : SlC T w v l) : ∃ ao cap, v = .slice ao l.length cap := by
  obtain ⟨ao, cap, e, -⟩ := h
  exact ⟨ao, cap, e⟩
theorem mss_one {T : Nat → Prop} {w : World} {m : Ms} {s : Sls} (h : Mss T w m s) : (msc m s).all (·.oneCell') = true := by
  obtain ⟨_, _, e1, -⟩ := h.cp.form
  obtain ⟨_, _, e2, -⟩ := h.ps.form
  obtain ⟨_, _, e3, -⟩ := h.ed.form
  obtain ⟨_, _, e4⟩ := slc_form h.fr
  obtain ⟨_, _, e5, -⟩ := h.hs.form
  exact msc_one _ _ (by rw [e1]; rfl) (by rw [e2]; rfl) (by rw [e3]; rfl) (by rw [e4]; rfl) (by rw [e5]; rfl)
/-- What only leaves. -/
def OnP (w : World) (m : Ms) (e : Ending) (w' : World) : Prop := e = .returned (.bool (isTy m.ty && onlyB m)) ∧ Below w.heap.size w w'
/-- The cells of two messages that only looks at. -/
theorem on_cells {w : World} {b : Nat} {m : Ms} {s : Sls} {T : Nat → Prop} {w0 : World} (h : MB w b m s) (hs : Mss T w0 m s) : ∃ a1 c1 a2 c2 a3 c3 a4 c4, w.cell? ⟨b, 0, none⟩ = some (.int .i8 m.ty) ∧ w.cell? ⟨b, 2, none⟩ = some (.int .i8 m.dw) ∧ w.cell? ⟨b, 28, none⟩ = some (.int .u16 m.po) ∧ w.cell? ⟨b, 29, none⟩ = some (.bool m.up) ∧ w.cell? ⟨b, 30, none⟩ = some (.int .u16 m.sw) ∧ w.cell? ⟨b, 35, none⟩ = some (.int .u16 m.co) ∧ w.cell? ⟨b, 31, none⟩ = some (.slice a1 m.ps.length c1) ∧ w.cell? ⟨b, 32, none⟩ = some (.slice a2 m.ed.length c2) ∧ w.cell? ⟨b, 33, none⟩ = some (.slice a3 m.fr.length c3) ∧ w.cell? ⟨b, 34, none⟩ = some (.slice a4 m.hs.length c4) ∧ (m.ps.length ≤ 140737488355328 ∧ m.ed.length ≤ 140737488355328 ∧ m.hs.length ≤ 140737488355328) := by
  obtain ⟨a1, c1, e1, -⟩ := hs.ps.form
  obtain ⟨a2, c2, e2, -⟩ := hs.ed.form
  obtain ⟨a3, c3, e3⟩ := slc_form hs.fr
  obtain ⟨a4, c4, e4, -⟩ := hs.hs.form
  obtain ⟨p0, p1, p2, p28, p29, p30, p31, p32, p33, p34, p35⟩ := mb_cells h
  rw [e1] at p31
  rw [e2] at p32
  rw [e3] at p33
  rw [e4] at p34
  exact ⟨a1, c1, a2, c2, a3, c3, a4, c4, p0, p2, p28, p29, p30, p35, p31, p32, p33, p34, hs.ps.len, hs.ed.len, hs.hs.len⟩
end Go.Proofs.YtllbbbfkdgjffaaGreatDoor
namespace Go.Proofs.YtllbbbfkdgjffaaGreatDoor
open Go.RowKit

set_option maxHeartbeats 6400000 in
set_option maxRecDepth 100000 in
theorem only_no {T : Nat → Prop} (m : Ms) (s : Sls) (w : World) (hs : Mss T w m s) (hty : isTy m.ty = false) :
    Calls Tryz.prog 37 #[.agg (msc m s)] w (OnP w m) := by
  obtain ⟨W1, HW1⟩ : ∃ W, Hid (w.alloc (.cells (msc m s) 37) = W) := ⟨_, rfl⟩
  obtain ⟨g, hg⟩ : ∃ g, g = w.heap.size := ⟨_, rfl⟩
  have hb1 : Below w.heap.size w W1 := by rw [← HW1.out]; exact (Below.refl _ _).alloc (Nat.le_refl _) _
  have hm1 : MB W1 g m s := by rw [← HW1.out, hg]; exact heap_alloc_new _ _
  have hz1 : g < W1.heap.size := (Array.getElem?_eq_some_iff.1 hm1).1
  have hs1 : Mss T W1 m s := hs.carry fun b hb hT => ⟨hT, hb1.block b hb⟩
  have HC := hid (rbare_any m s W1 hs1)
  have HL := hid hm1
  have HO := hid (mss_one (br_mss hs1))
  have HK : Hid (∀ w2, Below W1.heap.size W1 w2 → ∀ V, w2.alloc (.cells (msc (brM m) (brS m s)) 37) = V → Below w.heap.size w V ∧ MB V g m s ∧ MB V w2.heap.size (brM m) (brS m s) ∧ Mss T V m s) := fun w2 h2 V hV => by
    have hbV : Below w2.heap.size w2 V := by rw [← hV]; exact (Below.refl _ _).alloc (Nat.le_refl _) _
    have h12 : Below W1.heap.size W1 V := h2.trans (hbV.mono h2.size)
    refine ⟨hb1.trans (h12.mono hb1.size), (h12.block g hz1).trans hm1, by rw [← hV]; exact heap_alloc_new _ _, hs1.carry fun b hb hT => ⟨hT, h12.block b hb⟩⟩
  have HBm := hid (br_mss hs)
  have HSm := hid hs
  have HG := hid hg
  have hit : isTy m.ty = false := hty
  have HI := hid hit
  clear hg hb1 hm1 hz1 hs1 hs hty
  go_enter Tryz.func37, Tryz.ntmps37
  go_upto_region 1 with (refine bxMs (.tmp 0) rfl rfl m s rfl W1 HW1 ?_)
  rw [← HG.out]
  go_upto_region 2 with (first
    | (refine ldRow 37 (.tmp 1) rfl rfl g rfl 37 (msc m s) _ Tryz.underlying37 rfl (sizeMs m s) HL.out ?_)
    | (go_at_call 48; refine (HC.out).mono ?_; rintro e w2 ⟨hb2, rfl⟩; have HB2 := hid hb2; rw [hit]; clear hit HC hb2)
    | (refine stNew 37 (.tmp 3) (.tmp 8) rfl rfl w2 37 _ (msc (brM m) (brS m s)) rfl rfl rfl (sizeMs _ _) (by rw [msc_size]; rfl) HO.out ?_))
  obtain ⟨V, HV⟩ : ∃ V, Hid (w2.alloc (.cells (msc (brM m) (brS m s)) 37) = V) := ⟨_, rfl⟩
  rw [HV.out]
  obtain ⟨hlV, hMV, hBV, hsV⟩ := HK.out w2 HB2.out V HV.out
  obtain ⟨j, hj⟩ : ∃ j, j = w2.heap.size := ⟨_, rfl⟩
  rw [← hj] at hBV
  rw [← hj]
  have HLo := hid hlV
  have HRl := hid (mb_range hMV)
  have HEm := hid (rempty_any m.r s.cp V hsV.cp)
  obtain ⟨a1, c1, a2, c2, a3, c3, a4, c4, p0, p2, p28, p29, p30, p35, p31, p32, p33, p34, pl⟩ := on_cells hMV HSm.out
  obtain ⟨e1, d1, e2, d2, e3, d3, e4, d4, q0, q2, q28, q29, q30, q35, q31, q32, q33, q34, ql⟩ := on_cells hBV HBm.out
  have HF : Hid (onlyB m = (decide ((brM m).dw = m.dw) && (decide ((brM m).po = m.po) && (((brM m).up == m.up) && (decide ((brM m).sw = m.sw) && (decide ((brM m).co = m.co) && (decide ((brM m).ps.length = m.ps.length) && (decide ((brM m).ed.length = m.ed.length) && (decide ((brM m).fr.length = m.fr.length) && (decide ((brM m).hs.length = m.hs.length) && (decide (m.ty = 5) || blRl m.r))))))))))) := rfl
  clear hMV hBV hsV hlV HK HV HB2 HBm HSm HO HL HG HW1 hj pl ql q0
  generalize (brM m).dw = x0 at q2 HF
  generalize m.dw = y0 at p2 HF
  generalize (brM m).po = x1 at q28 HF
  generalize m.po = y1 at p28 HF
  generalize (brM m).up = x2 at q29 HF
  generalize m.up = y2 at p29 HF
  generalize (brM m).sw = x3 at q30 HF
  generalize m.sw = y3 at p30 HF
  generalize (brM m).co = x4 at q35 HF
  generalize m.co = y4 at p35 HF
  generalize (brM m).ps.length = n0 at q31 HF
  generalize m.ps.length = k0 at p31 HF
  generalize (brM m).ed.length = n1 at q32 HF
  generalize m.ed.length = k1 at p32 HF
  generalize (brM m).fr.length = n2 at q33 HF
  generalize m.fr.length = k2 at p33 HF
  generalize (brM m).hs.length = n3 at q34 HF
  generalize m.hs.length = k3 at p34 HF
  have HR : Hid ((isTy m.ty && onlyB m) = false) := by show _ = _; rw [HI.out]; rfl
  clear HF HI
  go_wp2
  go_ret
  exact ⟨by rw [HR.out]; rfl, HLo.out⟩
end Go.Proofs.YtllbbbfkdgjffaaGreatDoor
