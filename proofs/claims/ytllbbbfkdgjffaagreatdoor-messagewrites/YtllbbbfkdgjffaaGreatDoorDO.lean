/-
  Proved here: isBlank tells whether a message has nothing but Type and Id. No condition.
-/
/-
  Proved here: the document's empty (of package tollbridgeref07) tells whether a rule has nothing. No condition.
-/
import Derived.Test.YtllbbbfkdgjffaaGreatDoorBL
import Derived.Test.YtllbbbfkdgjffaaGreatDoorDF
namespace Go.Proofs.YtllbbbfkdgjffaaGreatDoor
open Go.RowKit

set_option maxHeartbeats 8000000 in
set_option maxRecDepth 100000 in
theorem isBlank_any {T : Nat → Prop} (m : Ms) (s : Sls) (w : World) (hs : Mss T w m s) :
    Calls Tryz.prog 31 #[.agg (msc m s)] w fun e w' => e = .returned (.bool (blank m)) ∧ Below w.heap.size w w' := by
  have hM1 : MB (w.alloc (.cells (msc m s) 37)) w.heap.size m s := heap_alloc_new _ _
  have HB := hid ((Below.refl w.heap.size w).alloc (Nat.le_refl _) (.cells (msc m s) 37))
  obtain ⟨-, -, a2, -⟩ := mb_cells hM1
  have HRg := hid (mb_range hM1)
  have HCp : Hid (Cps T (w.alloc (.cells (msc m s) 37)) s.cp m.r.cp) := Cps.carry (fun k hk h => ⟨h, heap_alloc_old _ _ hk⟩) hs.cp
  have HR := hid (isBlankRule_any m.r s.cp _ HCp.out)
  obtain ⟨pa, pc, hps, -⟩ := hs.ps.form
  obtain ⟨ea, ec, hed, -⟩ := hs.ed.form
  obtain ⟨fa, fc, hfr, -⟩ := hs.fr
  obtain ⟨ha, hc, hhs, -⟩ := hs.hs.form
  have l1 := hs.ps.len
  have l2 := hs.ed.len
  have l3 := hs.fr.len
  have l4 := hs.hs.len
  obtain ⟨W, HWe⟩ : ∃ W, Hid (w.alloc (.cells (msc m s) 37) = W) := ⟨_, rfl⟩
  rw [HWe.out] at HB a2 HRg HR hM1
  have HC : Hid (∀ w2, Below W.heap.size W w2 → w2.cell? ⟨w.heap.size, 28, none⟩ = some (.int .u16 m.po) ∧ w2.cell? ⟨w.heap.size, 29, none⟩ = some (.bool m.up) ∧ w2.cell? ⟨w.heap.size, 30, none⟩ = some (.int .u16 m.sw) ∧ w2.cell? ⟨w.heap.size, 31, none⟩ = some (.slice pa m.ps.length pc) ∧ w2.cell? ⟨w.heap.size, 32, none⟩ = some (.slice ea m.ed.length ec) ∧ w2.cell? ⟨w.heap.size, 33, none⟩ = some (.slice fa m.fr.length fc) ∧ w2.cell? ⟨w.heap.size, 34, none⟩ = some (.slice ha m.hs.length hc) ∧ w2.cell? ⟨w.heap.size, 35, none⟩ = some (.int .u16 m.co)) := by
    show ∀ _, _
    intro w2 hb
    have hM2 : MB w2 w.heap.size m s := by
      show _ = _
      rw [hb.block _ (Array.getElem?_eq_some_iff.1 hM1).1]; exact hM1
    obtain ⟨-, -, -, b28, b29, b30, b31, b32, b33, b34, b35⟩ := mb_cells hM2
    exact ⟨b28, b29, b30, b31.trans (by rw [hps]), b32.trans (by rw [hed]), b33.trans (by rw [hfr]), b34.trans (by rw [hhs]), b35⟩
  clear hM1 hs hps hed hfr hhs HCp
  have HBl : Hid (blank m = (decide (m.dw = 0) && (blRl m.r && (decide (m.po = 0) && ((!m.up) && (decide (m.sw = 0) && (decide (m.co = 0) && (decide (m.ps.length = 0) && (decide (m.ed.length = 0) && (decide (m.fr.length = 0) && (decide (m.hs.length = 0)))))))))))) := rfl
  obtain ⟨x1, X1⟩ : ∃ x, Hid (decide (m.dw = 0) = x) := ⟨_, rfl⟩
  obtain ⟨x2, X2⟩ : ∃ x, Hid (blRl m.r = x) := ⟨_, rfl⟩
  obtain ⟨x3, X3⟩ : ∃ x, Hid (decide (m.po = 0) = x) := ⟨_, rfl⟩
  obtain ⟨x4, X4⟩ : ∃ x, Hid ((!m.up) = x) := ⟨_, rfl⟩
  obtain ⟨x5, X5⟩ : ∃ x, Hid (decide (m.sw = 0) = x) := ⟨_, rfl⟩
  obtain ⟨x6, X6⟩ : ∃ x, Hid (decide (m.co = 0) = x) := ⟨_, rfl⟩
  obtain ⟨x7, X7⟩ : ∃ x, Hid (decide (m.ps.length = 0) = x) := ⟨_, rfl⟩
  obtain ⟨x8, X8⟩ : ∃ x, Hid (decide (m.ed.length = 0) = x) := ⟨_, rfl⟩
  obtain ⟨x9, X9⟩ : ∃ x, Hid (decide (m.fr.length = 0) = x) := ⟨_, rfl⟩
  obtain ⟨x10, X10⟩ : ∃ x, Hid (decide (m.hs.length = 0) = x) := ⟨_, rfl⟩
  rw [X1.out, X2.out, X3.out, X4.out, X5.out, X6.out, X7.out, X8.out, X9.out, X10.out] at HBl
  rw [X2.out] at HR
  have e1 : (m.dw == 0) = x1 := by rw [← X1.out]; rfl
  have e3 : (m.po == 0) = x3 := by rw [← X3.out]; rfl
  have e5 : (m.sw == 0) = x5 := by rw [← X5.out]; rfl
  have e6 : (m.co == 0) = x6 := by rw [← X6.out]; rfl
  have e7 : (((m.ps.length : Nat) : Int) == 0) = x7 := by rw [← X7.out, Bool.eq_iff_iff]; simp
  have e8 : (((m.ed.length : Nat) : Int) == 0) = x8 := by rw [← X8.out, Bool.eq_iff_iff]; simp
  have e9 : (((m.fr.length : Nat) : Int) == 0) = x9 := by rw [← X9.out, Bool.eq_iff_iff]; simp
  have e10 : (((m.hs.length : Nat) : Int) == 0) = x10 := by rw [← X10.out, Bool.eq_iff_iff]; simp
  have e4 : m.up = !x4 := by rw [← X4.out]; simp
  clear X1 X2 X3 X4 X5 X6 X7 X8 X9 X10
  generalize m.up = up at e4 HC
  cases x1
  · go_enter Tryz.func31, Tryz.ntmps31
    go_upto_region 1 with fail
    rw [HWe.out]
    go_wp2_with (fail)
    go_ret
    exact ⟨by rw [HBl.out]; rfl, HB.out⟩
  · skip
    cases x2
    · go_enter Tryz.func31, Tryz.ntmps31
      go_upto_region 1 with fail
      rw [HWe.out]
      go_wp2_with (first
        | (refine ldMid 31 (.tmp 7) rfl rfl _ 3 rfl (rlc m.r s.cp) _ Tryz.underlying31 rfl (sizeRl m.r s.cp) HRg.out ?_)
        | (go_at_call 45; refine (HR.out).mono ?_; rintro e w2 ⟨rfl, hb⟩; obtain ⟨b28, b29, b30, b31, b32, b33, b34, b35⟩ := HC.out w2 hb; have HB2 := hid hb; clear hb))
      go_ret
      exact ⟨by rw [HBl.out]; rfl, HB.out.trans (HB2.out.mono HB.out.size)⟩
    · skip
      cases x3
      · go_enter Tryz.func31, Tryz.ntmps31
        go_upto_region 1 with fail
        rw [HWe.out]
        go_wp2_with (first
          | (refine ldMid 31 (.tmp 7) rfl rfl _ 3 rfl (rlc m.r s.cp) _ Tryz.underlying31 rfl (sizeRl m.r s.cp) HRg.out ?_)
          | (go_at_call 45; refine (HR.out).mono ?_; rintro e w2 ⟨rfl, hb⟩; obtain ⟨b28, b29, b30, b31, b32, b33, b34, b35⟩ := HC.out w2 hb; have HB2 := hid hb; clear hb))
        go_ret
        exact ⟨by rw [HBl.out]; rfl, HB.out.trans (HB2.out.mono HB.out.size)⟩
      · skip
        cases x4
        · simp only [Bool.not_false] at e4
          subst e4
          go_enter Tryz.func31, Tryz.ntmps31
          go_upto_region 1 with fail
          rw [HWe.out]
          go_wp2_with (first
            | (refine ldMid 31 (.tmp 7) rfl rfl _ 3 rfl (rlc m.r s.cp) _ Tryz.underlying31 rfl (sizeRl m.r s.cp) HRg.out ?_)
            | (go_at_call 45; refine (HR.out).mono ?_; rintro e w2 ⟨rfl, hb⟩; obtain ⟨b28, b29, b30, b31, b32, b33, b34, b35⟩ := HC.out w2 hb; have HB2 := hid hb; clear hb))
          go_ret
          exact ⟨by rw [HBl.out]; rfl, HB.out.trans (HB2.out.mono HB.out.size)⟩
        · simp only [Bool.not_true] at e4
          subst e4
          skip
          cases x5
          · go_enter Tryz.func31, Tryz.ntmps31
            go_upto_region 1 with fail
            rw [HWe.out]
            go_wp2_with (first
              | (refine ldMid 31 (.tmp 7) rfl rfl _ 3 rfl (rlc m.r s.cp) _ Tryz.underlying31 rfl (sizeRl m.r s.cp) HRg.out ?_)
              | (go_at_call 45; refine (HR.out).mono ?_; rintro e w2 ⟨rfl, hb⟩; obtain ⟨b28, b29, b30, b31, b32, b33, b34, b35⟩ := HC.out w2 hb; have HB2 := hid hb; clear hb))
            go_ret
            exact ⟨by rw [HBl.out]; rfl, HB.out.trans (HB2.out.mono HB.out.size)⟩
          · skip
            cases x6
            · go_enter Tryz.func31, Tryz.ntmps31
              go_upto_region 1 with fail
              rw [HWe.out]
              go_wp2_with (first
                | (refine ldMid 31 (.tmp 7) rfl rfl _ 3 rfl (rlc m.r s.cp) _ Tryz.underlying31 rfl (sizeRl m.r s.cp) HRg.out ?_)
                | (go_at_call 45; refine (HR.out).mono ?_; rintro e w2 ⟨rfl, hb⟩; obtain ⟨b28, b29, b30, b31, b32, b33, b34, b35⟩ := HC.out w2 hb; have HB2 := hid hb; clear hb))
              go_ret
              exact ⟨by rw [HBl.out]; rfl, HB.out.trans (HB2.out.mono HB.out.size)⟩
            · skip
              cases x7
              · go_enter Tryz.func31, Tryz.ntmps31
                go_upto_region 1 with fail
                rw [HWe.out]
                go_wp2_with (first
                  | (refine ldMid 31 (.tmp 7) rfl rfl _ 3 rfl (rlc m.r s.cp) _ Tryz.underlying31 rfl (sizeRl m.r s.cp) HRg.out ?_)
                  | (go_at_call 45; refine (HR.out).mono ?_; rintro e w2 ⟨rfl, hb⟩; obtain ⟨b28, b29, b30, b31, b32, b33, b34, b35⟩ := HC.out w2 hb; have HB2 := hid hb; clear hb))
                go_ret
                exact ⟨by rw [HBl.out]; rfl, HB.out.trans (HB2.out.mono HB.out.size)⟩
              · skip
                cases x8
                · go_enter Tryz.func31, Tryz.ntmps31
                  go_upto_region 1 with fail
                  rw [HWe.out]
                  go_wp2_with (first
                    | (refine ldMid 31 (.tmp 7) rfl rfl _ 3 rfl (rlc m.r s.cp) _ Tryz.underlying31 rfl (sizeRl m.r s.cp) HRg.out ?_)
                    | (go_at_call 45; refine (HR.out).mono ?_; rintro e w2 ⟨rfl, hb⟩; obtain ⟨b28, b29, b30, b31, b32, b33, b34, b35⟩ := HC.out w2 hb; have HB2 := hid hb; clear hb))
                  go_ret
                  exact ⟨by rw [HBl.out]; rfl, HB.out.trans (HB2.out.mono HB.out.size)⟩
                · skip
                  cases x9
                  · go_enter Tryz.func31, Tryz.ntmps31
                    go_upto_region 1 with fail
                    rw [HWe.out]
                    go_wp2_with (first
                      | (refine ldMid 31 (.tmp 7) rfl rfl _ 3 rfl (rlc m.r s.cp) _ Tryz.underlying31 rfl (sizeRl m.r s.cp) HRg.out ?_)
                      | (go_at_call 45; refine (HR.out).mono ?_; rintro e w2 ⟨rfl, hb⟩; obtain ⟨b28, b29, b30, b31, b32, b33, b34, b35⟩ := HC.out w2 hb; have HB2 := hid hb; clear hb))
                    go_ret
                    exact ⟨by rw [HBl.out]; rfl, HB.out.trans (HB2.out.mono HB.out.size)⟩
                  · skip
                    cases x10
                    · go_enter Tryz.func31, Tryz.ntmps31
                      go_upto_region 1 with fail
                      rw [HWe.out]
                      go_wp2_with (first
                        | (refine ldMid 31 (.tmp 7) rfl rfl _ 3 rfl (rlc m.r s.cp) _ Tryz.underlying31 rfl (sizeRl m.r s.cp) HRg.out ?_)
                        | (go_at_call 45; refine (HR.out).mono ?_; rintro e w2 ⟨rfl, hb⟩; obtain ⟨b28, b29, b30, b31, b32, b33, b34, b35⟩ := HC.out w2 hb; have HB2 := hid hb; clear hb))
                      go_ret
                      exact ⟨by rw [HBl.out]; rfl, HB.out.trans (HB2.out.mono HB.out.size)⟩
                    · go_enter Tryz.func31, Tryz.ntmps31
                      go_upto_region 1 with fail
                      rw [HWe.out]
                      go_wp2_with (first
                        | (refine ldMid 31 (.tmp 7) rfl rfl _ 3 rfl (rlc m.r s.cp) _ Tryz.underlying31 rfl (sizeRl m.r s.cp) HRg.out ?_)
                        | (go_at_call 45; refine (HR.out).mono ?_; rintro e w2 ⟨rfl, hb⟩; obtain ⟨b28, b29, b30, b31, b32, b33, b34, b35⟩ := HC.out w2 hb; have HB2 := hid hb; clear hb))
                      go_ret
                      exact ⟨by rw [HBl.out]; rfl, HB.out.trans (HB2.out.mono HB.out.size)⟩
end Go.Proofs.YtllbbbfkdgjffaaGreatDoor
namespace Go.Proofs.YtllbbbfkdgjffaaGreatDoor
open Go.RowKit

set_option maxHeartbeats 1600000 in
set_option maxRecDepth 100000 in
theorem rempty_any {T : Nat → Prop} (r : Rl) (u : Value) (w : World) (hu : Cps T w u r.cp) :
    Calls Tryz.prog 49 #[.agg (rlc r u)] w fun e w' => e = .returned (.bool (blRl r)) ∧ Below w.heap.size w w' := by
  have hg1 : (w.alloc (.cells (rlc r u) 31)).heap[w.heap.size]? = some (.cells (rlc r u) 31 (0, 0)) := heap_alloc_new _ _
  have HB := hid ((Below.refl w.heap.size w).alloc (Nat.le_refl _) (.cells (rlc r u) 31))
  obtain ⟨q0, q1, q2, Q3⟩ := rl_cells hg1
  obtain ⟨ua, uc, rfl, -⟩ := hu.form
  have hlen := hu.len
  obtain ⟨W, HWe⟩ : ∃ W, Hid (w.alloc (.cells (rlc r (.slice ua r.cp.length uc)) 31) = W) := ⟨_, rfl⟩
  rw [HWe.out] at HB q0 q1 q2 Q3
  have HBl : Hid (blRl r = (decide (r.rk = 0) && (decide (r.ck = 0) && (decide (r.cp.length = 0) && eqM r.mt zf)))) := by
    show _ = _
    unfold blRl
    rw [allU_eqM]
    cases decide (r.rk = 0) <;> cases decide (r.ck = 0) <;> cases decide (r.cp.length = 0) <;> cases eqM r.mt zf <;> rfl
  clear hg1 hu
  obtain ⟨x1, X1⟩ : ∃ x, Hid (decide (r.rk = 0) = x) := ⟨_, rfl⟩
  obtain ⟨x2, X2⟩ : ∃ x, Hid (eqM r.mt zf = x) := ⟨_, rfl⟩
  obtain ⟨x3, X3⟩ : ∃ x, Hid (decide (r.cp.length = 0) = x) := ⟨_, rfl⟩
  obtain ⟨x4, X4⟩ : ∃ x, Hid (decide (r.ck = 0) = x) := ⟨_, rfl⟩
  rw [X1.out, X2.out, X3.out, X4.out] at HBl
  have e1 : (r.rk == 0) = x1 := by rw [← X1.out]; rfl
  have e3 : (((r.cp.length : Nat) : Int) == 0) = x3 := by
    rw [← X3.out, Bool.eq_iff_iff]; simp
  have e4 : (r.ck == 0) = x4 := by rw [← X4.out]; rfl
  clear X1 X3 X4
  cases x1
  · go_enter Tryz.func49, Tryz.ntmps49
    go_upto_region 1 with fail
    rw [HWe.out]
    go_wp2
    go_ret
    exact ⟨by rw [HBl.out]; rfl, HB.out⟩
  · cases x4
    · go_enter Tryz.func49, Tryz.ntmps49
      go_upto_region 1 with fail
      rw [HWe.out]
      go_wp2
      go_ret
      exact ⟨by rw [HBl.out]; rfl, HB.out⟩
    · cases x3
      · go_enter Tryz.func49, Tryz.ntmps49
        go_upto_region 1 with fail
        rw [HWe.out]
        go_wp2
        go_ret
        exact ⟨by rw [HBl.out]; rfl, HB.out⟩
      · go_enter Tryz.func49, Tryz.ntmps49
        go_upto_region 1 with fail
        rw [HWe.out]
        go_wp2_with (first
          | (refine ldMid 28 (.tmp 18) rfl rfl _ 1 rfl (row 22 r.mt) _ Tryz.underlying28 rfl (sizeMt r.mt) Q3.out ?_)
          | (refine bld26 rfl rfl ?_)
          | (refine eql26 (.tmp 19) (.tmp 20) rfl r.mt zf rfl rfl rfl ?_; rw [X2.out]))
        go_ret
        exact ⟨by rw [HBl.out]; rfl, HB.out⟩
end Go.Proofs.YtllbbbfkdgjffaaGreatDoor
