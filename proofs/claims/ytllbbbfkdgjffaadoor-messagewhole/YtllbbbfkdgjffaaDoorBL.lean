/-
  Proved here: isBlankRule, isBlank tell whether a rule, a message has nothing but Type and Id. No condition.
-/
import Derived.Test.YtllbbbfkdgjffaaDoorT6
import Derived.Test.YtllbbbfkdgjffaaDoorE1
namespace Go.Proofs.YtllbbbfkdgjffaaDoor
open Go.RowKit

theorem allU_eqM (f : Nat → Int) : allU (fun k => f k == 0) 22 = eqM f zf := by
  rw [Bool.eq_iff_iff, allU_iff, eqM_iff]
  constructor
  · intro h k hk
    have := h k hk
    simpa [zf] using this
  · intro h k hk
    have := h k hk
    simpa [zf] using this

set_option maxHeartbeats 1600000 in
set_option maxRecDepth 100000 in
theorem isBlankRule_any {T : Nat → Prop} (r : Rl) (u : Value) (w : World) (hu : Cps T w u r.cp) :
    Calls Tryd.prog 20 #[.agg (rlc r u)] w fun e w' => e = .returned (.bool (blRl r)) ∧ Below w.heap.size w w' := by
  have hg1 : (w.alloc (.cells (rlc r u) 31)).heap[w.heap.size]? = some (.cells (rlc r u) 31 (0, 0)) := heap_alloc_new _ _
  have HB := hid ((Below.refl w.heap.size w).alloc (Nat.le_refl _) (.cells (rlc r u) 31))
  obtain ⟨q0, q1, q2, Q3⟩ := rl_cells hg1
  obtain ⟨ua, uc, rfl, -⟩ := hu.form
  have hlen := hu.len
  obtain ⟨W, HWe⟩ : ∃ W, Hid (w.alloc (.cells (rlc r (.slice ua r.cp.length uc)) 31) = W) := ⟨_, rfl⟩
  rw [HWe.out] at HB q0 q1 q2 Q3
  have HBl : Hid (blRl r = (decide (r.rk = 0) && (eqM r.mt zf && (decide (r.cp.length = 0) && decide (r.ck = 0))))) := by
    show _ = _
    unfold blRl
    rw [allU_eqM]
  clear hg1 hu
  obtain ⟨x1, X1⟩ : ∃ x, Hid (decide (r.rk = 0) = x) := ⟨_, rfl⟩
  obtain ⟨x2, X2⟩ : ∃ x, Hid (eqM r.mt zf = x) := ⟨_, rfl⟩
  obtain ⟨x3, X3⟩ : ∃ x, Hid (decide (r.cp.length = 0) = x) := ⟨_, rfl⟩
  obtain ⟨x4, X4⟩ : ∃ x, Hid (decide (r.ck = 0) = x) := ⟨_, rfl⟩
  rw [X1.out, X2.out, X3.out, X4.out] at HBl
  have e1 : (r.rk == 0) = x1 := by rw [← X1.out]; rfl
  have e3 : (((r.cp.length : Nat) : Int) == 0) = x3 := by
    rw [← X3.out, Bool.eq_iff_iff]; simp
  have e4 : (r.ck == 0) = x4 := by rw [← X4.out]; rfl
  clear X1 X3 X4
  cases x1
  · go_enter Tryd.func20, Tryd.ntmps20
    go_upto_region 1 with fail
    rw [HWe.out]
    go_wp2
    go_ret
    exact ⟨by rw [HBl.out]; rfl, HB.out⟩
  · cases x2
    · go_enter Tryd.func20, Tryd.ntmps20
      go_upto_region 1 with fail
      rw [HWe.out]
      go_wp2_with (first
        | (refine ldMid 28 (.tmp 7) rfl rfl _ 1 rfl (row 22 r.mt) _ Tryd.underlying28 rfl (sizeMt r.mt) Q3.out ?_)
        | (refine bld26 rfl rfl ?_)
        | (refine eql26 (.tmp 8) (.tmp 9) rfl r.mt zf rfl rfl rfl ?_; rw [X2.out]))
      go_ret
      exact ⟨by rw [HBl.out]; rfl, HB.out⟩
    · cases x3
      · go_enter Tryd.func20, Tryd.ntmps20
        go_upto_region 1 with fail
        rw [HWe.out]
        go_wp2_with (first
          | (refine ldMid 28 (.tmp 7) rfl rfl _ 1 rfl (row 22 r.mt) _ Tryd.underlying28 rfl (sizeMt r.mt) Q3.out ?_)
          | (refine bld26 rfl rfl ?_)
          | (refine eql26 (.tmp 8) (.tmp 9) rfl r.mt zf rfl rfl rfl ?_; rw [X2.out]))
        go_ret
        exact ⟨by rw [HBl.out]; rfl, HB.out⟩
      · go_enter Tryd.func20, Tryd.ntmps20
        go_upto_region 1 with fail
        rw [HWe.out]
        go_wp2_with (first
          | (refine ldMid 28 (.tmp 7) rfl rfl _ 1 rfl (row 22 r.mt) _ Tryd.underlying28 rfl (sizeMt r.mt) Q3.out ?_)
          | (refine bld26 rfl rfl ?_)
          | (refine eql26 (.tmp 8) (.tmp 9) rfl r.mt zf rfl rfl rfl ?_; rw [X2.out]))
        go_ret
        exact ⟨by rw [HBl.out]; rfl, HB.out⟩
end Go.Proofs.YtllbbbfkdgjffaaDoor
