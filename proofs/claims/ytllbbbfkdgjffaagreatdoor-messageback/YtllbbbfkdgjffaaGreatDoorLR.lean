/-
  Proved here: the laws' looks whether two rules, two lists of held rules, two messages are the same say true of two readings of one. No condition.
-/
import Derived.Test.YtllbbbfkdgjffaaGreatDoorLS
import Derived.Test.YtllbbbfkdgjffaaGreatDoorR4
namespace Go.Proofs.YtllbbbfkdgjffaaGreatDoor
open Go.RowKit

set_option maxHeartbeats 1600000 in
set_option maxRecDepth 100000 in
theorem lrule_same {T T' : Nat → Prop} {w : World} {u u' : Value} (r : Rl) (h : Cps T w u r.cp) (h' : Cps T' w u' r.cp) :
    Calls Tryz.prog 26 #[.agg (rlc r u), .agg (rlc r u')] w fun e w' => e = .returned (.bool true) ∧ Below w.heap.size w w' := by
  obtain ⟨W, HW, hb, hz, h0, h1⟩ := two_new w (.cells (rlc r u) 31) (.cells (rlc r u') 31)
  obtain ⟨ao, cap, rfl, -⟩ := h.form
  obtain ⟨ao', cap', rfl, -⟩ := h'.form
  obtain ⟨q0, q1, q2, Q3⟩ := rl_cells h0
  obtain ⟨p0, p1, p2, P3⟩ := rl_cells h1
  have HB := hid hb
  have HC := hid (lcopies_same (Cps.carry (T' := T) (fun b hb' hT => ⟨hT, hb.block b hb'⟩) h) (Cps.carry (T' := T') (fun b hb' hT => ⟨hT, hb.block b hb'⟩) h'))
  clear hb h0 h1 h h'
  go_enter Tryz.func26, Tryz.ntmps26
  go_upto_region 1 with fail
  rw [show (w.alloc (.cells (rlc r (.slice ao r.cp.length cap)) 31)).alloc (.cells (rlc r (.slice ao' r.cp.length cap')) 31) = W from HW.out.symm]
  go_wp2_with (first
    | (refine ldMid 28 (.tmp 11) rfl rfl _ 1 rfl (row 22 r.mt) _ Tryz.underlying28 rfl (sizeMt r.mt) Q3.out ?_)
    | (refine ldMid 28 (.tmp 13) rfl rfl _ 1 rfl (row 22 r.mt) _ Tryz.underlying28 rfl (sizeMt r.mt) P3.out ?_)
    | (refine eql26 (.tmp 12) (.tmp 14) rfl r.mt r.mt rfl rfl rfl ?_; rw [eqM_refl])
    | (go_at_call 43; refine (HC.out).mono ?_; rintro e w1 ⟨rfl, ho⟩; have HO := hid ho; clear ho))
  go_ret
  exact ⟨rfl, HB.out.trans (HO.out.below fun k hk => hk.elim)⟩
end Go.Proofs.YtllbbbfkdgjffaaGreatDoor
