/-
  Proved here: PolicyOwn returns true for every policy, and leaves it as it was. Condition: when the call begins, the listed package-level variables hold what the program's own initialisers lay (the card ties that to the text of this seat's pruned copy of the program).
-/
import Derived.Test.YtjallmncajhamaaDoorOS
import Derived.Test.YtjallmncajhamaaDoorGO
import Derived.Test.YtjallmncajhamaaDoorZG
namespace Go.Proofs.YtjallmncajhamaaDoor.own18
open Go.ChangeShapes Go.WideShapes Go.ChangeAt Go.RowKit
set_option maxRecDepth 100000

theorem own_any9 (p : Pi) (cs : Array Value) (w : World) (hp : GpV (fun b => b < w.heap.size) w p cs) (hwp : Wp p) (hT : TabP w) (hz : 3 ≤ w.heap.size) :
    Calls Tryd.prog 5 #[.agg cs] w fun e w' => e = .returned (.bool true) ∧ Below w.heap.size w w' := by
  by_cases hg : 8192 < szI p.main + qszI p.qs
  · exact own_great p cs w hp hT hz hg
  · exact own_small p cs w hp hwp hT hz (by omega)
theorem ok_struct {P : Program} {w : World} {r : Reach} {base : Nat} {params : Array TypeId} {args : Array Value} {t : TypeId} {fs : Array Field} (hval : ∀ (j : Nat) t v, params[j]? = some t → args[j]? = some v → Value.okWide P w r base t v) (hu : P.underlying t = some (.struct fs)) (j : Nat) (v : Value) (hp : params[j]? = some t) (ha : args[j]? = some v) : ∃ cs, v = .agg cs ∧ cs.size = P.cellsOf t := by
  have h := hval j t v hp ha
  unfold Value.okWide at h
  rw [hu] at h
  obtain ⟨cs, h1, h2, _⟩ := h
  exact ⟨cs, h1, h2⟩
theorem contract (H : Type) (enc : TypeId × Value → H) (W : World) (base : Nat) (args : Array Value) (ds gs : List (DataW H)) (before : List MemPlace)
    (hval : ∀ (j : Nat) t v, Tryd.f5.params[j]? = some t → args[j]? = some v → Value.okWide Tryd.prog W .any base t v)
    (hW : DataW.Whole enc Tryd.prog Tryd.f5.params.toList Rows.policyOwnSpec.vars false W args.toList ds gs before) (hsz0 : (DataW.weightsEach Tryd.prog (Tryd.f5.params.toList ++ (OpenSpec.ofChange Rows.policyOwnSpec).bare.plain.varTypes Tryd.prog) (ds ++ gs)).all (· ≤ reachBytes) = true) (hL : laidMetH Tryd.prog Rows.policyOwnRow.laid W) :
    Calls Tryd.prog 5 args W fun e W' => ∃ v, e = .returned v ∧ Rows.policyOwnSpec.post enc Tryd.prog Tryd.f5 false true false false W args v W' := by
  have hW' := hW
  obtain ⟨p, q, hA0, hV, rfl, hfz, hnd⟩ := hW
  have hA : DataW.TrodAll enc Tryd.prog W 0 (fun _ => true) true Tryd.f5.params.toList args.toList ds p := hA0
  rw [Tryd.params5] at hA hval
  obtain ⟨v0, vs0, d0, ds0, p0, q0, hargs, rfl, rfl, h0, r0⟩ := trodAll_cons hA
  obtain ⟨rfl, rfl, rfl⟩ := trodAll_nil r0
  obtain rfl : args = #[v0] := by cases args; simp_all
  obtain ⟨rfl, rfl⟩ := trodVars_none hV
  clear hA0
  simp only [List.append_nil] at hW'
  have l0 : ∀ y ∈ p0, y.block < W.heap.size := fun y hy => by simpa using hW'.lt y (by simp [hy])
  have c0 : ∃ cs, v0 = .agg cs ∧ cs.size = Tryd.prog.cellsOf 29 := by
    have hu := Tryd.underlying29
    clear hW' hfz hnd hsz0 hL
    revert hval hu
    generalize Tryd.prog = P
    intro hval hu
    exact ok_struct hval hu 0 v0 rfl rfl
  obtain ⟨cs0, rfl, -⟩ := c0
  obtain ⟨P0, u0, wp0⟩ : ∃ p, GpV (fun b => b < W.heap.size) W p cs0 ∧ Wp p := by
    obtain ⟨fuel, hf⟩ := h0
    exact open_pi hf l0
  refine (own_any9 P0 cs0 W u0 wp0 (tabP_of_laid hL) (room_of_laid hL)).mono fun e W' ⟨he, hg⟩ => ?_
  subst he
  exact ⟨_, rfl, _, _, _, [], _, [], hW', trodAll_cons_mk (shut_bool Tryd.underlying4 _) trodAll_mk0, trodAll_cons_mk (Below.trod laidOut (by kernel_rfl) (of_decide_eq_true (by kernel_rfl)) h0 hg l0) trodAll_mk0, rfl, hg.frame _, fun h => by cases h⟩

theorem reads (os : Os) {H : Type} (enc : TypeId × Value → H) : ∃ places, DataW.whole enc Tryd.prog ((World.doorLaid Tryd.prog 28 os).forCall (fun _ _ => 0) ⟨#[], #[.agg #[.int .i8 0, .int .i8 0, .int .u64 0, nilS, nilS]], []⟩).memory Tryd.f5.params.toList Rows.policyOwnSpec.vars false (#[.agg #[.int .i8 0, .int .i8 0, .int .u64 0, nilS, nilS]] : Array Value).toList 8 = some ([.agg [.agg [.lit (.int .i8 0), .lit (.int .i8 0), .lit (.int .u64 0), .nil], .nil]], [], places) :=
  ⟨[], by kernel_rfl⟩

theorem lifted (os : Os) (started : os.Started) (H : Type) (enc : TypeId × Value → H) (F : Stop.Interp) :
    ReturnsInHanded {} Tryd.checked os 5 .any ((OpenSpec.ofChange Rows.policyOwnSpec).preRow enc Tryd.prog Tryd.f5 Rows.policyOwnRow.domain false Rows.policyOwnRow.laid) (((OpenSpec.ofChange Rows.policyOwnSpec).at F).post enc Tryd.prog Tryd.f5 false true false false) := by
  obtain ⟨places, hx⟩ := reads os enc
  refine returnsInHanded_of_row (C := Tryd.checked) (s := OpenSpec.ofChange Rows.policyOwnSpec) own started (by kernel_rfl) Tryd.func5
    (witness_row_at (enc := enc) (C := Tryd.checked) false (World.doorLaid Tryd.prog 28 os) #[.agg #[.int .i8 0, .int .i8 0, .int .u64 0, nilS, nilS]] rfl (by kernel_rfl) (by kernel_rfl) (by kernel_rfl)
      (OpenSpec.preRow_of_cond 8 hx (by kernel_rfl) (fun k hk => by cases hk) (by kernel_rfl) (door_met os _))) ?_
  intro W base args ds gs before hval hW _ _ hsz hL _ _
  exact contract H enc W base args ds gs before hval hW hsz hL

theorem said : Rows.PolicyOwnSaid :=
  OpenClaim.holds_of_cond 5 Tryd.f5 rfl rfl rfl rfl rfl rfl rfl ⟨rfl, rfl, rfl, rfl, rfl⟩ rfl rfl rfl rfl rfl (by kernel_rfl) Tryd.func5 (by kernel_rfl)
    (of_decide_eq_true (by kernel_rfl)) (by unfold Func.isWrapper; first | (rw [if_pos (by decide +kernel)]; kernel_rfl) | (rw [if_neg (by decide +kernel)]; exact ⟨rfl, rfl⟩))
    (fun os started H enc _ F => by rw [OpenClaim.pre_eq_preRow]; exact lifted os started H enc F)

theorem plain (f : FuncId) (fn : Func) (hf : Tryd.pinned.checked.prog.funcNamed "tollbridge/tollbridgelaw18.PolicyOwn" = some f) (hfn : Tryd.pinned.checked.prog.funcs[f]? = some fn) :
    false = Tryd.pinned.checked.prog.looks [] ∧ ∀ (j : Nat) t, fn.params[j]? = some t → Tryd.pinned.checked.prog.wantsStandIn t = false := by
  obtain rfl : f = 5 := Option.some.inj ((show Tryd.prog.funcNamed "tollbridge/tollbridgelaw18.PolicyOwn" = some 5 by kernel_rfl).symm.trans hf) |>.symm
  obtain rfl : fn = Tryd.f5 := (Option.some.inj (Tryd.func5.symm.trans hfn)).symm
  refine ⟨by kernel_rfl, fun j t ht => ?_⟩
  rw [Tryd.params5] at ht
  have hm := Array.mem_of_getElem? ht
  simp at hm
  subst hm
  exact (show Tryd.prog.wantsStandIn 29 = false by kernel_rfl)
end Go.Proofs.YtjallmncajhamaaDoor.own18

namespace Go.Proofs.YtjallmncajhamaaDoor
theorem policyOwn_card : Rows.PolicyOwnCardSaid :=
  Claim7.holds_tied_plain_at .later [] _ _ _ _ own18.said (fun _ h => by cases h) (by kernel_rfl) (fun _ h => by cases h) policyOwn_row_tie rfl ⟨rfl, rfl⟩ (by kernel_rfl) rfl own18.plain (by kernel_rfl)
end Go.Proofs.YtjallmncajhamaaDoor
