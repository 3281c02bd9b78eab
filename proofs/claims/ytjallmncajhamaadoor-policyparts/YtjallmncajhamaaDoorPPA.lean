/-
  Proved here: PolicyParts returns true for every policy and every path, and leaves them as they were. Condition: when the call begins, the listed package-level variables hold what the program's own initialisers lay (the card ties that to the text of this seat's pruned copy of the program).
-/
import Derived.Test.YtjallmncajhamaaDoorOS
import Derived.Test.YtjallmncajhamaaDoorOB
import Derived.Test.YtjallmncajhamaaDoorVC
namespace Go.Proofs.YtjallmncajhamaaDoor.parts18
open Go.ChangeShapes Go.WideShapes Go.ChangeAt Go.RowKit
set_option maxRecDepth 100000

theorem ok_struct {P : Program} {w : World} {r : Reach} {base : Nat} {params : Array TypeId} {args : Array Value} {t : TypeId} {fs : Array Field} (hval : ∀ (j : Nat) t v, params[j]? = some t → args[j]? = some v → Value.okWide P w r base t v) (hu : P.underlying t = some (.struct fs)) (j : Nat) (v : Value) (hp : params[j]? = some t) (ha : args[j]? = some v) : ∃ cs, v = .agg cs ∧ cs.size = P.cellsOf t := by
  have h := hval j t v hp ha
  unfold Value.okWide at h
  rw [hu] at h
  obtain ⟨cs, h1, h2, _⟩ := h
  exact ⟨cs, h1, h2⟩
theorem ok_slice {P : Program} {w : World} {r : Reach} {base : Nat} {params : Array TypeId} {args : Array Value} {t e : TypeId} (hval : ∀ (j : Nat) t v, params[j]? = some t → args[j]? = some v → Value.okWide P w r base t v) (hu : P.underlying t = some (.slice e)) (j : Nat) (v : Value) (hp : params[j]? = some t) (ha : args[j]? = some v) : ∃ ao n c, v = .slice ao n c := okWide_slice hu (hval j t v hp ha)
theorem ints_pick : ∀ ll : List (List Value), (∀ x ∈ ll, ∃ i : Int, x = [.int .i64 i]) → ∃ l : List Int, l.length = ll.length ∧ ll.flatten = l.map (Value.int .i64)
  | [], _ => ⟨[], rfl, rfl⟩
  | x :: ll, h => by
    obtain ⟨i, rfl⟩ := h x List.mem_cons_self
    obtain ⟨l, h1, h2⟩ := ints_pick ll fun y hy => h y (List.mem_cons_of_mem _ hy)
    exact ⟨i :: l, by simp [h1], by simp [h2]⟩
theorem contract (H : Type) (enc : TypeId × Value → H) (W : World) (base : Nat) (args : Array Value) (ds gs : List (DataW H)) (before : List MemPlace)
    (hval : ∀ (j : Nat) t v, Tryd.f6.params[j]? = some t → args[j]? = some v → Value.okWide Tryd.prog W .any base t v)
    (hW : DataW.Whole enc Tryd.prog Tryd.f6.params.toList Rows.policyPartsSpec.vars false W args.toList ds gs before) (hsz0 : (DataW.weightsEach Tryd.prog (Tryd.f6.params.toList ++ (OpenSpec.ofChange Rows.policyPartsSpec).bare.plain.varTypes Tryd.prog) (ds ++ gs)).all (· ≤ reachBytes) = true) (hL : laidMetH Tryd.prog Rows.policyPartsRow.laid W) :
    Calls Tryd.prog 6 args W fun e W' => ∃ v, e = .returned v ∧ Rows.policyPartsSpec.post enc Tryd.prog Tryd.f6 false true false false W args v W' := by
  have hW' := hW
  obtain ⟨p, q, hA0, hV, rfl, hfz, hnd⟩ := hW
  have hA : DataW.TrodAll enc Tryd.prog W 0 (fun _ => true) true Tryd.f6.params.toList args.toList ds p := hA0
  rw [Tryd.params6] at hA hval
  obtain ⟨v0, vs0, d0, ds0, p0, q0, hargs, rfl, rfl, h0, r0⟩ := trodAll_cons hA
  obtain ⟨v1, vs1, d1, ds1, p1, q1, rfl, rfl, rfl, h1, r1⟩ := trodAll_cons r0
  obtain ⟨rfl, rfl, rfl⟩ := trodAll_nil r1
  obtain rfl : args = #[v0, v1] := by cases args; simp_all
  obtain ⟨rfl, rfl⟩ := trodVars_none hV
  clear hA0
  simp only [List.append_nil] at hW'
  have l0 : ∀ y ∈ p0, y.block < W.heap.size := fun y hy => by simpa using hW'.lt y (by simp [hy])
  have l1 : ∀ y ∈ p1, y.block < W.heap.size := fun y hy => by simpa using hW'.lt y (by simp [hy])
  have c1 : ∃ ao n c, v1 = .slice ao n c := by
    have hu := Tryd.underlying42
    clear hW' hfz hnd hsz0 hL
    revert hval hu
    generalize Tryd.prog = P
    intro hval hu
    exact ok_slice hval hu 1 v1 rfl rfl
  obtain ⟨ao1, n1, k1, rfl⟩ := c1
  have c0 : ∃ cs, v0 = .agg cs ∧ cs.size = Tryd.prog.cellsOf 29 := by
    have hu := Tryd.underlying29
    clear hW' hfz hnd hsz0 hL
    revert hval hu
    generalize Tryd.prog = P
    intro hval hu
    exact ok_struct hval hu 0 v0 rfl rfl
  obtain ⟨cs0, rfl, -⟩ := c0
  obtain ⟨P0, u0, wp0⟩ : ∃ p, PiV (fun b => b < W.heap.size) W p cs0 ∧ Wp p := by
    obtain ⟨fuel, hf⟩ := h0
    exact open_pi hf l0
  obtain ⟨L1, u1⟩ : ∃ l : List Int, Rx (fun b => b < W.heap.size) 1 W (.slice ao1 n1 k1) l.length (l.map (Value.int .i64)) := by
    obtain ⟨fuel, hf⟩ := h1
    obtain ⟨v, ll, hv, hr, hx⟩ := open_rx Tryd.underlying42 cells3 (by omega) hf l1 (fun x => ∃ i : Int, x = [.int .i64 i]) (fun m cs' D Pl hm h2 h3 => by
      obtain ⟨i, c, -, -⟩ := DataW.trod_int Tryd.underlying3 h2
      exact ⟨i, c⟩)
    have hv2 : [Value.slice ao1 n1 k1] = [v] := hv
    obtain rfl : Value.slice ao1 n1 k1 = v := by simpa using hv2
    obtain ⟨l, h5, h6⟩ := ints_pick ll fun x hx2 => (hx x hx2).2
    exact ⟨l, by rw [h5, ← h6]; exact hr⟩
  refine (parts_any P0 cs0 _ L1 W u0 wp0 u1 (tabP_of_laid hL) (room_of_laid hL)).mono fun e W' ⟨he, hg⟩ => ?_
  subst he
  exact ⟨_, rfl, _, _, _, [], _, [], hW', trodAll_cons_mk (shut_bool Tryd.underlying4 _) trodAll_mk0, trodAll_cons_mk (Below.trod laidOut (by kernel_rfl) (of_decide_eq_true (by kernel_rfl)) h0 hg l0) (trodAll_cons_mk (Below.trod laidOut (by kernel_rfl) (of_decide_eq_true (by kernel_rfl)) h1 hg l1) trodAll_mk0), rfl, hg.frame _, fun h => by cases h⟩

theorem reads (os : Os) {H : Type} (enc : TypeId × Value → H) : ∃ places, DataW.whole enc Tryd.prog ((World.doorLaid Tryd.prog 28 os).forCall (fun _ _ => 0) ⟨#[], #[.agg #[.int .i8 0, .int .i8 0, .int .u64 0, nilS, nilS], nilS], []⟩).memory Tryd.f6.params.toList Rows.policyPartsSpec.vars false (#[.agg #[.int .i8 0, .int .i8 0, .int .u64 0, nilS, nilS], nilS] : Array Value).toList 8 = some ([.agg [.agg [.lit (.int .i8 0), .lit (.int .i8 0), .lit (.int .u64 0), .nil], .nil], .nil], [], places) :=
  ⟨[], by kernel_rfl⟩

theorem lifted (os : Os) (started : os.Started) (H : Type) (enc : TypeId × Value → H) (F : Stop.Interp) :
    ReturnsInHanded {} Tryd.checked os 6 .any ((OpenSpec.ofChange Rows.policyPartsSpec).preRow enc Tryd.prog Tryd.f6 Rows.policyPartsRow.domain false Rows.policyPartsRow.laid) (((OpenSpec.ofChange Rows.policyPartsSpec).at F).post enc Tryd.prog Tryd.f6 false true false false) := by
  obtain ⟨places, hx⟩ := reads os enc
  refine returnsInHanded_of_row (C := Tryd.checked) (s := OpenSpec.ofChange Rows.policyPartsSpec) own started (by kernel_rfl) Tryd.func6
    (witness_row_at (enc := enc) (C := Tryd.checked) false (World.doorLaid Tryd.prog 28 os) #[.agg #[.int .i8 0, .int .i8 0, .int .u64 0, nilS, nilS], nilS] rfl (by kernel_rfl) (by kernel_rfl) (by kernel_rfl)
      (OpenSpec.preRow_of_cond 8 hx (by kernel_rfl) (fun k hk => by cases hk) (by kernel_rfl) (door_met os _))) ?_
  intro W base args ds gs before hval hW _ _ hsz hL _ _
  exact contract H enc W base args ds gs before hval hW hsz hL

theorem said : Rows.PolicyPartsSaid :=
  OpenClaim.holds_of_cond 6 Tryd.f6 rfl rfl rfl rfl rfl rfl rfl ⟨rfl, rfl, rfl, rfl, rfl⟩ rfl rfl rfl rfl rfl (by kernel_rfl) Tryd.func6 (by kernel_rfl)
    (of_decide_eq_true (by kernel_rfl)) (by unfold Func.isWrapper; first | (rw [if_pos (by decide +kernel)]; kernel_rfl) | (rw [if_neg (by decide +kernel)]; exact ⟨rfl, rfl⟩))
    (fun os started H enc _ F => by rw [OpenClaim.pre_eq_preRow]; exact lifted os started H enc F)

theorem plain (f : FuncId) (fn : Func) (hf : Tryd.pinned.checked.prog.funcNamed "tollbridge/tollbridgelaw18.PolicyParts" = some f) (hfn : Tryd.pinned.checked.prog.funcs[f]? = some fn) :
    false = Tryd.pinned.checked.prog.looks [] ∧ ∀ (j : Nat) t, fn.params[j]? = some t → Tryd.pinned.checked.prog.wantsStandIn t = false := by
  obtain rfl : f = 6 := Option.some.inj ((show Tryd.prog.funcNamed "tollbridge/tollbridgelaw18.PolicyParts" = some 6 by kernel_rfl).symm.trans hf) |>.symm
  obtain rfl : fn = Tryd.f6 := (Option.some.inj (Tryd.func6.symm.trans hfn)).symm
  refine ⟨by kernel_rfl, fun j t ht => ?_⟩
  rw [Tryd.params6] at ht
  have hm := Array.mem_of_getElem? ht
  simp at hm
  rcases hm with rfl | rfl
  · exact (show Tryd.prog.wantsStandIn 29 = false by kernel_rfl)
  · exact (show Tryd.prog.wantsStandIn 42 = false by kernel_rfl)
end Go.Proofs.YtjallmncajhamaaDoor.parts18

namespace Go.Proofs.YtjallmncajhamaaDoor
theorem policyParts_card : Rows.PolicyPartsCardSaid :=
  Claim7.holds_tied_plain_at .later [] _ _ _ _ parts18.said (fun _ h => by cases h) (by kernel_rfl) (fun _ h => by cases h) policyParts_row_tie rfl ⟨rfl, rfl⟩ (by kernel_rfl) rfl parts18.plain (by kernel_rfl)
end Go.Proofs.YtjallmncajhamaaDoor
