/-
  Proved here: errors.Is of a fault and a number says whether the fault's number is it. No condition.
-/
import Derived.Test.YtbbankcmeanjaaaDoorE1
import Derived.LaidEql
import Derived.Stop.Asserts
import Derived.RowKitTokens
import Derived.Lib.IfaceEq
namespace Go.Proofs.YtbbankcmeanjaaaDoor
open Go.RowKit Go.Extern.Stop Go.Stop Go.Extern
set_option maxRecDepth 100000

theorem typeOf_e (v : Value) (w : World) : (ReflectliteType.typeOf #[.iface 34 v]).run Tryd.prog w = .ok (.iface 84 (.agg #[.pointer (some ⟨7, 34, none⟩)])) w := by kernel_rfl
theorem methodComparable (h : Value) (w : World) : (Go.method 257 84 (.agg #[h]) "Comparable").run Tryd.prog w = .ok (96, .agg #[h]) w := by kernel_rfl
theorem methodUnwrap (h : Value) (w : World) : (Go.method 257 39 h "Unwrap").run Tryd.prog w = .ok (90, h) w := by kernel_rfl
theorem comp_e (w : World) : (ReflectliteType.method (fun t => do Rtype.noPackHeld "Comparable" t; (fun a : TypeInfo => Value.bool a.comparable) <$> typeInfo t) #[.agg #[.pointer (some ⟨7, 34, none⟩)]]).run Tryd.prog w = .ok (.bool true) w := by kernel_rfl
theorem unwrap_any (N c : Nat) (w : World) (hc : w.cell? ⟨N, 0, none⟩ = some (.int .i64 ((c : Nat) : Int))) : Calls Tryd.prog 90 #[.pointer (some ⟨N, 0, none⟩)] w fun e w' => e = .returned (.iface 34 (.int .i64 ((c : Nat) : Int))) ∧ w' = w := by
  go_enter Tryd.func90, Tryd.ntmps90
  go_wp2
  go_ret
  exact ⟨rfl, rfl⟩
theorem noIs (v : Value) (xT : TypeId) (w : World) : (Instr.typeAssert (.iface 39 v) xT 96 true).run Tryd.prog w = .ok (.tuple #[.nilIface, .bool false]) w := run_typeAssert_lacksB Tryd.underlying96 (by kernel_rfl) (by kernel_rfl) v xT w
theorem hasUn (v : Value) (xT : TypeId) (w : World) : (Instr.typeAssert (.iface 39 v) xT 91 true).run Tryd.prog w = .ok (.tuple #[.iface 39 v, .bool true]) w := run_typeAssert_hasB Tryd.underlying91 (by kernel_rfl) v xT w
set_option maxHeartbeats 4000000 in
theorem is_hit (N c : Nat) (w : World) (hc : w.cell? ⟨N, 0, none⟩ = some (.int .i64 ((c : Nat) : Int))) :
    Calls Tryd.prog 13 #[.iface 39 (.pointer (some ⟨N, 0, none⟩)), .iface 34 (.int .i64 ((c : Nat) : Int))] w fun ev w' => ev = .returned (.bool true) ∧ w' = w := by
  have h10 := @run_callFunc_extern Tryd.prog 28 _ ReflectliteType.typeOf Tryd.func28 (by kernel_rfl) (by kernel_rfl) (by kernel_rfl) (by kernel_rfl)
  have hcm := @run_callFunc_extern Tryd.prog 96 _ (ReflectliteType.method (fun t => do Rtype.noPackHeld "Comparable" t; pure (.bool (← typeInfo t).comparable))) Tryd.func96 (by kernel_rfl) (by kernel_rfl) (by kernel_rfl) (by kernel_rfl)
  have tO := typeOf_e
  have mC := methodComparable
  have mU := methodUnwrap
  have cE := comp_e
  have nI := noIs
  have hU := hasUn
  have q1 : ∀ W, (binOp .eql 24 (.iface 39 (.pointer (some ⟨N, 0, none⟩))) (.iface 34 (.int .i64 ((c : Nat) : Int)))).run Tryd.prog W = .ok (.bool false) W := fun W => run_eql_iface_types _ _ _ _ Tryd.underlying24 (by decide) W
  have q2 : ∀ W, (binOp .eql 24 (.iface 34 (.int .i64 ((c : Nat) : Int))) (.iface 34 (.int .i64 ((c : Nat) : Int)))).run Tryd.prog W = .ok (.bool true) W := fun W => by
    rw [Lib.run_eql_iface_int W _ _ Tryd.underlying24 (by kernel_rfl) Tryd.underlying34]; simp
  have HU := hid (unwrap_any N c w hc)
  go_enter Tryd.func13, Tryd.ntmps13
  go_wp2
  refine wp_loop_rounds 2 ?_
  rw [rounds_succ]
  go_wp2_with (go_at_call 90; refine (HU.out).mono ?_; rintro e w' ⟨rfl, rfl⟩)
  rw [rounds_succ]
  go_wp2
  go_ret
  exact ⟨rfl, rfl⟩
end Go.Proofs.YtbbankcmeanjaaaDoor
