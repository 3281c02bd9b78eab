/-
  Proved here: errors.Is of a fault and a number says whether the fault's number is it. No condition.
-/
import Derived.Test.YtbbankcmeanjaaaGreatDoorE1
import Derived.LaidEql
import Derived.Stop.Asserts
import Derived.RowKitTokens
import Derived.Lib.IfaceEq
namespace Go.Proofs.YtbbankcmeanjaaaGreatDoor
set_option maxRecDepth 100000
open Go.RowKit Go.Extern.Stop Go.Stop Go.Extern
set_option maxRecDepth 100000

theorem typeOf_e (v : Value) (w : World) : (ReflectliteType.typeOf #[.iface 27 v]).run Tryz.prog w = .ok (.iface 95 (.agg #[.pointer (some ⟨7, 27, none⟩)])) w := by kernel_rfl
theorem methodComparable (h : Value) (w : World) : (Go.method 268 95 (.agg #[h]) "Comparable").run Tryz.prog w = .ok (107, .agg #[h]) w := by kernel_rfl
theorem methodUnwrap (h : Value) (w : World) : (Go.method 268 36 h "Unwrap").run Tryz.prog w = .ok (101, h) w := by kernel_rfl
theorem comp_e (w : World) : (ReflectliteType.method (fun t => do Rtype.noPackHeld "Comparable" t; (fun a : TypeInfo => Value.bool a.comparable) <$> typeInfo t) #[.agg #[.pointer (some ⟨7, 27, none⟩)]]).run Tryz.prog w = .ok (.bool true) w := by kernel_rfl
theorem unwrap_any (N c : Nat) (w : World) (hc : w.cell? ⟨N, 0, none⟩ = some (.int .i64 ((c : Nat) : Int))) : Calls Tryz.prog 101 #[.pointer (some ⟨N, 0, none⟩)] w fun e w' => e = .returned (.iface 27 (.int .i64 ((c : Nat) : Int))) ∧ w' = w := by
  go_enter Tryz.func101, Tryz.ntmps101
  go_wp2
  go_ret
  exact ⟨rfl, rfl⟩
theorem noIs (v : Value) (xT : TypeId) (w : World) : (Instr.typeAssert (.iface 36 v) xT 107 true).run Tryz.prog w = .ok (.tuple #[.nilIface, .bool false]) w := run_typeAssert_lacksB Tryz.underlying107 (by kernel_rfl) (by kernel_rfl) v xT w
theorem hasUn (v : Value) (xT : TypeId) (w : World) : (Instr.typeAssert (.iface 36 v) xT 102 true).run Tryz.prog w = .ok (.tuple #[.iface 36 v, .bool true]) w := run_typeAssert_hasB Tryz.underlying102 (by kernel_rfl) v xT w
set_option maxHeartbeats 4000000 in
theorem is_hit (N c : Nat) (w : World) (hc : w.cell? ⟨N, 0, none⟩ = some (.int .i64 ((c : Nat) : Int))) :
    Calls Tryz.prog 14 #[.iface 36 (.pointer (some ⟨N, 0, none⟩)), .iface 27 (.int .i64 ((c : Nat) : Int))] w fun ev w' => ev = .returned (.bool true) ∧ w' = w := by
  have h10 := @run_callFunc_extern Tryz.prog 34 _ ReflectliteType.typeOf Tryz.func34 (by kernel_rfl) (by kernel_rfl) (by kernel_rfl) (by kernel_rfl)
  have hcm := @run_callFunc_extern Tryz.prog 107 _ (ReflectliteType.method (fun t => do Rtype.noPackHeld "Comparable" t; pure (.bool (← typeInfo t).comparable))) Tryz.func107 (by kernel_rfl) (by kernel_rfl) (by kernel_rfl) (by kernel_rfl)
  have tO := typeOf_e
  have mC := methodComparable
  have mU := methodUnwrap
  have cE := comp_e
  have nI := noIs
  have hU := hasUn
  have q1 : ∀ W, (binOp .eql 24 (.iface 36 (.pointer (some ⟨N, 0, none⟩))) (.iface 27 (.int .i64 ((c : Nat) : Int)))).run Tryz.prog W = .ok (.bool false) W := fun W => run_eql_iface_types _ _ _ _ Tryz.underlying24 (by decide) W
  have q2 : ∀ W, (binOp .eql 24 (.iface 27 (.int .i64 ((c : Nat) : Int))) (.iface 27 (.int .i64 ((c : Nat) : Int)))).run Tryz.prog W = .ok (.bool true) W := fun W => by
    rw [Lib.run_eql_iface_int W _ _ Tryz.underlying24 (by kernel_rfl) Tryz.underlying27]; simp
  have HU := hid (unwrap_any N c w hc)
  go_enter Tryz.func14, Tryz.ntmps14
  go_wp2
  refine wp_loop_rounds 2 ?_
  rw [rounds_succ]
  go_wp2_with (go_at_call 101; refine (HU.out).mono ?_; rintro e w' ⟨rfl, rfl⟩)
  rw [rounds_succ]
  go_wp2
  go_ret
  exact ⟨rfl, rfl⟩
end Go.Proofs.YtbbankcmeanjaaaGreatDoor
