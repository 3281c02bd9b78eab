/-
  Proved here: two headers are compared. No condition.
-/
import Derived.Test.YtejmobkfanejbaaDoorX1
import Derived.MapViews
import Derived.DeepKeys4
namespace Go.Proofs.YtejmobkfanejbaaDoor
open Go.RowKit

def eqR (n : Nat) (a b : Nat → Int) : Bool := (List.range n).all fun i => a i == b i
theorem eqR_iff {n : Nat} {a b : Nat → Int} : eqR n a b = true ↔ ∀ k, k < n → a k = b k := by
  simp [eqR]
theorem plainU : Tryd.prog.plainKey 22 = true := by kernel_rfl
theorem eqItems_run (a b : Nat → Int) (w : World) (d : Nat) : ∀ is : List Nat, (∀ i ∈ is, i < 11) →
    (Op.eqItems (d + 1) 22 1 (row 11 a) (row 11 b) is).run Tryd.prog w = .ok (is.all fun i => a i == b i) w
  | [], _ => by simp [Op.eqItems]
  | i :: is, hall => by
    have hi := hall i (by simp)
    have p1 := run_part_plain (P := Tryd.prog) w plainU (row_at 11 a i hi)
    have p2 := run_part_plain (P := Tryd.prog) w plainU (row_at 11 b i hi)
    simp only [Op.eqItems, Sem.run_bind, Nat.mul_one, p1, p2, Result.andThen_ok, run_equalIn_int w d 22 .u64 .u64 (a i) (b i) Tryd.underlying22]
    cases hab : (a i == b i)
    · simp [hab]
    · simp only [Bool.not_true, Bool.false_eq_true, if_false, List.all_cons, hab, Bool.true_and]
      exact eqItems_run a b w d is (fun j hj => hall j (by simp [hj]))
theorem infoU : ∃ i, Tryd.prog.info? 22 = some i := by
  have h : (Tryd.prog.info? 22).isSome = true := by kernel_rfl
  exact Option.isSome_iff_exists.1 h
theorem eqA_run (d : Nat) (a b : Nat → Int) (w : World) : (Op.equalIn (d + 2) 24 (hv a) (hv b)).run Tryd.prog w = .ok (eqR 11 a b) w := by
  obtain ⟨i, hi⟩ := infoU
  rw [run_equalIn_array w (d + 1) _ _ Tryd.underlying24 hi, cellsU, eqItems_run a b w d (List.range 11) (fun i hi => List.mem_range.1 hi)]
  rfl
theorem guardH : Tryd.prog.eqGuardType Tryd.prog.depth 24 = false := by kernel_rfl
theorem runEqH {o : Oper} {a : Act} {w : World} (x y : Operand) (ho : o.op = .binOp .eql 24 x y 24) (p q : Nat → Int) (hx : a.eval x = hv p) (hy : a.eval y = hv q) : (execOp a.eval o).run Tryd.prog w = .ok (.value (.bool (eqR 11 p q))) w := by
  unfold execOp
  simp only [ho, hx, hy, Sem.run_bind, Sem.run_pure, Result.andThen_ok, run_eqGuard_agg w _ _ _ _ _ _ guardH, run_eql_struct, show (10000 : Nat) = 9998 + 2 from rfl, eqA_run]
theorem runNeH {o : Oper} {a : Act} {w : World} (x y : Operand) (ho : o.op = .binOp .neq 24 x y 24) (p q : Nat → Int) (hx : a.eval x = hv p) (hy : a.eval y = hv q) : (execOp a.eval o).run Tryd.prog w = .ok (.value (.bool (!eqR 11 p q))) w := by
  unfold execOp
  simp only [ho, hx, hy, Sem.run_bind, Sem.run_pure, Result.andThen_ok, run_eqGuard_agg w _ _ _ _ _ _ guardH, run_neq_struct, show (10000 : Nat) = 9998 + 2 from rfl, eqA_run]
theorem runLd {o : Oper} {a : Act} {w' : World} (ty : TypeId) (x : Operand) (ho : o.op = .load ty x) (g p : Nat) (hx : a.eval x = .pointer (some ⟨g, p, none⟩)) (cs : Array Value) (d : TypeDesc) (hg : w'.rangeAt g p cs.toList) (hu : Tryd.prog.underlying ty = some d) (hd : d.isRow = true) (hi : (Tryd.prog.info? ty).map (·.size) = some cs.size) : (execOp a.eval o).run Tryd.prog w' = .ok (.value (.agg cs)) w' := by
  unfold execOp
  simp only [ho, hx, Instr.loadAt, Instr.sureAddr, Sem.run_bind, Sem.run_pure, Result.andThen_ok, run_loadVar_mid w' g p ty cs.toList d hg hu hd (by rw [hi]; simp), Array.toArray_toList]
end Go.Proofs.YtejmobkfanejbaaDoor
