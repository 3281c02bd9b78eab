/-
  Proved here: two headers are compared. No condition.
-/
import Derived.Test.YtpmdgockiblkaaaQ1
namespace Go.Proofs.Ytpmdgockiblkaaa
open Go.RowKit

def eqR (n : Nat) (a b : Nat → Int) : Bool := (List.range n).all fun i => a i == b i
theorem eqR_iff {n : Nat} {a b : Nat → Int} : eqR n a b = true ↔ ∀ k, k < n → a k = b k := by
  simp [eqR]
theorem plainU : Try.prog.plainKey 28 = true := by kernel_rfl
theorem eqItems_run (a b : Nat → Int) (w : World) (d : Nat) : ∀ is : List Nat, (∀ i ∈ is, i < 11) →
    (Op.eqItems (d + 1) 28 1 (row 11 a) (row 11 b) is).run Try.prog w = .ok (is.all fun i => a i == b i) w
  | [], _ => by simp [Op.eqItems]
  | i :: is, hall => by
    have hi := hall i (by simp)
    have p1 := run_part_plain (P := Try.prog) w plainU (row_at 11 a i hi)
    have p2 := run_part_plain (P := Try.prog) w plainU (row_at 11 b i hi)
    simp only [Op.eqItems, Sem.run_bind, Nat.mul_one, p1, p2, Result.andThen_ok, run_equalIn_int w d 28 .u64 .u64 (a i) (b i) Try.underlying28]
    cases hab : (a i == b i)
    · simp [hab]
    · simp only [Bool.not_true, Bool.false_eq_true, if_false, List.all_cons, hab, Bool.true_and]
      exact eqItems_run a b w d is (fun j hj => hall j (by simp [hj]))
theorem infoU : ∃ i, Try.prog.info? 28 = some i := by
  have h : (Try.prog.info? 28).isSome = true := by kernel_rfl
  exact Option.isSome_iff_exists.1 h
theorem eqA_run (d : Nat) (a b : Nat → Int) (w : World) : (Op.equalIn (d + 2) 30 (hv a) (hv b)).run Try.prog w = .ok (eqR 11 a b) w := by
  obtain ⟨i, hi⟩ := infoU
  rw [run_equalIn_array w (d + 1) _ _ Try.underlying30 hi, cellsU, eqItems_run a b w d (List.range 11) (fun i hi => List.mem_range.1 hi)]
  rfl
theorem guardH : Try.prog.eqGuardType Try.prog.depth 30 = false := by kernel_rfl
theorem runEqH {o : Oper} {a : Act} {w : World} (x y : Operand) (ho : o.op = .binOp .eql 30 x y 30) (p q : Nat → Int) (hx : a.eval x = hv p) (hy : a.eval y = hv q) : (execOp a.eval o).run Try.prog w = .ok (.value (.bool (eqR 11 p q))) w := by
  unfold execOp
  simp only [ho, hx, hy, Sem.run_bind, Sem.run_pure, Result.andThen_ok, run_eqGuard_agg w _ _ _ _ _ _ guardH, run_eql_struct, show (10000 : Nat) = 9998 + 2 from rfl, eqA_run]
end Go.Proofs.Ytpmdgockiblkaaa
