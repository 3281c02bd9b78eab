/-
  Proved here: two headers are compared as Go compares arrays: true just if all eleven numbers are the same. No condition.
-/
import Derived.Test.YthjgndkcijgfmaaDoorA1
import Derived.ChangeKeysEq
import Derived.Deep.RegionHeld3
import Derived.Deep.MidRow
namespace Go.Proofs.YthjgndkcijgfmaaDoor
open Go.RowKit

abbrev hL (h : Nat → Int) : List Value := [.int .u64 (h 0), .int .u64 (h 1), .int .u64 (h 2), .int .u64 (h 3), .int .u64 (h 4), .int .u64 (h 5), .int .u64 (h 6), .int .u64 (h 7), .int .u64 (h 8), .int .u64 (h 9), .int .u64 (h 10)]
def eqB (a b : Nat → Int) : Bool := (List.range 11).all fun i => a i == b i
theorem hL_at (h : Nat → Int) (k : Nat) (hk : k < 11) : (hL h).toArray[k]? = some (.int .u64 (h k)) := by
  have hk' : k = 0 ∨ k = 1 ∨ k = 2 ∨ k = 3 ∨ k = 4 ∨ k = 5 ∨ k = 6 ∨ k = 7 ∨ k = 8 ∨ k = 9 ∨ k = 10 := by omega
  rcases hk' with rfl | rfl | rfl | rfl | rfl | rfl | rfl | rfl | rfl | rfl | rfl <;> rfl
theorem plain22 : Tryd.prog.plainKey 22 = true := by kernel_rfl
theorem c22 : Tryd.prog.cellsOf 22 = 1 := by kernel_rfl
theorem eqItems_run (a b : Nat → Int) (w : World) (d : Nat) : ∀ is : List Nat, (∀ i ∈ is, i < 11) →
    (Op.eqItems (d + 1) 22 1 (hL a).toArray (hL b).toArray is).run Tryd.prog w = .ok (is.all fun i => a i == b i) w
  | [], _ => by simp [Op.eqItems]
  | i :: is, hall => by
    have hi := hall i (by simp)
    have p1 := run_part_plain (P := Tryd.prog) w plain22 (hL_at a i hi)
    have p2 := run_part_plain (P := Tryd.prog) w plain22 (hL_at b i hi)
    simp only [Op.eqItems, Sem.run_bind, Nat.mul_one, p1, p2, Result.andThen_ok, run_equalIn_int w d 22 .u64 .u64 (a i) (b i) Tryd.underlying22]
    cases hab : (a i == b i)
    · simp [hab]
    · simp only [Bool.not_true, Bool.false_eq_true, if_false, List.all_cons, hab, Bool.true_and]
      exact eqItems_run a b w d is (fun j hj => hall j (by simp [hj]))
theorem info22 : ∃ i, Tryd.prog.info? 22 = some i := by
  have h : (Tryd.prog.info? 22).isSome = true := by kernel_rfl
  exact Option.isSome_iff_exists.1 h
theorem eql_run (a b : Nat → Int) (w : World) : (binOp .eql 24 (.agg (hL a).toArray) (.agg (hL b).toArray)).run Tryd.prog w = .ok (.bool (eqB a b)) w := by
  obtain ⟨i, hi⟩ := info22
  rw [run_eql_struct, show (10000 : Nat) = 9998 + 1 + 1 from rfl, run_equalIn_array w (9998 + 1) _ _ Tryd.underlying24 hi, c22, eqItems_run a b w 9998 (List.range 11) (fun i hi => List.mem_range.1 hi)]
  rfl
theorem eqB_true {a b : Nat → Int} (h : eqB a b = true) : ∀ k, k < 11 → a k = b k := fun k hk => by
  simp only [eqB, List.all_eq_true, List.mem_range, beq_iff_eq] at h
  exact h k hk
theorem eqB_false {a b : Nat → Int} (h : eqB a b = false) : ¬ ∀ k, k < 11 → a k = b k := fun hall => by
  have : eqB a b = true := by
    simp only [eqB, List.all_eq_true, List.mem_range, beq_iff_eq]
    exact hall
  rw [this] at h; cases h
theorem guard24 : Tryd.prog.eqGuardType Tryd.prog.depth 24 = false := by kernel_rfl
end Go.Proofs.YthjgndkcijgfmaaDoor
