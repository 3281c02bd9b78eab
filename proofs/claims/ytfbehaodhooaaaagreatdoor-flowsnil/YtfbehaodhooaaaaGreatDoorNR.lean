/-
  Proved here: newRow of package tuples; two headers are compared. No condition.
-/
import Derived.Test.YtfbehaodhooaaaaGreatDoorRA
namespace Go.Proofs.YtfbehaodhooaaaaGreatDoor
set_option maxRecDepth 100000
open Go.RowKit

theorem bldRow {o : Oper} {a : Act} {w : World} (x y : Operand) (t : Int) (ho : o.op = .build 136 #[(0, x), (1, .const (.int .i64 t)), (2, y)]) (μ : Nat → Int) (bc : Nat) (hx : a.eval x = hv μ) (hy : a.eval y = .map (some bc)) : (execOp a.eval o).run Tryz.prog w = .ok (.value (.agg (rcs μ t bc))) w := by
  have hc : a.eval (.const (.int .i64 t)) = .int .i64 t := rfl
  unfold execOp
  simp only [ho, hx, hy, hc, List.map_toArray, List.map_cons, List.map_nil, Sem.run_bind, Sem.run_pure]
  show _ = _
  kernel_rfl
theorem opBld {ops : Array Oper} {rest : List Oper} {o : Oper} {a : Act} {w : World} {Q : Exit → Act → World → Prop} (hw : Region.wanted o (yielded ops a.tmps) = true) (x y : Operand) (t : Int) (ho : o.op = .build 136 #[(0, x), (1, .const (.int .i64 t)), (2, y)]) (μ : Nat → Int) (bc : Nat) (hx : a.eval x = hv μ) (hy : a.eval y = .map (some bc))
    (h : wpList Tryz.prog ops Q rest (a.put o.dst (.agg (rcs μ t bc))) w) : wpList Tryz.prog ops Q (o :: rest) a w := by
  unfold wpList
  rw [if_pos hw]
  refine Or.inl ?_
  unfold Oper.wp
  rw [bldRow x y t ho μ bc hx hy]
  exact h
theorem sizeRow (μ : Nat → Int) (t : Int) (bc : Nat) : (Tryz.prog.info? 136).map (·.size) = some (rcs μ t bc).size := by rw [rcs_size]; kernel_rfl
theorem rcs_one (μ : Nat → Int) (t : Int) (bc : Nat) : (rcs μ t bc).all (·.oneCell') = true := by
  unfold rcs
  rw [Array.all_append, row_one]; simp [Value.oneCell']
def minI : Int := -9223372036854775808
/-- A row without rules. -/
def emRo (p bc : Nat) (μ : Nat → Int) : Ro := ⟨p, bc, 0, μ, minI, fun _ => none, fun _ => []⟩
set_option maxHeartbeats 800000 in
set_option maxRecDepth 100000 in
theorem newRow_any (μ : Nat → Int) (w : World) (hw : Wf μ) : Calls Tryz.prog 101 #[hv μ] w fun r w' => ∃ p bc, r = .returned (pv p) ∧ Below w.heap.size w w' ∧ w.heap.size ≤ p ∧ w.heap.size ≤ bc ∧ p ≠ bc ∧ RowM (fun b => w.heap.size ≤ b) (fun b => if b = p then .row p else .cls p) w' (emRo p bc μ) := by
  have hmm := @run_makeMap Tryz.prog
  have hB : Blk (w.alloc (.cells (row 11 μ) 30)) w.heap.size 11 30 μ := Blk.new w 11 30 μ
  have HF : Hid (Below w.heap.size w (((w.alloc (.cells (row 11 μ) 30)).alloc (.map #[] 0)).alloc (.cells (rcs μ minI (w.heap.size + 1)) 136)) ∧ RowM (fun b => w.heap.size ≤ b) (fun b => if b = w.heap.size + 2 then .row (w.heap.size + 2) else .cls (w.heap.size + 2)) (((w.alloc (.cells (row 11 μ) 30)).alloc (.map #[] 0)).alloc (.cells (rcs μ minI (w.heap.size + 1)) 136)) (emRo (w.heap.size + 2) (w.heap.size + 1) μ)) := by
    have e1 : (w.alloc (.cells (row 11 μ) 30)).heap.size = w.heap.size + 1 := by simp
    have e2 : ((w.alloc (.cells (row 11 μ) 30)).alloc (.map #[] 0)).heap.size = w.heap.size + 2 := by simp
    have h1 := heap_alloc_new ((w.alloc (.cells (row 11 μ) 30)).alloc (.map #[] 0)) (.cells (rcs μ minI (w.heap.size + 1)) 136)
    have h2 := Mp.new (w.alloc (.cells (row 11 μ) 30)) 30
    rw [e2] at h1
    rw [e1] at h2
    refine ⟨(((Below.refl _ _).alloc (Nat.le_refl _) _).alloc (by simp) _).alloc (by simp; omega) _, (by show w.heap.size ≤ w.heap.size + 2; omega), (by show (if w.heap.size + 2 = w.heap.size + 2 then _ else _) = _; rw [if_pos rfl]; rfl), h1, (by show w.heap.size ≤ w.heap.size + 1; omega), (by show (if w.heap.size + 1 = w.heap.size + 2 then _ else _) = _; rw [if_neg (by omega)]; rfl), h2.carry (heap_alloc_old _ _ (by simp)), hw, fun l => Or.inl ⟨rfl, rfl⟩⟩
  go_enter Tryz.func101, Tryz.ntmps101
  go_wp2_with (first
    | (refine ld24 (.tmp 1) rfl _ rfl rfl μ hB ?_)
    | (refine opBld rfl (.tmp 3) (.tmp 4) _ rfl μ (w.heap.size + 1) rfl rfl ?_))
  go_ret
  exact ⟨w.heap.size + 2, w.heap.size + 1, rfl, HF.out.1, by omega, by omega, by omega, HF.out.2⟩

def eqR (n : Nat) (a b : Nat → Int) : Bool := (List.range n).all fun i => a i == b i
theorem eqR_iff {n : Nat} {a b : Nat → Int} : eqR n a b = true ↔ ∀ k, k < n → a k = b k := by
  simp [eqR]
theorem plainU : Tryz.prog.plainKey 28 = true := by kernel_rfl
theorem eqItems_run (a b : Nat → Int) (w : World) (d : Nat) : ∀ is : List Nat, (∀ i ∈ is, i < 11) →
    (Op.eqItems (d + 1) 28 1 (row 11 a) (row 11 b) is).run Tryz.prog w = .ok (is.all fun i => a i == b i) w
  | [], _ => by simp [Op.eqItems]
  | i :: is, hall => by
    have hi := hall i (by simp)
    have p1 := run_part_plain (P := Tryz.prog) w plainU (row_at 11 a i hi)
    have p2 := run_part_plain (P := Tryz.prog) w plainU (row_at 11 b i hi)
    simp only [Op.eqItems, Sem.run_bind, Nat.mul_one, p1, p2, Result.andThen_ok, run_equalIn_int w d 28 .u64 .u64 (a i) (b i) Tryz.underlying28]
    cases hab : (a i == b i)
    · simp [hab]
    · simp only [Bool.not_true, Bool.false_eq_true, if_false, List.all_cons, hab, Bool.true_and]
      exact eqItems_run a b w d is (fun j hj => hall j (by simp [hj]))
theorem infoU : ∃ i, Tryz.prog.info? 28 = some i := by
  have h : (Tryz.prog.info? 28).isSome = true := by kernel_rfl
  exact Option.isSome_iff_exists.1 h
theorem eqA_run (d : Nat) (a b : Nat → Int) (w : World) : (Op.equalIn (d + 2) 30 (hv a) (hv b)).run Tryz.prog w = .ok (eqR 11 a b) w := by
  obtain ⟨i, hi⟩ := infoU
  rw [run_equalIn_array w (d + 1) _ _ Tryz.underlying30 hi, cellsU, eqItems_run a b w d (List.range 11) (fun i hi => List.mem_range.1 hi)]
  rfl
theorem guardH : Tryz.prog.eqGuardType Tryz.prog.depth 30 = false := by kernel_rfl
theorem runEqH {o : Oper} {a : Act} {w : World} (x y : Operand) (ho : o.op = .binOp .eql 30 x y 30) (p q : Nat → Int) (hx : a.eval x = hv p) (hy : a.eval y = hv q) : (execOp a.eval o).run Tryz.prog w = .ok (.value (.bool (eqR 11 p q))) w := by
  unfold execOp
  simp only [ho, hx, hy, Sem.run_bind, Sem.run_pure, Result.andThen_ok, run_eqGuard_agg w _ _ _ _ _ _ guardH, run_eql_struct, show (10000 : Nat) = 9998 + 2 from rfl, eqA_run]
end Go.Proofs.YtfbehaodhooaaaaGreatDoor
