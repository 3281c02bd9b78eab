/-
  Proved here: two matches are compared as Go compares structs: equal just if all twenty-two numbers are the same; how a zero match is made. No condition.
-/
import Derived.Test.YtllbbbfkdgjffaaDoorT5
import Derived.Laws.CopyOwn
namespace Go.Proofs.YtllbbbfkdgjffaaDoor
open Go.RowKit

theorem zero26 : (Tryd.prog.info? 28).map (fun i => (i.zero, i.size)) = some (some (mv zf), 22) := by kernel_rfl
theorem build26 (w : World) : (Instr.build 28 #[]).run Tryd.prog w = .ok (mv zf) w := by
  show _ = _
  kernel_rfl
section
variable {ops : Array Oper} {rest : List Oper} {o : Oper} {a : Act} {w : World} {Q : Exit → Act → World → Prop}
theorem bld26 (ho : o.op = .build 28 #[]) (hw : Region.wanted o (yielded ops a.tmps) = true)
    (h : wpList Tryd.prog ops Q rest (a.put o.dst (mv zf)) w) : wpList Tryd.prog ops Q (o :: rest) a w := by
  unfold wpList
  rw [if_pos hw]
  refine Or.inl ?_
  unfold Oper.wp execOp
  have := build26 w
  simp only [ho, List.map_toArray, List.map_nil, Sem.run_bind, Sem.run_pure, Result.andThen_ok, this]
  exact h
end
def eqR (n : Nat) (a b : Nat → Int) : Bool := (List.range n).all fun i => a i == b i
theorem eqR_iff {n : Nat} {a b : Nat → Int} : eqR n a b = true ↔ ∀ k, k < n → a k = b k := by
  simp [eqR]
def eqM (a b : Nat → Int) : Bool := eqR 11 a b && eqR 11 (fun k => a (11 + k)) (fun k => b (11 + k))
theorem eqM_iff {a b : Nat → Int} : eqM a b = true ↔ ∀ k, k < 22 → a k = b k := by
  simp only [eqM, Bool.and_eq_true, eqR_iff]
  constructor
  · rintro ⟨h1, h2⟩ k hk
    by_cases h : k < 11
    · exact h1 k h
    · have := h2 (k - 11) (by omega)
      rw [show 11 + (k - 11) = k by omega] at this
      exact this
  · intro h
    exact ⟨fun k hk => h k (by omega), fun k hk => h (11 + k) (by omega)⟩
theorem eqM_refl (a : Nat → Int) : eqM a a = true := eqM_iff.2 fun _ _ => rfl
theorem plain22 : Tryd.prog.plainKey 24 = true := by kernel_rfl
theorem c22 : Tryd.prog.cellsOf 24 = 1 := by kernel_rfl
theorem eqItems_run (a b : Nat → Int) (w : World) (d : Nat) : ∀ is : List Nat, (∀ i ∈ is, i < 11) →
    (Op.eqItems (d + 1) 24 1 (row 11 a) (row 11 b) is).run Tryd.prog w = .ok (is.all fun i => a i == b i) w
  | [], _ => by simp [Op.eqItems]
  | i :: is, hall => by
    have hi := hall i (by simp)
    have p1 := run_part_plain (P := Tryd.prog) w plain22 (row_at 11 a i hi)
    have p2 := run_part_plain (P := Tryd.prog) w plain22 (row_at 11 b i hi)
    simp only [Op.eqItems, Sem.run_bind, Nat.mul_one, p1, p2, Result.andThen_ok, run_equalIn_int w d 24 .u64 .u64 (a i) (b i) Tryd.underlying24]
    cases hab : (a i == b i)
    · simp [hab]
    · simp only [Bool.not_true, Bool.false_eq_true, if_false, List.all_cons, hab, Bool.true_and]
      exact eqItems_run a b w d is (fun j hj => hall j (by simp [hj]))
theorem info22 : ∃ i, Tryd.prog.info? 24 = some i := by
  have h : (Tryd.prog.info? 24).isSome = true := by kernel_rfl
  exact Option.isSome_iff_exists.1 h
theorem eqA_run (d : Nat) (a b : Nat → Int) (w : World) : (Op.equalIn (d + 2) 26 (hv a) (hv b)).run Tryd.prog w = .ok (eqR 11 a b) w := by
  obtain ⟨i, hi⟩ := info22
  rw [run_equalIn_array w (d + 1) _ _ Tryd.underlying26 hi, c22, eqItems_run a b w d (List.range 11) (fun i hi => List.mem_range.1 hi)]
  rfl
theorem row_head (m : Nat → Int) : (row 22 m).extract 0 11 = row 11 m := by
  refine row_ext (by simp [row_size]) fun k hk => ?_
  rw [Array.getElem?_extract, if_pos (by simp [row_size]; omega), Nat.zero_add, row_at 22 m k (by omega)]
theorem row_tail (m : Nat → Int) : (row 22 m).extract 11 22 = row 11 fun k => m (11 + k) := by
  refine row_ext (by simp [row_size]) fun k hk => ?_
  rw [Array.getElem?_extract, if_pos (by simp [row_size]; omega), row_at 22 m (11 + k) (by omega)]
theorem isAgg24 (w : World) : (isAgg 26).run Tryd.prog w = .ok true w := by
  unfold isAgg
  rw [Sem.run_bind, run_underlying Tryd.underlying26 w]
  rfl
theorem sz24 (w : World) : (sizeOf 26).run Tryd.prog w = .ok 11 w := by
  have h := size24 zf
  rw [row_size] at h
  cases hq : Tryd.prog.info? 26 with
  | none => simp [hq] at h
  | some i =>
    have hs : i.size = 11 := by simpa [hq] using h
    simp [sizeOf, typeInfo, hq, hs]
theorem part0 (m : Nat → Int) (w : World) : (Go.part 26 (row 22 m) 0).run Tryd.prog w = .ok (hv m) w := by
  simp only [Go.part, Sem.run_bind, isAgg24, Result.andThen_ok, if_true, sz24, Sem.run_pure, Nat.zero_add, row_head]
theorem part11 (m : Nat → Int) (w : World) : (Go.part 26 (row 22 m) 11).run Tryd.prog w = .ok (hv fun k => m (11 + k)) w := by
  simp only [Go.part, Sem.run_bind, isAgg24, Result.andThen_ok, if_true, sz24, Sem.run_pure, show 11 + 11 = 22 from rfl, row_tail]
theorem fields26 : ((Tryd.prog.fieldsOf 28).toList.map fun f => (f.name == "_", f.type, f.offset)) = [(false, 26, 0), (false, 26, 11)] := by kernel_rfl
theorem stood26 : Tryd.prog.stoodInHeld 28 = false := by kernel_rfl
theorem under26 : Tryd.prog.underlying 28 = some (.struct (Tryd.prog.fieldsOf 28)) := by kernel_rfl
theorem guard26 : Tryd.prog.eqGuardType Tryd.prog.depth 28 = false := by kernel_rfl
theorem eqS_run (a b : Nat → Int) (w : World) : (Op.equalIn 10000 28 (mv a) (mv b)).run Tryd.prog w = .ok (eqM a b) w := by
  rw [show (10000 : Nat) = 9999 + 1 from rfl, run_equalIn_struct w 9999 28 _ _ under26 stood26]
  have hf := fields26
  match hq : (Tryd.prog.fieldsOf 28).toList with
  | [] => rw [hq] at hf; simp at hf
  | [x] => rw [hq] at hf; simp at hf
  | x :: y :: z :: r => rw [hq] at hf; simp at hf
  | [x, y] =>
    rw [hq] at hf
    simp only [List.map_cons, List.map_nil, List.cons.injEq, Prod.mk.injEq, beq_eq_false_iff_ne, and_true] at hf
    obtain ⟨⟨n1, t1, o1⟩, n2, t2, o2⟩ := hf
    simp only [Op.eqFields, if_pos n1, if_pos n2, t1, o1, t2, o2, Sem.run_bind, part0, part11, Result.andThen_ok, show (9999 : Nat) = 9997 + 2 from rfl, eqA_run, Sem.run_ite, Sem.run_pure]
    unfold eqM
    cases eqR 11 a b
    · simp
    · simp only [Bool.not_true, Bool.false_eq_true, if_false, Bool.true_and]
      cases eqR 11 (fun k => a (11 + k)) fun k => b (11 + k) <;> simp

section
variable {ops : Array Oper} {rest : List Oper} {o : Oper} {a : Act} {w : World} {Q : Exit → Act → World → Prop}
theorem eql26 (x y : Operand) (ho : o.op = .binOp .eql 28 x y 28) (p q : Nat → Int) (hx : a.eval x = mv p) (hy : a.eval y = mv q) (hw : Region.wanted o (yielded ops a.tmps) = true)
    (h : wpList Tryd.prog ops Q rest (a.put o.dst (.bool (eqM p q))) w) : wpList Tryd.prog ops Q (o :: rest) a w := by
  unfold wpList
  rw [if_pos hw]
  refine Or.inl ?_
  unfold Oper.wp execOp
  simp only [ho, hx, hy, Sem.run_bind, Sem.run_pure, Result.andThen_ok, run_eqGuard_agg w _ _ _ _ _ _ guard26, run_eql_struct, eqS_run]
  exact h
theorem neq26 (x y : Operand) (ho : o.op = .binOp .neq 28 x y 28) (p q : Nat → Int) (hx : a.eval x = mv p) (hy : a.eval y = mv q) (hw : Region.wanted o (yielded ops a.tmps) = true)
    (h : wpList Tryd.prog ops Q rest (a.put o.dst (.bool (!eqM p q))) w) : wpList Tryd.prog ops Q (o :: rest) a w := by
  unfold wpList
  rw [if_pos hw]
  refine Or.inl ?_
  unfold Oper.wp execOp
  simp only [ho, hx, hy, Sem.run_bind, Sem.run_pure, Result.andThen_ok, run_eqGuard_agg w _ _ _ _ _ _ guard26, run_neq_struct, eqS_run]
  exact h
end
end Go.Proofs.YtllbbbfkdgjffaaDoor
