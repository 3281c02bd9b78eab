/-
  Proved here: the statement ScanStands says true of every text. Condition: the laid variables; a text is no longer than there can be.
-/
import Derived.Test.YtdpmllfapjjihaaGreatDoorE3
namespace Go.Proofs.YtdpmllfapjjihaaGreatDoor
set_option maxRecDepth 100000
open Go.RowKit
set_option maxRecDepth 100000

theorem wfields : (Tryz.prog.fieldsOf 56).toList.map (fun f => (f.name, f.type, f.offset)) = [("Kind", 23, 0), ("Text", 9, 1), ("N", 24, 2), ("At", 3, 3)] := by kernel_rfl
theorem wstruct : Tryz.prog.underlying 56 = some (.struct (Tryz.prog.fieldsOf 56)) := by kernel_rfl
theorem wstood : Tryz.prog.stoodInHeld 56 = false := by kernel_rfl
theorem wguard : Tryz.prog.eqGuardType Tryz.prog.depth 56 = false := by kernel_rfl
theorem plI8 : Tryz.prog.plainKey 23 = true := by kernel_rfl
theorem plS : Tryz.prog.plainKey 9 = true := by kernel_rfl
theorem plU : Tryz.prog.plainKey 24 = true := by kernel_rfl
theorem plI : Tryz.prog.plainKey 3 = true := by kernel_rfl
theorem eqFs (d : Nat) (x : Wd) (w : World) : ∀ fs : List Field, fs.map (fun f => (f.name, f.type, f.offset)) = [("Kind", 23, 0), ("Text", 9, 1), ("N", 24, 2), ("At", 3, 3)] → (Op.eqFields (d + 1) (wdc x) (wdc x) fs).run Tryz.prog w = .ok true w := by
  intro fs h
  rcases fs with _ | ⟨f1, _ | ⟨f2, _ | ⟨f3, _ | ⟨f4, _ | ⟨f5, fs⟩⟩⟩⟩⟩
  · exact absurd (congrArg List.length h) (by simp)
  · exact absurd (congrArg List.length h) (by simp)
  · exact absurd (congrArg List.length h) (by simp)
  · exact absurd (congrArg List.length h) (by simp)
  · simp only [List.map_cons, List.map_nil, List.cons.injEq, Prod.mk.injEq, and_true] at h
    obtain ⟨⟨a1, a2, a3⟩, ⟨b1, b2, b3⟩, ⟨c1, c2, c3⟩, d1, d2, d3⟩ := h
    have p1 : (part 23 (wdc x) 0).run Tryz.prog w = .ok (.int .i8 ((x.k : Nat) : Int)) w := run_part_plain w plI8 rfl
    have p2 : (part 9 (wdc x) 1).run Tryz.prog w = .ok (.string x.t) w := run_part_plain w plS rfl
    have p3 : (part 24 (wdc x) 2).run Tryz.prog w = .ok (.int .u64 ((x.n : Nat) : Int)) w := run_part_plain w plU rfl
    have p4 : (part 3 (wdc x) 3).run Tryz.prog w = .ok (.int .i64 ((x.at' : Nat) : Int)) w := run_part_plain w plI rfl
    simp [Op.eqFields, a1, a2, a3, b1, b2, b3, c1, c2, c3, d1, d2, d3, p1, p2, p3, p4, Result.andThen, run_equalIn_int w d 23 .i8 .i8 _ _ Tryz.underlying23, run_equalIn_string w d 9 _ _ Tryz.underlying9, run_equalIn_int w d 24 .u64 .u64 _ _ Tryz.underlying24, run_equalIn_int w d 3 .i64 .i64 _ _ Tryz.underlying3]
  · exact absurd (congrArg List.length h) (by simp)
theorem neq_same {o : Oper} {a : Act} {w : World} (x y : Operand) (ho : o.op = .binOp .neq 56 x y 56) (p : Wd) (hx : a.eval x = .agg (wdc p)) (hy : a.eval y = .agg (wdc p)) : (execOp a.eval o).run Tryz.prog w = .ok (.value (.bool false)) w := by
  unfold execOp
  simp only [ho, hx, hy, Sem.run_bind, Sem.run_pure, Result.andThen_ok, run_eqGuard_agg w _ _ _ _ _ _ wguard, run_neq_struct, show (10000 : Nat) = 9998 + 1 + 1 from rfl, run_equalIn_agg w _ _ _ _ wstruct wstood, eqFs 9998 p w _ wfields]
  rfl
theorem wcs_at (l : List Wd) : ∀ (i j : Nat) (hi : i < l.length), j < 4 → (wcs l)[i * 4 + j]? = (wdc l[i])[j]? := by
  induction l with
  | nil => intro i j hi _; exact absurd hi (by simp)
  | cons x l ih =>
    intro i j hi hj
    show ((wdc x).toList ++ wcs l)[i * 4 + j]? = _
    cases i with
    | zero => rw [List.getElem?_append_left (by simp; omega)]; simp
    | succ i =>
      rw [List.getElem?_append_right (by simp; omega)]
      have := ih i j (by simpa using hi) hj
      rw [show (i + 1) * 4 + j - (wdc x).toList.length = i * 4 + j by simp; omega, this]
      simp
theorem wd_range {W : World} {l : List Wd} {b o : Nat} (h : ∀ j, j < l.length * 4 → W.cell? ⟨b, o + j, none⟩ = (wcs l)[j]?) {i : Nat} (hi : i < l.length) : W.rangeAt b (o + i * 4) (wdc l[i]).toList :=
  range_of fun j hj => by
    have hj4 : j < 4 := hj
    rw [Nat.add_assoc, h _ (by omega), wcs_at l i j hi hj4]
section
variable {ops : Array Oper} {rest : List Oper} {o : Oper} {a : Act} {w : World} {Q : Exit → Act → World → Prop}
/-- An operation that yields a value and turns nothing. -/
theorem stepVal (v : Value) (hw : Region.wanted o (yielded ops a.tmps) = true) (hr : (execOp a.eval o).run Tryz.prog w = .ok (.value v) w) (hk : wpList Tryz.prog ops Q rest (a.put o.dst v) w) : wpList Tryz.prog ops Q (o :: rest) a w := by
  unfold wpList
  rw [if_pos hw]
  refine Or.inl ?_
  unfold Oper.wp
  rw [hr]
  exact hk
end
theorem szW (x : Wd) : (Tryz.prog.info? 56).map (·.size) = some (wdc x).size := by kernel_rfl
theorem wd1a (x : Wd) : (wdc x).all (·.oneCell') = true := by simp [wdc, Value.oneCell']

end Go.Proofs.YtdpmllfapjjihaaGreatDoor
