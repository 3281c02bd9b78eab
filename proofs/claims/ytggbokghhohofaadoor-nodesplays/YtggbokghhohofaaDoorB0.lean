/-
  Laws of our own: steps of regions (calls of functions and closures, values); worlds that differ in draws and new blocks alone (Gro); the widths' table. No condition.
-/
import Derived.Test.YtggbokghhohofaaDoorNA
import Derived.Sort.Grow
import Derived.BigQuiet
namespace Go.Proofs.YtggbokghhohofaaDoor
open Go.RowKit

abbrev ptr (b : Nat) : Value := .pointer (some ⟨b, 0, none⟩)
section
variable {ops : Array Oper} {rest : List Oper} {o : Oper} {a : Act} {w : World} {Q : Exit → Act → World → Prop}
/-- A call of a function value, in a walk. -/
theorem callC (f : FuncId) (y : Operand) (xs : List Operand) (ts : Array TypeId) (args caps : List Value) (hop : o.op = .call { callee := .value y, args := xs.toArray, argTypes := ts }) (hw : Region.wanted o (yielded ops a.tmps) = true) (hy : a.eval y = .func (.func f) #[] caps.toArray) (hx : xs.map a.eval = args) (hE : ∀ (args : Array Value) w, (callFunc f args).run Tryd.prog w = .ok (.enter f args) w)
    (Φ : Ending → World → Prop) (hC : Calls Tryd.prog f (args ++ caps).toArray w Φ) (hK : ∀ e w', Φ e w' → (∃ v, e = .returned v ∧ wpList Tryd.prog ops Q rest (a.put o.dst v) w') ∨ ∃ ch, e = .panicked ch ∧ Q (.panic ch) a w') : wpList Tryd.prog ops Q (o :: rest) a w := by
  have hrun : (execOp a.eval o).run Tryd.prog w = .ok (.enter f (args ++ caps).toArray) w := by
    unfold execOp
    simp only [hop, resolve, invoke, Deferred.ofValue, hy, Sem.run_bind, Sem.run_pure, Result.andThen_ok, List.map_toArray, hx, List.append_toArray, List.nil_append, hE]
  unfold wpList
  rw [if_pos hw]
  refine Or.inl ?_
  show Oper.upon Tryd.prog o a _ Q ((execOp a.eval o).run Tryd.prog w)
  rw [hrun, Oper.upon_enter]
  refine hC.mono ?_
  intro e w' h
  rcases hK e w' h with ⟨v, rfl, hk⟩ | ⟨ch, rfl, hk⟩
  · exact hk
  · exact hk
theorem stepVal (v : Value) (hw : Region.wanted o (yielded ops a.tmps) = true) (hr : (execOp a.eval o).run Tryd.prog w = .ok (.value v) w) (hk : wpList Tryd.prog ops Q rest (a.put o.dst v) w) : wpList Tryd.prog ops Q (o :: rest) a w := by
  unfold wpList
  rw [if_pos hw]
  refine Or.inl ?_
  unfold Oper.wp
  rw [hr]
  exact hk
end
section
variable {ops : Array Oper} {o : Oper} {a : Act} {w : World} {K : Act → World → Prop} {Q : Exit → Act → World → Prop} {E : Prop}
/-- A call as a step of a region that draws its order. -/
theorem stepFnW (f : FuncId) (y : Operand) (xs : List Operand) (ts : Array TypeId) (args caps : List Value) (hop : o.op = .call { callee := .value y, args := xs.toArray, argTypes := ts }) (hw : Region.wanted o (yielded ops a.tmps) = true) (hy : a.eval y = .func (.func f) #[] caps.toArray) (hx : xs.map a.eval = args) (hE : ∀ (args : Array Value) w, (callFunc f args).run Tryd.prog w = .ok (.enter f args) w)
    (Φ : Ending → World → Prop) (hC : Calls Tryd.prog f (args ++ caps).toArray w Φ) (hK : ∀ e w', Φ e w' → (∃ v, e = .returned v ∧ K (a.put o.dst v) w') ∨ ∃ ch, e = .panicked ch ∧ Q (.panic ch) a w') : if Region.wanted o (yielded ops a.tmps) = true then Oper.wp Tryd.prog o a w K Q else E := by
  rw [if_pos hw]
  have hrun : (execOp a.eval o).run Tryd.prog w = .ok (.enter f (args ++ caps).toArray) w := by
    unfold execOp
    simp only [hop, resolve, invoke, Deferred.ofValue, hy, Sem.run_bind, Sem.run_pure, Result.andThen_ok, List.map_toArray, hx, List.append_toArray, List.nil_append, hE]
  show Oper.upon Tryd.prog o a K Q ((execOp a.eval o).run Tryd.prog w)
  rw [hrun, Oper.upon_enter]
  refine hC.mono ?_
  intro e w' h
  rcases hK e w' h with ⟨v, rfl, hk⟩ | ⟨ch, rfl, hk⟩
  · exact hk
  · exact hk
/-- Two numbers as a slice, as a step of a region that draws its order. -/
theorem stepBs2 (x y : Operand) (hop : o.op = .buildSlice 48 2 #[(0, x), (1, y)]) (hw : Region.wanted o (yielded ops a.tmps) = true) (p q : Int) (hx : a.eval x = .int .i64 p) (hy : a.eval y = .int .i64 q)
    (hk : K (a.put o.dst (.slice (some ⟨w.heap.size, 0, none⟩) 2 2)) (w.alloc (.cells #[.int .i64 p, .int .i64 q] 3))) : if Region.wanted o (yielded ops a.tmps) = true then Oper.wp Tryd.prog o a w K Q else E := by
  rw [if_pos hw]
  unfold Oper.wp execOp
  simp only [hop, List.map_toArray, List.map_cons, List.map_nil, hx, hy]
  go_simp
  exact hk
end
/-- From w to w' there are draws and new blocks, and nothing else. -/
def Gro (w w' : World) : Prop := ∃ q os, w' = Go.Sort.grow (w.drewN q) os
theorem Gro.refl (w : World) : Gro w w := ⟨0, #[], by simp [Go.Sort.grow, World.drewN]⟩
theorem Gro.drew {w w' : World} (h : Gro w w') : Gro w w'.drew := by
  obtain ⟨q, os, rfl⟩ := h
  exact ⟨q + 1, os, rfl⟩
theorem Gro.alloc {w w' : World} (h : Gro w w') (o : Obj) : Gro w (w'.alloc o) := by
  obtain ⟨q, os, rfl⟩ := h
  exact ⟨q, os ++ #[o], by rw [Go.Sort.alloc_eq_grow, Go.Sort.grow_grow]⟩
theorem Gro.trans {a b c : World} (h : Gro a b) (k : Gro b c) : Gro a c := by
  obtain ⟨q, os, rfl⟩ := h
  obtain ⟨q', os', rfl⟩ := k
  exact ⟨q + q', os ++ os', by simp [Go.Sort.grow, World.drewN, Nat.add_assoc]⟩
theorem Gro.below {w w' : World} (h : Gro w w') : Below w.heap.size w w' := by
  obtain ⟨q, os, rfl⟩ := h
  exact ⟨rfl, rfl, rfl, by simp [Go.Sort.grow, World.drewN], fun k hk => Go.Sort.heap_grow_old _ _ (by simpa [World.drewN] using hk)⟩
/-- the table of widths -/
def Tab (w : World) : Prop := ∀ f, f < 11 → w.cell? ⟨0, f, none⟩ = some (.int .i64 ((wdt f : Nat) : Int))
theorem Tab.keep {w w' : World} (h : Tab w) (hb : w'.heap[0]? = w.heap[0]?) : Tab w' := fun f hf => (cell_same hb).trans (h f hf)
theorem Tab.lt {w : World} (h : Tab w) : 0 < w.heap.size := cell_lt (h 0 (by omega))
theorem Tab.on {w w' : World} (h : Tab w) (hb : Below w.heap.size w w') : Tab w' := h.keep (hb.block _ h.lt)
theorem Tab.onB {w w' : World} {B : Nat} (h : Tab w) (hb : Below B w w') (hB : 0 < B) : Tab w' := h.keep (hb.block _ hB)
theorem wdt_bd (f : Nat) : wdt f ≤ 48 := by unfold wdt; split <;> omega
abbrev acv (a : Ac) : Value := .agg #[.int .i8 a.dw, .int .i8 a.fd, .int .u64 a.n]
theorem infoACT : (Tryd.prog.info? 54).map (·.size) = some 3 := by kernel_rfl
end Go.Proofs.YtggbokghhohofaaDoor
