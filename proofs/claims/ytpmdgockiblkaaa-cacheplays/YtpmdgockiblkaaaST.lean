/-
  Laws of our own: a call, a delete, a load as steps of a region that draws its order. No condition beyond what each names.
-/
import Derived.Test.YtpmdgockiblkaaaCM
namespace Go.Proofs.Ytpmdgockiblkaaa
open Go.RowKit Go.Maps

section
variable {ops : Array Oper} {o : Oper} {a : Act} {w : World} {K : Act → World → Prop} {Q : Exit → Act → World → Prop} {E : Prop}
/-- A call of a Go function as a step of a region that draws its order. -/
theorem stepFnW (f : FuncId) (y : Operand) (xs : List Operand) (ts : Array TypeId) (args : List Value) (hop : o.op = .call { callee := .value y, args := xs.toArray, argTypes := ts }) (hw : Region.wanted o (yielded ops a.tmps) = true) (hy : a.eval y = .func (.func f) #[] #[]) (hx : xs.map a.eval = args) (hE : ∀ w, (callFunc f args.toArray).run Try.prog w = .ok (.enter f args.toArray) w)
    (Φ : Ending → World → Prop) (hC : Calls Try.prog f args.toArray w Φ) (hK : ∀ e w', Φ e w' → (∃ v, e = .returned v ∧ K (a.put o.dst v) w') ∨ ∃ ch, e = .panicked ch ∧ Q (.panic ch) a w') : if Region.wanted o (yielded ops a.tmps) = true then Oper.wp Try.prog o a w K Q else E := by
  rw [if_pos hw]
  have hrun : (execOp a.eval o).run Try.prog w = .ok (.enter f args.toArray) w := by
    unfold execOp
    simp only [hop, resolve, invoke, Deferred.ofValue, hy, Sem.run_bind, Sem.run_pure, Result.andThen_ok, List.map_toArray, hx, Array.append_empty, Array.empty_append, hE]
  show Oper.upon Try.prog o a K Q ((execOp a.eval o).run Try.prog w)
  rw [hrun, Oper.upon_enter]
  refine hC.mono ?_
  intro e w' h
  rcases hK e w' h with ⟨v, rfl, hk⟩ | ⟨ch, rfl, hk⟩
  · exact hk
  · exact hk
end
/-- A load in the middle of a block, under a draw. -/
theorem runLd {o : Oper} {a : Act} {w' : World} (ty : TypeId) (x : Operand) (ho : o.op = .load ty x) (g p : Nat) (hx : a.eval x = .pointer (some ⟨g, p, none⟩)) (cs : Array Value) (d : TypeDesc) (hg : w'.rangeAt g p cs.toList) (hu : Try.prog.underlying ty = some d) (hd : d.isRow = true) (hi : (Try.prog.info? ty).map (·.size) = some cs.size) : (execOp a.eval o).run Try.prog w' = .ok (.value (.agg cs)) w' := by
  unfold execOp
  simp only [ho, hx, Instr.loadAt, Instr.sureAddr, Sem.run_bind, Sem.run_pure, Result.andThen_ok, run_loadVar_mid w' g p ty cs.toList d hg hu hd (by rw [hi]; simp), Array.toArray_toList]
theorem stepDel {ops : Array Oper} {o : Oper} {a : Act} {w : World} {Kt : Act → World → Prop} {Q : Exit → Act → World → Prop} {E : Prop} {K e : TypeId} (m x : Operand) (t : TypeId) (hop : o.op = .call { callee := .builtin .delete, args := #[m, x], argTypes := #[t, K] }) (hgd : o.guard = none)
    {b n : Nat} {G : Lit → Option Value} {key : Value} {l : Lit} (hm : a.eval m = .map (some b)) (hx : a.eval x = key) (h : Mp w K b n G) (hK : Keyed Try.prog K) (ht : Try.prog.underlying t = some (.map K e)) (hkey : keyOf Try.prog K key = some l)
    (hk : ∀ w', Mp w' K b (if (G l).isSome then n - 1 else n) (updL G l none) → Tur w w' b → Kt (a.put o.dst (.tuple #[])) w') : if Region.wanted o (yielded ops a.tmps) = true then Oper.wp Try.prog o a w Kt Q else E := by
  have hw : Region.wanted o (yielded ops a.tmps) = true := by simp [Region.wanted, hgd]
  rw [if_pos hw]
  obtain ⟨w', hr, h1, h2⟩ := h.drop hK ht hkey o.type
  unfold Oper.wp
  simp [execOp, hop, resolve, invoke, builtin, hm, hx, hr, Result.andThen]
  exact hk w' h1 h2
theorem sizeH (h : Nat → Int) : (Try.prog.info? 30).map (·.size) = some (row 11 h).size := by rw [row_size]; kernel_rfl
end Go.Proofs.Ytpmdgockiblkaaa
