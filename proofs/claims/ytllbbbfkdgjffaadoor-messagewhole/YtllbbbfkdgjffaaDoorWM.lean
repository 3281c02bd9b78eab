/-
  Proved here: how a closure is called in a walk; small facts for the writer's method message. No condition.
-/
import Derived.Test.YtllbbbfkdgjffaaDoorBM
namespace Go.Proofs.YtllbbbfkdgjffaaDoor
open Go.RowKit

section
variable {ops : Array Oper} {rest : List Oper} {o : Oper} {a : Act} {w : World} {Q : Exit → Act → World → Prop}
/-- A call of a closure, in a walk. -/
theorem callCl (f : FuncId) (y : Operand) (xs : List Operand) (ts : Array TypeId) (args caps : List Value) (hop : o.op = .call { callee := .value y, args := xs.toArray, argTypes := ts }) (hg : o.guard = none) (hy : a.eval y = .func (.func f) #[] caps.toArray) (hx : xs.map a.eval = args) (hE : Ent f)
    (Φ : Ending → World → Prop) (hC : Calls Tryd.prog f (args ++ caps).toArray w Φ) (hK : ∀ e w', Φ e w' → (∃ v, e = .returned v ∧ wpList Tryd.prog ops Q rest (a.put o.dst v) w') ∨ ∃ ch, e = .panicked ch ∧ Q (.panic ch) a w') : wpList Tryd.prog ops Q (o :: rest) a w := by
  have hw : Region.wanted o (yielded ops a.tmps) = true := by simp [Region.wanted, hg]
  have hrun : (execOp a.eval o).run Tryd.prog w = .ok (.enter f (args ++ caps).toArray) w := by
    unfold execOp
    simp only [hop, resolve, invoke, Deferred.ofValue, hy, Sem.run_bind, Sem.run_pure, Result.andThen_ok, List.map_toArray, hx, List.append_toArray, List.nil_append, hE]
  unfold wpList
  rw [if_pos hw]
  refine Or.inl ?_
  show Oper.upon Tryd.prog o a _ Q ((execOp a.eval o).run Tryd.prog w)
  rw [hrun, Oper.upon_enter]
  refine hC.mono ?_
  intro e w' h
  rcases hK e w' h with ⟨v, rfl, hk⟩ | ⟨ch, rfl, hk⟩
  · exact hk
  · exact hk
end
set_option maxRecDepth 100000 in
theorem ent1 (k : Fk) : Ent (fn1 k) := by cases k <;> exact fun _ _ => rfl
set_option maxRecDepth 100000 in
theorem ent2 (k : Fk) : Ent (fn2 k) := by cases k <;> exact fun _ _ => rfl
set_option maxRecDepth 100000 in
theorem ent3 (k : Fk) : Ent (fn3 k) := by cases k <;> exact fun _ _ => rfl
/-- Slices of a message whose fields were made nothing. -/
theorem Mss.cl {T : Nat → Prop} {w : World} {m : Ms} {s : Sls} (h : Mss T w m s) (k : Fk) : Mss T w (clF m k) (clS s k) := by
  cases k
  · exact ⟨h.cp, h.ps, h.ed, h.fr, h.hs⟩
  · exact ⟨h.cp, Lst.nil _ _ _ _, h.ed, h.fr, h.hs⟩
  · exact ⟨h.cp, h.ps, Lst.nil _ _ _ _, h.fr, h.hs⟩
  · exact ⟨h.cp, h.ps, h.ed, h.fr, h.hs⟩
  · exact ⟨Lst.nil _ _ _ _, h.ps, h.ed, h.fr, h.hs⟩
  · exact ⟨h.cp, h.ps, h.ed, h.fr, h.hs⟩
  · exact ⟨h.cp, h.ps, h.ed, h.fr, h.hs⟩
  · exact ⟨h.cp, h.ps, h.ed, SlC.nil _ _, h.hs⟩
  · exact ⟨h.cp, h.ps, h.ed, h.fr, Lst.nil _ _ _ _⟩
  · exact ⟨h.cp, h.ps, h.ed, h.fr, h.hs⟩
  · exact ⟨h.cp, h.ps, h.ed, h.fr, h.hs⟩
theorem Mss.one {T : Nat → Prop} {w : World} {m : Ms} {s : Sls} (h : Mss T w m s) : (msc m s).all (·.oneCell') = true := msc_one m s h.cp.one h.ps.one h.ed.one h.fr.one h.hs.one
/-- What follows the head of a message's bytes. -/
def hd0 (m : Ms) : List Int := dg 1 1 ++ (dg m.ty 1 ++ (dg 0 2 ++ dg m.id 4))
theorem hd0_len (m : Ms) : (hd0 m).length = 8 := by simp [hd0, dg_len]
/-- The size, laid into the third and fourth byte. -/
theorem size_set (m : Ms) (n : Int) (b : List Int) : ((hd0 m ++ b).set 2 (n / 256 % 256)).set 3 (n % 256) = dg 1 1 ++ (dg m.ty 1 ++ (dg n 2 ++ (dg m.id 4 ++ b))) := by
  simp [hd0, dg]
end Go.Proofs.YtllbbbfkdgjffaaDoor
