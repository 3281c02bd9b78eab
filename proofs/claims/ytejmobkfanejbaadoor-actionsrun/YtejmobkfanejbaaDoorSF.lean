/-
  A law of our own: a call of a Go function as a step of a region that draws its order; what a law's body leaves. No condition.
-/
import Derived.Test.YtejmobkfanejbaaDoorWK
namespace Go.Proofs.YtejmobkfanejbaaDoor
open Go.RowKit

section
variable {ops : Array Oper} {o : Oper} {a : Act} {w : World} {K : Act → World → Prop} {Q : Exit → Act → World → Prop} {E : Prop}
/-- A call of a Go function as a step of a region that draws its order. -/
theorem stepFnW (f : FuncId) (y : Operand) (xs : List Operand) (ts : Array TypeId) (args : List Value) (hop : o.op = .call { callee := .value y, args := xs.toArray, argTypes := ts }) (hw : Region.wanted o (yielded ops a.tmps) = true) (hy : a.eval y = .func (.func f) #[] #[]) (hx : xs.map a.eval = args) (hE : ∀ w, (callFunc f args.toArray).run Tryd.prog w = .ok (.enter f args.toArray) w)
    (Φ : Ending → World → Prop) (hC : Calls Tryd.prog f args.toArray w Φ) (hK : ∀ e w', Φ e w' → (∃ v, e = .returned v ∧ K (a.put o.dst v) w') ∨ ∃ ch, e = .panicked ch ∧ Q (.panic ch) a w') : if Region.wanted o (yielded ops a.tmps) = true then Oper.wp Tryd.prog o a w K Q else E := by
  rw [if_pos hw]
  have hrun : (execOp a.eval o).run Tryd.prog w = .ok (.enter f args.toArray) w := by
    unfold execOp
    simp only [hop, resolve, invoke, Deferred.ofValue, hy, Sem.run_bind, Sem.run_pure, Result.andThen_ok, List.map_toArray, hx, Array.append_empty, Array.empty_append, hE]
  show Oper.upon Tryd.prog o a K Q ((execOp a.eval o).run Tryd.prog w)
  rw [hrun, Oper.upon_enter]
  refine hC.mono ?_
  intro e w' h
  rcases hK e w' h with ⟨v, rfl, hk⟩ | ⟨ch, rfl, hk⟩
  · exact hk
  · exact hk
end
theorem range_blk {w : World} {b t : Nat} {cs : Array Value} (h : w.heap[b]? = some (.cells cs t (0, 0))) : w.rangeAt b 0 cs.toList := range_of fun i _ => by rw [Nat.zero_add, cell_of_row _ _ _ _ _ _ h]
/-- A rule in its block. -/
structure Rb (b : Nat) (r : Rl) (u : Value) (w : World) : Prop where
  blk : w.heap[b]? = some (.cells (rlc r u) 29 (0, 0))
theorem Rb.rr {b : Nat} {r : Rl} {u : Value} {w : World} (h : Rb b r u w) : w.rangeAt b 0 (rlc r u).toList := range_blk h.blk
theorem Rb.on {b : Nat} {r : Rl} {u : Value} {w w' : World} (h : Rb b r u w) (hb : Below w.heap.size w w') : Rb b r u w' := ⟨(hb.block _ (Array.getElem?_eq_some_iff.1 h.blk).1).trans h.blk⟩
theorem Rb.drew {b : Nat} {r : Rl} {u : Value} {w : World} (h : Rb b r u w) : Rb b r u w.drew := ⟨h.blk⟩
theorem Rb.cp {b : Nat} {r : Rl} {u : Value} {w : World} (h : Rb b r u w) : w.cell? ⟨b, 23, none⟩ = some u := by rw [cell_of_row _ _ _ _ _ _ h.blk]; exact (rc_cp _ _ _ _).1
theorem Tab.drew {w : World} (h : Tab w) : Tab w.drew := h
theorem Cps.drew {T : Nat → Prop} {w : World} {v : Value} {c : List (List Ac)} (h : Cps T w v c) : Cps T w.drew v c := Cps.carry (fun _b _ hT => ⟨hT, rfl⟩) h
theorem bel_drew {b : Nat} {w w' : World} (h : Below b w w') : Below b w w'.drew := ⟨h.os, h.tape, h.output, h.size, h.block⟩
end Go.Proofs.YtejmobkfanejbaaDoor
