/-
  Proved here: Do, as a step of a region that draws its order; an act's cells. No condition.
-/
import Derived.Test.YthgkmbdnkamcoaaWG
import Derived.Deep.QuietTactic
namespace Go.Proofs.Ythgkmbdnkamcoaa
open Go.RowKit

theorem stepDo {ops : Array Oper} {o : Oper} {a : Act} {w : World} {K : Act → World → Prop} {Q : Exit → Act → World → Prop} {E : Prop} (x y z : Operand) (hop : o.op = .call { callee := .value (.func 16), args := #[x, y, z], argTypes := #[25, 5, 3] }) (hg : o.guard = none)
    {S : Nat → Prop} {v : Value} {A : Ar} {n m : Int} (hx : a.eval x = v) (hy : a.eval y = .int .u8 n) (hz : a.eval z = .int .i64 m) (hA : AR S w v A) (hf : Fresh S w) (h0 : 0 ≤ n) (h1 : m < 9223372036854775808) (h2 : A.row.length < 1000000) (h3 : A.came.length < 1000000)
    (hK : ∀ w', Only S w w' → AR S w' v (doS A n m) → K (a.put o.dst (.int .i64 (doE A n m))) w') : if Region.wanted o (yielded ops a.tmps) = true then Oper.wp Try.prog o a w K Q else E := by
  have hw : Region.wanted o (yielded ops a.tmps) = true := by simp [Region.wanted, hg]
  rw [if_pos hw]
  have hfn : a.eval (.func 16) = .func (.func 16) #[] #[] := rfl
  have hrun : (execOp a.eval o).run Try.prog w = .ok (.enter 16 #[v, .int .u8 n, .int .i64 m]) w := by
    unfold execOp
    simp only [hop, resolve, invoke, Deferred.ofValue, hfn, callFunc, Sem.run_bind, Sem.run_pure, Result.andThen_ok, List.map_toArray, List.map_cons, List.map_nil, hx, hy, hz]
    rfl
  show Oper.upon Try.prog o a K Q ((execOp a.eval o).run Try.prog w)
  rw [hrun, Oper.upon_enter]
  refine (do_any w v A n m hA hf h0 h1 h2 h3).mono ?_
  rintro r w' ⟨rfl, h1, h2⟩
  exact hK w' h1 h2
/-- An act's cells, in a later world. -/
theorem act_at {w wr : World} {ao : Option Addr} {cap : Nat} {l : List Ac} (h : Acts (fun k => k < w.heap.size) w (.slice ao l.length cap) l) (hb : Below w.heap.size w wr) (k : Nat) (hk : k < l.length) :
    ∃ b o ua uc, ao = some ⟨b, o, none⟩ ∧ wr.cell? ⟨b, o + k * 3, none⟩ = some (.int .u8 l[k].dw) ∧ wr.cell? ⟨b, o + k * 3 + 1, none⟩ = some (.int .i64 l[k].at') ∧ wr.cell? ⟨b, o + k * 3 + 2, none⟩ = some (.slice ua l[k].b.length uc) ∧ SlC (fun k => k < w.heap.size) wr (.slice ua l[k].b.length uc) l[k].b ∧ l[k].Fit := by
  obtain ⟨b, o, rfl, hT, hc⟩ := h.cell k hk
  obtain ⟨h0, h1, ⟨u, h2, hs⟩, hf⟩ := hc
  have hs' := hs.carry (T := fun k => k < w.heap.size) (w' := wr) fun i hi _ => ⟨hi, hb.block i hi⟩
  obtain ⟨ua, uc, rfl, -⟩ := id hs
  have e : ∀ i, wr.cell? ⟨b, o + k * 3 + i, none⟩ = w.cell? ⟨b, o + k * 3 + i, none⟩ := fun i => cell_same (hb.block b hT)
  exact ⟨b, o, ua, uc, rfl, (e 0).trans h0, (e 1).trans h1, (e 2).trans h2, hs', hf⟩
end Go.Proofs.Ythgkmbdnkamcoaa
