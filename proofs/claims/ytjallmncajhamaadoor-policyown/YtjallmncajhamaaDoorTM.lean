/-
  Proved here: the long policy of the statements' wakes is made: a region that draws its order, with a variable made anywhere in it. No condition.
-/
import Derived.Test.YtjallmncajhamaaDoorTL
namespace Go.Proofs.YtjallmncajhamaaDoor
open Go.RowKit
set_option maxRecDepth 100000

theorem runAlT (w : World) : (Instr.alloc 26 true (.tuple #[])).run Tryd.prog w = .ok (ptr w.heap.size) (w.alloc (.cells (tmc 0 0 0 nilS) 26)) := by
  show _ = _
  kernel_rfl
section
variable {ops : Array Oper} {Q : Exit → Act → World → Prop} {o : Oper} {a : Act} {w : World} {K : Act → World → Prop}
theorem Sp.alT (hop : o.op = .alloc 26) (hg : o.guard = none) (hk : K (a.put o.dst (ptr w.heap.size)) (w.alloc (.cells (tmc 0 0 0 nilS) 26))) : Sp ops Q o a w K := by
  refine ⟨by simp [Region.wanted, hg], ?_⟩
  unfold Oper.wp
  simp only [execOp, hop, Sem.run_bind, Sem.run_pure, runAlT, Result.andThen_ok, Oper.upon_value]
  exact hk
theorem Sp.stT (x y : Operand) (ho : o.op = .store 26 x y) (hg : o.guard = none) (P : Nat) (cs zs : Array Value) (hx : a.eval x = ptr P) (hy : a.eval y = .agg cs) (hp : w.heap[P]? = some (.cells zs 26 (0, 0))) (hi : (Tryd.prog.info? 26).map (·.size) = some cs.size) (hz : zs.size = cs.size) (h1 : cs.all (·.oneCell') = true) (hk : K (a.put o.dst undef) (w.setRow P cs)) : Sp ops Q o a w K :=
  ⟨by simp [Region.wanted, hg], wp_store_row 26 x y ho P cs hx hy 26 zs hp hi hz h1 hk⟩
end
theorem UmV.bld2 {S T : Nat → Prop} {w : World} {t u : Tm} {c d : Array Value} (h : UmV S w t c) (k : UmV S w u d) (op : Nat) (hT : T w.heap.size) (hST : ∀ b, b < w.heap.size → S b → T b) : UmV T (w.alloc (.cells (c ++ d) 26)) (.mk op 0 0 [t, u]) (tmc op 0 0 (.slice (some ⟨w.heap.size, 0, none⟩) 2 2)) := by
  have hs := h.size
  have hs2 := k.size
  refine UmV.of (xs := (c ++ d).toList) ⟨by simp [hs, hs2], _, _, rfl, Nat.le_refl _, fun _ => ⟨_, _, rfl, hT, by simp, range_blk (heap_alloc_new _ _), rfl, _, heap_alloc_new _ _, by simp [hs, hs2]⟩⟩ ?_
  unfold UmL
  rw [tis, tis, tis, TiL]
  refine ⟨c, d.toList, by simp, um_on h fun b hb hS => ⟨hST b hb hS, heap_alloc_old _ _ hb⟩, ?_⟩
  rw [TiL]
  exact ⟨d, [], by simp, um_on k fun b hb hS => ⟨hST b hb hS, heap_alloc_old _ _ hb⟩, by rw [TiL]⟩
section
variable {A : Nat → Prop} {w : World} {L : List (Tm × Array Value)} {wr wr' : World}
theorem MkS.putNew (h : MkS A w L wr) (hA : ∀ b, A b → b < wr.heap.size) (hb : Below wr.heap.size wr wr') {t : Tm} {cs : Array Value} (hu : UmV (fun b => wr.heap.size ≤ b) wr' t cs) : MkS A w ((t, cs) :: L) wr' :=
  (h.on hb).put (um_on hu fun b hl hS => ⟨⟨hl, fun e => by have := hA b e; omega⟩, rfl⟩)
theorem MkS.bld2 (h : MkS A w L wr) (hA : ∀ b, A b → b < wr.heap.size) {t u : Tm} {c d : Array Value} (hm : (t, c) ∈ L) (hm2 : (u, d) ∈ L) (op : Nat) : MkS A w ((.mk op 0 0 [t, u], tmc op 0 0 (.slice (some ⟨wr.heap.size, 0, none⟩) 2 2)) :: L) (wr.alloc (.cells (c ++ d) 26)) := by
  have hb : Below wr.heap.size wr (wr.alloc (.cells (c ++ d) 26)) := (Below.refl _ _).alloc (Nat.le_refl _) _
  exact (h.on hb).put ((h.ts _ hm).bld2 (h.ts _ hm2) op ⟨by simp, fun e => by have := hA _ e; omega⟩ fun b hl hS => ⟨by have := hb.size; omega, hS.2⟩)
theorem MkS.al (h : MkS (fun _ => False) w L wr) : MkS (fun b => b = wr.heap.size) w L (wr.alloc (.cells (tmc 0 0 0 nilS) 26)) := by
  have hb : Below wr.heap.size wr (wr.alloc (.cells (tmc 0 0 0 nilS) 26)) := (Below.refl _ _).alloc (Nat.le_refl _) _
  exact ⟨h.low.trans (hb.mono h.low.size), fun x hx => um_on (h.ts x hx) fun b hl hS => ⟨⟨by have := hb.size; omega, by omega⟩, hb.block b hl⟩⟩
end
abbrev ty : Tm := .mk 6 0 0 [leaf 1]
abbrev tl : Tm := .mk 9 0 0 [ty, .mk 9 0 0 [.mk 7 9 1 [], ty]]
structure Ye (Y : Nat) (w : World) : Prop where
  rk : w.rangeAt Y 0 (tmc 1 0 0 nilS).toList
theorem Ye.on {Y : Nat} {w w' : World} (h : w.heap[Y]? = some (.cells (tmc 1 0 0 nilS) 26 (0, 0))) (hb : Below w.heap.size w w') : Ye Y w' := ⟨row4_rng ((hb.block _ (Array.getElem?_eq_some_iff.1 h).1).trans h)⟩
/-- what region 2 leaves -/
structure Lg (w : World) (A : Nat) (wc : World) : Prop where
  low : Below w.heap.size w wc
  new : w.heap.size ≤ A
  row : ∃ cs, wc.heap[A]? = some (.cells cs 26 (0, 0)) ∧ UmV (fun b => b < wc.heap.size) wc tl cs
theorem Lg.of {A : Nat} {w wr : World} {L : List (Tm × Array Value)} {cs zs : Array Value} (h : MkS (fun b => b = A) w L wr) (hA : w.heap.size ≤ A) (hz : wr.heap[A]? = some (.cells zs 26 (0, 0))) (hm : (tl, cs) ∈ L) : Lg w A (wr.setRow A cs) := by
  have hsz : (wr.setRow A cs).heap.size = wr.heap.size := by simp [World.setRow]
  exact ⟨bel_row h.low hA _, hA, cs, setRow_heap wr _ _ _ _ _ hz, um_on (h.ts _ hm) fun b hl hS => ⟨by omega, setRow_other wr _ b _ hS.2⟩⟩
end Go.Proofs.YtjallmncajhamaaDoor
