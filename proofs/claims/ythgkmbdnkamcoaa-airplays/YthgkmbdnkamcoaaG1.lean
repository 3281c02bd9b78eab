/-
  Laws of our own: a whole struct is loaded out of a block, from its head or from within; a whole struct is stored into a block. Conditions: the cells are there.
-/
import Derived.Test.YthgkmbdnkamcoaaF1
namespace Go.Proofs.Ythgkmbdnkamcoaa
open Go.RowKit

section
variable {ops : Array Oper} {rest : List Oper} {o : Oper} {a : Act} {w : World} {Q : Exit → Act → World → Prop}
theorem ldRow (ty : TypeId) (x : Operand) (ho : o.op = .load ty x) (hw : Region.wanted o (yielded ops a.tmps) = true) (g : Nat) (hx : a.eval x = .pointer (some ⟨g, 0, none⟩)) (t : TypeId) (cs : Array Value) (d : TypeDesc) (hu : Try.prog.underlying ty = some d) (hd : d.isRow = true) (hi : (Try.prog.info? ty).map (·.size) = some cs.size) (hg : w.heap[g]? = some (.cells cs t (0, 0)))
    (h : wpList Try.prog ops Q rest (a.put o.dst (.agg cs)) w) : wpList Try.prog ops Q (o :: rest) a w := by
  unfold wpList
  rw [if_pos hw]
  refine Or.inl (wp_load_mid ty x ho g 0 hx cs.toList d (fun j v hj => ?_) hu hd (by rw [hi]; simp) (by simpa using h))
  rw [Nat.zero_add, cell_of_row w g j cs t _ hg]
  simpa using hj
theorem ldMid (ty : TypeId) (x : Operand) (ho : o.op = .load ty x) (hw : Region.wanted o (yielded ops a.tmps) = true) (g p : Nat) (hx : a.eval x = .pointer (some ⟨g, p, none⟩)) (cs : Array Value) (d : TypeDesc) (hu : Try.prog.underlying ty = some d) (hd : d.isRow = true) (hi : (Try.prog.info? ty).map (·.size) = some cs.size) (hg : w.rangeAt g p cs.toList)
    (h : wpList Try.prog ops Q rest (a.put o.dst (.agg cs)) w) : wpList Try.prog ops Q (o :: rest) a w := by
  unfold wpList
  rw [if_pos hw]
  refine Or.inl (wp_load_mid ty x ho g p hx cs.toList d hg hu hd (by rw [hi]; simp) ?_)
  simpa using h
theorem stNew (ty : TypeId) (x y : Operand) (ho : o.op = .store ty x y) (hw : Region.wanted o (yielded ops a.tmps) = true) (w0 : World) (t : TypeId) (zs cs : Array Value) (hW : w = w0.alloc (.cells zs t)) (hx : a.eval x = .pointer (some ⟨w0.heap.size, 0, none⟩)) (hy : a.eval y = .agg cs) (hi : (Try.prog.info? ty).map (·.size) = some cs.size) (hz : zs.size = cs.size) (h1 : cs.all (·.oneCell') = true)
    (h : wpList Try.prog ops Q rest (a.put o.dst undef) (w0.alloc (.cells cs t))) : wpList Try.prog ops Q (o :: rest) a w := by
  subst hW
  unfold wpList
  rw [if_pos hw]
  refine Or.inl (wp_store_row ty x y ho _ cs hx hy t zs (heap_alloc_new _ _) hi hz h1 ?_)
  rw [World.setRow_alloc_new]
  exact h
theorem stRow (ty : TypeId) (x y : Operand) (ho : o.op = .store ty x y) (hw : Region.wanted o (yielded ops a.tmps) = true) (g : Nat) (cs : Array Value) (hx : a.eval x = .pointer (some ⟨g, 0, none⟩)) (hy : a.eval y = .agg cs) (t : TypeId) (zs : Array Value) (hg : w.heap[g]? = some (.cells zs t (0, 0))) (hi : (Try.prog.info? ty).map (·.size) = some cs.size) (hz : zs.size = cs.size) (h1 : cs.all (·.oneCell') = true)
    (h : wpList Try.prog ops Q rest (a.put o.dst undef) (w.setRow g cs)) : wpList Try.prog ops Q (o :: rest) a w := by
  unfold wpList
  rw [if_pos hw]
  exact Or.inl (wp_store_row ty x y ho g cs hx hy t zs hg hi hz h1 h)
theorem stMid (ty : TypeId) (x y : Operand) (ho : o.op = .store ty x y) (hw : Region.wanted o (yielded ops a.tmps) = true) (g p : Nat) (cs : Array Value) (hx : a.eval x = .pointer (some ⟨g, p, none⟩)) (hy : a.eval y = .agg cs) (ht : w.there g p cs.size) (hi : (Try.prog.info? ty).map (·.size) = some cs.size) (h1 : cs.all (·.oneCell') = true)
    (h : wpList Try.prog ops Q rest (a.put o.dst undef) (w.setCells g p cs.toList)) : wpList Try.prog ops Q (o :: rest) a w := by
  unfold wpList
  rw [if_pos hw]
  exact Or.inl (wp_store_mid ty x y ho g p cs hx hy ht hi h1 h)
end
/-- Cells of a block, as a range. -/
theorem range_of {w : World} {g p : Nat} {cs : Array Value} (h : ∀ i, i < cs.size → w.cell? ⟨g, p + i, none⟩ = cs[i]?) : w.rangeAt g p cs.toList := fun j v hj => by
  have hj' : cs[j]? = some v := by simpa using hj
  have hlt : j < cs.size := (Array.getElem?_eq_some_iff.1 hj').1
  rw [h j hlt, hj']
end Go.Proofs.Ythgkmbdnkamcoaa
