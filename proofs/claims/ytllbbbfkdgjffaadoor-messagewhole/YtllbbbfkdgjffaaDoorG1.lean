/-
  Laws of our own: a whole struct is loaded out of a block, from its head or from within; a whole struct is stored into a block. Conditions: the cells are there.
-/
import Derived.Test.YtllbbbfkdgjffaaDoorV1
namespace Go.Proofs.YtllbbbfkdgjffaaDoor
open Go.RowKit

section
variable {ops : Array Oper} {rest : List Oper} {o : Oper} {a : Act} {w : World} {Q : Exit → Act → World → Prop}
theorem ldRow (ty : TypeId) (x : Operand) (ho : o.op = .load ty x) (hw : Region.wanted o (yielded ops a.tmps) = true) (g : Nat) (hx : a.eval x = .pointer (some ⟨g, 0, none⟩)) (t : TypeId) (cs : Array Value) (d : TypeDesc) (hu : Tryd.prog.underlying ty = some d) (hd : d.isRow = true) (hi : (Tryd.prog.info? ty).map (·.size) = some cs.size) (hg : w.heap[g]? = some (.cells cs t (0, 0)))
    (h : wpList Tryd.prog ops Q rest (a.put o.dst (.agg cs)) w) : wpList Tryd.prog ops Q (o :: rest) a w := by
  unfold wpList
  rw [if_pos hw]
  refine Or.inl (wp_load_mid ty x ho g 0 hx cs.toList d (fun j v hj => ?_) hu hd (by rw [hi]; simp) (by simpa using h))
  rw [Nat.zero_add, cell_of_row w g j cs t _ hg]
  simpa using hj
theorem ldMid (ty : TypeId) (x : Operand) (ho : o.op = .load ty x) (hw : Region.wanted o (yielded ops a.tmps) = true) (g p : Nat) (hx : a.eval x = .pointer (some ⟨g, p, none⟩)) (cs : Array Value) (d : TypeDesc) (hu : Tryd.prog.underlying ty = some d) (hd : d.isRow = true) (hi : (Tryd.prog.info? ty).map (·.size) = some cs.size) (hg : w.rangeAt g p cs.toList)
    (h : wpList Tryd.prog ops Q rest (a.put o.dst (.agg cs)) w) : wpList Tryd.prog ops Q (o :: rest) a w := by
  unfold wpList
  rw [if_pos hw]
  refine Or.inl (wp_load_mid ty x ho g p hx cs.toList d hg hu hd (by rw [hi]; simp) ?_)
  simpa using h
theorem stNew (ty : TypeId) (x y : Operand) (ho : o.op = .store ty x y) (hw : Region.wanted o (yielded ops a.tmps) = true) (w0 : World) (t : TypeId) (zs cs : Array Value) (hW : w = w0.alloc (.cells zs t)) (hx : a.eval x = .pointer (some ⟨w0.heap.size, 0, none⟩)) (hy : a.eval y = .agg cs) (hi : (Tryd.prog.info? ty).map (·.size) = some cs.size) (hz : zs.size = cs.size) (h1 : cs.all (·.oneCell') = true)
    (h : wpList Tryd.prog ops Q rest (a.put o.dst undef) (w0.alloc (.cells cs t))) : wpList Tryd.prog ops Q (o :: rest) a w := by
  subst hW
  unfold wpList
  rw [if_pos hw]
  refine Or.inl (wp_store_row ty x y ho _ cs hx hy t zs (heap_alloc_new _ _) hi hz h1 ?_)
  rw [World.setRow_alloc_new]
  exact h
theorem stRow (ty : TypeId) (x y : Operand) (ho : o.op = .store ty x y) (hw : Region.wanted o (yielded ops a.tmps) = true) (g : Nat) (cs : Array Value) (hx : a.eval x = .pointer (some ⟨g, 0, none⟩)) (hy : a.eval y = .agg cs) (t : TypeId) (zs : Array Value) (hg : w.heap[g]? = some (.cells zs t (0, 0))) (hi : (Tryd.prog.info? ty).map (·.size) = some cs.size) (hz : zs.size = cs.size) (h1 : cs.all (·.oneCell') = true)
    (h : wpList Tryd.prog ops Q rest (a.put o.dst undef) (w.setRow g cs)) : wpList Tryd.prog ops Q (o :: rest) a w := by
  unfold wpList
  rw [if_pos hw]
  exact Or.inl (wp_store_row ty x y ho g cs hx hy t zs hg hi hz h1 h)
theorem stMid (ty : TypeId) (x y : Operand) (ho : o.op = .store ty x y) (hw : Region.wanted o (yielded ops a.tmps) = true) (g p : Nat) (cs : Array Value) (hx : a.eval x = .pointer (some ⟨g, p, none⟩)) (hy : a.eval y = .agg cs) (ht : w.there g p cs.size) (hi : (Tryd.prog.info? ty).map (·.size) = some cs.size) (h1 : cs.all (·.oneCell') = true)
    (h : wpList Tryd.prog ops Q rest (a.put o.dst undef) (w.setCells g p cs.toList)) : wpList Tryd.prog ops Q (o :: rest) a w := by
  unfold wpList
  rw [if_pos hw]
  exact Or.inl (wp_store_mid ty x y ho g p cs hx hy ht hi h1 h)
end
theorem sizeRl (r : Rl) (u : Value) : (Tryd.prog.info? 31).map (·.size) = some (rlc r u).size := by rw [rlc_size]; kernel_rfl
theorem sizeHd (h : Hd) (u : Value) : (Tryd.prog.info? 137).map (·.size) = some (hdc h u).size := by rw [hdc_size]; kernel_rfl
theorem sizeMs (m : Ms) (s : Sls) : (Tryd.prog.info? 37).map (·.size) = some (msc m s).size := by rw [msc_size]; kernel_rfl
theorem sizeMt (f : Nat → Int) : (Tryd.prog.info? 28).map (·.size) = some (row 22 f).size := by rw [row_size]; kernel_rfl
theorem oneI (k : IntKind) (x : Int) : (Value.int k x).oneCell' = true := rfl
theorem oneB (x : Bool) : (Value.bool x).oneCell' = true := rfl
theorem rlc_one (r : Rl) (u : Value) (hu : u.oneCell' = true) : (rlc r u).all (·.oneCell') = true := by
  have := row_one 22 r.mt
  unfold rlc
  simp only [Array.all_append, this, Bool.and_true]
  simp [oneI, hu]
theorem hdc_one (h : Hd) (u : Value) (hu : u.oneCell' = true) : (hdc h u).all (·.oneCell') = true := by
  have := rlc_one h.r u hu
  unfold hdc
  simp only [Array.all_append, this, Bool.true_and]
  simp [oneI]
theorem msc_one (m : Ms) (s : Sls) (h : s.cp.oneCell' = true) (h1 : s.ps.oneCell' = true) (h2 : s.ed.oneCell' = true) (h3 : s.fr.oneCell' = true) (h4 : s.hs.oneCell' = true) : (msc m s).all (·.oneCell') = true := by
  have := rlc_one m.r s.cp h
  unfold msc
  simp only [Array.all_append, this, Bool.and_true]
  simp [oneI, oneB, h1, h2, h3, h4]
/-- Cells of a block, as a range. -/
theorem range_of {w : World} {g p : Nat} {cs : Array Value} (h : ∀ i, i < cs.size → w.cell? ⟨g, p + i, none⟩ = cs[i]?) : w.rangeAt g p cs.toList := fun j v hj => by
  have hj' : cs[j]? = some v := by simpa using hj
  have hlt : j < cs.size := (Array.getElem?_eq_some_iff.1 hj').1
  rw [h j hlt, hj']
theorem Lst.one {α : Type} {T : Nat → Prop} {k : Nat} {R : World → (Nat → Option Value) → α → Prop} {w : World} {v : Value} {l : List α} (h : Lst T k R w v l) : v.oneCell' = true := by
  obtain ⟨ao, cap, rfl, _⟩ := h
  rfl
theorem setCells_all (b : Nat) : ∀ (vs : List Value) (o : Nat) (w : World) (cur : Array Value) (t : TypeId), w.heap[b]? = some (.cells cur t (0, 0)) → ∃ cur', (w.setCells b o vs).heap[b]? = some (.cells cur' t (0, 0)) ∧ cur'.size = cur.size ∧ (∀ i, i < o ∨ o + vs.length ≤ i → cur'[i]? = cur[i]?) ∧ (∀ i, i < vs.length → o + vs.length ≤ cur.size → cur'[o + i]? = vs[i]?)
  | [], o, w, cur, t, h => ⟨cur, h, rfl, fun _ _ => rfl, fun i hi => by simp at hi⟩
  | v :: r, o, w, cur, t, h => by
    have h1 := heap_setCell_same w b o cur t v h
    obtain ⟨cur', h2, h3, h4, h5⟩ := setCells_all b r (o + 1) (w.setCell ⟨b, o, none⟩ v) _ t h1
    refine ⟨cur', h2, by rw [h3]; simp, fun i hi => ?_, fun i hi hs => ?_⟩
    · rw [List.length_cons] at hi
      rw [h4 i (by omega), Array.getElem?_setIfInBounds, if_neg (by omega)]
    · rw [List.length_cons] at hi hs
      cases i with
      | zero =>
        rw [Nat.add_zero, h4 o (by omega), Array.getElem?_setIfInBounds, if_pos rfl, if_pos (by omega)]; rfl
      | succ i =>
        rw [show o + (i + 1) = o + 1 + i by omega, h5 i (by omega) (by simp; omega)]; rfl
theorem setCells_below (b : Nat) : ∀ (vs : List Value) (o : Nat) (w : World), (w.setCells b o vs).os = w.os ∧ (w.setCells b o vs).tape = w.tape ∧ (w.setCells b o vs).output = w.output ∧ w.heap.size ≤ (w.setCells b o vs).heap.size ∧ ∀ k, k ≠ b → (w.setCells b o vs).heap[k]? = w.heap[k]?
  | [], _, _ => ⟨rfl, rfl, rfl, Nat.le_refl _, fun _ _ => rfl⟩
  | v :: r, o, w => by
    have h := setCells_below b r (o + 1) (w.setCell ⟨b, o, none⟩ v)
    have hb : Below 0 w (w.setCell ⟨b, o, none⟩ v) := (Below.refl 0 w).setCell (p := ⟨b, o, none⟩) (Nat.zero_le _) v
    exact ⟨h.1.trans hb.os, h.2.1.trans hb.tape, h.2.2.1.trans hb.output, Nat.le_trans hb.size h.2.2.2.1, fun k hk => (h.2.2.2.2 k hk).trans (heap_setCell_other w ⟨b, o, none⟩ k v hk)⟩
end Go.Proofs.YtllbbbfkdgjffaaDoor
