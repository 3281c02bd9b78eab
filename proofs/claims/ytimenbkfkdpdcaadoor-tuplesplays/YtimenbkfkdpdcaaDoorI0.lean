/-
  Laws of our own for slices.Insert and slices.Delete: a copy in a region that does not draw; three pieces put one behind the other. Conditions: the cells are there.
-/
import Derived.Test.YtimenbkfkdpdcaaDoorQ1
import Derived.Lib.Overlaps
import Derived.Lib.AppendZerosOnto
import Derived.Lib.SliceRun
import Derived.Laws.Externs
namespace Go.Proofs.YtimenbkfkdpdcaaDoor
open Go.RowKit

theorem opCopy {ops : Array Oper} {rest : List Oper} {o : Oper} {a : Act} {w : World} {Q : Exit → Act → World → Prop} (hw : Region.wanted o (yielded ops a.tmps) = true) (d s : Operand) (dT sT : TypeId)
    (ho : o.op = .call { callee := .builtin .copy, args := #[d, s], argTypes := #[dT, sT] }) (elem : TypeId) (k b off dLen dCap : Nat) (ad : Addr) (sLen sCap : Nat) (cs : List Value) (hd : a.eval d = .slice (some ⟨b, off, none⟩) dLen dCap) (hs : a.eval s = .slice (some ad) sLen sCap)
    (hu : Tryd.prog.underlying dT = some (.slice elem)) (hsz : (Tryd.prog.info? elem).map (·.size) = some k) (hn : cs.length = Nat.min sLen dLen * k)
    (hsrc : ∀ j v, cs[j]? = some v → w.cell? (ad.add j) = some v) (hc : ∀ j, j < cs.length → (w.cell? ⟨b, off + j, none⟩).isSome = true ∧ w.frozen? ⟨b, off + j, none⟩ = false) (h1 : ∀ v ∈ cs, v.oneCell' = true)
    (h : wpList Tryd.prog ops Q rest (a.put o.dst (goInt (Nat.min sLen dLen))) (w.setCells b off cs)) : wpList Tryd.prog ops Q (o :: rest) a w := by
  unfold wpList
  rw [if_pos hw]
  refine Or.inl ?_
  unfold Oper.wp
  simp [execOp, ho, resolve, invoke, builtin, hd, hs, run_copy_k w dT sT o.type elem k b off dLen dCap ad sLen sCap cs hu hsz hn hsrc (fun j hj => (hc j hj).1) (fun j hj => (hc j hj).2) h1, Result.andThen]
  exact h
theorem drew_setCells (b : Nat) : ∀ (vs : List Value) (o : Nat) (w : World), (w.setCells b o vs).drew = w.drew.setCells b o vs
  | [], _, _ => rfl
  | v :: r, o, w => by rw [World.setCells, World.setCells, drew_setCells b r]; rfl
/-- What stands in three pieces. -/
theorem three {cur : Array Value} {o I K N : Nat} {xs us : List Value} (hx : xs.length = N) (hu : us.length = K) (hI : I ≤ N) (h1 : ∀ j, j < I → cur[o + j]? = xs[j]?) (h2 : ∀ j, j < K → cur[o + I + j]? = us[j]?) (h3 : ∀ j, I ≤ j → j < N → cur[o + K + j]? = xs[j]?) :
    (cur.toList.drop o).take (N + K) = xs.take I ++ us ++ xs.drop I := by
  apply List.ext_getElem?
  intro j
  have hti : (xs.take I).length = I := by rw [List.length_take]; omega
  rw [List.getElem?_take]
  by_cases hj : j < N + K
  · rw [if_pos hj, List.getElem?_drop, Array.getElem?_toList]
    by_cases ha : j < I
    · rw [h1 j ha, List.append_assoc, List.getElem?_append_left (by omega), List.getElem?_take, if_pos ha]
    · by_cases hb : j < I + K
      · have := h2 (j - I) (by omega)
        rw [show o + I + (j - I) = o + j by omega] at this
        rw [this, List.append_assoc, List.getElem?_append_right (by omega), hti, List.getElem?_append_left (by omega)]
      · have := h3 (j - K) (by omega) (by omega)
        rw [show o + K + (j - K) = o + j by omega] at this
        rw [this, List.getElem?_append_right (by simp only [List.length_append]; omega), List.getElem?_drop]
        congr 1
        simp only [List.length_append]
        omega
  · rw [if_neg hj, List.getElem?_eq_none (by simp only [List.length_append, List.length_drop]; omega)]
/-- What a row is behind a shift and a store, in place. -/
theorem rw_shift {S : Nat → Prop} {k t : Nat} {w : World} {g o n cap i : Nat} {cur : Array Value} {xs us : List Value} (hS : S g) (hx : xs.length = n * k) (h3 : w.heap[g]? = some (.cells cur t (0, 0))) (h4 : n + 1 ≤ cap) (h5 : o + cap * k ≤ cur.size) (h6 : (cur.toList.drop o).take (n * k) = xs) (hi : i ≤ n) (hu : us.length = k) :
    Rw S k t ((w.setCells g (o + (i + 1) * k) (xs.drop (i * k))).setCells g (o + i * k) us) (.slice (some ⟨g, o, none⟩) (n + 1) cap) (n + 1) (xs.take (i * k) ++ us ++ xs.drop (i * k)) ∧ Apd w (.slice (some ⟨g, o, none⟩) n cap) ((w.setCells g (o + (i + 1) * k) (xs.drop (i * k))).setCells g (o + i * k) us) := by
  have hck : (n + 1) * k ≤ cap * k := Nat.mul_le_mul_right _ h4
  have hik : i * k ≤ n * k := Nat.mul_le_mul_right _ hi
  have e1 : (i + 1) * k = i * k + k := Nat.succ_mul i k
  have e2 : (n + 1) * k = n * k + k := Nat.succ_mul n k
  rw [e2] at hck
  rw [e1]
  have hdl : (xs.drop (i * k)).length = n * k - i * k := by rw [List.length_drop, hx]
  obtain ⟨c1, a1, a2, a3, a4, a5, a6⟩ := setCells_all g (xs.drop (i * k)) (o + (i * k + k)) w cur t h3
  obtain ⟨c2, b1, b2, b3, b4, b5, b6⟩ := setCells_all g us (o + i * k) _ c1 t a1
  refine ⟨⟨by rw [e2]; simp only [List.length_append, List.length_take, List.length_drop]; omega, Or.inr ⟨g, o, cap, c2, rfl, hS, b1, h4, by omega, ?_⟩⟩, ⟨b6.os.trans a6.os, b6.tape.trans a6.tape, b6.output.trans a6.output, Nat.le_trans a6.size b6.size, fun j _ hne => ?_⟩⟩
  · rw [e2]
    refine three hx hu hik (fun j hj => ?_) (fun j hj => ?_) (fun j h1 h2 => ?_)
    · rw [b3 (o + j) (by omega), a3 (o + j) (by omega), cells_at h6 (by omega)]
    · exact b4 j (by omega) (by omega)
    · have := a4 (j - i * k) (by omega) (by omega)
      rw [show o + (i * k + k) + (j - i * k) = o + k + j by omega, List.getElem?_drop, show i * k + (j - i * k) = j by omega] at this
      rw [b3 (o + k + j) (by omega), this]
  · have hj : j ≠ g := fun e => hne (by simp [Value.ownBlock, e])
    rw [b5 j hj, a5 j hj]
/-- What a new row is. -/
theorem rw_grown {S : Nat → Prop} {k t : Nat} {w W : World} {v : Value} {n G i : Nat} {ROW : Array Value} {xs us : List Value} (hx : xs.length = n * k) (hW : W = w.drew.alloc (.cells ROW t)) (hR : ∀ j, j < i * k → ROW[j]? = xs[j]?) (hG : n + 1 ≤ G) (hsz : G * k ≤ ROW.size) (hi : i ≤ n) (hu : us.length = k) :
    Rw (fun b => S b ∨ w.heap.size ≤ b) k t ((W.setCells w.heap.size (i * k) us).setCells w.heap.size ((i + 1) * k) (xs.drop (i * k))) (.slice (some ⟨w.heap.size, 0, none⟩) (n + 1) G) (n + 1) (xs.take (i * k) ++ us ++ xs.drop (i * k)) ∧ Apd w v ((W.setCells w.heap.size (i * k) us).setCells w.heap.size ((i + 1) * k) (xs.drop (i * k))) := by
  have hck : (n + 1) * k ≤ G * k := Nat.mul_le_mul_right _ hG
  have hik : i * k ≤ n * k := Nat.mul_le_mul_right _ hi
  have e1 : (i + 1) * k = i * k + k := Nat.succ_mul i k
  have e2 : (n + 1) * k = n * k + k := Nat.succ_mul n k
  rw [e2] at hck
  rw [e1]
  have hdl : (xs.drop (i * k)).length = n * k - i * k := by rw [List.length_drop, hx]
  have h3 : W.heap[w.heap.size]? = some (.cells ROW t (0, 0)) := by rw [hW]; exact heap_alloc_new w.drew _
  obtain ⟨c1, a1, a2, a3, a4, a5, a6⟩ := setCells_all w.heap.size us (i * k) W ROW t h3
  obtain ⟨c2, b1, b2, b3, b4, b5, b6⟩ := setCells_all w.heap.size (xs.drop (i * k)) (i * k + k) _ c1 t a1
  have hB : Below w.heap.size w W := by rw [hW]; exact ((Below.refl _ _).drew).alloc (Nat.le_refl _) _
  refine ⟨⟨by rw [e2]; simp only [List.length_append, List.length_take, List.length_drop]; omega, Or.inr ⟨w.heap.size, 0, G, c2, rfl, Or.inr (Nat.le_refl _), b1, hG, by omega, ?_⟩⟩, ⟨b6.os.trans (a6.os.trans hB.os), b6.tape.trans (a6.tape.trans hB.tape), b6.output.trans (a6.output.trans hB.output), Nat.le_trans hB.size (Nat.le_trans a6.size b6.size), fun j hj _ => ?_⟩⟩
  · rw [e2]
    refine three hx hu hik (fun j hj => ?_) (fun j hj => ?_) (fun j h1 h2 => ?_)
    · rw [Nat.zero_add, b3 j (by omega), a3 j (by omega), hR j hj]
    · rw [Nat.zero_add, b3 (i * k + j) (by omega), a4 j (by omega) (by omega)]
    · have := b4 (j - i * k) (by omega) (by omega)
      rw [show i * k + k + (j - i * k) = 0 + k + j by omega, List.getElem?_drop, show i * k + (j - i * k) = j by omega] at this
      exact this
  · rw [b5 j (by omega), a5 j (by omega), hB.block j hj]
end Go.Proofs.YtimenbkfkdpdcaaDoor
