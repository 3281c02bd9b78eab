/-
  Proved here: spoil ends, and changes nothing but rows of the plain form's own blocks. Condition: the term, or what is left of it, lies in blocks of a set that has no new block.
-/
import Derived.Test.YtjallmncajhamaaDoorT1
namespace Go.Proofs.YtjallmncajhamaaDoor
open Go.RowKit
set_option maxRecDepth 100000

abbrev r77 : Array Value := tic 77 0 0 nilS
/-- the j-th term of a row -/
def fr (cur : Array Value) (j : Nat) : Array Value := #[cur.getD (j * 4) nilS, cur.getD (j * 4 + 1) nilS, cur.getD (j * 4 + 2) nilS, cur.getD (j * 4 + 3) nilS]
mutual
/-- Cells of a term of which some terms may be written over; its kids lie in blocks of S. -/
def SpV (S : Nat → Prop) (w : World) : Ti → Array Value → Prop
  | .mk op fd n ks, cs => cs = r77 ∨ ∃ ao cap, cs = tic op fd n (.slice ao ks.length cap) ∧ ks.length ≤ cap ∧ (ks.length ≠ 0 → ∃ g cur, ao = some ⟨g, 0, none⟩ ∧ S g ∧ w.heap[g]? = some (.cells cur 26 (0, 0)) ∧ ks.length * 4 ≤ cur.size ∧ SpL S w ks cur 0)
def SpL (S : Nat → Prop) (w : World) : List Ti → Array Value → Nat → Prop
  | [], _, _ => True
  | t :: ts, cur, j => SpV S w t (fr cur j) ∧ SpL S w ts cur (j + 1)
end
/-- rows of terms of S alone have changed -/
structure Spo (S : Nat → Prop) (w w' : World) : Prop where
  os : w'.os = w.os
  tape : w'.tape = w.tape
  output : w'.output = w.output
  size : w.heap.size ≤ w'.heap.size
  low : ∀ k o, w.heap[k]? = some o → (¬ S k ∨ ∀ cur, o ≠ .cells cur 26 (0, 0)) → w'.heap[k]? = some o
  row : ∀ g cur, S g → w.heap[g]? = some (.cells cur 26 (0, 0)) → ∃ cur', w'.heap[g]? = some (.cells cur' 26 (0, 0)) ∧ cur'.size = cur.size ∧ ∀ j, j * 4 + 4 ≤ cur.size → fr cur' j = fr cur j ∨ fr cur' j = r77
theorem Spo.refl (S : Nat → Prop) (w : World) : Spo S w w := ⟨rfl, rfl, rfl, Nat.le_refl _, fun _ _ h _ => h, fun _ cur _ h => ⟨cur, h, rfl, fun _ _ => Or.inl rfl⟩⟩
theorem Spo.trans {S : Nat → Prop} {a b c : World} (h : Spo S a b) (k : Spo S b c) : Spo S a c :=
  ⟨k.os.trans h.os, k.tape.trans h.tape, k.output.trans h.output, Nat.le_trans h.size k.size, fun i o hi hs => k.low i o (h.low i o hi hs) hs, fun g cur hs hg => by
    obtain ⟨c1, e1, e2, e3⟩ := h.row g cur hs hg
    obtain ⟨c2, f1, f2, f3⟩ := k.row g c1 hs e1
    refine ⟨c2, f1, f2.trans e2, fun j hj => ?_⟩
    rcases f3 j (by omega) with q | q
    · rw [q]; exact e3 j hj
    · exact Or.inr q⟩
theorem Spo.alloc {S : Nat → Prop} {w : World} (o : Obj) : Spo S w (w.alloc o) :=
  ⟨rfl, rfl, rfl, by simp, fun _ _ hk _ => (heap_alloc_old _ _ (Array.getElem?_eq_some_iff.1 hk).1).trans hk, fun g cur _ hg => ⟨cur, (heap_alloc_old _ _ (Array.getElem?_eq_some_iff.1 hg).1).trans hg, rfl, fun _ _ => Or.inl rfl⟩⟩
mutual
theorem SpV.on {S : Nat → Prop} {w w' : World} (hs : Spo S w w') : ∀ (t : Ti) (cs : Array Value), SpV S w t cs → SpV S w' t cs
  | .mk op fd n ks, cs, h => by
    rw [SpV] at h ⊢
    rcases h with h | ⟨ao, cap, e, hc, hk⟩
    · exact Or.inl h
    · refine Or.inr ⟨ao, cap, e, hc, fun hn => ?_⟩
      obtain ⟨g, cur, e1, e2, e3, e4, e5⟩ := hk hn
      obtain ⟨c1, f1, f2, f3⟩ := hs.row g cur e2 e3
      exact ⟨g, c1, e1, e2, f1, by omega, SpL.on hs ks cur c1 0 (fun j hj => f3 j (by omega)) e5⟩
theorem SpL.on {S : Nat → Prop} {w w' : World} (hs : Spo S w w') : ∀ (ts : List Ti) (cur c1 : Array Value) (j : Nat), (∀ i, i < j + ts.length → fr c1 i = fr cur i ∨ fr c1 i = r77) → SpL S w ts cur j → SpL S w' ts c1 j
  | [], _, _, _, _, _ => by rw [SpL]; trivial
  | t :: ts, cur, c1, j, hf, h => by
    rw [SpL] at h ⊢
    refine ⟨?_, SpL.on hs ts cur c1 (j + 1) (fun i hi => hf i (by rw [List.length_cons]; omega)) h.2⟩
    rcases hf j (by rw [List.length_cons]; omega) with q | q
    · rw [q]; exact SpV.on hs t _ h.1
    · rw [q]; exact SpV.gone S w' t
theorem SpV.gone (S : Nat → Prop) (w : World) : ∀ (t : Ti), SpV S w t r77
  | .mk op fd n ks => by rw [SpV]; exact Or.inl rfl
end
theorem fr_of {cur cs : Array Value} {j : Nat} (h4 : cs.size = 4) (h : ∀ i v, cs[i]? = some v → cur[j * 4 + i]? = some v) : fr cur j = cs := by
  obtain ⟨x0, x1, x2, x3, rfl⟩ : ∃ x0 x1 x2 x3, cs = #[x0, x1, x2, x3] := ⟨cs[0], cs[1], cs[2], cs[3], by
    apply Array.ext
    · simp [h4]
    · intro i hi hj
      simp at hj
      rcases i with _ | _ | _ | _ | i <;> first | rfl | omega⟩
  have a0 := h 0 x0 rfl
  have a1 := h 1 x1 rfl
  have a2 := h 2 x2 rfl
  have a3 := h 3 x3 rfl
  unfold fr
  rw [Nat.add_zero] at a0
  simp [Array.getD_eq_getD_getElem?, a0, a1, a2, a3]
mutual
theorem SpV.of {S : Nat → Prop} {w : World} : ∀ (t : Ti) (cs : Array Value), TiV S w t cs → SpV S w t cs
  | .mk op fd n ks, cs, h => by
    rw [SpV]
    rw [TiV] at h
    obtain ⟨v, xs, rfl, h2, h3⟩ := h
    obtain ⟨hl, ao, cap, rfl, hc, hk⟩ := h2
    refine Or.inr ⟨ao, cap, rfl, hc, fun hn => ?_⟩
    obtain ⟨g, o, e1, e2, e3, e4, rfl, cur, e6, e7⟩ := hk hn
    refine ⟨g, cur, e1, e2, e6, e7, SpL.of ks xs cur 0 h3 fun i v hi => ?_⟩
    have := e4 i v hi
    rw [cell_of_row _ _ _ _ _ _ e6] at this
    simpa using this
theorem SpL.of {S : Nat → Prop} {w : World} : ∀ (ts : List Ti) (xs : List Value) (cur : Array Value) (j : Nat), TiL S w ts xs → (∀ i v, xs[i]? = some v → cur[j * 4 + i]? = some v) → SpL S w ts cur j
  | [], _, _, _, _, _ => by rw [SpL]; trivial
  | t :: ts, xs, cur, j, h, hx => by
    rw [SpL]
    rw [TiL] at h
    obtain ⟨cs, ys, rfl, h2, h3⟩ := h
    have h4 := h2.size
    rw [fr_of h4 fun i v hi => hx i v (by rw [List.getElem?_append_left (by have := (Array.getElem?_eq_some_iff.1 hi).1; simpa using this)]; simpa using hi)]
    refine ⟨SpV.of t cs h2, SpL.of ts ys cur (j + 1) h3 fun i v hi => ?_⟩
    have := hx (4 + i) v (by rw [List.getElem?_append_right (by simp [h4])]; simpa [h4] using hi)
    rw [show (j + 1) * 4 + i = j * 4 + (4 + i) by omega]
    exact this
end
/-- the j-th kid, whatever is left of it -/
def Kd (S : Nat → Prop) (N : Nat) (ao : Option Addr) (j : Nat) (w : World) : Prop := ∃ g cur u, ao = some ⟨g, 0, none⟩ ∧ S g ∧ w.heap[g]? = some (.cells cur 26 (0, 0)) ∧ j * 4 + 4 ≤ cur.size ∧ szI u ≤ N ∧ SpV S w u (fr cur j)
theorem Kd.on {S : Nat → Prop} {N j : Nat} {ao : Option Addr} {w w' : World} (h : Kd S N ao j w) (hs : Spo S w w') : Kd S N ao j w' := by
  obtain ⟨g, cur, u, e1, e2, e3, e4, e5, e6⟩ := h
  obtain ⟨c1, f1, f2, f3⟩ := hs.row g cur e2 e3
  refine ⟨g, c1, u, e1, e2, f1, by omega, e5, ?_⟩
  rcases f3 j e4 with q | q
  · rw [q]; exact SpV.on hs u _ e6
  · rw [q]; exact SpV.gone S w' u
theorem SpL.at {S : Nat → Prop} {w : World} : ∀ (ts : List Ti) (cur : Array Value) (j i : Nat) (hi : i < ts.length), SpL S w ts cur j → SpV S w ts[i] (fr cur (j + i))
  | t :: ts, cur, j, 0, _, h => by rw [SpL] at h; exact h.1
  | t :: ts, cur, j, i + 1, hi, h => by
    rw [SpL] at h
    have := SpL.at ts cur (j + 1) i (by simpa using hi) h.2
    rw [show j + 1 + i = j + (i + 1) by omega] at this
    exact this
theorem SpV.kids {S : Nat → Prop} {w : World} {N : Nat} {t : Ti} {cs : Array Value} (h : SpV S w t cs) (hN : szI t ≤ N + 1) : ∃ op fd n ao L cap, cs = tic op fd n (.slice ao L cap) ∧ L ≤ cap ∧ L ≤ N ∧ ∀ j, j < L → Kd S N ao j w := by
  obtain ⟨op, fd, n, ks⟩ := t
  rw [SpV] at h
  rw [szI] at hN
  rcases h with rfl | ⟨ao, cap, rfl, hc, hk⟩
  · exact ⟨77, 0, 0, none, 0, 0, rfl, Nat.le_refl _, Nat.zero_le _, fun j hj => absurd hj (Nat.not_lt_zero _)⟩
  · have hl := len_szsI ks ks.length (Nat.le_refl _)
    rw [List.take_length] at hl
    refine ⟨op, fd, n, ao, ks.length, cap, rfl, hc, by omega, fun j hj => ?_⟩
    obtain ⟨g, cur, e1, e2, e3, e4, e5⟩ := hk (by omega)
    have := SpL.at ks cur 0 j hj e5
    rw [Nat.zero_add] at this
    exact ⟨g, cur, ks[j], e1, e2, e3, by omega, by have := szsI_mem (List.getElem_mem hj); omega, this⟩
/-- a row written over -/
theorem Spo.wr {S : Nat → Prop} {w : World} {g j : Nat} {cur : Array Value} (hS : S g) (hg : w.heap[g]? = some (.cells cur 26 (0, 0))) (hj : j * 4 + 4 ≤ cur.size) : Spo S w (w.setCells g (j * 4) r77.toList) := by
  obtain ⟨c1, e1, e2, e3, e4, e5, e6⟩ := setCells_all g r77.toList (j * 4) w cur 26 hg
  refine ⟨e6.os, e6.tape, e6.output, e6.size, fun k o hk ho => (e5 k (fun e => by subst e; rcases ho with q | q; exact q hS; rw [hg] at hk; cases hk; exact q cur rfl)).trans hk, fun b cb hb hbg => ?_⟩
  by_cases hbe : b = g
  · subst hbe
    rw [hg] at hbg
    cases hbg
    refine ⟨c1, e1, e2, fun i hi => ?_⟩
    by_cases hij : i = j
    · subst hij
      refine Or.inr (fr_of rfl fun q v hq => ?_)
      have hql := (Array.getElem?_eq_some_iff.1 hq).1
      have hq4 : q < 4 := hql
      rw [e4 q hq4 (by omega)]
      simpa using hq
    · refine Or.inl ?_
      have hx : ∀ q, q < 4 → c1[i * 4 + q]? = cur[i * 4 + q]? := fun q hq => e3 _ (by
        have : r77.toList.length = 4 := rfl
        omega)
      have h0 := hx 0 (by omega)
      rw [Nat.add_zero] at h0
      unfold fr
      simp only [Array.getD_eq_getD_getElem?, h0, hx 1 (by omega), hx 2 (by omega), hx 3 (by omega)]
  · exact ⟨cb, (e5 b hbe).trans hbg, rfl, fun _ _ => Or.inl rfl⟩
end Go.Proofs.YtjallmncajhamaaDoor
