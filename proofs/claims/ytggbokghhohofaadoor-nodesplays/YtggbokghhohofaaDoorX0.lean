/-
  Laws of our own: blocks by sets (Only, Fresh), slices of things of k cells wherever they lie (Rw), appending to them, copying; whole structs loaded and stored. Conditions: the cells are there.
-/
import Derived.Test.YtggbokghhohofaaDoorK1
import Derived.OwnWalk
import Derived.Laws.Append
import Derived.Laws.IdiomCopy
import Derived.Laws.CopyOwn
import Derived.Deep.RegionLaw
import Derived.Deep.DeepCutAuto
import Derived.Deep.RegionWith
import Derived.Deep.WholeRow
import Derived.Deep.RegionHeld3
import Derived.Laws.AppendOwnNone
namespace Go.Proofs.YtggbokghhohofaaDoor
open Go.RowKit

abbrev nilS : Value := .slice none 0 0

/-- From w to w' no block outside S has turned. -/
structure Only (S : Nat → Prop) (w w' : World) : Prop where
  os : w'.os = w.os
  tape : w'.tape = w.tape
  output : w'.output = w.output
  size : w.heap.size ≤ w'.heap.size
  block : ∀ k, ¬ S k → w'.heap[k]? = w.heap[k]?
/-- All blocks to come are in S. -/
def Fresh (S : Nat → Prop) (w : World) : Prop := ∀ k, w.heap.size ≤ k → S k
theorem Fresh.on {S : Nat → Prop} {w w' : World} (h : Fresh S w) (hs : w.heap.size ≤ w'.heap.size) : Fresh S w' := fun k hk => h k (Nat.le_trans hs hk)
theorem Only.refl (S : Nat → Prop) (w : World) : Only S w w := ⟨rfl, rfl, rfl, Nat.le_refl _, fun _ _ => rfl⟩
theorem Only.trans {S : Nat → Prop} {a b c : World} (h : Only S a b) (k : Only S b c) : Only S a c :=
  ⟨k.os.trans h.os, k.tape.trans h.tape, k.output.trans h.output, Nat.le_trans h.size k.size, fun i hi => (k.block i hi).trans (h.block i hi)⟩
theorem Only.mono {S T : Nat → Prop} {a b : World} (h : Only S a b) (hst : ∀ k, S k → T k) : Only T a b := ⟨h.os, h.tape, h.output, h.size, fun k hk => h.block k fun hs => hk (hst k hs)⟩
theorem Only.below {B : Nat} {S : Nat → Prop} {w w' : World} (h : Only S w w') (hS : ∀ k, S k → B ≤ k) : Below B w w' := ⟨h.os, h.tape, h.output, h.size, fun k hk => h.block k fun hs => by have := hS k hs; omega⟩
theorem Only.of {S : Nat → Prop} {w w' : World} (h : Below w.heap.size w w') (hf : Fresh S w) : Only S w w' :=
  ⟨h.os, h.tape, h.output, h.size, fun k hk => h.block k (by
    rcases Nat.lt_or_ge k w.heap.size with h | h
    · exact h
    · exact absurd (hf k h) hk)⟩
theorem Only.drew {S : Nat → Prop} {w w' : World} (h : Only S w w') : Only S w w'.drew := ⟨h.os, h.tape, h.output, h.size, h.block⟩
theorem Only.alloc {S : Nat → Prop} {w w' : World} (h : Only S w w') (hf : Fresh S w') (o : Obj) : Only S w (w'.alloc o) := h.trans (Only.of ((Below.refl _ _).alloc (Nat.le_refl _) _) hf)
theorem Only.setCell {S : Nat → Prop} {w w' : World} (h : Only S w w') {p : Addr} (hp : S p.block) (v : Value) : Only S w (w'.setCell p v) := by
  have hb : Below 0 w' (w'.setCell p v) := (Below.refl 0 w').setCell (p := p) (Nat.zero_le _) v
  refine h.trans ⟨hb.os, hb.tape, hb.output, hb.size, fun k hk => ?_⟩
  exact heap_setCell_other w' p k v (fun e => hk (e ▸ hp))
theorem cell_same {w w' : World} {b o : Nat} (h : w'.heap[b]? = w.heap[b]?) : w'.cell? ⟨b, o, none⟩ = w.cell? ⟨b, o, none⟩ := by
  unfold World.cell?; rw [h]
theorem cell_lt {w : World} {b o : Nat} {v : Value} (h : w.cell? ⟨b, o, none⟩ = some v) : b < w.heap.size := by
  unfold World.cell? at h
  rcases Nat.lt_or_ge b w.heap.size with h2 | h2
  · exact h2
  · rw [Array.getElem?_eq_none h2] at h; simp at h


/-- What an append to the slice v leaves. -/
structure Apd (w : World) (v : Value) (w' : World) : Prop where
  os : w'.os = w.os
  tape : w'.tape = w.tape
  output : w'.output = w.output
  size : w.heap.size ≤ w'.heap.size
  block : ∀ k, k < w.heap.size → v.ownBlock ≠ some k → w'.heap[k]? = w.heap[k]?
theorem Apd.only {S : Nat → Prop} {w w' : World} {v : Value} (h : Apd w v w') (hf : Fresh S w) (hv : ∀ k, v.ownBlock = some k → S k) : Only S w w' :=
  ⟨h.os, h.tape, h.output, h.size, fun k hk => by
    rcases Nat.lt_or_ge k w.heap.size with hl | hl
    · exact h.block k hl fun e => hk (hv k e)
    · exact absurd (hf k hl) hk⟩

theorem hid {p : Prop} (h : p) : Hid p := h
/-- A slice of n things of k cells each, in a block of S, with room behind it; xs: the cells of the things. -/
def Rw (S : Nat → Prop) (k t : Nat) (w : World) (v : Value) (n : Nat) (xs : List Value) : Prop :=
  xs.length = n * k ∧ ((v = nilS ∧ n = 0) ∨ ∃ g o cap cur, v = .slice (some ⟨g, o, none⟩) n cap ∧ S g ∧ w.heap[g]? = some (.cells cur t (0, 0)) ∧ n ≤ cap ∧ o + cap * k ≤ cur.size ∧ (cur.toList.drop o).take (n * k) = xs)
theorem Rw.nil (S : Nat → Prop) (k t : Nat) (w : World) : Rw S k t w nilS 0 [] := ⟨by simp, Or.inl ⟨rfl, rfl⟩⟩
theorem Rw.len {S : Nat → Prop} {k t : Nat} {w : World} {v : Value} {n : Nat} {xs : List Value} (h : Rw S k t w v n xs) : xs.length = n * k := h.1
theorem Rw.carry {S T : Nat → Prop} {k t : Nat} {w w' : World} {v : Value} {n : Nat} {xs : List Value} (h : Rw S k t w v n xs) (hc : ∀ b, b < w.heap.size → S b → T b ∧ w'.heap[b]? = w.heap[b]?) : Rw T k t w' v n xs := by
  refine ⟨h.1, ?_⟩
  rcases h.2 with h | ⟨g, o, cap, cur, h1, h2, h3, h4⟩
  · exact Or.inl h
  · have hq := hc g (Array.getElem?_eq_some_iff.1 h3).1 h2
    exact Or.inr ⟨g, o, cap, cur, h1, hq.1, hq.2.trans h3, h4⟩
theorem Rw.own {S : Nat → Prop} {k t : Nat} {w : World} {v : Value} {n : Nat} {xs : List Value} (h : Rw S k t w v n xs) (b : Nat) (hb : v.ownBlock = some b) : S b := by
  rcases h.2 with ⟨rfl, _⟩ | ⟨g, o, cap, cur, rfl, h2, _⟩
  · simp [Value.ownBlock] at hb
  · simp [Value.ownBlock] at hb; subst hb; exact h2
theorem Rw.form {S : Nat → Prop} {k t : Nat} {w : World} {v : Value} {n : Nat} {xs : List Value} (h : Rw S k t w v n xs) : ∃ ao cap, v = .slice ao n cap := by
  rcases h.2 with ⟨rfl, rfl⟩ | ⟨g, o, cap, cur, rfl, _⟩
  · exact ⟨_, _, rfl⟩
  · exact ⟨_, _, rfl⟩
theorem Rw.one {S : Nat → Prop} {k t : Nat} {w : World} {v : Value} {n : Nat} {xs : List Value} (h : Rw S k t w v n xs) : v.oneCell' = true := by
  obtain ⟨ao, cap, rfl⟩ := h.form
  rfl
theorem cells_at {cur : Array Value} {o m : Nat} {xs : List Value} (h : (cur.toList.drop o).take m = xs) {j : Nat} (hj : j < m) : cur[o + j]? = xs[j]? := by
  rw [← h, List.getElem?_take, if_pos hj, List.getElem?_drop]; simp
theorem setCells_all (b : Nat) : ∀ (vs : List Value) (o : Nat) (w : World) (cur : Array Value) (t : TypeId), w.heap[b]? = some (.cells cur t (0, 0)) → ∃ cur', (w.setCells b o vs).heap[b]? = some (.cells cur' t (0, 0)) ∧ cur'.size = cur.size ∧ (∀ i, i < o ∨ o + vs.length ≤ i → cur'[i]? = cur[i]?) ∧ (∀ i, i < vs.length → o + i < cur.size → cur'[o + i]? = vs[i]?) ∧ (∀ k, k ≠ b → (w.setCells b o vs).heap[k]? = w.heap[k]?) ∧ Below 0 w (w.setCells b o vs)
  | [], o, w, cur, t, h => ⟨cur, h, rfl, fun _ _ => rfl, fun i hi => by simp at hi, fun _ _ => rfl, Below.refl 0 w⟩
  | v :: vs, o, w, cur, t, h => by
    have h1 := heap_setCell_same w b o cur t v h
    obtain ⟨cur', e1, e2, e3, e4, e5, e6⟩ := setCells_all b vs (o + 1) (w.setCell ⟨b, o, none⟩ v) _ t h1
    refine ⟨cur', e1, by simpa using e2, fun i hi => ?_, fun i hi hs => ?_, fun k hk => ?_, ((Below.refl 0 w).setCell (p := ⟨b, o, none⟩) (Nat.zero_le _) v).trans (e6.mono (Nat.zero_le _))⟩
    · rw [e3 i (by simp at hi; omega), Array.getElem?_setIfInBounds]
      split
      · simp at hi; omega
      · rfl
    · cases i with
      | zero =>
        rw [Nat.add_zero, e3 o (by omega), Array.getElem?_setIfInBounds, if_pos rfl, if_pos (by omega)]; rfl
      | succ i =>
        have := e4 i (by simpa using hi) (by simp; omega)
        rw [show o + (i + 1) = o + 1 + i by omega, this]; rfl
    · rw [show w.setCells b o (v :: vs) = (w.setCell ⟨b, o, none⟩ v).setCells b (o + 1) vs from rfl, e5 k hk]
      exact heap_setCell_other w ⟨b, o, none⟩ k v hk

/-- m THINGS ARE APPENDED. -/
theorem run_rw_app {S : Nat → Prop} {k t by' : Nat} {w : World} {v z : Value} {n m c : Nat} {xs us : List Value} {a : Addr} (tt ty : TypeId) (hu : Tryd.prog.underlying tt = some (.slice t)) (hinfo : (Tryd.prog.info? t).map (fun i => (i.zero, i.size, i.bytes)) = some (some z, k, by')) (hzs : z.cells.size = k) (hk : 0 < k) (hby : by' ≤ 4096)
    (h : Rw S k t w v n xs) (hul : us.length = m * k) (hnews : ∀ j x, us[j]? = some x → w.cell? (a.add j) = some x) (h1 : ∀ x ∈ us, x.oneCell' = true) (hl : n + m < 2147483648) (hm : m ≠ 0 ∨ n ≠ 0) :
    ∃ v' w', (Builtin.append_ #[tt, tt] ty #[v, .slice (some a) m c]).run Tryd.prog w = .ok v' w' ∧ Apd w v w' ∧ Rw (fun b => S b ∨ w.heap.size ≤ b) k t w' v' (n + m) (xs ++ us) := by
  obtain ⟨i, hi, hz0, hz1, hz2⟩ := info_parts hinfo
  have hbb : (n + m) * by' ≤ 140737488355328 := by
    have : (n + m) * by' ≤ 2147483648 * 4096 := Nat.mul_le_mul (by omega) hby
    omega
  have hlen : (xs ++ us).length = (n + m) * k := by rw [List.length_append, h.1, hul, Nat.add_mul]
  have fresh : ∀ {v' : Value} {w' : World}, w'.ownsRow w.heap.size t k v' (n + m) (xs ++ us) → Rw (fun b => S b ∨ w.heap.size ≤ b) k t w' v' (n + m) (xs ++ us) := by
    intro v' w' ho
    refine ⟨hlen, ?_⟩
    rcases ho.2 with ⟨rfl, e⟩ | ⟨g', cap', cur', rfl, hb', hg', hc1, hc2, hc3, hc4⟩
    · omega
    · exact Or.inr ⟨g', 0, cap', cur', rfl, Or.inr hb', hg', hc1, by omega, by rw [List.drop_zero]; exact hc4⟩
  rcases h with ⟨hx, ⟨rfl, rfl⟩ | ⟨g, o, cap, cur, rfl, h2, h3, h4, h5, h6⟩⟩
  · have hx0 : xs = [] := List.length_eq_zero_iff.1 (by rw [hx]; simp)
    subst hx0
    obtain ⟨v', w', hr, ho, hg, _⟩ := run_append_own (P := Tryd.prog) w w.heap.size tt ty t i z k by' hu hi hz0 hz1 hz2 hzs hk nilS 0 [] (World.ownsRow_nil _ _ _ _) a m c us hul hnews h1 (by unfold maxLen; omega) hbb (Nat.le_refl _)
    exact ⟨v', w', hr, ⟨hg.os, hg.tape, hg.output, hg.size, fun k hk hne => hg.block k hk (by simp [Value.ownBlock])⟩, fresh ho⟩
  · have hgl := (Array.getElem?_eq_some_iff.1 h3).1
    by_cases hroom : n + m ≤ cap
    · have hmk : (n + m) * k ≤ cap * k := Nat.mul_le_mul_right _ hroom
      rw [Nat.add_mul] at hmk
      have hcell : ∀ j, j < us.length → (w.cell? ⟨g, o + n * i.size + j, none⟩).isSome = true := by
        intro j hj
        rw [hz1, cell_of_row w g _ cur t (0, 0) h3, Array.getElem?_eq_getElem (by omega)]; rfl
      have hfr : ∀ j, j < us.length → w.frozen? ⟨g, o + n * i.size + j, none⟩ = false := by
        intro j _
        simp [World.frozen?, h3]
      have hr := run_append_room_cells (P := Tryd.prog) w tt ty t i hu hi g o n cap a m c us (by rw [hz1]; exact hul) hnews h1 hroom hcell hfr
      rw [hz1] at hr
      obtain ⟨cur', e1, e2, e3, e4, e5, e6⟩ := setCells_all g us (o + n * k) w cur t h3
      refine ⟨_, _, hr, ⟨e6.os, e6.tape, e6.output, e6.size, fun b _ hne => e5 b (fun e => hne (by simp [Value.ownBlock, e]))⟩, hlen, Or.inr ⟨g, o, cap, cur', rfl, Or.inl h2, e1, hroom, by omega, ?_⟩⟩
      apply List.ext_getElem?
      intro j
      rw [List.getElem?_take]
      by_cases hj : j < (n + m) * k
      · rw [if_pos hj, List.getElem?_drop, Array.getElem?_toList]
        rw [Nat.add_mul] at hj
        by_cases hjn : j < n * k
        · rw [e3 (o + j) (by omega), List.getElem?_append_left (by omega), cells_at h6 hjn]
        · have := e4 (j - n * k) (by omega) (by omega)
          rw [show o + n * k + (j - n * k) = o + j by omega] at this
          rw [this, List.getElem?_append_right (by omega), hx]
      · rw [if_neg hj, List.getElem?_eq_none (by omega)]
    · have holds : ∀ j x, xs[j]? = some x → w.cell? (Addr.add ⟨g, o, none⟩ j) = some x := by
        intro j x hj
        have hjl : j < n * k := by
          have := (List.getElem?_eq_some_iff.1 hj).1; omega
        rw [Addr.add_lit, cell_of_row w g _ cur t (0, 0) h3, cells_at h6 hjl]; exact hj
      obtain ⟨v', w', hr, ho, hg⟩ := run_append_arg_grows (P := Tryd.prog) w tt ty t i z k by' hu hi hz0 hz1 hz2 hzs hk ⟨g, o, none⟩ n cap xs hx holds a m c us hul hnews (by omega) (by unfold maxLen; omega) hbb
      exact ⟨v', w', hr, ⟨hg.os, hg.tape, hg.output, hg.size, fun k hk _ => hg.block k hk (by simp)⟩, fresh ho⟩

theorem Rw.self {S : Nat → Prop} {k t : Nat} {w : World} {v : Value} {n : Nat} {xs : List Value} (h : Rw S k t w v n xs) : Rw (fun j => S j ∧ v.ownBlock = some j) k t w v n xs := by
  refine ⟨h.1, ?_⟩
  rcases h.2 with h2 | ⟨g, o, cap, cur, e, h3, h4⟩
  · exact Or.inl h2
  · exact Or.inr ⟨g, o, cap, cur, e, ⟨h3, by rw [e]; rfl⟩, h4⟩
theorem Rw.ownLt {S : Nat → Prop} {k t : Nat} {w : World} {v : Value} {n : Nat} {xs : List Value} (h : Rw S k t w v n xs) (j : Nat) (hj : v.ownBlock = some j) : j < w.heap.size := by
  rcases h.2 with ⟨e, _⟩ | ⟨g, o, cap, cur, e, h3, h4, _⟩
  · rw [e] at hj; simp [Value.ownBlock] at hj
  · rw [e] at hj
    simp [Value.ownBlock] at hj
    subst hj
    exact (Array.getElem?_eq_some_iff.1 h4).1

theorem run_rw_any {S : Nat → Prop} {k t by' : Nat} {w : World} {v z : Value} {n m c : Nat} {xs us : List Value} {a : Addr} (tt ty : TypeId) (hu : Tryd.prog.underlying tt = some (.slice t)) (hinfo : (Tryd.prog.info? t).map (fun i => (i.zero, i.size, i.bytes)) = some (some z, k, by')) (hzs : z.cells.size = k) (hk : 0 < k) (hby : by' ≤ 4096)
    (h : Rw S k t w v n xs) (hv : n = 0 → v = nilS) (hul : us.length = m * k) (hnews : ∀ j x, us[j]? = some x → w.cell? (a.add j) = some x) (h1 : ∀ x ∈ us, x.oneCell' = true) (hl : n + m < 2147483648) :
    ∃ v' w', (Builtin.append_ #[tt, tt] ty #[v, .slice (some a) m c]).run Tryd.prog w = .ok v' w' ∧ Apd w v w' ∧ Rw (fun b => S b ∨ w.heap.size ≤ b) k t w' v' (n + m) (xs ++ us) ∧ (n + m = 0 → v' = nilS) := by
  by_cases hm : m ≠ 0 ∨ n ≠ 0
  · obtain ⟨v', w', h2, h3, h4⟩ := run_rw_app (c := c) tt ty hu hinfo hzs hk hby h hul hnews h1 hl hm
    exact ⟨v', w', h2, h3, h4, fun e => by omega⟩
  · obtain ⟨rfl, rfl⟩ : m = 0 ∧ n = 0 := by omega
    have hv0 := hv rfl
    subst hv0
    have hx0 : xs = [] := List.length_eq_zero_iff.1 (by rw [h.1]; simp)
    have hu0 : us = [] := List.length_eq_zero_iff.1 (by rw [hul]; simp)
    subst hx0 hu0
    obtain ⟨i, hi, hz0, hz1, hz2⟩ := info_parts hinfo
    obtain ⟨v', w', hr, ho, hg, hn⟩ := run_append_own (P := Tryd.prog) w w.heap.size tt ty t i z k by' hu hi hz0 hz1 hz2 hzs hk nilS 0 [] (World.ownsRow_nil _ _ _ _) a 0 c [] (by simp) (fun j x hx => by simp at hx) (fun x hx => by cases hx) (by unfold maxLen; omega) (by simp) (Nat.le_refl _)
    have hvn : v' = nilS := hn.2 ⟨rfl, rfl⟩
    subst hvn
    exact ⟨nilS, w', hr, ⟨hg.os, hg.tape, hg.output, hg.size, fun k hk _ => hg.block k hk (by simp [Value.ownBlock])⟩, Rw.nil _ _ _ _, fun _ => rfl⟩
/-- The same, in a region that doesn't draw. -/
theorem appRwN {ops : Array Oper} {rest : List Oper} {o : Oper} {a : Act} {w : World} {Q : Exit → Act → World → Prop} (s x : Operand) (tt : TypeId) (hop : o.op = .call { callee := .builtin .append, args := #[s, x], argTypes := #[tt, tt] }) (hw : Region.wanted o (yielded ops a.tmps) = true)
    {S : Nat → Prop} {k t by' n m c : Nat} {v z : Value} {xs us : List Value} {ad : Addr} (hs : a.eval s = v) (hx : a.eval x = .slice (some ad) m c) (hu : Tryd.prog.underlying tt = some (.slice t)) (hinfo : (Tryd.prog.info? t).map (fun i => (i.zero, i.size, i.bytes)) = some (some z, k, by')) (hzs : z.cells.size = k) (hk : 0 < k) (hby : by' ≤ 4096)
    (h : Rw S k t w v n xs) (hv : n = 0 → v = nilS) (hul : us.length = m * k) (hnews : ∀ j x, us[j]? = some x → w.cell? (ad.add j) = some x) (h1 : ∀ x ∈ us, x.oneCell' = true) (hl : n + m < 2147483648)
    (hK : ∀ v' w', Apd w v w' → Rw (fun b => S b ∨ w.heap.size ≤ b) k t w' v' (n + m) (xs ++ us) → (n + m = 0 → v' = nilS) → wpList Tryd.prog ops Q rest (a.put o.dst v') w') : wpList Tryd.prog ops Q (o :: rest) a w := by
  obtain ⟨v', w', hr, hA, hR, hN⟩ := run_rw_any (c := c) tt o.type hu hinfo hzs hk hby h hv hul hnews h1 hl
  unfold wpList
  rw [if_pos hw]
  refine Or.inl ?_
  unfold Oper.wp
  simp [execOp, hop, resolve, invoke, builtin, hs, hx, hr, Result.andThen]
  exact hK v' w' hA hR hN

/-- AN APPEND AS A STEP OF A REGION THAT DRAWS ITS ORDER. -/
theorem stepRw {ops : Array Oper} {o : Oper} {a : Act} {w : World} {K : Act → World → Prop} {Q : Exit → Act → World → Prop} {E : Prop} (s x : Operand) (tt : TypeId) (hop : o.op = .call { callee := .builtin .append, args := #[s, x], argTypes := #[tt, tt] }) (hgd : o.guard = none)
    {S : Nat → Prop} {k t by' n m c : Nat} {v z : Value} {xs us : List Value} {ad : Addr} (hs : a.eval s = v) (hx : a.eval x = .slice (some ad) m c) (hu : Tryd.prog.underlying tt = some (.slice t)) (hinfo : (Tryd.prog.info? t).map (fun i => (i.zero, i.size, i.bytes)) = some (some z, k, by')) (hzs : z.cells.size = k) (hk : 0 < k) (hby : by' ≤ 4096)
    (h : Rw S k t w v n xs) (hul : us.length = m * k) (hnews : ∀ j x, us[j]? = some x → w.cell? (ad.add j) = some x) (h1 : ∀ x ∈ us, x.oneCell' = true) (hl : n + m < 2147483648) (hm : m ≠ 0 ∨ n ≠ 0)
    (hK : ∀ v' w', Apd w v w' → Rw (fun b => S b ∨ w.heap.size ≤ b) k t w' v' (n + m) (xs ++ us) → K (a.put o.dst v') w') : if Region.wanted o (yielded ops a.tmps) = true then Oper.wp Tryd.prog o a w K Q else E := by
  have hw : Region.wanted o (yielded ops a.tmps) = true := by simp [Region.wanted, hgd]
  rw [if_pos hw]
  obtain ⟨v', w', hr, hA, hR⟩ := run_rw_app (c := c) tt o.type hu hinfo hzs hk hby h hul hnews h1 hl hm
  unfold Oper.wp
  simp [execOp, hop, resolve, invoke, builtin, hs, hx, hr, Result.andThen]
  exact hK v' w' hA hR


/-- A COPY OF THINGS OF k CELLS: all is read before anything is written. -/
theorem run_copy_k (w : World) (dT sT ty elem : TypeId) (k b o dLen dCap : Nat) (a : Addr) (sLen sCap : Nat) (cs : List Value)
    (hu : Tryd.prog.underlying dT = some (.slice elem)) (hs : (Tryd.prog.info? elem).map (·.size) = some k) (hn : cs.length = Nat.min sLen dLen * k)
    (hsrc : ∀ j v, cs[j]? = some v → w.cell? (a.add j) = some v) (hc : ∀ j, j < cs.length → (w.cell? ⟨b, o + j, none⟩).isSome = true) (hf : ∀ j, j < cs.length → w.frozen? ⟨b, o + j, none⟩ = false) (h1 : ∀ v ∈ cs, v.oneCell' = true) :
    (Builtin.copy_ #[dT, sT] ty #[.slice (some ⟨b, o, none⟩) dLen dCap, .slice (some a) sLen sCap]).run Tryd.prog w = .ok (goInt (Nat.min sLen dLen)) (w.setCells b o cs) := by
  have hst := run_storeCells_cells (P := Tryd.prog) b o cs 0 w (by simpa using hc) (by simpa using hf) h1
  simp only [Nat.add_zero] at hst
  cases hq : Tryd.prog.info? elem with
  | none => simp [hq] at hs
  | some i =>
    have hi : i.size = k := by simpa [hq] using hs
    have hfc := run_firstCells_some (P := Tryd.prog) w i.size (Nat.min sLen dLen) a sLen sCap cs (by rw [hi]; exact hn) hsrc
    simp [Builtin.copy_, run_underlying hu, Builtin.lenOf, sizeOf, typeInfo, hq, hfc, hst]
theorem stepCopy {ops : Array Oper} {o : Oper} {a : Act} {w : World} {K : Act → World → Prop} {Q : Exit → Act → World → Prop} {E : Prop} (hgd : o.guard = none) (d s : Operand) (dT sT : TypeId)
    (ho : o.op = .call { callee := .builtin .copy, args := #[d, s], argTypes := #[dT, sT] }) (elem : TypeId) (k b off dLen dCap : Nat) (ad : Addr) (sLen sCap : Nat) (cs : List Value) (hd : a.eval d = .slice (some ⟨b, off, none⟩) dLen dCap) (hs : a.eval s = .slice (some ad) sLen sCap)
    (hu : Tryd.prog.underlying dT = some (.slice elem)) (hsz : (Tryd.prog.info? elem).map (·.size) = some k) (hn : cs.length = Nat.min sLen dLen * k)
    (hsrc : ∀ j v, cs[j]? = some v → w.cell? (ad.add j) = some v) (hc : ∀ j, j < cs.length → (w.cell? ⟨b, off + j, none⟩).isSome = true ∧ w.frozen? ⟨b, off + j, none⟩ = false) (h1 : ∀ v ∈ cs, v.oneCell' = true)
    (hK : K (a.put o.dst (goInt (Nat.min sLen dLen))) (w.setCells b off cs)) : if Region.wanted o (yielded ops a.tmps) = true then Oper.wp Tryd.prog o a w K Q else E := by
  have hw : Region.wanted o (yielded ops a.tmps) = true := by simp [Region.wanted, hgd]
  rw [if_pos hw]
  have hrun := run_copy_k w dT sT o.type elem k b off dLen dCap ad sLen sCap cs hu hsz hn hsrc (fun j hj => (hc j hj).1) (fun j hj => (hc j hj).2) h1
  unfold Oper.wp
  simp [execOp, ho, resolve, invoke, builtin, hd, hs, hrun, Result.andThen]
  exact hK

section
variable {ops : Array Oper} {rest : List Oper} {o : Oper} {a : Act} {w : World} {Q : Exit → Act → World → Prop}
theorem ldRow (ty : TypeId) (x : Operand) (ho : o.op = .load ty x) (hw : Region.wanted o (yielded ops a.tmps) = true) (g : Nat) (hx : a.eval x = .pointer (some ⟨g, 0, none⟩)) (t : TypeId) (cs : Array Value) (d : TypeDesc) (hu : Tryd.prog.underlying ty = some d) (hd : d.isRow = true) (hi : (Tryd.prog.info? ty).map (·.size) = some cs.size) (hg : w.heap[g]? = some (.cells cs t (0, 0)))
    (h : wpList Tryd.prog ops Q rest (a.put o.dst (.agg cs)) w) : wpList Tryd.prog ops Q (o :: rest) a w := by
  unfold wpList
  rw [if_pos hw]
  refine Or.inl (wp_load_mid ty x ho g 0 hx cs.toList d (fun j v hj => ?_) hu hd (by rw [hi]; simp) (by simpa using h))
  rw [Nat.zero_add, cell_of_row w g j cs t _ hg]
  simpa using hj
theorem ldMid (ty : TypeId) (x : Operand) (ho : o.op = .load ty x) (hw : Region.wanted o (yielded ops a.tmps) = true) (g p : Nat) (hx : a.eval x = .pointer (some ⟨g, p, none⟩)) (cs : Array Value) (d : TypeDesc) (hu : Tryd.prog.underlying ty = some d) (hd : d.isRow = true) (hi : (Tryd.prog.info? ty).map (·.size) = some cs.size) (hg : w.rangeAt g p cs.toList)
    (h : wpList Tryd.prog ops Q rest (a.put o.dst (.agg cs)) w) : wpList Tryd.prog ops Q (o :: rest) a w := by
  unfold wpList
  rw [if_pos hw]
  refine Or.inl (wp_load_mid ty x ho g p hx cs.toList d hg hu hd (by rw [hi]; simp) ?_)
  simpa using h
theorem stNew (ty : TypeId) (x y : Operand) (ho : o.op = .store ty x y) (hw : Region.wanted o (yielded ops a.tmps) = true) (w0 : World) (t : TypeId) (zs cs : Array Value) (hW : w = w0.alloc (.cells zs t)) (hx : a.eval x = .pointer (some ⟨w0.heap.size, 0, none⟩)) (hy : a.eval y = .agg cs) (hi : (Tryd.prog.info? ty).map (·.size) = some cs.size) (hz : zs.size = cs.size) (h1 : cs.all (·.oneCell') = true)
    (h : wpList Tryd.prog ops Q rest (a.put o.dst undef) (w0.alloc (.cells cs t))) : wpList Tryd.prog ops Q (o :: rest) a w := by
  subst hW
  unfold wpList
  rw [if_pos hw]
  refine Or.inl (wp_store_row ty x y ho _ cs hx hy t zs (heap_alloc_new _ _) hi hz h1 ?_)
  rw [World.setRow_alloc_new]
  exact h
theorem stRow (ty : TypeId) (x y : Operand) (ho : o.op = .store ty x y) (hw : Region.wanted o (yielded ops a.tmps) = true) (g : Nat) (cs : Array Value) (hx : a.eval x = .pointer (some ⟨g, 0, none⟩)) (hy : a.eval y = .agg cs) (t : TypeId) (zs : Array Value) (hg : w.heap[g]? = some (.cells zs t (0, 0))) (hi : (Tryd.prog.info? ty).map (·.size) = some cs.size) (hz : zs.size = cs.size) (h1 : cs.all (·.oneCell') = true)
    (h : wpList Tryd.prog ops Q rest (a.put o.dst undef) (w.setRow g cs)) : wpList Tryd.prog ops Q (o :: rest) a w := by
  unfold wpList
  rw [if_pos hw]
  exact Or.inl (wp_store_row ty x y ho g cs hx hy t zs hg hi hz h1 h)
theorem stMid (ty : TypeId) (x y : Operand) (ho : o.op = .store ty x y) (hw : Region.wanted o (yielded ops a.tmps) = true) (g p : Nat) (cs : Array Value) (hx : a.eval x = .pointer (some ⟨g, p, none⟩)) (hy : a.eval y = .agg cs) (ht : w.there g p cs.size) (hi : (Tryd.prog.info? ty).map (·.size) = some cs.size) (h1 : cs.all (·.oneCell') = true)
    (h : wpList Tryd.prog ops Q rest (a.put o.dst undef) (w.setCells g p cs.toList)) : wpList Tryd.prog ops Q (o :: rest) a w := by
  unfold wpList
  rw [if_pos hw]
  exact Or.inl (wp_store_mid ty x y ho g p cs hx hy ht hi h1 h)
end
/-- Cells of a block, as a range. -/
theorem range_of {w : World} {g p : Nat} {cs : Array Value} (h : ∀ i, i < cs.size → w.cell? ⟨g, p + i, none⟩ = cs[i]?) : w.rangeAt g p cs.toList := fun j v hj => by
  have hj' : cs[j]? = some v := by simpa using hj
  have hlt : j < cs.size := (Array.getElem?_eq_some_iff.1 hj').1
  rw [h j hlt, hj']
/-- AN APPEND, in a region that doesn't draw. -/
theorem appRw {ops : Array Oper} {rest : List Oper} {o : Oper} {a : Act} {w : World} {Q : Exit → Act → World → Prop} (s x : Operand) (tt : TypeId) (hop : o.op = .call { callee := .builtin .append, args := #[s, x], argTypes := #[tt, tt] }) (hw : Region.wanted o (yielded ops a.tmps) = true)
    {S : Nat → Prop} {k t by' n m c : Nat} {v z : Value} {xs us : List Value} {ad : Addr} (hs : a.eval s = v) (hx : a.eval x = .slice (some ad) m c) (hu : Tryd.prog.underlying tt = some (.slice t)) (hinfo : (Tryd.prog.info? t).map (fun i => (i.zero, i.size, i.bytes)) = some (some z, k, by')) (hzs : z.cells.size = k) (hk : 0 < k) (hby : by' ≤ 4096)
    (h : Rw S k t w v n xs) (hul : us.length = m * k) (hnews : ∀ j x, us[j]? = some x → w.cell? (ad.add j) = some x) (h1 : ∀ x ∈ us, x.oneCell' = true) (hl : n + m < 2147483648) (hm : m ≠ 0 ∨ n ≠ 0)
    (hK : ∀ v' w', Apd w v w' → (∀ S, Rw S k t w v n xs → Rw (fun b => S b ∨ w.heap.size ≤ b) k t w' v' (n + m) (xs ++ us)) → wpList Tryd.prog ops Q rest (a.put o.dst v') w') : wpList Tryd.prog ops Q (o :: rest) a w := by
  obtain ⟨v', w', hr, hA, -⟩ := run_rw_app (c := c) tt o.type hu hinfo hzs hk hby h hul hnews h1 hl hm
  unfold wpList
  rw [if_pos hw]
  refine Or.inl ?_
  unfold Oper.wp
  simp [execOp, hop, resolve, invoke, builtin, hs, hx, hr, Result.andThen]
  refine hK v' w' hA fun S' h' => ?_
  obtain ⟨v2, w2, hr2, -, hR2⟩ := run_rw_app (c := c) tt o.type hu hinfo hzs hk hby h' hul hnews h1 hl hm
  have e := hr.symm.trans hr2
  simp only [Result.ok.injEq] at e
  obtain ⟨rfl, rfl⟩ := e
  exact hR2
end Go.Proofs.YtggbokghhohofaaDoor
