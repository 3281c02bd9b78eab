/-
  Laws of our own: slices of things of k cells wherever they lie (Rw), an append of whatever slice to them. No condition.
-/
import Derived.Test.YtllbbbfkdgjffaaGreatDoorDN
import Derived.Deep.Upon
namespace Go.Proofs.YtllbbbfkdgjffaaGreatDoor
open Go.RowKit

/-- What an append to the slice v leaves. -/
structure Apd (w : World) (v : Value) (w' : World) : Prop where
  os : w'.os = w.os
  tape : w'.tape = w.tape
  output : w'.output = w.output
  size : w.heap.size ≤ w'.heap.size
  block : ∀ k, k < w.heap.size → v.ownBlock ≠ some k → w'.heap[k]? = w.heap[k]?
theorem Apd.only {S : Nat → Prop} {w w' : World} {v : Value} (h : Apd w v w') (hf : Fresh S w) (hv : ∀ k, v.ownBlock = some k → S k) : Only S w w' :=
  ⟨h.os, h.tape, h.output, h.size, fun k hk => by
    rcases Nat.lt_or_ge k w.heap.size with hl | hl
    · exact h.block k hl fun e => hk (hv k e)
    · exact absurd (hf k hl) hk⟩

/-- A slice of n things of k cells each, in a block of S, with room behind it; xs: the cells of the things. -/
def Rw (S : Nat → Prop) (k t : Nat) (w : World) (v : Value) (n : Nat) (xs : List Value) : Prop :=
  xs.length = n * k ∧ ((v = nilS ∧ n = 0) ∨ ∃ g o cap cur, v = .slice (some ⟨g, o, none⟩) n cap ∧ S g ∧ w.heap[g]? = some (.cells cur t (0, 0)) ∧ n ≤ cap ∧ o + cap * k ≤ cur.size ∧ (cur.toList.drop o).take (n * k) = xs)
theorem Rw.nil (S : Nat → Prop) (k t : Nat) (w : World) : Rw S k t w nilS 0 [] := ⟨by simp, Or.inl ⟨rfl, rfl⟩⟩
theorem Rw.len {S : Nat → Prop} {k t : Nat} {w : World} {v : Value} {n : Nat} {xs : List Value} (h : Rw S k t w v n xs) : xs.length = n * k := h.1
theorem Rw.carry {S T : Nat → Prop} {k t : Nat} {w w' : World} {v : Value} {n : Nat} {xs : List Value} (h : Rw S k t w v n xs) (hc : ∀ b, b < w.heap.size → S b → T b ∧ w'.heap[b]? = w.heap[b]?) : Rw T k t w' v n xs := by
  refine ⟨h.1, ?_⟩
  rcases h.2 with h | ⟨g, o, cap, cur, h1, h2, h3, h4⟩
  · exact Or.inl h
  · have hq := hc g (Array.getElem?_eq_some_iff.1 h3).1 h2
    exact Or.inr ⟨g, o, cap, cur, h1, hq.1, hq.2.trans h3, h4⟩
theorem Rw.own {S : Nat → Prop} {k t : Nat} {w : World} {v : Value} {n : Nat} {xs : List Value} (h : Rw S k t w v n xs) (b : Nat) (hb : v.ownBlock = some b) : S b := by
  rcases h.2 with ⟨rfl, _⟩ | ⟨g, o, cap, cur, rfl, h2, _⟩
  · simp [Value.ownBlock] at hb
  · simp [Value.ownBlock] at hb; subst hb; exact h2
theorem Rw.form {S : Nat → Prop} {k t : Nat} {w : World} {v : Value} {n : Nat} {xs : List Value} (h : Rw S k t w v n xs) : ∃ ao cap, v = .slice ao n cap := by
  rcases h.2 with ⟨rfl, rfl⟩ | ⟨g, o, cap, cur, rfl, _⟩
  · exact ⟨_, _, rfl⟩
  · exact ⟨_, _, rfl⟩
theorem Rw.one {S : Nat → Prop} {k t : Nat} {w : World} {v : Value} {n : Nat} {xs : List Value} (h : Rw S k t w v n xs) : v.oneCell' = true := by
  obtain ⟨ao, cap, rfl⟩ := h.form
  rfl
theorem cells_at {cur : Array Value} {o m : Nat} {xs : List Value} (h : (cur.toList.drop o).take m = xs) {j : Nat} (hj : j < m) : cur[o + j]? = xs[j]? := by
  rw [← h, List.getElem?_take, if_pos hj, List.getElem?_drop]; simp
theorem setCells_allR (b : Nat) : ∀ (vs : List Value) (o : Nat) (w : World) (cur : Array Value) (t : TypeId), w.heap[b]? = some (.cells cur t (0, 0)) → ∃ cur', (w.setCells b o vs).heap[b]? = some (.cells cur' t (0, 0)) ∧ cur'.size = cur.size ∧ (∀ i, i < o ∨ o + vs.length ≤ i → cur'[i]? = cur[i]?) ∧ (∀ i, i < vs.length → o + i < cur.size → cur'[o + i]? = vs[i]?) ∧ (∀ k, k ≠ b → (w.setCells b o vs).heap[k]? = w.heap[k]?) ∧ Below 0 w (w.setCells b o vs)
  | [], o, w, cur, t, h => ⟨cur, h, rfl, fun _ _ => rfl, fun i hi => by simp at hi, fun _ _ => rfl, Below.refl 0 w⟩
  | v :: vs, o, w, cur, t, h => by
    have h1 := heap_setCell_same w b o cur t v h
    obtain ⟨cur', e1, e2, e3, e4, e5, e6⟩ := setCells_allR b vs (o + 1) (w.setCell ⟨b, o, none⟩ v) _ t h1
    refine ⟨cur', e1, by simpa using e2, fun i hi => ?_, fun i hi hs => ?_, fun k hk => ?_, ((Below.refl 0 w).setCell (p := ⟨b, o, none⟩) (Nat.zero_le _) v).trans (e6.mono (Nat.zero_le _))⟩
    · rw [e3 i (by simp at hi; omega), Array.getElem?_setIfInBounds]
      split
      · simp at hi; omega
      · rfl
    · cases i with
      | zero =>
        rw [Nat.add_zero, e3 o (by omega), Array.getElem?_setIfInBounds, if_pos rfl, if_pos (by omega)]; rfl
      | succ i =>
        have := e4 i (by simpa using hi) (by simp; omega)
        rw [show o + (i + 1) = o + 1 + i by omega, this]; rfl
    · rw [show w.setCells b o (v :: vs) = (w.setCell ⟨b, o, none⟩ v).setCells b (o + 1) vs from rfl, e5 k hk]
      exact heap_setCell_other w ⟨b, o, none⟩ k v hk

/-- m THINGS ARE APPENDED. -/
theorem run_rw_app {S : Nat → Prop} {k t by' : Nat} {w : World} {v z : Value} {n m c : Nat} {xs us : List Value} {a : Addr} (tt ty : TypeId) (hu : Tryz.prog.underlying tt = some (.slice t)) (hinfo : (Tryz.prog.info? t).map (fun i => (i.zero, i.size, i.bytes)) = some (some z, k, by')) (hzs : z.cells.size = k) (hk : 0 < k) (hby : by' ≤ 4096)
    (h : Rw S k t w v n xs) (hul : us.length = m * k) (hnews : ∀ j x, us[j]? = some x → w.cell? (a.add j) = some x) (h1 : ∀ x ∈ us, x.oneCell' = true) (hl : n + m < 2147483648) (hm : m ≠ 0 ∨ n ≠ 0) :
    ∃ v' w', (Builtin.append_ #[tt, tt] ty #[v, .slice (some a) m c]).run Tryz.prog w = .ok v' w' ∧ Apd w v w' ∧ Rw (fun b => S b ∨ w.heap.size ≤ b) k t w' v' (n + m) (xs ++ us) := by
  obtain ⟨i, hi, hz0, hz1, hz2⟩ := info_parts hinfo
  have hbb : (n + m) * by' ≤ 140737488355328 := by
    have : (n + m) * by' ≤ 2147483648 * 4096 := Nat.mul_le_mul (by omega) hby
    omega
  have hlen : (xs ++ us).length = (n + m) * k := by rw [List.length_append, h.1, hul, Nat.add_mul]
  have fresh : ∀ {v' : Value} {w' : World}, w'.ownsRow w.heap.size t k v' (n + m) (xs ++ us) → Rw (fun b => S b ∨ w.heap.size ≤ b) k t w' v' (n + m) (xs ++ us) := by
    intro v' w' ho
    refine ⟨hlen, ?_⟩
    rcases ho.2 with ⟨rfl, e⟩ | ⟨g', cap', cur', rfl, hb', hg', hc1, hc2, hc3, hc4⟩
    · omega
    · exact Or.inr ⟨g', 0, cap', cur', rfl, Or.inr hb', hg', hc1, by omega, by rw [List.drop_zero]; exact hc4⟩
  rcases h with ⟨hx, ⟨rfl, rfl⟩ | ⟨g, o, cap, cur, rfl, h2, h3, h4, h5, h6⟩⟩
  · have hx0 : xs = [] := List.length_eq_zero_iff.1 (by rw [hx]; simp)
    subst hx0
    obtain ⟨v', w', hr, ho, hg, _⟩ := run_append_own (P := Tryz.prog) w w.heap.size tt ty t i z k by' hu hi hz0 hz1 hz2 hzs hk nilS 0 [] (World.ownsRow_nil _ _ _ _) a m c us hul hnews h1 (by unfold maxLen; omega) hbb (Nat.le_refl _)
    exact ⟨v', w', hr, ⟨hg.os, hg.tape, hg.output, hg.size, fun k hk hne => hg.block k hk (by simp [Value.ownBlock])⟩, fresh ho⟩
  · have hgl := (Array.getElem?_eq_some_iff.1 h3).1
    by_cases hroom : n + m ≤ cap
    · have hmk : (n + m) * k ≤ cap * k := Nat.mul_le_mul_right _ hroom
      rw [Nat.add_mul] at hmk
      have hcell : ∀ j, j < us.length → (w.cell? ⟨g, o + n * i.size + j, none⟩).isSome = true := by
        intro j hj
        rw [hz1, cell_of_row w g _ cur t (0, 0) h3, Array.getElem?_eq_getElem (by omega)]; rfl
      have hfr : ∀ j, j < us.length → w.frozen? ⟨g, o + n * i.size + j, none⟩ = false := by
        intro j _
        simp [World.frozen?, h3]
      have hr := run_append_room_cells (P := Tryz.prog) w tt ty t i hu hi g o n cap a m c us (by rw [hz1]; exact hul) hnews h1 hroom hcell hfr
      rw [hz1] at hr
      obtain ⟨cur', e1, e2, e3, e4, e5, e6⟩ := setCells_allR g us (o + n * k) w cur t h3
      refine ⟨_, _, hr, ⟨e6.os, e6.tape, e6.output, e6.size, fun b _ hne => e5 b (fun e => hne (by simp [Value.ownBlock, e]))⟩, hlen, Or.inr ⟨g, o, cap, cur', rfl, Or.inl h2, e1, hroom, by omega, ?_⟩⟩
      apply List.ext_getElem?
      intro j
      rw [List.getElem?_take]
      by_cases hj : j < (n + m) * k
      · rw [if_pos hj, List.getElem?_drop, Array.getElem?_toList]
        rw [Nat.add_mul] at hj
        by_cases hjn : j < n * k
        · rw [e3 (o + j) (by omega), List.getElem?_append_left (by omega), cells_at h6 hjn]
        · have := e4 (j - n * k) (by omega) (by omega)
          rw [show o + n * k + (j - n * k) = o + j by omega] at this
          rw [this, List.getElem?_append_right (by omega), hx]
      · rw [if_neg hj, List.getElem?_eq_none (by omega)]
    · have holds : ∀ j x, xs[j]? = some x → w.cell? (Addr.add ⟨g, o, none⟩ j) = some x := by
        intro j x hj
        have hjl : j < n * k := by
          have := (List.getElem?_eq_some_iff.1 hj).1; omega
        rw [Addr.add_lit, cell_of_row w g _ cur t (0, 0) h3, cells_at h6 hjl]; exact hj
      obtain ⟨v', w', hr, ho, hg⟩ := run_append_arg_grows (P := Tryz.prog) w tt ty t i z k by' hu hi hz0 hz1 hz2 hzs hk ⟨g, o, none⟩ n cap xs hx holds a m c us hul hnews (by omega) (by unfold maxLen; omega) hbb
      exact ⟨v', w', hr, ⟨hg.os, hg.tape, hg.output, hg.size, fun k hk _ => hg.block k hk (by simp)⟩, fresh ho⟩

theorem Rw.self {S : Nat → Prop} {k t : Nat} {w : World} {v : Value} {n : Nat} {xs : List Value} (h : Rw S k t w v n xs) : Rw (fun j => S j ∧ v.ownBlock = some j) k t w v n xs := by
  refine ⟨h.1, ?_⟩
  rcases h.2 with h2 | ⟨g, o, cap, cur, e, h3, h4⟩
  · exact Or.inl h2
  · exact Or.inr ⟨g, o, cap, cur, e, ⟨h3, by rw [e]; rfl⟩, h4⟩
theorem Rw.ownLt {S : Nat → Prop} {k t : Nat} {w : World} {v : Value} {n : Nat} {xs : List Value} (h : Rw S k t w v n xs) (j : Nat) (hj : v.ownBlock = some j) : j < w.heap.size := by
  rcases h.2 with ⟨e, _⟩ | ⟨g, o, cap, cur, e, h3, h4, _⟩
  · rw [e] at hj; simp [Value.ownBlock] at hj
  · rw [e] at hj
    simp [Value.ownBlock] at hj
    subst hj
    exact (Array.getElem?_eq_some_iff.1 h4).1

theorem Rw.room {S : Nat → Prop} {k t : Nat} {w : World} {v : Value} {n : Nat} {xs : List Value} (h : Rw S k t w v n xs) : ∃ ao cap, v = .slice ao n cap ∧ n ≤ cap := by
  rcases h.2 with ⟨rfl, rfl⟩ | ⟨g, o, cap, cur, rfl, _, _, h4, _⟩
  · exact ⟨_, _, rfl, Nat.le_refl _⟩
  · exact ⟨_, _, rfl, h4⟩
/-- WHATEVER IS APPENDED. -/
theorem run_rw_all {S : Nat → Prop} {k t by' : Nat} {w : World} {v z : Value} {n m c : Nat} {xs us : List Value} {ao : Option Addr} (tt ty : TypeId) (hu : Tryz.prog.underlying tt = some (.slice t)) (hinfo : (Tryz.prog.info? t).map (fun i => (i.zero, i.size, i.bytes)) = some (some z, k, by')) (hzs : z.cells.size = k) (hk : 0 < k) (hby : by' ≤ 4096)
    (h : Rw S k t w v n xs) (hul : us.length = m * k) (hnews : m ≠ 0 → ∃ a, ao = some a ∧ ∀ j x, us[j]? = some x → w.cell? (a.add j) = some x) (h1 : ∀ x ∈ us, x.oneCell' = true) (hl : n + m < 2147483648) :
    ∃ v' w', (Builtin.append_ #[tt, tt] ty #[v, .slice ao m c]).run Tryz.prog w = .ok v' w' ∧ Apd w v w' ∧ Rw (fun b => S b ∨ w.heap.size ≤ b) k t w' v' (n + m) (xs ++ us) := by
  by_cases hm : m = 0
  · subst hm
    obtain ⟨i, hi, -, -, -⟩ := info_parts hinfo
    obtain ⟨a0, cap, rfl, hle⟩ := h.room
    have hus : us = [] := List.length_eq_zero_iff.1 (by rw [hul]; simp)
    subst hus
    have hsrc : Src Tryz.prog i.size tt (.slice ao 0 c) 0 [] w := by
      cases ao with
      | none => exact Src.ofNil w hu c
      | some a => exact Src.ofSlice w hu a 0 c [] (by simp) (fun j u h => by simp at h) (fun u h => by cases h)
    refine ⟨_, _, run_append_nothing w tt tt ty t i hu hi a0 n cap hle _ hsrc, ⟨rfl, rfl, rfl, Nat.le_refl _, fun _ _ _ => rfl⟩, ?_⟩
    rw [List.append_nil]
    exact h.carry fun b _ hS => ⟨Or.inl hS, rfl⟩
  · obtain ⟨a, rfl, hc⟩ := hnews hm
    exact run_rw_app (c := c) tt ty hu hinfo hzs hk hby h hul hc h1 hl (Or.inl hm)
theorem appAll {ops : Array Oper} {rest : List Oper} {o : Oper} {a : Act} {w : World} {Q : Exit → Act → World → Prop} (s x : Operand) (tt : TypeId) (hop : o.op = .call { callee := .builtin .append, args := #[s, x], argTypes := #[tt, tt] }) (hw : Region.wanted o (yielded ops a.tmps) = true)
    {S : Nat → Prop} {k t by' n m c : Nat} {v z : Value} {xs us : List Value} {ao : Option Addr} (hs : a.eval s = v) (hx : a.eval x = .slice ao m c) (hu : Tryz.prog.underlying tt = some (.slice t)) (hinfo : (Tryz.prog.info? t).map (fun i => (i.zero, i.size, i.bytes)) = some (some z, k, by')) (hzs : z.cells.size = k) (hk : 0 < k) (hby : by' ≤ 4096)
    (h : Rw S k t w v n xs) (hul : us.length = m * k) (hnews : m ≠ 0 → ∃ a, ao = some a ∧ ∀ j x, us[j]? = some x → w.cell? (a.add j) = some x) (h1 : ∀ x ∈ us, x.oneCell' = true) (hl : n + m < 2147483648)
    (hK : ∀ v' w', Apd w v w' → Rw (fun b => S b ∨ w.heap.size ≤ b) k t w' v' (n + m) (xs ++ us) → wpList Tryz.prog ops Q rest (a.put o.dst v') w') : wpList Tryz.prog ops Q (o :: rest) a w := by
  obtain ⟨v', w', hr, hA, hR⟩ := run_rw_all (c := c) tt o.type hu hinfo hzs hk hby h hul hnews h1 hl
  unfold wpList
  rw [if_pos hw]
  refine Or.inl ?_
  unfold Oper.wp
  simp [execOp, hop, resolve, invoke, builtin, hs, hx, hr, Result.andThen]
  exact hK v' w' hA hR
end Go.Proofs.YtllbbbfkdgjffaaGreatDoor
