/-
  Proved here: the program's air and the document's side by side in memory (Td), with memory of one's own beside them; lists of rows as they came. No condition.
-/
import Derived.Test.YthgkmbdnkamcoaaBA
import Derived.Test.YthgkmbdnkamcoaaAL
namespace Go.Proofs.Ythgkmbdnkamcoaa
open Go.RowKit

/-- Two airs, apart; M: blocks of neither. -/
def Td (M : Nat → Prop) (w wr : World) (v u : Value) (A : Ar) (R : Ra) : Prop :=
  Below w.heap.size w wr ∧ ∃ SA SR : Nat → Prop, (∀ j, SA j → w.heap.size ≤ j ∧ j < wr.heap.size) ∧ (∀ j, SR j → w.heap.size ≤ j ∧ j < wr.heap.size) ∧ (∀ j, SA j → ¬ SR j) ∧ (∀ j, M j → (w.heap.size ≤ j ∧ j < wr.heap.size) ∧ ¬ SA j ∧ ¬ SR j) ∧ AR SA wr v A ∧ RR SR wr u R
theorem Td.below {M : Nat → Prop} {w wr : World} {v u : Value} {A : Ar} {R : Ra} (h : Td M w wr v u A R) : Below w.heap.size w wr := h.1
theorem Td.ok {M : Nat → Prop} {w wr : World} {v u : Value} {A : Ar} {R : Ra} (h : Td M w wr v u A R) : A.Ok := by
  obtain ⟨hb, SA, SR, h1, h2, h3, h4, h5, h6⟩ := h
  exact h5.ok
theorem Td.air {M : Nat → Prop} {w wr : World} {v u : Value} {A : Ar} {R : Ra} (h : Td M w wr v u A R) :
    ∃ S : Nat → Prop, AR S wr v A ∧ Fresh S wr ∧ (∀ j, M j → ¬ S j) ∧ (∀ w' A', Only S wr w' → AR S w' v A' → Td M w w' v u A' R) ∧ ∀ w' A', Only S wr w' → AR (fun k => S k ∧ k < wr.heap.size) w' v A' → Td (fun j => wr.heap.size ≤ j ∧ j < w'.heap.size) w w' v u A' R := by
  obtain ⟨hb, SA, SR, h1, h2, h3, h4, h5, h6⟩ := h
  have hge : ∀ k, SA k ∨ wr.heap.size ≤ k → w.heap.size ≤ k := fun k hk => by
    rcases hk with hk | hk
    · exact (h1 k hk).1
    · exact Nat.le_trans hb.size hk
  have hnR : ∀ j, SR j → ¬ (SA j ∨ wr.heap.size ≤ j) := fun j hj e => by
    rcases e with e | e
    · exact h3 j e hj
    · have := (h2 j hj).2; omega
  refine ⟨fun j => SA j ∨ wr.heap.size ≤ j, h5.carry fun k _ hk => ⟨Or.inl hk, rfl⟩, fun k hk => Or.inr hk, fun j hj e => ?_, fun w' A' hO hA => ?_, fun w' A' hO hA => ?_⟩
  · rcases e with e | e
    · exact (h4 j hj).2.1 e
    · have := (h4 j hj).1.2; omega
  · have hsz := hO.size
    refine ⟨hb.trans (hO.below hge), fun j => (SA j ∨ wr.heap.size ≤ j) ∧ j < w'.heap.size, SR, fun j hj => ⟨hge j hj.1, hj.2⟩, fun j hj => ⟨(h2 j hj).1, by have := (h2 j hj).2; omega⟩, fun j hj hR => hnR j hR hj.1, fun j hj => ⟨⟨(h4 j hj).1.1, by have := (h4 j hj).1.2; omega⟩, fun e => ?_, (h4 j hj).2.2⟩, hA.carry fun k hk hS => ⟨⟨hS, hk⟩, rfl⟩, h6.carry fun k hk hS => ⟨hS, hO.block k (hnR k hS)⟩⟩
    rcases e.1 with e | e
    · exact (h4 j hj).2.1 e
    · have := (h4 j hj).1.2; omega
  · have hsz := hO.size
    refine ⟨hb.trans (hO.below hge), SA, SR, fun j hj => ⟨(h1 j hj).1, by have := (h1 j hj).2; omega⟩, fun j hj => ⟨(h2 j hj).1, by have := (h2 j hj).2; omega⟩, h3, fun j hj => ⟨⟨Nat.le_trans hb.size hj.1, hj.2⟩, fun e => by have := (h1 j e).2; omega, fun e => by have := (h2 j e).2; omega⟩, hA.carry fun k hk hS => ⟨?_, rfl⟩, h6.carry fun k hk hS => ⟨hS, hO.block k (hnR k hS)⟩⟩
    rcases hS.1 with e | e
    · exact e
    · have := hS.2; omega
theorem Td.ref {M : Nat → Prop} {w wr : World} {v u : Value} {A : Ar} {R : Ra} (h : Td M w wr v u A R) :
    ∃ S : Nat → Prop, RR S wr u R ∧ Fresh S wr ∧ (∀ j, M j → ¬ S j) ∧ ∀ w' R', Only S wr w' → RR S w' u R' → Td M w w' v u A R' := by
  obtain ⟨hb, SA, SR, h1, h2, h3, h4, h5, h6⟩ := h
  have hge : ∀ k, SR k ∨ wr.heap.size ≤ k → w.heap.size ≤ k := fun k hk => by
    rcases hk with hk | hk
    · exact (h2 k hk).1
    · exact Nat.le_trans hb.size hk
  have hnA : ∀ j, SA j → ¬ (SR j ∨ wr.heap.size ≤ j) := fun j hj e => by
    rcases e with e | e
    · exact h3 j hj e
    · have := (h1 j hj).2; omega
  refine ⟨fun j => SR j ∨ wr.heap.size ≤ j, h6.carry fun k _ hk => ⟨Or.inl hk, rfl⟩, fun k hk => Or.inr hk, fun j hj e => ?_, fun w' A' hO hA => ?_⟩
  · rcases e with e | e
    · exact (h4 j hj).2.2 e
    · have := (h4 j hj).1.2; omega
  · have hsz := hO.size
    refine ⟨hb.trans (hO.below hge), SA, fun j => (SR j ∨ wr.heap.size ≤ j) ∧ j < w'.heap.size, fun j hj => ⟨(h1 j hj).1, by have := (h1 j hj).2; omega⟩, fun j hj => ⟨hge j hj.1, hj.2⟩, fun j hj hR => hnA j hj hR.1, fun j hj => ⟨⟨(h4 j hj).1.1, by have := (h4 j hj).1.2; omega⟩, (h4 j hj).2.1, fun e => ?_⟩, h5.carry fun k hk hS => ⟨hS, hO.block k (hnA k hS)⟩, hA.carry fun k hk hS => ⟨⟨hS, hk⟩, rfl⟩⟩
    rcases e.1 with e | e
    · exact (h4 j hj).2.2 e
    · have := (h4 j hj).1.2; omega
/-- New memory, which is one's own. -/
theorem Td.more {M : Nat → Prop} {w wr w' : World} {v u : Value} {A : Ar} {R : Ra} (h : Td M w wr v u A R) (hn : Below wr.heap.size wr w') : Td (fun j => wr.heap.size ≤ j ∧ j < w'.heap.size) w w' v u A R := by
  obtain ⟨hb, SA, SR, h1, h2, h3, h4, h5, h6⟩ := h
  have hsz := hn.size
  exact ⟨hb.trans (hn.mono hb.size), SA, SR, fun j hj => ⟨(h1 j hj).1, by have := (h1 j hj).2; omega⟩, fun j hj => ⟨(h2 j hj).1, by have := (h2 j hj).2; omega⟩, h3, fun j hj => ⟨⟨Nat.le_trans hb.size hj.1, hj.2⟩, fun e => by have := (h1 j e).2; omega, fun e => by have := (h2 j e).2; omega⟩, h5.carry fun k hk hS => ⟨hS, hn.block k hk⟩, h6.carry fun k hk hS => ⟨hS, hn.block k hk⟩⟩
/-- New memory, and one's own stays one's own. -/
theorem Td.same {M : Nat → Prop} {w wr w' : World} {v u : Value} {A : Ar} {R : Ra} (h : Td M w wr v u A R) (hn : Below wr.heap.size wr w') : Td M w w' v u A R := by
  obtain ⟨hb, SA, SR, h1, h2, h3, h4, h5, h6⟩ := h
  have hsz := hn.size
  exact ⟨hb.trans (hn.mono hb.size), SA, SR, fun j hj => ⟨(h1 j hj).1, by have := (h1 j hj).2; omega⟩, fun j hj => ⟨(h2 j hj).1, by have := (h2 j hj).2; omega⟩, h3, fun j hj => ⟨⟨(h4 j hj).1.1, by have := (h4 j hj).1.2; omega⟩, (h4 j hj).2⟩, h5.carry fun k hk hS => ⟨hS, hn.block k hk⟩, h6.carry fun k hk hS => ⟨hS, hn.block k hk⟩⟩
/-- One's own is written into. -/
theorem Td.wrote {M : Nat → Prop} {w wr : World} {v u : Value} {A : Ar} {R : Ra} (h : Td M w wr v u A R) (g i : Nat) (hg : M g) (x : Value) : Td M w (wr.setCell ⟨g, i, none⟩ x) v u A R := by
  obtain ⟨hb, SA, SR, h1, h2, h3, h4, h5, h6⟩ := h
  have hm := h4 g hg
  have hsz : (wr.setCell ⟨g, i, none⟩ x).heap.size = wr.heap.size := by simp
  have oth : ∀ k, k ≠ g → (wr.setCell ⟨g, i, none⟩ x).heap[k]? = wr.heap[k]? := fun k hk => heap_setCell_other wr ⟨g, i, none⟩ k x hk
  exact ⟨hb.setCell (p := ⟨g, i, none⟩) hm.1.1 x, SA, SR, fun j hj => by rw [hsz]; exact h1 j hj, fun j hj => by rw [hsz]; exact h2 j hj, h3, fun j hj => by rw [hsz]; exact h4 j hj, h5.carry fun k _ hS => ⟨hS, oth k fun e => hm.2.1 (e ▸ hS)⟩, h6.carry fun k _ hS => ⟨hS, oth k fun e => hm.2.2 (e ▸ hS)⟩⟩
theorem Td.lose {M : Nat → Prop} {w wr : World} {v u : Value} {A : Ar} {R : Ra} (h : Td M w wr v u A R) : Td (fun _ => False) w wr v u A R := by
  obtain ⟨hb, SA, SR, h1, h2, h3, h4, h5, h6⟩ := h
  exact ⟨hb, SA, SR, h1, h2, h3, fun j hj => hj.elim, h5, h6⟩
/-- Both at their beginning. -/
theorem Td.new {w w1 w2 : World} {v : Value} (h1 : Below w.heap.size w w1) (hb : Below w1.heap.size w1 w2) (hA : AR (fun k => w1.heap.size ≤ k) w2 v ar0) : Td (fun _ => False) w (w2.alloc (.cells #[nilS, nilS] 30)) v (.pointer (some ⟨w2.heap.size, 0, none⟩)) ar0 (raOf ar0) := by
  have s1 := h1.size
  have s2 := hb.size
  refine ⟨(h1.trans (hb.mono s1)).alloc (by omega) _, fun j => w1.heap.size ≤ j ∧ j < w2.heap.size, fun j => j = w2.heap.size, fun j hj => ⟨by omega, by simp; omega⟩, fun j hj => ⟨by omega, by simp; omega⟩, fun j hj => by omega, fun j hj => hj.elim, hA.carry fun k hk hS => ⟨⟨hS, hk⟩, heap_alloc_old _ _ hk⟩, ?_⟩
  exact ⟨w2.heap.size, fun _ => 0, nilS, nilS, [], [], rfl, ⟨rfl, rfl, heap_alloc_new _ _, Rw.nil _ _ _ _, Rw.nil _ _ _ _, (fun _ h => by cases h), (fun _ h => by cases h)⟩, rfl, rfl⟩
/-- A slice of n bytes in blocks of M, to be written into. -/
def Mn (M : Nat → Prop) (w : World) (x : Value) (n : Nat) : Prop := ∃ bs, Owns 0 w x bs ∧ bs.length = n ∧ ∀ g, x.ownBlock = some g → M g
theorem Mn.carry {M : Nat → Prop} {w w' : World} {x : Value} {n : Nat} (h : Mn M w x n) (hc : ∀ k, M k → k < w.heap.size → w'.heap[k]? = w.heap[k]?) : Mn M w' x n := by
  obtain ⟨bs, h1, h2, h3⟩ := h
  exact ⟨bs, h1.kept' fun k hk => hc k (h3 k hk) (h1.lt k hk).2.1, h2, h3⟩
theorem Mn.wrote {M : Nat → Prop} {w : World} {x : Value} {n : Nat} (h : Mn M w x n) (g i : Nat) (y : Int) : Mn M (w.setCell ⟨g, i, none⟩ (.int .u8 y)) x n := by
  obtain ⟨bs, f2, f3, f5⟩ := h
  by_cases hx : x.ownBlock = some g
  · rcases f2.2 with ⟨e, _⟩ | ⟨g', cap, cu, e, f6⟩
    · rw [e] at hx; simp [Value.ownBlock] at hx
    · have : g' = g := by rw [e] at hx; simpa [Value.ownBlock] using hx
      subst this
      subst e
      exact ⟨bs.set i y, Owns.set f2 i y, by simpa using f3, f5⟩
  · exact ⟨bs, f2.kept' fun k hk => heap_setCell_other w ⟨g, i, none⟩ k _ (fun e => hx (by have e' : k = g := e; rw [hk, e'])), f3, f5⟩
theorem Mn.slice {M : Nat → Prop} {w : World} {x : Value} {n : Nat} (h : Mn M w x n) : ∃ a c, x = .slice a n c := by
  obtain ⟨bs, h1, rfl, h3⟩ := h
  exact h1.slice
theorem Mn.cell {M : Nat → Prop} {w : World} {a : Option Addr} {n c : Nat} (h : Mn M w (.slice a n c) n) (j : Nat) (hj : j < n) : ∃ g y, a = some ⟨g, 0, none⟩ ∧ M g ∧ w.cell? ⟨g, j, none⟩ = some (.int .u8 y) ∧ w.frozen? ⟨g, j, none⟩ = false := by
  obtain ⟨bs, h1, rfl, h3⟩ := h
  obtain ⟨g, c', e, -⟩ := h1.form (by omega)
  simp only [Value.slice.injEq, true_and] at e
  obtain ⟨rfl, rfl⟩ := e
  have := h1.cell j hj
  exact ⟨g, _, rfl, h3 g rfl, this.1, this.2⟩
/-- Rows of one's own, to be written into: the block b holds them, each in blocks of M. -/
def Gv (M : Nat → Prop) (w : World) (b : Nat) (ls : List Nat) : Prop :=
  ∃ cur : Array Value, w.heap[b]? = some (.cells cur 31 (0, 0)) ∧ cur.size = ls.length ∧ ∀ j (hj : j < ls.length), ∃ x, cur[j]? = some x ∧ Mn (fun g => M g ∧ g ≠ b) w x ls[j]
theorem Gv.cell {M : Nat → Prop} {w : World} {b : Nat} {ls : List Nat} (h : Gv M w b ls) (j : Nat) (hj : j < ls.length) : ∃ a c, w.cell? ⟨b, j, none⟩ = some (.slice a ls[j] c) ∧ Mn (fun g => M g ∧ g ≠ b) w (.slice a ls[j] c) ls[j] := by
  obtain ⟨cur, h1, h2, h3⟩ := h
  obtain ⟨x, e1, e2⟩ := h3 j hj
  obtain ⟨a, c, rfl⟩ := e2.slice
  exact ⟨a, c, by rw [cell_of_row _ _ _ _ _ _ h1]; exact e1, e2⟩
theorem Gv.carry {M : Nat → Prop} {w w' : World} {b : Nat} {ls : List Nat} (h : Gv M w b ls) (hm : M b) (hc : ∀ k, M k → k < w.heap.size → w'.heap[k]? = w.heap[k]?) : Gv M w' b ls := by
  obtain ⟨cur, h1, h2, h3⟩ := h
  refine ⟨cur, (hc b hm (Array.getElem?_eq_some_iff.1 h1).1).trans h1, h2, fun j hj => ?_⟩
  obtain ⟨x, e1, e2⟩ := h3 j hj
  exact ⟨x, e1, e2.carry fun k hk => hc k hk.1⟩
/-- A byte of one is written. -/
theorem Gv.wrote {M : Nat → Prop} {w : World} {b : Nat} {ls : List Nat} (h : Gv M w b ls) (g i : Nat) (hg : g ≠ b) (y : Int) : Gv M (w.setCell ⟨g, i, none⟩ (.int .u8 y)) b ls := by
  obtain ⟨cur, e1, e2, e3⟩ := h
  refine ⟨cur, (heap_setCell_other w ⟨g, i, none⟩ b _ (Ne.symm hg)).trans e1, e2, fun j hj => ?_⟩
  obtain ⟨x, f1, f2⟩ := e3 j hj
  exact ⟨x, f1, f2.wrote g i y⟩
theorem AR.lens {S : Nat → Prop} {w : World} {v : Value} {a : Ar} (h : AR S w v a) : ∀ d ∈ a.came, d.b.length ≤ 140737488355328 := by
  obtain ⟨g, f, vr, vc, ps, qs, h1, h2, h3, h4⟩ := h
  intro d hd
  rw [h4] at hd
  obtain ⟨q, hq, rfl⟩ := List.mem_map.1 hd
  exact (h2.pc q hq).1.len
/-- What Came gave, to be read and written into. -/
theorem Gave.both {B b n : Nat} {w : World} {L : List (List Int)} (h : Gave B w b n L) (hn : L.length = n) (hbB : b < B) (hL : ∀ x ∈ L, IsB x ∧ x.length ≤ 140737488355328) (h3 : n < 1000000) : Ls (fun k => b ≤ k ∧ k < w.heap.size) w (.slice (some ⟨b, 0, none⟩) n n) L ∧ Gv (fun k => b ≤ k ∧ k < w.heap.size) w b (L.map List.length) := by
  obtain ⟨cur, e1, e2, e3⟩ := h
  have hbl := (Array.getElem?_eq_some_iff.1 e1).1
  refine ⟨⟨_, n, by rw [hn], by omega, by omega, (fun h => by cases h), fun _ => ⟨b, 0, ⟨Nat.le_refl _, hbl⟩, rfl, fun j hj => ?_⟩⟩, cur, e1, by simp [e2, hn], fun j hj => ?_⟩
  · obtain ⟨x, f1, f2⟩ := e3 j hj
    have hm := hL _ (List.getElem_mem hj)
    refine ⟨x, by rw [Nat.zero_add, cell_of_row _ _ _ _ _ _ e1]; exact f1, ?_⟩
    rw [List.getD_eq_getElem?_getD, List.getElem?_eq_getElem hj]
    exact SlC.own f2 hm.2 hm.1 fun k hk hk2 => ⟨by omega, hk2⟩
  · have hj' : j < L.length := by simpa using hj
    obtain ⟨x, f1, f2⟩ := e3 j hj'
    refine ⟨x, f1, L[j], f2.low (Nat.zero_le _), by simp, fun g hg => ?_⟩
    have := f2.lt g hg
    exact ⟨⟨by omega, this.2.1⟩, by omega⟩
/-- A list of slices, as a row. -/
theorem Rw.ls {S : Nat → Prop} {w : World} {v : Value} {us : List Value} {L : List (List Int)} (h : Rw S 1 31 w v us.length us) (hl : us.length = L.length) (hn : L.length < 1000000) (hs : ∀ i (hi : i < us.length) (hi' : i < L.length), SlC S w us[i] L[i]) : Ls S w v L := by
  rcases h with ⟨hx, ⟨rfl, e0⟩ | ⟨g, o, cap, cur, rfl, h2, h3, h4, h5, h6⟩⟩
  · have : L = [] := List.length_eq_zero_iff.1 (by omega)
    subst this
    exact ⟨none, 0, rfl, Nat.le_refl _, by simp, fun _ => rfl, fun h => absurd rfl h⟩
  · refine ⟨some ⟨g, o, none⟩, cap, by rw [hl], by omega, by omega, (fun h => by cases h), fun _ => ⟨g, o, h2, rfl, fun j hj => ?_⟩⟩
    have hju : j < us.length := by omega
    refine ⟨us[j], ?_, ?_⟩
    · rw [cell_of_row _ _ _ _ _ _ h3, cells_at h6 (by omega), List.getElem?_eq_getElem hju]
    · rw [List.getD_eq_getElem?_getD, List.getElem?_eq_getElem hj]
      exact hs j hju hj
end Go.Proofs.Ythgkmbdnkamcoaa
