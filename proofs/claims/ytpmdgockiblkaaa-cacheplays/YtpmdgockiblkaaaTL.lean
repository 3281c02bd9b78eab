/-
  Plain: what CacheTrue asks of a cache (Tr, wn). No condition.
-/
import Derived.Test.YtpmdgockiblkaaaWR
namespace Go.Proofs.Ytpmdgockiblkaaa
open Go.RowKit

/-- What was put last for a header, from fm on, among the first acts. -/
noncomputable def wn (l : List Ac) (h : Hdr) (fm : Nat) : Nat → Option Int
  | 0 => none
  | k + 1 => match l[k]? with
    | some x => if fm ≤ k ∧ x.k = 1 ∧ x.h = h then some x.id else wn l h fm k
    | none => wn l h fm k
theorem wn_next {l : List Ac} {h : Hdr} {fm k : Nat} {x : Ac} (hx : l[k]? = some x) : wn l h fm (k + 1) = if fm ≤ k ∧ x.k = 1 ∧ x.h = h then some x.id else wn l h fm k := by
  show (match l[k]? with | some x => _ | none => _) = _
  rw [hx]
theorem wn_start (l : List Ac) (h : Hdr) (fm : Nat) : ∀ k, k ≤ fm → wn l h fm k = none
  | 0, _ => rfl
  | k + 1, hk => by
    show (match l[k]? with | some x => _ | none => _) = _
    split
    · rw [if_neg (by omega)]; exact wn_start l h fm k (by omega)
    · exact wn_start l h fm k (by omega)
/-- CacheTrue: what stands is what was put last. -/
structure Tr (c : Cs) (l : List Ac) (fm i N : Nat) : Prop where
  len : c.es.length = N
  now : 0 ≤ c.now ∧ c.now ≤ (i : Int)
  le : fm ≤ i
  ent : ∀ (p : Nat) (e : Et), c.es[p]? = some (some e) → e.gen ≤ c.now ∧ (e.gen = c.now → wn l e.h fm i = some e.id)
theorem Tr.start (l : List Ac) (N : Nat) : Tr (newC N) l 0 0 N := by
  refine ⟨by simp [newC], ⟨Int.le_refl _, Int.le_refl _⟩, Nat.le_refl _, fun p e he => ?_⟩
  have := List.mem_of_getElem? he
  simp [newC] at this
theorem Tr.other {c : Cs} {l : List Ac} {fm i N : Nat} (h : Tr c l fm i N) {x : Ac} (hx : l[i]? = some x) (hk : x.k ≠ 1) : Tr c l fm (i + 1) N :=
  ⟨h.len, ⟨h.now.1, by have := h.now.2; omega⟩, by have := h.le; omega, fun p e he => ⟨(h.ent p e he).1, fun hg => by
    rw [wn_next hx, if_neg (fun a => hk a.2.1)]; exact (h.ent p e he).2 hg⟩⟩
theorem Tr.get0 {c : Cs} {l : List Ac} {fm i N : Nat} (h : Tr c l fm i N) (y : Hdr) : Tr (getS c y) l fm i N := by
  obtain ⟨a1, a2, a3⟩ := get_len c y
  refine ⟨by rw [a1]; exact h.len, by rw [a2]; exact h.now, h.le, fun p e he => ?_⟩
  obtain ⟨e0, b1, b2⟩ := get_mem he
  rw [a2, b2.1, b2.2.1, b2.2.2]
  exact h.ent p e0 b1
theorem Tr.put {c : Cs} {l : List Ac} {fm i N : Nat} (h : Tr c l fm i N) {x : Ac} (hx : l[i]? = some x) (hk : x.k = 1) (hkk : Hk c) (hD : Dis c.es) : Tr (putS c x.h x.id) l fm (i + 1) N := by
  obtain ⟨a1, a2⟩ := put_len c x.h x.id
  refine ⟨by rw [a1]; exact h.len, by rw [a2]; exact ⟨h.now.1, by have := h.now.2; omega⟩, by have := h.le; omega, fun p e he => ?_⟩
  rw [a2, wn_next hx]
  rcases put_mem hkk hD he with ⟨b1, b2, b3⟩ | ⟨b1, e0, b2, b3⟩
  · rw [if_pos ⟨h.le, hk, b1.symm⟩]
    exact ⟨by omega, fun _ => by rw [b2]⟩
  · rw [if_neg (fun a => b1 a.2.2.symm), b3.1, b3.2.1, b3.2.2]
    exact h.ent p e0 b2
theorem Tr.turn {c : Cs} {l : List Ac} {fm i N : Nat} (h : Tr c l fm i N) : Tr (turnS c) l i (i + 1) N ∧ heldS (turnS c) = 0 := by
  have hlt : ∀ (p : Nat) (e : Et), (turnS c).es[p]? = some (some e) → e.gen < (turnS c).now := fun p e he => by
    have := (h.ent p e he).1
    show e.gen < c.now + 1
    omega
  refine ⟨⟨h.len, ⟨by show 0 ≤ c.now + 1; have := h.now.1; omega, by show c.now + 1 ≤ _; have := h.now.2; omega⟩, by omega, fun p e he => ?_⟩, held_zero fun p e he => by have := hlt p e he; omega⟩
  have := hlt p e he
  exact ⟨by omega, fun e1 => by omega⟩
theorem Tr.yes {c : Cs} {l : List Ac} {fm i N : Nat} (h : Tr c l fm i N) {y : Hdr} (hb : getB c y = true) : wn l y fm i = some (getI c y) := by
  obtain ⟨p, e, h1, h2, h3, h4⟩ := get_yes hb
  rw [h4, ← h2]
  exact (h.ent p e h1).2 h3
theorem put_get {c : Cs} {y : Hdr} {id : Int} (hk : Hk c) (hc : c.es ≠ []) (hD : Dis (putS c y id).es) : getI (putS c y id) y = id ∧ getB (putS c y id) y = true := by
  obtain ⟨p, e, h1, h2, h3, h4⟩ := put_has (c := c) (h := y) (id := id) hk hc
  have := get_of hD h1 (by rw [h4, (put_len c y id).2])
  rw [h2, h3] at this
  exact this
/-- What an act's cells hold. -/
structure Ha (b p : Nat) (k : Int) (x : Nat → Int) (id : Int) (w : World) : Prop where
  c0 : w.cell? ⟨b, p, none⟩ = some (.int .i64 k)
  rA : w.rangeAt b (p + 1) (row 11 x).toList
  ci : w.cell? ⟨b, p + 12, none⟩ = some (.int .i64 id)
theorem Ha.on {b p : Nat} {k : Int} {x : Nat → Int} {id : Int} {w w' : World} (h : Ha b p k x id w) (hb : w'.heap[b]? = w.heap[b]?) : Ha b p k x id w' := ⟨(cell_same hb).trans h.c0, range_on h.rA hb, (cell_same hb).trans h.ci⟩
theorem Lst.act {T : Nat → Prop} {w : World} {v : Value} {l : List Ac} (h : Lst T 13 RAc w v l) {q : Nat} (hq : q < l.length) : ∃ b o cap, v = .slice (some ⟨b, o, none⟩) l.length cap ∧ T b ∧ b < w.heap.size ∧ ∀ j (hj : j < l.length), Ha b (o + j * 13) l[j].k l[j].h.f l[j].id w := by
  obtain ⟨ao, cap, h1, h2, h3, h4, h5⟩ := h
  obtain ⟨b, o, hb, rfl, hc⟩ := h5 (fun e => by rw [e] at hq; simp at hq)
  have h0 := (hc q hq).1
  refine ⟨b, o, cap, h1, hb, cell_lt h0, fun j hj => ⟨(hc j hj).1, range_of fun i hi => ?_, (hc j hj).2.2⟩⟩
  rw [row_size] at hi
  have := (hc j hj).2.1 i hi
  rw [row_at 11 _ _ hi, Nat.add_assoc]
  exact this
/-- Two acts' cells. -/
structure Hb2 (b p : Nat) (k : Int) (x : Nat → Int) (id : Int) (p' : Nat) (x' : Nat → Int) (w : World) : Prop where
  c0 : w.cell? ⟨b, p, none⟩ = some (.int .i64 k)
  rA : w.rangeAt b (p + 1) (row 11 x).toList
  ci : w.cell? ⟨b, p + 12, none⟩ = some (.int .i64 id)
  rB : w.rangeAt b (p' + 1) (row 11 x').toList
end Go.Proofs.Ytpmdgockiblkaaa
