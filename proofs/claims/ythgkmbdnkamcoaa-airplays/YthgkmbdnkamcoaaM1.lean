/-
  Proved here: what it is that a slice holds bytes in certain blocks, that a row of slices does; what stays as worlds go on; a slice is appended to a row. No condition.
-/
import Derived.Test.YthgkmbdnkamcoaaC3
import Derived.Test.YthgkmbdnkamcoaaL0
import Derived.Deep.RegionLaw
namespace Go.Proofs.Ythgkmbdnkamcoaa
open Go.RowKit Seal

/-- From w to w' no block outside S has turned. -/
structure Only (S : Nat → Prop) (w w' : World) : Prop where
  os : w'.os = w.os
  tape : w'.tape = w.tape
  output : w'.output = w.output
  size : w.heap.size ≤ w'.heap.size
  block : ∀ k, ¬ S k → w'.heap[k]? = w.heap[k]?
/-- All blocks to come are in S. -/
def Fresh (S : Nat → Prop) (w : World) : Prop := ∀ k, w.heap.size ≤ k → S k
theorem Fresh.on {S : Nat → Prop} {w w' : World} (h : Fresh S w) (hs : w.heap.size ≤ w'.heap.size) : Fresh S w' := fun k hk => h k (Nat.le_trans hs hk)
theorem Only.refl (S : Nat → Prop) (w : World) : Only S w w := ⟨rfl, rfl, rfl, Nat.le_refl _, fun _ _ => rfl⟩
theorem Only.trans {S : Nat → Prop} {a b c : World} (h : Only S a b) (k : Only S b c) : Only S a c :=
  ⟨k.os.trans h.os, k.tape.trans h.tape, k.output.trans h.output, Nat.le_trans h.size k.size, fun i hi => (k.block i hi).trans (h.block i hi)⟩
theorem Only.mono {S T : Nat → Prop} {a b : World} (h : Only S a b) (hst : ∀ k, S k → T k) : Only T a b := ⟨h.os, h.tape, h.output, h.size, fun k hk => h.block k fun hs => hk (hst k hs)⟩
theorem Only.below {B : Nat} {S : Nat → Prop} {w w' : World} (h : Only S w w') (hS : ∀ k, S k → B ≤ k) : Below B w w' := ⟨h.os, h.tape, h.output, h.size, fun k hk => h.block k fun hs => by have := hS k hs; omega⟩
theorem Only.of {S : Nat → Prop} {w w' : World} (h : Below w.heap.size w w') (hf : Fresh S w) : Only S w w' :=
  ⟨h.os, h.tape, h.output, h.size, fun k hk => h.block k (by
    rcases Nat.lt_or_ge k w.heap.size with h | h
    · exact h
    · exact absurd (hf k h) hk)⟩
theorem Only.drew {S : Nat → Prop} {w w' : World} (h : Only S w w') : Only S w w'.drew := ⟨h.os, h.tape, h.output, h.size, h.block⟩
theorem Only.alloc {S : Nat → Prop} {w w' : World} (h : Only S w w') (hf : Fresh S w') (o : Obj) : Only S w (w'.alloc o) := h.trans (Only.of ((Below.refl _ _).alloc (Nat.le_refl _) _) hf)
theorem Only.setCell {S : Nat → Prop} {w w' : World} (h : Only S w w') {p : Addr} (hp : S p.block) (v : Value) : Only S w (w'.setCell p v) := by
  have hb : Below 0 w' (w'.setCell p v) := (Below.refl 0 w').setCell (p := p) (Nat.zero_le _) v
  refine h.trans ⟨hb.os, hb.tape, hb.output, hb.size, fun k hk => ?_⟩
  exact heap_setCell_other w' p k v (fun e => hk (e ▸ hp))
theorem cell_same {w w' : World} {b o : Nat} (h : w'.heap[b]? = w.heap[b]?) : w'.cell? ⟨b, o, none⟩ = w.cell? ⟨b, o, none⟩ := by
  unfold World.cell?; rw [h]
theorem cell_lt {w : World} {b o : Nat} {v : Value} (h : w.cell? ⟨b, o, none⟩ = some v) : b < w.heap.size := by
  unfold World.cell? at h
  rcases Nat.lt_or_ge b w.heap.size with h2 | h2
  · exact h2
  · rw [Array.getElem?_eq_none h2] at h; simp at h

/-- A slice value that holds the bytes bs, in a block of S. -/
def SlC (S : Nat → Prop) (w : World) (v : Value) (bs : List Int) : Prop :=
  ∃ ao cap, v = .slice ao bs.length cap ∧ bs.length ≤ cap ∧ bs.length ≤ 140737488355328 ∧ IsB bs ∧ (ao = none → cap = 0) ∧
    (bs ≠ [] → ∃ b o, S b ∧ ao = some ⟨b, o, none⟩ ∧ ∀ j, j < bs.length → w.cell? ⟨b, o + j, none⟩ = some (.int .u8 (bs.getD j 0)))
theorem SlC.of {B : Nat} {w : World} {v : Value} {bs : List Int} (h : Sl B w v bs) : SlC (· < B) w v bs := h
theorem SlC.carry {S T : Nat → Prop} {w w' : World} {v : Value} {bs : List Int} (h : SlC S w v bs) (hc : ∀ k, k < w.heap.size → S k → T k ∧ w'.heap[k]? = w.heap[k]?) : SlC T w' v bs := by
  obtain ⟨ao, cap, h1, h2, h3, h4, h5, h6⟩ := h
  refine ⟨ao, cap, h1, h2, h3, h4, h5, fun hne => ?_⟩
  obtain ⟨b, o, hb, rfl, hcl⟩ := h6 hne
  have h0 : 0 < bs.length := by
    rcases Nat.eq_zero_or_pos bs.length with e | e
    · exact absurd (List.length_eq_zero_iff.1 e) hne
    · exact e
  have hq := hc b (cell_lt (hcl 0 h0)) hb
  exact ⟨b, o, hq.1, rfl, fun j hj => by rw [cell_same hq.2]; exact hcl j hj⟩
theorem SlC.mono {S T : Nat → Prop} {w : World} {v : Value} {bs : List Int} (h : SlC S w v bs) (hc : ∀ k, S k → T k) : SlC T w v bs := h.carry fun k _ hk => ⟨hc k hk, rfl⟩
theorem SlC.on {S T : Nat → Prop} {w w' : World} {v : Value} {bs : List Int} (h : SlC S w v bs) (ho : Only T w w') (hd : ∀ k, S k → ¬ T k) : SlC S w' v bs := h.carry fun k _ hk => ⟨hk, ho.block k (hd k hk)⟩
theorem SlC.sl {S : Nat → Prop} {w : World} {v : Value} {bs : List Int} (h : SlC S w v bs) : Sl w.heap.size w v bs := by
  obtain ⟨ao, cap, h1, h2, h3, h4, h5, h6⟩ := h
  refine ⟨ao, cap, h1, h2, h3, h4, h5, fun hne => ?_⟩
  obtain ⟨b, o, hb, rfl, hcl⟩ := h6 hne
  have h0 : 0 < bs.length := by
    rcases Nat.eq_zero_or_pos bs.length with e | e
    · exact absurd (List.length_eq_zero_iff.1 e) hne
    · exact e
  exact ⟨b, o, cell_lt (hcl 0 h0), rfl, hcl⟩
theorem SlC.isB {S : Nat → Prop} {w : World} {v : Value} {bs : List Int} (h : SlC S w v bs) : IsB bs := h.sl.isB
theorem SlC.len {S : Nat → Prop} {w : World} {v : Value} {bs : List Int} (h : SlC S w v bs) : bs.length ≤ 140737488355328 := h.sl.len
theorem SlC.one {S : Nat → Prop} {w : World} {v : Value} {bs : List Int} (h : SlC S w v bs) : v.oneCell' = true := h.sl.one
theorem SlC.nil (S : Nat → Prop) (w : World) : SlC S w nilS [] := ⟨none, 0, rfl, by simp, by simp, IsB.nil, fun _ => rfl, fun h => absurd rfl h⟩
/-- What the call owns. -/
theorem SlC.own {S : Nat → Prop} {w : World} {base : Nat} {v : Value} {bs : List Int} (h : Owns base w v bs) (hl : bs.length ≤ 140737488355328) (hb : IsB bs) (hS : ∀ k, base ≤ k → k < w.heap.size → S k) : SlC S w v bs := by
  have hs := Sl.own h hl hb
  obtain ⟨ao, cap, rfl, h2, h3, h4, h5, h6⟩ := hs
  refine ⟨ao, cap, rfl, h2, h3, h4, h5, fun hne => ?_⟩
  obtain ⟨b, o, hb, rfl, hcl⟩ := h6 hne
  exact ⟨b, o, hS b (h.lt b (by simp [Value.ownBlock])).1 hb, rfl, hcl⟩
/-- A piece of a slice. -/
theorem SlC.cut {S : Nat → Prop} {w : World} {b o n cap : Nat} {bs : List Int} (h : SlC S w (.slice (some ⟨b, o, none⟩) n cap) bs) (i m c : Nat) (hi : i + m ≤ bs.length) (hc : m ≤ c) : SlC S w (.slice (some ⟨b, o + i, none⟩) m c) ((bs.drop i).take m) := by
  obtain ⟨ao', cap', e, h1, h2, h3, h4, h5⟩ := h
  simp only [Value.slice.injEq] at e
  obtain ⟨rfl, _, rfl⟩ := e
  have hl : ((bs.drop i).take m).length = m := by rw [List.length_take, List.length_drop]; omega
  refine ⟨_, c, by rw [hl], by omega, by omega, (h3.drop i).take m, (fun h => by cases h), fun hne => ?_⟩
  have hm : 0 < m := by
    rcases Nat.eq_zero_or_pos m with e | e
    · subst e; simp at hne
    · exact e
  obtain ⟨b', o', hb, e, hcl⟩ := h5 (fun e => by subst e; simp at hi; omega)
  simp only [Option.some.injEq, Addr.mk.injEq] at e
  obtain ⟨rfl, rfl, _⟩ := e
  refine ⟨b, o + i, hb, rfl, fun j hj => ?_⟩
  rw [hl] at hj
  rw [Nat.add_assoc, hcl (i + j) (by omega)]
  simp only [List.getD_eq_getElem?_getD, List.getElem?_take, if_pos hj, List.getElem?_drop]

/-- A row of slices of bytes, to be read: all in blocks of S. -/
def Ls (S : Nat → Prop) (w : World) (v : Value) (ll : List (List Int)) : Prop :=
  ∃ ao cap, v = .slice ao ll.length cap ∧ ll.length ≤ cap ∧ ll.length ≤ 140737488355328 ∧ (ao = none → cap = 0) ∧
    (ll ≠ [] → ∃ b o, S b ∧ ao = some ⟨b, o, none⟩ ∧ ∀ j, j < ll.length → ∃ u, w.cell? ⟨b, o + j, none⟩ = some u ∧ SlC S w u (ll.getD j []))
theorem Ls.carry {S T : Nat → Prop} {w w' : World} {v : Value} {ll : List (List Int)} (h : Ls S w v ll) (hc : ∀ k, k < w.heap.size → S k → T k ∧ w'.heap[k]? = w.heap[k]?) : Ls T w' v ll := by
  obtain ⟨ao, cap, h1, h2, h3, h5, h6⟩ := h
  refine ⟨ao, cap, h1, h2, h3, h5, fun hne => ?_⟩
  obtain ⟨b, o, hb, rfl, hcl⟩ := h6 hne
  have h0 : 0 < ll.length := by
    rcases Nat.eq_zero_or_pos ll.length with e | e
    · exact absurd (List.length_eq_zero_iff.1 e) hne
    · exact e
  obtain ⟨u0, hu0, _⟩ := hcl 0 h0
  have hq := hc b (cell_lt hu0) hb
  refine ⟨b, o, hq.1, rfl, fun j hj => ?_⟩
  obtain ⟨u, hu, hs⟩ := hcl j hj
  exact ⟨u, by rw [cell_same hq.2]; exact hu, hs.carry hc⟩
theorem Ls.mono {S T : Nat → Prop} {w : World} {v : Value} {ll : List (List Int)} (h : Ls S w v ll) (hc : ∀ k, S k → T k) : Ls T w v ll := h.carry fun k _ hk => ⟨hc k hk, rfl⟩
theorem Ls.on {S T : Nat → Prop} {w w' : World} {v : Value} {ll : List (List Int)} (h : Ls S w v ll) (ho : Only T w w') (hd : ∀ k, S k → ¬ T k) : Ls S w' v ll := h.carry fun k _ hk => ⟨hk, ho.block k (hd k hk)⟩
theorem Ls.len {S : Nat → Prop} {w : World} {v : Value} {ll : List (List Int)} (h : Ls S w v ll) : ll.length ≤ 140737488355328 := by
  obtain ⟨_, _, _, _, h, _⟩ := h; exact h
theorem getD_mem {l : List (List Int)} {j : Nat} (h : j < l.length) : l.getD j [] ∈ l := by
  rw [List.getD_eq_getElem?_getD, List.getElem?_eq_getElem h]; exact List.getElem_mem h
theorem Ls.allB {S : Nat → Prop} {w : World} {v : Value} {ll : List (List Int)} (h : Ls S w v ll) : AllB ll := fun m hm => by
  obtain ⟨_, _, _, _, _, _, h6⟩ := h
  obtain ⟨j, hj, rfl⟩ := List.getElem_of_mem hm
  obtain ⟨b, o, _, _, hcl⟩ := h6 (fun e => by subst e; simp at hj)
  obtain ⟨u, _, hs⟩ := hcl j hj
  have := hs.isB
  rw [List.getD_eq_getElem?_getD, List.getElem?_eq_getElem hj] at this
  exact this

/-- A row of slices that may be appended to: its own block in S, the bytes in T. -/
def Sp (S T : Nat → Prop) (w : World) (v : Value) (ll : List (List Int)) : Prop :=
  (v = nilS ∧ ll = []) ∨ ∃ g o cap cur, v = .slice (some ⟨g, o, none⟩) ll.length cap ∧ S g ∧ w.heap[g]? = some (.cells cur 31 (0, 0)) ∧ ll.length ≤ cap ∧ o + cap ≤ cur.size ∧ ∀ j, j < ll.length → ∃ u, cur[o + j]? = some u ∧ SlC T w u (ll.getD j [])
theorem Sp.nil (S T : Nat → Prop) (w : World) : Sp S T w nilS [] := Or.inl ⟨rfl, rfl⟩
theorem Sp.carry {S S' T T' : Nat → Prop} {w w' : World} {v : Value} {ll : List (List Int)} (h : Sp S T w v ll) (hs : ∀ k, k < w.heap.size → S k → S' k ∧ w'.heap[k]? = w.heap[k]?) (ht : ∀ k, k < w.heap.size → T k → T' k ∧ w'.heap[k]? = w.heap[k]?) : Sp S' T' w' v ll := by
  rcases h with h | ⟨g, o, cap, cur, h1, h2, h3, h4, h5, h6⟩
  · exact Or.inl h
  · have hq := hs g (Array.getElem?_eq_some_iff.1 h3).1 h2
    refine Or.inr ⟨g, o, cap, cur, h1, hq.1, by rw [hq.2]; exact h3, h4, h5, fun j hj => ?_⟩
    obtain ⟨u, hu, hc⟩ := h6 j hj
    exact ⟨u, hu, hc.carry ht⟩
theorem Sp.ls {S T R : Nat → Prop} {w : World} {v : Value} {ll : List (List Int)} (h : Sp S T w v ll) (hl : ll.length ≤ 140737488355328) (hs : ∀ k, S k → R k) (ht : ∀ k, T k → R k) : Ls R w v ll := by
  rcases h with ⟨rfl, rfl⟩ | ⟨g, o, cap, cur, rfl, h2, h3, h4, h5, h6⟩
  · exact ⟨none, 0, rfl, by simp, by simp, fun _ => rfl, fun h => absurd rfl h⟩
  · refine ⟨_, cap, rfl, h4, hl, (fun h => by cases h), fun _ => ⟨g, o, hs g h2, rfl, fun j hj => ?_⟩⟩
    obtain ⟨u, hu, hc⟩ := h6 j hj
    exact ⟨u, by rw [cell_of_row w g (o + j) cur 31 (0, 0) h3]; exact hu, hc.mono ht⟩
theorem Sp.form {S T : Nat → Prop} {w : World} {v : Value} {ll : List (List Int)} (h : Sp S T w v ll) : ∃ ao cap, v = .slice ao ll.length cap ∧ ll.length ≤ cap ∧ (ll ≠ [] → ∃ g o, ao = some ⟨g, o, none⟩ ∧ ∀ j, j < ll.length → ∃ u, w.cell? ⟨g, o + j, none⟩ = some u ∧ SlC T w u (ll.getD j [])) := by
  rcases h with ⟨rfl, rfl⟩ | ⟨g, o, cap, cur, rfl, h2, h3, h4, h5, h6⟩
  · exact ⟨none, 0, rfl, by simp, fun h => absurd rfl h⟩
  · refine ⟨_, cap, rfl, h4, fun _ => ⟨g, o, rfl, fun j hj => ?_⟩⟩
    obtain ⟨u, hu, hc⟩ := h6 j hj
    exact ⟨u, by rw [cell_of_row w g (o + j) cur 31 (0, 0) h3]; exact hu, hc⟩
theorem Sp.allB {S T : Nat → Prop} {w : World} {v : Value} {ll : List (List Int)} (h : Sp S T w v ll) : AllB ll := fun m hm => by
  obtain ⟨j, hj, rfl⟩ := List.getElem_of_mem hm
  obtain ⟨_, _, _, _, h9⟩ := h.form
  obtain ⟨_, _, _, h7⟩ := h9 (fun e => by subst e; simp at hj)
  obtain ⟨_, _, hs⟩ := h7 j hj
  have := hs.isB
  rw [List.getD_eq_getElem?_getD, List.getElem?_eq_getElem hj] at this
  exact this
/-- The first ones are left out. -/
theorem Sp.drop {S T : Nat → Prop} {w : World} {g o n cap : Nat} {ll : List (List Int)} (h : Sp S T w (.slice (some ⟨g, o, none⟩) n cap) ll) (k : Nat) (hk : k ≤ ll.length) : Sp S T w (.slice (if cap = k then some ⟨g, o, none⟩ else some ⟨g, o + k, none⟩) (ll.length - k) (cap - k)) (ll.drop k) := by
  rcases h with ⟨e, _⟩ | ⟨g', o', cap', cur, e, h2, h3, h4, h5, h6⟩
  · simp at e
  · simp only [Value.slice.injEq, Option.some.injEq, Addr.mk.injEq] at e
    obtain ⟨⟨rfl, rfl, _⟩, _, rfl⟩ := e
    have hl : (ll.drop k).length = ll.length - k := List.length_drop
    by_cases hc : cap = k
    · rw [if_pos hc]
      refine Or.inr ⟨g, o, cap - k, cur, by rw [hl], h2, h3, by omega, by omega, fun j hj => ?_⟩
      rw [hl] at hj; omega
    · rw [if_neg hc]
      refine Or.inr ⟨g, o + k, cap - k, cur, by rw [hl], h2, h3, by omega, by omega, fun j hj => ?_⟩
      rw [hl] at hj
      obtain ⟨u, hu, hcl⟩ := h6 (k + j) (by omega)
      refine ⟨u, by rw [Nat.add_assoc]; exact hu, ?_⟩
      simp only [List.getD_eq_getElem?_getD, List.getElem?_drop] at hcl ⊢
      exact hcl
theorem infoB : (Try.prog.info? 31).map (fun i => (i.zero, i.size, i.bytes)) = some (some (.slice none 0 0), 1, 24) := by kernel_rfl
end Go.Proofs.Ythgkmbdnkamcoaa
