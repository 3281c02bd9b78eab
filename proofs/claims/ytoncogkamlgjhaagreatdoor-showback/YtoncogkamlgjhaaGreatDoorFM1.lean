/-
  Proved here: a map by what it holds at each key (Mp): made, stored into, looked up. Condition where it is named: fewer than 2 to 31 entries.
-/
import Derived.Test.YtoncogkamlgjhaaGreatDoorFQA
import Derived.Maps.OwnSet
import Derived.Maps.RangeWalk
import Derived.MapViews
namespace Go.Proofs.YtoncogkamlgjhaaGreatDoor
set_option maxRecDepth 100000
open Go.RowKit Go.Maps

theorem lawS : Keyed Tryz.prog 9 := string_keyed Tryz.underlying9
theorem key_s {s : ByteArray} (hs : s.size ≤ maxLen) : keyOf Tryz.prog 9 (.string s) = some (.string s.data.toList) := WideMaps.keyOf_string_mk Tryz.underlying9 hs
/-- An element reads as itself. -/
def tok (v : Value) : Option (DataW Value × List MemPlace) := some (.held v, [])
/-- Block b is a map; G: what it holds at a key; n: how many keys there are. -/
def Mp (w : World) (K : TypeId) (b n : Nat) (G : Lit → Option Value) : Prop :=
  ∃ D : DataW Value, w.ownsMap Tryz.prog K tok b n D ∧ Maps.size D = n ∧ ∀ l, (G l = none → Maps.has D l = false) ∧ ∀ v, G l = some v → Maps.has D l = true ∧ ∀ z, D.atKey l z = .held v
theorem Mp.new (w : World) (K : TypeId) : Mp (w.alloc (.map #[] 0)) K w.heap.size 0 (fun _ => none) :=
  ⟨.map [], World.ownsMap_made _ _ _ _, rfl, fun l => ⟨fun _ => rfl, fun _ h => by cases h⟩⟩
theorem Mp.carry {w w' : World} {K : TypeId} {b n : Nat} {G : Lit → Option Value} (h : Mp w K b n G) (hb : w'.heap[b]? = w.heap[b]?) : Mp w' K b n G := by
  obtain ⟨D, ⟨es, clock, h1, h2⟩, h3⟩ := h
  exact ⟨D, ⟨es, clock, hb.trans h1, h2⟩, h3⟩
/-- A world but for the entries of a map. -/
structure Tur (w w' : World) (b : Nat) : Prop where
  os : w'.os = w.os
  tape : w'.tape = w.tape
  output : w'.output = w.output
  size : w'.heap.size = w.heap.size
  block : ∀ k, k ≠ b → w'.heap[k]? = w.heap[k]?
theorem Tur.of {w w' : World} {b : Nat} (h : w.mapTurned w' b) : Tur w w' b := by
  obtain ⟨es, clock, es', clock', hb, rfl⟩ := h
  exact ⟨rfl, rfl, rfl, by simp [Go.ChangeMaps.setBlock], fun k hk => Go.ChangeMaps.heap_setBlock_other hb _ hk⟩
noncomputable def updL (G : Lit → Option Value) (l : Lit) (v : Option Value) : Lit → Option Value := fun k => open Classical in if k = l then v else G k
theorem updL_same (G : Lit → Option Value) (l : Lit) (v : Option Value) : updL G l v l = v := by simp [updL]
theorem updL_other (G : Lit → Option Value) {l k : Lit} (v : Option Value) (h : k ≠ l) : updL G l v k = G k := by simp [updL, h]
theorem Mp.store {w : World} {K e t : TypeId} {b n : Nat} {G : Lit → Option Value} (h : Mp w K b n G) (hK : Keyed Tryz.prog K) (ht : Tryz.prog.underlying t = some (.map K e)) (hn : n < 2147483648) {key val : Value} {l : Lit} (hkey : keyOf Tryz.prog K key = some l) :
    ∃ w', (Instr.mapUpdate t (.map (some b)) key val).run Tryz.prog w = .ok () w' ∧ Mp w' K b (if (G l).isSome then n else n + 1) (updL G l (some val)) ∧ Tur w w' b := by
  obtain ⟨D, h1, h2, h3⟩ := h
  obtain ⟨w', hr, ho, hT⟩ := h1.store hK ht (by unfold maxLen; omega) (d := .held val) (ps := []) (val := val) hkey rfl
  have hl := hK.key hkey
  have hsz := size_put (k := l) (h1.tidy hK) (.held val)
  have hh : Maps.has D l = (G l).isSome := by
    cases hg : G l with
    | none => exact (h3 l).1 hg
    | some v => exact ((h3 l).2 v hg).1
  rw [hh, h2] at hsz
  refine ⟨w', hr, ⟨D.put l (.held val), ?_, hsz, fun k => ?_⟩, Tur.of hT⟩
  · obtain ⟨es, clock, a1, a2, a3, a4⟩ := ho
    refine ⟨es, clock, a1, a2, ?_, a4⟩
    have : Maps.size (D.put l (.held val)) = es.size := by rw [a4]; simp [Maps.size, length_sorted]
    rw [← hsz, this]; exact Nat.le_refl _
  · by_cases hk : k = l
    · subst hk
      refine ⟨fun h => ?_, fun v hv => ?_⟩
      · rw [updL_same] at h; cases h
      · rw [updL_same] at hv
        cases hv
        exact ⟨has_put_same h1.isMap hl _, fun z => atKey_put_same h1.isMap hl _ z⟩
    · refine ⟨fun h => ?_, fun v hv => ?_⟩
      · rw [updL_other _ _ hk] at h
        rw [has_put_other hk]; exact (h3 k).1 h
      · rw [updL_other _ _ hk] at hv
        refine ⟨by rw [has_put_other hk]; exact ((h3 k).2 v hv).1, fun z => ?_⟩
        rw [atKey_put_other hk]; exact ((h3 k).2 v hv).2 z
theorem Tur.below {w w' : World} {b n : Nat} (h : Tur w w' b) (hb : n ≤ b) : Below n w w' := ⟨h.os, h.tape, h.output, by rw [h.size]; exact Nat.le_refl _, fun k hk => h.block k (by omega)⟩
/-- Five texts on top of a map's keys. -/
noncomputable def lay : List (ByteArray × Value) → Lit → Option Value
  | [] => fun _ => none
  | p :: l => updL (lay l) (.string p.1.data.toList) (some p.2)
theorem lay_mem : ∀ (l : List (ByteArray × Value)) {k : Lit} {v : Value}, lay l k = some v → ∃ p ∈ l, k = .string p.1.data.toList ∧ v = p.2
  | [], k, v, h => by cases h
  | p :: l, k, v, h => by
    unfold lay at h
    by_cases e : k = .string p.1.data.toList
    · subst e
      rw [updL_same] at h
      exact ⟨p, List.mem_cons_self .., rfl, (Option.some.inj h).symm⟩
    · rw [updL_other _ _ e] at h
      obtain ⟨q, h1, h2⟩ := lay_mem l h
      exact ⟨q, List.mem_cons_of_mem _ h1, h2⟩
/-- A map of texts that was laid in new memory. -/
structure Laid (w : World) (b : Nat) (l : List (ByteArray × Value)) (w' : World) : Prop where
  mp : ∃ n, n ≤ l.length ∧ Mp w' 9 b n (lay l)
  low : Below w.heap.size w w'
  size : w'.heap.size = w.heap.size + 1
theorem Laid.new (w : World) : Laid w w.heap.size [] (w.alloc (.map #[] 0)) := ⟨⟨0, Nat.le_refl _, Mp.new w 9⟩, (Below.refl _ _).alloc (Nat.le_refl _) _, by simp⟩
theorem Laid.put {w w' : World} {l : List (ByteArray × Value)} (h : Laid w w.heap.size l w') {t e : TypeId} (ht : Tryz.prog.underlying t = some (.map 9 e)) (s : ByteArray) (v : Value) (hs : s.size ≤ maxLen) (hl : l.length < 100) :
    ∃ w2, (Instr.mapUpdate t (.map (some w.heap.size)) (.string s) v).run Tryz.prog w' = .ok () w2 ∧ Laid w w.heap.size ((s, v) :: l) w2 := by
  obtain ⟨n, hn, hm⟩ := h.mp
  obtain ⟨w2, hr, h1, h2⟩ := hm.store (val := v) lawS ht (by omega) (key_s hs)
  refine ⟨w2, hr, ⟨_, ?_, h1⟩, h.low.trans (h2.below (Nat.le_refl _)), by rw [h2.size]; exact h.size⟩
  simp only [List.length_cons]
  split <;> omega
theorem Mp.look_ok {w : World} {K e t : TypeId} {b n : Nat} {G : Lit → Option Value} (h : Mp w K b n G) (hK : Keyed Tryz.prog K) (ht : Tryz.prog.underlying t = some (.map K e)) {z key : Value} {l : Lit} (hz : (zeroValue e).run Tryz.prog w = .ok z w) (hkey : keyOf Tryz.prog K key = some l) :
    (Instr.lookup t (.map (some b)) key true).run Tryz.prog w = .ok (.tuple #[(G l).getD z, .bool (G l).isSome]) w := by
  obtain ⟨D, h1, h2, h3⟩ := h
  obtain ⟨v, ps, hr, hv⟩ := h1.look_ok hK ht hz (zd := .held z) (zp := []) rfl hkey
  rw [hr]
  cases hg : G l with
  | none =>
    have hn := (h3 l).1 hg
    rw [atKey_of_not_has hn] at hv
    simp only [tok, Option.some.injEq, Prod.mk.injEq, DataW.held.injEq] at hv
    rw [hv.1, hn]; rfl
  | some x =>
    rw [((h3 l).2 x hg).2] at hv
    simp only [tok, Option.some.injEq, Prod.mk.injEq, DataW.held.injEq] at hv
    rw [hv.1, ((h3 l).2 x hg).1]; rfl
end Go.Proofs.YtoncogkamlgjhaaGreatDoor
