/-
  Proved here: a map by what it holds at each key (Mp): made, looked up, stored into, an entry dropped, its length; the keys of texts. Condition where it is named: fewer than 2 to 31 entries.
-/
import Derived.Test.YtggbokghhohofaaDoorA1
import Derived.Maps.OwnSet
import Derived.Maps.RangeWalk
import Derived.MapViews
import Derived.DeepKeys4
namespace Go.Proofs.YtggbokghhohofaaDoor
open Go.RowKit Go.Maps

/-- An element reads as itself. -/
def tok (v : Value) : Option (DataW Value × List MemPlace) := some (.held v, [])
/-- Block b is a map; G: what it holds at a key; n: how many keys there are. -/
def Mp (w : World) (K : TypeId) (b n : Nat) (G : Lit → Option Value) : Prop :=
  ∃ D : DataW Value, w.ownsMap Tryd.prog K tok b n D ∧ Maps.size D = n ∧ ∀ l, (G l = none → Maps.has D l = false) ∧ ∀ v, G l = some v → Maps.has D l = true ∧ ∀ z, D.atKey l z = .held v
theorem Mp.new (w : World) (K : TypeId) : Mp (w.alloc (.map #[] 0)) K w.heap.size 0 (fun _ => none) :=
  ⟨.map [], World.ownsMap_made _ _ _ _, rfl, fun l => ⟨fun _ => rfl, fun _ h => by cases h⟩⟩
theorem Mp.carry {w w' : World} {K : TypeId} {b n : Nat} {G : Lit → Option Value} (h : Mp w K b n G) (hb : w'.heap[b]? = w.heap[b]?) : Mp w' K b n G := by
  obtain ⟨D, ⟨es, clock, h1, h2⟩, h3⟩ := h
  exact ⟨D, ⟨es, clock, hb.trans h1, h2⟩, h3⟩
theorem Mp.lt {w : World} {K : TypeId} {b n : Nat} {G : Lit → Option Value} (h : Mp w K b n G) : b < w.heap.size := by
  obtain ⟨D, h1, _⟩ := h
  exact h1.lt
theorem Mp.empty {w : World} {K : TypeId} {b : Nat} {G : Lit → Option Value} (h : Mp w K b 0 G) (l : Lit) : G l = none := by
  obtain ⟨D, h1, h2, h3⟩ := h
  cases hg : G l with
  | none => rfl
  | some v =>
    have := ((h3 l).2 v hg).1
    obtain ⟨es, rfl⟩ := h1.isMap
    have he : es = [] := List.length_eq_zero_iff.1 h2
    subst he
    cases this
theorem Mp.some_pos {w : World} {K : TypeId} {b n : Nat} {G : Lit → Option Value} (h : Mp w K b n G) {l : Lit} {v : Value} (hg : G l = some v) : 0 < n := by
  rcases Nat.eq_zero_or_pos n with e | e
  · subst e
    rw [h.empty l] at hg; cases hg
  · exact e
theorem Mp.none_zero {w : World} {K : TypeId} {b n : Nat} {G : Lit → Option Value} (h : Mp w K b n G) (hK : Keyed Tryd.prog K) (hg : ∀ l, G l = none) : n = 0 := by
  obtain ⟨D, h1, h2, h3⟩ := h
  obtain ⟨es, rfl, -, hk⟩ := h1.entries hK
  cases es with
  | nil => exact h2.symm
  | cons p es =>
    have := (h3 p.1).1 (hg p.1)
    rw [has_eq, List.any_cons, WideAt.sameKey_self (hk p (List.mem_cons_self ..))] at this
    cases this
theorem Mp.look {w : World} {K e t : TypeId} {b n : Nat} {G : Lit → Option Value} (h : Mp w K b n G) (hK : Keyed Tryd.prog K) (ht : Tryd.prog.underlying t = some (.map K e)) {z key : Value} {l : Lit} (hz : (zeroValue e).run Tryd.prog w = .ok z w) (hkey : keyOf Tryd.prog K key = some l) :
    (Instr.lookup t (.map (some b)) key false).run Tryd.prog w = .ok ((G l).getD z) w := by
  obtain ⟨D, h1, h2, h3⟩ := h
  obtain ⟨v, ps, hr, hv⟩ := h1.lookup hK ht hz (zd := .held z) (zp := []) rfl hkey
  rw [hr]
  cases hg : G l with
  | none =>
    have hn := (h3 l).1 hg
    rw [atKey_of_not_has hn] at hv
    simp only [tok, Option.some.injEq, Prod.mk.injEq, DataW.held.injEq] at hv
    rw [hv.1]; rfl
  | some x =>
    rw [((h3 l).2 x hg).2] at hv
    simp only [tok, Option.some.injEq, Prod.mk.injEq, DataW.held.injEq] at hv
    rw [hv.1]; rfl
theorem Mp.look_ok {w : World} {K e t : TypeId} {b n : Nat} {G : Lit → Option Value} (h : Mp w K b n G) (hK : Keyed Tryd.prog K) (ht : Tryd.prog.underlying t = some (.map K e)) {z key : Value} {l : Lit} (hz : (zeroValue e).run Tryd.prog w = .ok z w) (hkey : keyOf Tryd.prog K key = some l) :
    (Instr.lookup t (.map (some b)) key true).run Tryd.prog w = .ok (.tuple #[(G l).getD z, .bool (G l).isSome]) w := by
  obtain ⟨D, h1, h2, h3⟩ := h
  obtain ⟨v, ps, hr, hv⟩ := h1.look_ok hK ht hz (zd := .held z) (zp := []) rfl hkey
  rw [hr]
  cases hg : G l with
  | none =>
    have hn := (h3 l).1 hg
    rw [atKey_of_not_has hn] at hv
    simp only [tok, Option.some.injEq, Prod.mk.injEq, DataW.held.injEq] at hv
    rw [hv.1, hn]; rfl
  | some x =>
    rw [((h3 l).2 x hg).2] at hv
    simp only [tok, Option.some.injEq, Prod.mk.injEq, DataW.held.injEq] at hv
    rw [hv.1, ((h3 l).2 x hg).1]; rfl
/-- A world but for the entries of a map. -/
structure Tur (w w' : World) (b : Nat) : Prop where
  os : w'.os = w.os
  tape : w'.tape = w.tape
  output : w'.output = w.output
  size : w'.heap.size = w.heap.size
  block : ∀ k, k ≠ b → w'.heap[k]? = w.heap[k]?
theorem Tur.of {w w' : World} {b : Nat} (h : w.mapTurned w' b) : Tur w w' b := by
  obtain ⟨es, clock, es', clock', hb, rfl⟩ := h
  exact ⟨rfl, rfl, rfl, by simp [Go.ChangeMaps.setBlock], fun k hk => Go.ChangeMaps.heap_setBlock_other hb _ hk⟩
noncomputable def updL (G : Lit → Option Value) (l : Lit) (v : Option Value) : Lit → Option Value := fun k => open Classical in if k = l then v else G k
theorem updL_same (G : Lit → Option Value) (l : Lit) (v : Option Value) : updL G l v l = v := by simp [updL]
theorem updL_other (G : Lit → Option Value) {l k : Lit} (v : Option Value) (h : k ≠ l) : updL G l v k = G k := by simp [updL, h]
theorem Mp.store {w : World} {K e t : TypeId} {b n : Nat} {G : Lit → Option Value} (h : Mp w K b n G) (hK : Keyed Tryd.prog K) (ht : Tryd.prog.underlying t = some (.map K e)) (hn : n < 2147483648) {key val : Value} {l : Lit} (hkey : keyOf Tryd.prog K key = some l) :
    ∃ w', (Instr.mapUpdate t (.map (some b)) key val).run Tryd.prog w = .ok () w' ∧ Mp w' K b (if (G l).isSome then n else n + 1) (updL G l (some val)) ∧ Tur w w' b := by
  obtain ⟨D, h1, h2, h3⟩ := h
  obtain ⟨w', hr, ho, hT⟩ := h1.store hK ht (by unfold maxLen; omega) (d := .held val) (ps := []) (val := val) hkey rfl
  have hl := hK.key hkey
  have hsz := size_put (k := l) (h1.tidy hK) (.held val)
  have hh : Maps.has D l = (G l).isSome := by
    cases hg : G l with
    | none => exact (h3 l).1 hg
    | some v => exact ((h3 l).2 v hg).1
  rw [hh, h2] at hsz
  refine ⟨w', hr, ⟨D.put l (.held val), ?_, hsz, fun k => ?_⟩, Tur.of hT⟩
  · obtain ⟨es, clock, a1, a2, a3, a4⟩ := ho
    refine ⟨es, clock, a1, a2, ?_, a4⟩
    have : Maps.size (D.put l (.held val)) = es.size := by rw [a4]; simp [Maps.size, length_sorted]
    rw [← hsz, this]; exact Nat.le_refl _
  · by_cases hk : k = l
    · subst hk
      refine ⟨fun h => ?_, fun v hv => ?_⟩
      · rw [updL_same] at h; cases h
      · rw [updL_same] at hv
        cases hv
        exact ⟨has_put_same h1.isMap hl _, fun z => atKey_put_same h1.isMap hl _ z⟩
    · refine ⟨fun h => ?_, fun v hv => ?_⟩
      · rw [updL_other _ _ hk] at h
        rw [has_put_other hk]; exact (h3 k).1 h
      · rw [updL_other _ _ hk] at hv
        refine ⟨by rw [has_put_other hk]; exact ((h3 k).2 v hv).1, fun z => ?_⟩
        rw [atKey_put_other hk]; exact ((h3 k).2 v hv).2 z
theorem Mp.drop {w : World} {K e t : TypeId} {b n : Nat} {G : Lit → Option Value} (h : Mp w K b n G) (hK : Keyed Tryd.prog K) (ht : Tryd.prog.underlying t = some (.map K e)) {key : Value} {l : Lit} (hkey : keyOf Tryd.prog K key = some l) (ty : TypeId) :
    ∃ w', (Builtin.delete_ #[t, K] ty #[.map (some b), key]).run Tryd.prog w = .ok (.tuple #[]) w' ∧ Mp w' K b (if (G l).isSome then n - 1 else n) (updL G l none) ∧ Tur w w' b := by
  obtain ⟨D, h1, h2, h3⟩ := h
  obtain ⟨w', hr, ho, hT⟩ := h1.drop hK ht hkey ty
  have hsz := size_del (k := l) (h1.tidy hK)
  have hh : Maps.has D l = (G l).isSome := by
    cases hg : G l with
    | none => exact (h3 l).1 hg
    | some v => exact ((h3 l).2 v hg).1
  rw [hh, h2] at hsz
  have hs2 : Maps.size (D.del l) = if (G l).isSome then n - 1 else n := by
    split <;> rename_i hc <;> simp [hc] at hsz <;> omega
  refine ⟨w', hr, ⟨D.del l, ?_, hs2, fun k => ?_⟩, Tur.of hT⟩
  · obtain ⟨es, clock, a1, a2, a3, a4⟩ := ho
    refine ⟨es, clock, a1, a2, ?_, a4⟩
    have : Maps.size (D.del l) = es.size := by rw [a4]; simp [Maps.size, length_sorted]
    rw [← hs2, this]; exact Nat.le_refl _
  · by_cases hk : k = l
    · subst hk
      refine ⟨fun _ => has_del_same, fun v hv => ?_⟩
      rw [updL_same] at hv; cases hv
    · refine ⟨fun h => ?_, fun v hv => ?_⟩
      · rw [updL_other _ _ hk] at h
        rw [has_del_other hk]; exact (h3 k).1 h
      · rw [updL_other _ _ hk] at hv
        refine ⟨by rw [has_del_other hk]; exact ((h3 k).2 v hv).1, fun z => ?_⟩
        rw [atKey_del_other hk]; exact ((h3 k).2 v hv).2 z
theorem Mp.len {w : World} {K e t : TypeId} {b n : Nat} {G : Lit → Option Value} (h : Mp w K b n G) (ht : Tryd.prog.underlying t = some (.map K e)) (ty : TypeId) : (Builtin.len_ #[t] ty #[.map (some b)]).run Tryd.prog w = .ok (.int .i64 (n : Nat)) w := by
  obtain ⟨D, h1, h2, h3⟩ := h
  rw [h1.len ht ty, h2]
/-- A look-up as a step of a region that draws its order. -/
theorem stepLook {ops : Array Oper} {o : Oper} {a : Act} {w : World} {Kt : Act → World → Prop} {Q : Exit → Act → World → Prop} {E : Prop} (m x : Operand) (t : TypeId) (hop : o.op = .lookup t m x false) (hgd : o.guard = none)
    {K e : TypeId} {b n : Nat} {G : Lit → Option Value} {z key : Value} {l : Lit} (hm : a.eval m = .map (some b)) (hx : a.eval x = key) (h : Mp w K b n G) (hK : Keyed Tryd.prog K) (ht : Tryd.prog.underlying t = some (.map K e)) (hz : (zeroValue e).run Tryd.prog w = .ok z w) (hkey : keyOf Tryd.prog K key = some l)
    (hk : Kt (a.put o.dst ((G l).getD z)) w) : if Region.wanted o (yielded ops a.tmps) = true then Oper.wp Tryd.prog o a w Kt Q else E := by
  have hw : Region.wanted o (yielded ops a.tmps) = true := by simp [Region.wanted, hgd]
  rw [if_pos hw]
  unfold Oper.wp
  simp [execOp, hop, hm, hx, h.look hK ht hz hkey, Result.andThen]
  exact hk
/-- A store into a map as such a step. -/
theorem stepStore {ops : Array Oper} {o : Oper} {a : Act} {w : World} {Kt : Act → World → Prop} {Q : Exit → Act → World → Prop} {E : Prop} (m x y : Operand) (t : TypeId) (hop : o.op = .mapUpdate t m x y) (hgd : o.guard = none)
    {K e : TypeId} {b n : Nat} {G : Lit → Option Value} {key val : Value} {l : Lit} (hm : a.eval m = .map (some b)) (hx : a.eval x = key) (hy : a.eval y = val) (h : Mp w K b n G) (hK : Keyed Tryd.prog K) (ht : Tryd.prog.underlying t = some (.map K e)) (hn : n < 2147483648) (hkey : keyOf Tryd.prog K key = some l)
    (hk : ∀ w', Mp w' K b (if (G l).isSome then n else n + 1) (updL G l (some val)) → Tur w w' b → Kt (a.put o.dst undef) w') : if Region.wanted o (yielded ops a.tmps) = true then Oper.wp Tryd.prog o a w Kt Q else E := by
  have hw : Region.wanted o (yielded ops a.tmps) = true := by simp [Region.wanted, hgd]
  rw [if_pos hw]
  obtain ⟨w', hr, h1, h2⟩ := h.store (val := val) hK ht hn hkey
  unfold Oper.wp
  simp [execOp, hop, hm, hx, hy, hr, Result.andThen]
  exact hk w' h1 h2
end Go.Proofs.YtggbokghhohofaaDoor
