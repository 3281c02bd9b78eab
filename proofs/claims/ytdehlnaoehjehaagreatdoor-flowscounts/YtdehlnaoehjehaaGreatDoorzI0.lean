/-
  Proved here: a header (a match) that comes in is eleven (twenty-two) numbers below 2 to 64, and reads again as it did. No condition.
-/
/-
  Proved here: headers as keys of maps (kl); a map by what it holds at each key (Mp): made, looked up, stored into, an entry dropped, its length. Condition where it is named: fewer than 2 to 31 entries.
-/
/-
  Laws of our own for slices.Insert and slices.Delete: a copy in a region that does not draw; three pieces put one behind the other. Conditions: the cells are there.
-/
import Derived.Test.YtdehlnaoehjehaaGreatDoorzX0
import Derived.ProofKit
import Derived.OpenShut
import Derived.ChangeSame
import Derived.LaidMore
import Derived.Deep.DeepHandedRow
import Derived.Maps.OwnSet
import Derived.Maps.RangeWalk
import Derived.MapViews
import Derived.DeepKeys4
import Derived.Lib.Overlaps
import Derived.Lib.AppendZerosOnto
import Derived.Lib.SliceRun
import Derived.Laws.Externs
namespace Go.Proofs.YtdehlnaoehjehaaGreatDoor
set_option maxRecDepth 100000
open Go.ChangeShapes Go.WideShapes Go.ChangeAt Go.RowKit

theorem cellsU : Tryz.prog.cellsOf 28 = 1 := by kernel_rfl
theorem cellsH : Tryz.prog.cellsOf 30 = 11 := by kernel_rfl
theorem cellsM : Tryz.prog.cellsOf 32 = 22 := by kernel_rfl
def hd {H : Type} (h : Nat → Int) : DataW H := .agg ((List.range 11).map fun k => .lit (.int .u64 (h k)))
def md {H : Type} (m : Nat → Int) : DataW H := .agg [hd m, hd fun k => m (11 + k)]
theorem hd_congr {H : Type} {a b : Nat → Int} (h : ∀ k, k < 11 → a k = b k) : (hd a : DataW H) = hd b := by
  unfold hd
  rw [List.map_congr_left fun k hk => by rw [h k (List.mem_range.1 hk)]]
theorem mapM_all {α β : Type} {f : α → Option β} {g : α → β} : ∀ l : List α, (∀ i ∈ l, f i = some (g i)) → l.mapM f = some (l.map g)
  | [], _ => by simp
  | i :: l, h => by simp [h i (by simp), mapM_all l fun j hj => h j (by simp [hj])]
/-- Every number is one of 64 bits. -/
def Wf (h : Nat → Int) : Prop := ∀ k, (Lit.int .u64 (h k)).wf = true
theorem zero_wf : (Lit.int .u64 0).wf = true := by simp [Lit.wf, IntKind.min, IntKind.max, IntKind.signed, IntKind.bits]

section
variable {H : Type} {enc : TypeId × Value → H} {W : World} {base : Nat} {sp : Nat → Bool} {held : Bool}
/-- Eleven cells that read as an array of eleven numbers. -/
theorem open_arr {fuel : Nat} {cs : List Value} {x : DataW H × List MemPlace} (hf : DataW.trod enc Tryz.prog W base sp held fuel 30 cs = some x) :
    ∃ h : Nat → Int, cs.toArray = row 11 h ∧ x = (hd h, []) ∧ Wf h := by
  obtain ⟨xs, m, rfl, hx, hl, hn, hel⟩ := DataW.trod_array Tryz.underlying30 hf
  rw [cellsH] at hl
  have key : ∀ k, k < 11 → ∃ n : Int, cs[k]? = some (.int .u64 n) ∧ xs[k]? = some (.lit (.int .u64 n), []) ∧ (Lit.int .u64 n).wf = true := by
    intro k hk
    have h1 := hel k hk
    rw [cellsU, Nat.mul_one] at h1
    have hkx : k < xs.length := by omega
    rw [List.getElem?_eq_getElem hkx] at h1
    obtain ⟨n, e1, e2, wn⟩ := DataW.trod_int Tryz.underlying28 h1
    refine ⟨n, ?_, ?_, wn⟩
    · have := congrArg (·[0]?) e1
      simpa [List.getElem?_take, List.getElem?_drop] using this
    · rw [List.getElem?_eq_getElem hkx, e2]
  have hall : ∃ h : Nat → Int, ∀ k, (k < 11 → cs[k]? = some (.int .u64 (h k)) ∧ xs[k]? = some (.lit (.int .u64 (h k)), [])) ∧ (Lit.int .u64 (h k)).wf = true := by
    refine ⟨fun k => if hk : k < 11 then (key k hk).choose else 0, fun k => ?_⟩
    by_cases hk : k < 11
    · simp only [hk, dite_true, forall_const]
      obtain ⟨a, b, c⟩ := (key k hk).choose_spec
      exact ⟨⟨a, b⟩, c⟩
    · simp [hk, zero_wf]
  obtain ⟨h, hh⟩ := hall
  have hxs : xs = (List.range 11).map fun k => (.lit (.int .u64 (h k)), []) := by
    apply List.ext_getElem?
    intro k
    by_cases hk : k < 11
    · rw [((hh k).1 hk).2]; simp [hk]
    · rw [List.getElem?_eq_none (by omega), List.getElem?_eq_none (by simp; omega)]
  refine ⟨h, row_ext (by simp [hl]) fun k hk => by simpa using ((hh k).1 hk).1, ?_, fun k => (hh k).2⟩
  rw [hx, hxs]
  simp [hd, List.range_succ]
theorem shut_arr (m : Nat) (h : Nat → Int) (hwf : Wf h) : DataW.trod enc Tryz.prog W base sp held (m + 2) 30 (row 11 h).toList = some (hd h, []) := by
  have e : ∀ k, k < 11 → DataW.trod enc Tryz.prog W base sp held (m + 1) 28 (((row 11 h).toList.drop (k * Tryz.prog.cellsOf 28)).take (Tryz.prog.cellsOf 28)) = some (.lit (.int .u64 (h k)), []) := by
    intro k hk
    have hc : ((row 11 h).toList.drop (k * Tryz.prog.cellsOf 28)).take (Tryz.prog.cellsOf 28) = [.int .u64 (h k)] := by
      rw [cellsU, Nat.mul_one]
      have h1 := row_at 11 h k hk
      have hlt : k < (row 11 h).toList.length := by simp [row_size, hk]
      rw [List.drop_eq_getElem_cons hlt]
      have h2 : (row 11 h).toList[k]? = some (.int .u64 (h k)) := by simpa using h1
      rw [List.getElem?_eq_getElem hlt] at h2
      rw [Option.some.inj h2]
      rfl
    rw [hc]
    exact trod_int_mk m Tryz.underlying28 (hwf k)
  unfold DataW.trod
  rw [Tryz.underlying30]
  have hl : (row 11 h).toList.length = Tryz.prog.cellsOf 30 := by rw [cellsH]; simp [row_size]
  simp only [hl, if_true]
  have hm : (List.range 11).mapM (fun i => DataW.trod enc Tryz.prog W base sp held (m + 1) 28 (((row 11 h).toList.drop (i * Tryz.prog.cellsOf 28)).take (Tryz.prog.cellsOf 28))) = some ((List.range 11).map fun k => (.lit (.int .u64 (h k)), [])) := by
    exact mapM_all _ fun k hk => e k (List.mem_range.1 hk)
  rw [hm]
  simp [hd, List.range_succ]

set_option maxRecDepth 100000 in
/-- A HEADER THAT CAME IN. -/
theorem open_hdr {r : Reach} {b0 : Nat} {v : Value} {d : DataW H} {p : List MemPlace} (hv0 : Value.okWide Tryz.prog W r b0 30 v) (h0 : DataW.Trod enc Tryz.prog W base sp held 30 v d p) :
    ∃ h : Nat → Int, v = hv h ∧ d = hd h ∧ p = [] ∧ Wf h := by
  obtain ⟨cs, rfl, hsz, _⟩ : ∃ cs, v = .agg cs ∧ cs.size = Tryz.prog.cellsOf 30 ∧ Row.okWide Tryz.prog W r b0 30 cs := by
    simpa [Value.okWide, Tryz.underlying30] using hv0
  obtain ⟨fuel, hf⟩ := h0
  obtain ⟨h, hcs, hx, hwf⟩ := open_arr hf
  simp only [Prod.mk.injEq] at hx
  refine ⟨h, ?_, hx.1, hx.2, hwf⟩
  have : cs = row 11 h := by simpa [Value.cells] using hcs
  rw [this]
theorem shut_hdr (h : Nat → Int) (hwf : Wf h) : DataW.Trod enc Tryz.prog W base sp held 30 (hv h) (hd h) [] :=
  ⟨2, by simpa [Value.cells] using shut_arr 0 h hwf⟩

set_option maxRecDepth 100000 in
/-- A MATCH THAT CAME IN. -/
theorem open_match {r : Reach} {b0 : Nat} {v : Value} {d : DataW H} {p : List MemPlace} (hv0 : Value.okWide Tryz.prog W r b0 32 v) (h0 : DataW.Trod enc Tryz.prog W base sp held 32 v d p) :
    ∃ m : Nat → Int, v = mv m ∧ d = md m ∧ p = [] ∧ Wf m := by
  obtain ⟨cs, rfl, hsz, _⟩ : ∃ cs, v = .agg cs ∧ cs.size = Tryz.prog.cellsOf 32 ∧ Row.okWide Tryz.prog W r b0 32 cs := by
    simpa [Value.okWide, Tryz.underlying32] using hv0
  obtain ⟨fuel, hf⟩ := h0
  obtain ⟨y0, y1, n, hx, hl, e0, e1⟩ := trod_struct2 Tryz.underlying32 hf
  obtain ⟨a, ca, ha, wa⟩ := open_arr e0
  obtain ⟨b, cb, hb, wb⟩ := open_arr e1
  rw [cellsM] at hsz
  simp only [Prod.mk.injEq, ha, hb] at hx
  refine ⟨fun k => if k < 11 then a k else b (k - 11), ?_, ?_, hx.2, fun k => ?_⟩
  · have : cs = row 22 fun k => if k < 11 then a k else b (k - 11) := by
      refine row_ext hsz fun k hk => ?_
      by_cases h : k < 11
      · have := row_at 11 a k h
        rw [← ca, cellsH] at this
        rw [if_pos h, ← this]
        simp [Value.cells, h]
      · have := row_at 11 b (k - 11) (by omega)
        rw [← cb, cellsH] at this
        rw [if_neg h, ← this]
        simp [Value.cells, List.getElem?_drop, show k - 11 < 11 by omega, show 11 + (k - 11) = k by omega]
    rw [this]
  · rw [hx.1]
    have e1 : (hd a : DataW H) = hd fun k => if k < 11 then a k else b (k - 11) := hd_congr fun k hk => by rw [if_pos hk]
    have e2 : (hd b : DataW H) = hd fun k => if 11 + k < 11 then a (11 + k) else b (11 + k - 11) := hd_congr fun k _ => by rw [if_neg (by omega), show 11 + k - 11 = k by omega]
    unfold md
    rw [e1, e2]
  · by_cases h : k < 11
    · simp only [h, if_true]; exact wa k
    · simp only [h, if_false]; exact wb _
theorem shut_match (m : Nat → Int) (hwf : Wf m) : DataW.Trod enc Tryz.prog W base sp held 32 (mv m) (md m) [] := by
  refine ⟨3, ?_⟩
  have t1 : ((row 22 m).toList.drop 0).take 11 = (row 11 m).toList := by
    have : (((row 22 m).toList.drop 0).take 11).toArray = row 11 m := row_ext (by simp [row_size]) fun k hk => by
      have := row_at 22 m k (by omega)
      simp [hk, this]
    rw [← this]
  have t2 : ((row 22 m).toList.drop 11).take 11 = (row 11 fun k => m (11 + k)).toList := by
    have : (((row 22 m).toList.drop 11).take 11).toArray = row 11 fun k => m (11 + k) := row_ext (by simp [row_size]) fun k hk => by
      have := row_at 22 m (11 + k) (by omega)
      simp [List.getElem?_drop, hk, this]
    rw [← this]
  have q1 : DataW.trod enc Tryz.prog W base sp held 2 30 (((row 22 m).toList.drop 0).take (Tryz.prog.cellsOf 30)) = some (hd m, []) := by
    rw [cellsH, t1]; exact shut_arr 0 m hwf
  have q2 : DataW.trod enc Tryz.prog W base sp held 2 30 (((row 22 m).toList.drop 11).take (Tryz.prog.cellsOf 30)) = some (hd fun k => m (11 + k), []) := by
    rw [cellsH, t2]; exact shut_arr 0 _ (fun k => hwf (11 + k))
  have := trod_struct2_mk (enc := enc) (w := W) (base := base) (spare := sp) (held := held) (n := 2) (cs := (row 22 m).toList) (y0 := (hd m, [])) (y1 := (hd fun k => m (11 + k), [])) Tryz.underlying32 (by rw [cellsM]; simp [row_size]) q1 q2
  simpa [Value.cells, md] using this
end
theorem Wf.bd {h : Nat → Int} (hwf : Wf h) : ∀ k, 0 ≤ h k ∧ h k < 18446744073709551616 := fun k => by
  have := bounds_u64 (hwf k); omega
end Go.Proofs.YtdehlnaoehjehaaGreatDoor
namespace Go.Proofs.YtdehlnaoehjehaaGreatDoor
set_option maxRecDepth 100000
open Go.RowKit Go.Maps

theorem lawH : Keyed Tryz.prog 30 := Keyed.of_law (deep_law_laid (m := 3) (by kernel_rfl) (by decide) (of_decide_eq_true (by kernel_rfl)) (by kernel_rfl) (by kernel_rfl))
theorem lawI : Keyed Tryz.prog 3 := int_keyed Tryz.underlying3
/-- A header's key. -/
noncomputable def kl (h : Nat → Int) : Lit := (keyOf Tryz.prog 30 (hv h)).getD (.bool false)
set_option maxRecDepth 100000 in
theorem key_h {h : Nat → Int} (hw : Wf h) : keyOf Tryz.prog 30 (hv h) = some (kl h) := by
  have hf : (hv h).formed Tryz.prog 30 = true := by
    simp [Value.formed, Tryz.underlying30, cellsH, row_size]
  have := (keyOf_asKey (enc := fun _ => ()) (w := default) (base := 0) (sp := fun _ => true) (held := true) (by kernel_rfl) (by rw [Tryz.underlying30]) hf (shut_hdr h hw)).1
  unfold kl
  rw [this]; rfl
set_option maxRecDepth 100000 in
theorem kl_inj {a b : Nat → Int} (ha : Wf a) (hb : Wf b) (h : kl a = kl b) : ∀ k, k < 11 → a k = b k := by
  have e := lawH.inj (key_h ha) (h ▸ key_h hb)
  intro k hk
  have e' : row 11 a = row 11 b := by simpa using e
  have h1 := row_at 11 a k hk
  rw [e', row_at 11 b k hk] at h1
  simpa using h1.symm
theorem kl_congr {a b : Nat → Int} (h : ∀ k, k < 11 → a k = b k) : kl a = kl b := by
  unfold kl; rw [show hv a = hv b by unfold hv; rw [row_congr h]]
theorem key_i {n : Int} (h : (Lit.int .i64 n).wf = true) : keyOf Tryz.prog 3 (.int .i64 n) = some (.int .i64 n) := keyOf_int_mk Tryz.underlying3 h

/-- An element reads as itself. -/
def tok (v : Value) : Option (DataW Value × List MemPlace) := some (.held v, [])
/-- Block b is a map; G: what it holds at a key; n: how many keys there are. -/
def Mp (w : World) (K : TypeId) (b n : Nat) (G : Lit → Option Value) : Prop :=
  ∃ D : DataW Value, w.ownsMap Tryz.prog K tok b n D ∧ Maps.size D = n ∧ ∀ l, (G l = none → Maps.has D l = false) ∧ ∀ v, G l = some v → Maps.has D l = true ∧ ∀ z, D.atKey l z = .held v
theorem Mp.new (w : World) (K : TypeId) : Mp (w.alloc (.map #[] 0)) K w.heap.size 0 (fun _ => none) :=
  ⟨.map [], World.ownsMap_made _ _ _ _, rfl, fun l => ⟨fun _ => rfl, fun _ h => by cases h⟩⟩
theorem Mp.carry {w w' : World} {K : TypeId} {b n : Nat} {G : Lit → Option Value} (h : Mp w K b n G) (hb : w'.heap[b]? = w.heap[b]?) : Mp w' K b n G := by
  obtain ⟨D, ⟨es, clock, h1, h2⟩, h3⟩ := h
  exact ⟨D, ⟨es, clock, hb.trans h1, h2⟩, h3⟩
theorem Mp.lt {w : World} {K : TypeId} {b n : Nat} {G : Lit → Option Value} (h : Mp w K b n G) : b < w.heap.size := by
  obtain ⟨D, h1, _⟩ := h
  exact h1.lt
theorem Mp.empty {w : World} {K : TypeId} {b : Nat} {G : Lit → Option Value} (h : Mp w K b 0 G) (l : Lit) : G l = none := by
  obtain ⟨D, h1, h2, h3⟩ := h
  cases hg : G l with
  | none => rfl
  | some v =>
    have := ((h3 l).2 v hg).1
    obtain ⟨es, rfl⟩ := h1.isMap
    have he : es = [] := List.length_eq_zero_iff.1 h2
    subst he
    cases this
theorem Mp.some_pos {w : World} {K : TypeId} {b n : Nat} {G : Lit → Option Value} (h : Mp w K b n G) {l : Lit} {v : Value} (hg : G l = some v) : 0 < n := by
  rcases Nat.eq_zero_or_pos n with e | e
  · subst e
    rw [h.empty l] at hg; cases hg
  · exact e
theorem Mp.none_zero {w : World} {K : TypeId} {b n : Nat} {G : Lit → Option Value} (h : Mp w K b n G) (hK : Keyed Tryz.prog K) (hg : ∀ l, G l = none) : n = 0 := by
  obtain ⟨D, h1, h2, h3⟩ := h
  obtain ⟨es, rfl, -, hk⟩ := h1.entries hK
  cases es with
  | nil => exact h2.symm
  | cons p es =>
    have := (h3 p.1).1 (hg p.1)
    rw [has_eq, List.any_cons, WideAt.sameKey_self (hk p (List.mem_cons_self ..))] at this
    cases this
theorem Mp.look {w : World} {K e t : TypeId} {b n : Nat} {G : Lit → Option Value} (h : Mp w K b n G) (hK : Keyed Tryz.prog K) (ht : Tryz.prog.underlying t = some (.map K e)) {z key : Value} {l : Lit} (hz : (zeroValue e).run Tryz.prog w = .ok z w) (hkey : keyOf Tryz.prog K key = some l) :
    (Instr.lookup t (.map (some b)) key false).run Tryz.prog w = .ok ((G l).getD z) w := by
  obtain ⟨D, h1, h2, h3⟩ := h
  obtain ⟨v, ps, hr, hv⟩ := h1.lookup hK ht hz (zd := .held z) (zp := []) rfl hkey
  rw [hr]
  cases hg : G l with
  | none =>
    have hn := (h3 l).1 hg
    rw [atKey_of_not_has hn] at hv
    simp only [tok, Option.some.injEq, Prod.mk.injEq, DataW.held.injEq] at hv
    rw [hv.1]; rfl
  | some x =>
    rw [((h3 l).2 x hg).2] at hv
    simp only [tok, Option.some.injEq, Prod.mk.injEq, DataW.held.injEq] at hv
    rw [hv.1]; rfl
theorem Mp.look_ok {w : World} {K e t : TypeId} {b n : Nat} {G : Lit → Option Value} (h : Mp w K b n G) (hK : Keyed Tryz.prog K) (ht : Tryz.prog.underlying t = some (.map K e)) {z key : Value} {l : Lit} (hz : (zeroValue e).run Tryz.prog w = .ok z w) (hkey : keyOf Tryz.prog K key = some l) :
    (Instr.lookup t (.map (some b)) key true).run Tryz.prog w = .ok (.tuple #[(G l).getD z, .bool (G l).isSome]) w := by
  obtain ⟨D, h1, h2, h3⟩ := h
  obtain ⟨v, ps, hr, hv⟩ := h1.look_ok hK ht hz (zd := .held z) (zp := []) rfl hkey
  rw [hr]
  cases hg : G l with
  | none =>
    have hn := (h3 l).1 hg
    rw [atKey_of_not_has hn] at hv
    simp only [tok, Option.some.injEq, Prod.mk.injEq, DataW.held.injEq] at hv
    rw [hv.1, hn]; rfl
  | some x =>
    rw [((h3 l).2 x hg).2] at hv
    simp only [tok, Option.some.injEq, Prod.mk.injEq, DataW.held.injEq] at hv
    rw [hv.1, ((h3 l).2 x hg).1]; rfl
/-- A world but for the entries of a map. -/
structure Tur (w w' : World) (b : Nat) : Prop where
  os : w'.os = w.os
  tape : w'.tape = w.tape
  output : w'.output = w.output
  size : w'.heap.size = w.heap.size
  block : ∀ k, k ≠ b → w'.heap[k]? = w.heap[k]?
theorem Tur.of {w w' : World} {b : Nat} (h : w.mapTurned w' b) : Tur w w' b := by
  obtain ⟨es, clock, es', clock', hb, rfl⟩ := h
  exact ⟨rfl, rfl, rfl, by simp [Go.ChangeMaps.setBlock], fun k hk => Go.ChangeMaps.heap_setBlock_other hb _ hk⟩
noncomputable def updL (G : Lit → Option Value) (l : Lit) (v : Option Value) : Lit → Option Value := fun k => open Classical in if k = l then v else G k
theorem updL_same (G : Lit → Option Value) (l : Lit) (v : Option Value) : updL G l v l = v := by simp [updL]
theorem updL_other (G : Lit → Option Value) {l k : Lit} (v : Option Value) (h : k ≠ l) : updL G l v k = G k := by simp [updL, h]
theorem Mp.store {w : World} {K e t : TypeId} {b n : Nat} {G : Lit → Option Value} (h : Mp w K b n G) (hK : Keyed Tryz.prog K) (ht : Tryz.prog.underlying t = some (.map K e)) (hn : n < 2147483648) {key val : Value} {l : Lit} (hkey : keyOf Tryz.prog K key = some l) :
    ∃ w', (Instr.mapUpdate t (.map (some b)) key val).run Tryz.prog w = .ok () w' ∧ Mp w' K b (if (G l).isSome then n else n + 1) (updL G l (some val)) ∧ Tur w w' b := by
  obtain ⟨D, h1, h2, h3⟩ := h
  obtain ⟨w', hr, ho, hT⟩ := h1.store hK ht (by unfold maxLen; omega) (d := .held val) (ps := []) (val := val) hkey rfl
  have hl := hK.key hkey
  have hsz := size_put (k := l) (h1.tidy hK) (.held val)
  have hh : Maps.has D l = (G l).isSome := by
    cases hg : G l with
    | none => exact (h3 l).1 hg
    | some v => exact ((h3 l).2 v hg).1
  rw [hh, h2] at hsz
  refine ⟨w', hr, ⟨D.put l (.held val), ?_, hsz, fun k => ?_⟩, Tur.of hT⟩
  · obtain ⟨es, clock, a1, a2, a3, a4⟩ := ho
    refine ⟨es, clock, a1, a2, ?_, a4⟩
    have : Maps.size (D.put l (.held val)) = es.size := by rw [a4]; simp [Maps.size, length_sorted]
    rw [← hsz, this]; exact Nat.le_refl _
  · by_cases hk : k = l
    · subst hk
      refine ⟨fun h => ?_, fun v hv => ?_⟩
      · rw [updL_same] at h; cases h
      · rw [updL_same] at hv
        cases hv
        exact ⟨has_put_same h1.isMap hl _, fun z => atKey_put_same h1.isMap hl _ z⟩
    · refine ⟨fun h => ?_, fun v hv => ?_⟩
      · rw [updL_other _ _ hk] at h
        rw [has_put_other hk]; exact (h3 k).1 h
      · rw [updL_other _ _ hk] at hv
        refine ⟨by rw [has_put_other hk]; exact ((h3 k).2 v hv).1, fun z => ?_⟩
        rw [atKey_put_other hk]; exact ((h3 k).2 v hv).2 z
theorem Mp.drop {w : World} {K e t : TypeId} {b n : Nat} {G : Lit → Option Value} (h : Mp w K b n G) (hK : Keyed Tryz.prog K) (ht : Tryz.prog.underlying t = some (.map K e)) {key : Value} {l : Lit} (hkey : keyOf Tryz.prog K key = some l) (ty : TypeId) :
    ∃ w', (Builtin.delete_ #[t, K] ty #[.map (some b), key]).run Tryz.prog w = .ok (.tuple #[]) w' ∧ Mp w' K b (if (G l).isSome then n - 1 else n) (updL G l none) ∧ Tur w w' b := by
  obtain ⟨D, h1, h2, h3⟩ := h
  obtain ⟨w', hr, ho, hT⟩ := h1.drop hK ht hkey ty
  have hsz := size_del (k := l) (h1.tidy hK)
  have hh : Maps.has D l = (G l).isSome := by
    cases hg : G l with
    | none => exact (h3 l).1 hg
    | some v => exact ((h3 l).2 v hg).1
  rw [hh, h2] at hsz
  have hs2 : Maps.size (D.del l) = if (G l).isSome then n - 1 else n := by
    split <;> rename_i hc <;> simp [hc] at hsz <;> omega
  refine ⟨w', hr, ⟨D.del l, ?_, hs2, fun k => ?_⟩, Tur.of hT⟩
  · obtain ⟨es, clock, a1, a2, a3, a4⟩ := ho
    refine ⟨es, clock, a1, a2, ?_, a4⟩
    have : Maps.size (D.del l) = es.size := by rw [a4]; simp [Maps.size, length_sorted]
    rw [← hs2, this]; exact Nat.le_refl _
  · by_cases hk : k = l
    · subst hk
      refine ⟨fun _ => has_del_same, fun v hv => ?_⟩
      rw [updL_same] at hv; cases hv
    · refine ⟨fun h => ?_, fun v hv => ?_⟩
      · rw [updL_other _ _ hk] at h
        rw [has_del_other hk]; exact (h3 k).1 h
      · rw [updL_other _ _ hk] at hv
        refine ⟨by rw [has_del_other hk]; exact ((h3 k).2 v hv).1, fun z => ?_⟩
        rw [atKey_del_other hk]; exact ((h3 k).2 v hv).2 z
theorem Mp.len {w : World} {K e t : TypeId} {b n : Nat} {G : Lit → Option Value} (h : Mp w K b n G) (ht : Tryz.prog.underlying t = some (.map K e)) (ty : TypeId) : (Builtin.len_ #[t] ty #[.map (some b)]).run Tryz.prog w = .ok (.int .i64 (n : Nat)) w := by
  obtain ⟨D, h1, h2, h3⟩ := h
  rw [h1.len ht ty, h2]
/-- A look-up as a step of a region that draws its order. -/
theorem stepLook {ops : Array Oper} {o : Oper} {a : Act} {w : World} {Kt : Act → World → Prop} {Q : Exit → Act → World → Prop} {E : Prop} (m x : Operand) (t : TypeId) (hop : o.op = .lookup t m x false) (hgd : o.guard = none)
    {K e : TypeId} {b n : Nat} {G : Lit → Option Value} {z key : Value} {l : Lit} (hm : a.eval m = .map (some b)) (hx : a.eval x = key) (h : Mp w K b n G) (hK : Keyed Tryz.prog K) (ht : Tryz.prog.underlying t = some (.map K e)) (hz : (zeroValue e).run Tryz.prog w = .ok z w) (hkey : keyOf Tryz.prog K key = some l)
    (hk : Kt (a.put o.dst ((G l).getD z)) w) : if Region.wanted o (yielded ops a.tmps) = true then Oper.wp Tryz.prog o a w Kt Q else E := by
  have hw : Region.wanted o (yielded ops a.tmps) = true := by simp [Region.wanted, hgd]
  rw [if_pos hw]
  unfold Oper.wp
  simp [execOp, hop, hm, hx, h.look hK ht hz hkey, Result.andThen]
  exact hk
/-- A store into a map as such a step. -/
theorem stepStore {ops : Array Oper} {o : Oper} {a : Act} {w : World} {Kt : Act → World → Prop} {Q : Exit → Act → World → Prop} {E : Prop} (m x y : Operand) (t : TypeId) (hop : o.op = .mapUpdate t m x y) (hgd : o.guard = none)
    {K e : TypeId} {b n : Nat} {G : Lit → Option Value} {key val : Value} {l : Lit} (hm : a.eval m = .map (some b)) (hx : a.eval x = key) (hy : a.eval y = val) (h : Mp w K b n G) (hK : Keyed Tryz.prog K) (ht : Tryz.prog.underlying t = some (.map K e)) (hn : n < 2147483648) (hkey : keyOf Tryz.prog K key = some l)
    (hk : ∀ w', Mp w' K b (if (G l).isSome then n else n + 1) (updL G l (some val)) → Tur w w' b → Kt (a.put o.dst undef) w') : if Region.wanted o (yielded ops a.tmps) = true then Oper.wp Tryz.prog o a w Kt Q else E := by
  have hw : Region.wanted o (yielded ops a.tmps) = true := by simp [Region.wanted, hgd]
  rw [if_pos hw]
  obtain ⟨w', hr, h1, h2⟩ := h.store (val := val) hK ht hn hkey
  unfold Oper.wp
  simp [execOp, hop, hm, hx, hy, hr, Result.andThen]
  exact hk w' h1 h2
end Go.Proofs.YtdehlnaoehjehaaGreatDoor
namespace Go.Proofs.YtdehlnaoehjehaaGreatDoor
set_option maxRecDepth 100000
open Go.RowKit

theorem opCopy {ops : Array Oper} {rest : List Oper} {o : Oper} {a : Act} {w : World} {Q : Exit → Act → World → Prop} (hw : Region.wanted o (yielded ops a.tmps) = true) (d s : Operand) (dT sT : TypeId)
    (ho : o.op = .call { callee := .builtin .copy, args := #[d, s], argTypes := #[dT, sT] }) (elem : TypeId) (k b off dLen dCap : Nat) (ad : Addr) (sLen sCap : Nat) (cs : List Value) (hd : a.eval d = .slice (some ⟨b, off, none⟩) dLen dCap) (hs : a.eval s = .slice (some ad) sLen sCap)
    (hu : Tryz.prog.underlying dT = some (.slice elem)) (hsz : (Tryz.prog.info? elem).map (·.size) = some k) (hn : cs.length = Nat.min sLen dLen * k)
    (hsrc : ∀ j v, cs[j]? = some v → w.cell? (ad.add j) = some v) (hc : ∀ j, j < cs.length → (w.cell? ⟨b, off + j, none⟩).isSome = true ∧ w.frozen? ⟨b, off + j, none⟩ = false) (h1 : ∀ v ∈ cs, v.oneCell' = true)
    (h : wpList Tryz.prog ops Q rest (a.put o.dst (goInt (Nat.min sLen dLen))) (w.setCells b off cs)) : wpList Tryz.prog ops Q (o :: rest) a w := by
  unfold wpList
  rw [if_pos hw]
  refine Or.inl ?_
  unfold Oper.wp
  simp [execOp, ho, resolve, invoke, builtin, hd, hs, run_copy_k w dT sT o.type elem k b off dLen dCap ad sLen sCap cs hu hsz hn hsrc (fun j hj => (hc j hj).1) (fun j hj => (hc j hj).2) h1, Result.andThen]
  exact h
theorem drew_setCells (b : Nat) : ∀ (vs : List Value) (o : Nat) (w : World), (w.setCells b o vs).drew = w.drew.setCells b o vs
  | [], _, _ => rfl
  | v :: r, o, w => by rw [World.setCells, World.setCells, drew_setCells b r]; rfl
/-- What stands in three pieces. -/
theorem three {cur : Array Value} {o I K N : Nat} {xs us : List Value} (hx : xs.length = N) (hu : us.length = K) (hI : I ≤ N) (h1 : ∀ j, j < I → cur[o + j]? = xs[j]?) (h2 : ∀ j, j < K → cur[o + I + j]? = us[j]?) (h3 : ∀ j, I ≤ j → j < N → cur[o + K + j]? = xs[j]?) :
    (cur.toList.drop o).take (N + K) = xs.take I ++ us ++ xs.drop I := by
  apply List.ext_getElem?
  intro j
  have hti : (xs.take I).length = I := by rw [List.length_take]; omega
  rw [List.getElem?_take]
  by_cases hj : j < N + K
  · rw [if_pos hj, List.getElem?_drop, Array.getElem?_toList]
    by_cases ha : j < I
    · rw [h1 j ha, List.append_assoc, List.getElem?_append_left (by omega), List.getElem?_take, if_pos ha]
    · by_cases hb : j < I + K
      · have := h2 (j - I) (by omega)
        rw [show o + I + (j - I) = o + j by omega] at this
        rw [this, List.append_assoc, List.getElem?_append_right (by omega), hti, List.getElem?_append_left (by omega)]
      · have := h3 (j - K) (by omega) (by omega)
        rw [show o + K + (j - K) = o + j by omega] at this
        rw [this, List.getElem?_append_right (by simp only [List.length_append]; omega), List.getElem?_drop]
        congr 1
        simp only [List.length_append]
        omega
  · rw [if_neg hj, List.getElem?_eq_none (by simp only [List.length_append, List.length_drop]; omega)]
/-- What a row is behind a shift and a store, in place. -/
theorem rw_shift {S : Nat → Prop} {k t : Nat} {w : World} {g o n cap i : Nat} {cur : Array Value} {xs us : List Value} (hS : S g) (hx : xs.length = n * k) (h3 : w.heap[g]? = some (.cells cur t (0, 0))) (h4 : n + 1 ≤ cap) (h5 : o + cap * k ≤ cur.size) (h6 : (cur.toList.drop o).take (n * k) = xs) (hi : i ≤ n) (hu : us.length = k) :
    Rw S k t ((w.setCells g (o + (i + 1) * k) (xs.drop (i * k))).setCells g (o + i * k) us) (.slice (some ⟨g, o, none⟩) (n + 1) cap) (n + 1) (xs.take (i * k) ++ us ++ xs.drop (i * k)) ∧ Apd w (.slice (some ⟨g, o, none⟩) n cap) ((w.setCells g (o + (i + 1) * k) (xs.drop (i * k))).setCells g (o + i * k) us) := by
  have hck : (n + 1) * k ≤ cap * k := Nat.mul_le_mul_right _ h4
  have hik : i * k ≤ n * k := Nat.mul_le_mul_right _ hi
  have e1 : (i + 1) * k = i * k + k := Nat.succ_mul i k
  have e2 : (n + 1) * k = n * k + k := Nat.succ_mul n k
  rw [e2] at hck
  rw [e1]
  have hdl : (xs.drop (i * k)).length = n * k - i * k := by rw [List.length_drop, hx]
  obtain ⟨c1, a1, a2, a3, a4, a5, a6⟩ := setCells_all g (xs.drop (i * k)) (o + (i * k + k)) w cur t h3
  obtain ⟨c2, b1, b2, b3, b4, b5, b6⟩ := setCells_all g us (o + i * k) _ c1 t a1
  refine ⟨⟨by rw [e2]; simp only [List.length_append, List.length_take, List.length_drop]; omega, Or.inr ⟨g, o, cap, c2, rfl, hS, b1, h4, by omega, ?_⟩⟩, ⟨b6.os.trans a6.os, b6.tape.trans a6.tape, b6.output.trans a6.output, Nat.le_trans a6.size b6.size, fun j _ hne => ?_⟩⟩
  · rw [e2]
    refine three hx hu hik (fun j hj => ?_) (fun j hj => ?_) (fun j h1 h2 => ?_)
    · rw [b3 (o + j) (by omega), a3 (o + j) (by omega), cells_at h6 (by omega)]
    · exact b4 j (by omega) (by omega)
    · have := a4 (j - i * k) (by omega) (by omega)
      rw [show o + (i * k + k) + (j - i * k) = o + k + j by omega, List.getElem?_drop, show i * k + (j - i * k) = j by omega] at this
      rw [b3 (o + k + j) (by omega), this]
  · have hj : j ≠ g := fun e => hne (by simp [Value.ownBlock, e])
    rw [b5 j hj, a5 j hj]
/-- What a new row is. -/
theorem rw_grown {S : Nat → Prop} {k t : Nat} {w W : World} {v : Value} {n G i : Nat} {ROW : Array Value} {xs us : List Value} (hx : xs.length = n * k) (hW : W = w.drew.alloc (.cells ROW t)) (hR : ∀ j, j < i * k → ROW[j]? = xs[j]?) (hG : n + 1 ≤ G) (hsz : G * k ≤ ROW.size) (hi : i ≤ n) (hu : us.length = k) :
    Rw (fun b => S b ∨ w.heap.size ≤ b) k t ((W.setCells w.heap.size (i * k) us).setCells w.heap.size ((i + 1) * k) (xs.drop (i * k))) (.slice (some ⟨w.heap.size, 0, none⟩) (n + 1) G) (n + 1) (xs.take (i * k) ++ us ++ xs.drop (i * k)) ∧ Apd w v ((W.setCells w.heap.size (i * k) us).setCells w.heap.size ((i + 1) * k) (xs.drop (i * k))) := by
  have hck : (n + 1) * k ≤ G * k := Nat.mul_le_mul_right _ hG
  have hik : i * k ≤ n * k := Nat.mul_le_mul_right _ hi
  have e1 : (i + 1) * k = i * k + k := Nat.succ_mul i k
  have e2 : (n + 1) * k = n * k + k := Nat.succ_mul n k
  rw [e2] at hck
  rw [e1]
  have hdl : (xs.drop (i * k)).length = n * k - i * k := by rw [List.length_drop, hx]
  have h3 : W.heap[w.heap.size]? = some (.cells ROW t (0, 0)) := by rw [hW]; exact heap_alloc_new w.drew _
  obtain ⟨c1, a1, a2, a3, a4, a5, a6⟩ := setCells_all w.heap.size us (i * k) W ROW t h3
  obtain ⟨c2, b1, b2, b3, b4, b5, b6⟩ := setCells_all w.heap.size (xs.drop (i * k)) (i * k + k) _ c1 t a1
  have hB : Below w.heap.size w W := by rw [hW]; exact ((Below.refl _ _).drew).alloc (Nat.le_refl _) _
  refine ⟨⟨by rw [e2]; simp only [List.length_append, List.length_take, List.length_drop]; omega, Or.inr ⟨w.heap.size, 0, G, c2, rfl, Or.inr (Nat.le_refl _), b1, hG, by omega, ?_⟩⟩, ⟨b6.os.trans (a6.os.trans hB.os), b6.tape.trans (a6.tape.trans hB.tape), b6.output.trans (a6.output.trans hB.output), Nat.le_trans hB.size (Nat.le_trans a6.size b6.size), fun j hj _ => ?_⟩⟩
  · rw [e2]
    refine three hx hu hik (fun j hj => ?_) (fun j hj => ?_) (fun j h1 h2 => ?_)
    · rw [Nat.zero_add, b3 j (by omega), a3 j (by omega), hR j hj]
    · rw [Nat.zero_add, b3 (i * k + j) (by omega), a4 j (by omega) (by omega)]
    · have := b4 (j - i * k) (by omega) (by omega)
      rw [show i * k + k + (j - i * k) = 0 + k + j by omega, List.getElem?_drop, show i * k + (j - i * k) = j by omega] at this
      exact this
  · rw [b5 j (by omega), a5 j (by omega), hB.block j hj]
end Go.Proofs.YtdehlnaoehjehaaGreatDoor
