/-
  Proved here: the list of variables of stage 20's rows gives the tables; what came in holds what its cells read as, within the reach of every row. No further condition.
-/
import Derived.Test.YtggbokghhohofaaDoorRows
import Derived.Test.YtggbokghhohofaaDoorCards
import Derived.Test.YtggbokghhohofaaDoorTie
import Derived.Test.YtggbokghhohofaaDoorWA
import Derived.Lib.LaidTab
import Derived.WalkKit
import Derived.ProofKit
import Derived.OpenShut
import Derived.ChangeSame
import Derived.LaidMore
import Derived.LaidLaws
import Derived.Stop.LaidErr
import Derived.Deep.DeepHandedRow
import Derived.Deep.Slices
import Derived.SizedLaws
import Derived.Carry
namespace Go.Proofs.YtggbokghhohofaaDoor
open Go.ChangeShapes Go.WideShapes Go.ChangeAt Go.RowKit Go.Deep
set_option maxRecDepth 100000

theorem own : ownKnob Tryd.prog.godebug = none := by kernel_rfl
theorem laidOut : laidOutB Tryd.prog = true := by kernel_rfl
theorem nNW : Tryd.prog.globalNamed "tollbridge/nodes.widths" = some 0 := by kernel_rfl
theorem nP10 : Tryd.prog.globalNamed "internal/strconv.uint64pow10" = some 1 := by kernel_rfl
theorem n32 : Tryd.prog.globalNamed "math/bits.deBruijn32tab" = some 2 := by kernel_rfl
theorem n64 : Tryd.prog.globalNamed "math/bits.deBruijn64tab" = some 3 := by kernel_rfl
theorem tNW : (Tryd.prog.globals[0]?).map (·.type) = some 83 := by kernel_rfl
theorem tP10 : (Tryd.prog.globals[1]?).map (·.type) = some 125 := by kernel_rfl
theorem cells3 : Tryd.prog.cellsOf 3 = 1 := by kernel_rfl
theorem cellsU : Tryd.prog.cellsOf 33 = 1 := by kernel_rfl
theorem cellsI8 : Tryd.prog.cellsOf 32 = 1 := by kernel_rfl
theorem cellsA20 : Tryd.prog.cellsOf 125 = 20 := by kernel_rfl
theorem cellsCPS : Tryd.prog.cellsOf 31 = 1 := by kernel_rfl
theorem cellsACT : Tryd.prog.cellsOf 54 = 3 := by kernel_rfl
theorem cellsACTS : Tryd.prog.cellsOf 52 = 1 := by kernel_rfl
theorem bytesACT : Tryd.prog.bytesOf 54 = 16 := by kernel_rfl
theorem bytesACTS : Tryd.prog.bytesOf 52 = 24 := by kernel_rfl
theorem powData : (Rows.laid_internal_strconv_uint64pow10 : DataW Unit) = Lib.tabData .u64 Lib.pow10Tab := by kernel_rfl
theorem wdData : (Rows.laid_tollbridge_nodes_widths : DataW Unit) = .agg ((List.range 11).map fun f => .lit (.int .i64 ((wdt f : Nat) : Int))) := by kernel_rfl
section
variable {enc : TypeId × Value → Unit} {W : World} {base : Nat} {sp : Nat → Bool} {held : Bool}
theorem cellI {f : Nat} {t : TypeId} {cs : List Value} {k : IntKind} {n : Int} {q : List MemPlace} (ht : Tryd.prog.underlying t = some (.int k)) (h : DataW.trod enc Tryd.prog W base sp held f t cs = some (.lit (.int k n), q)) : cs = [.int k n] := by
  obtain ⟨m, rfl, hx, -⟩ := DataW.trod_int ht h
  injection hx with h1 h2
  injection h1 with h1
  injection h1 with h1 h3
  rw [h3]
theorem part_at {ds : List (DataW Unit)} {xs : List (DataW Unit × List MemPlace)} {q : List MemPlace} (h : ((DataW.agg ds, q) : DataW Unit × List MemPlace) = (.agg (xs.map (·.1)), xs.flatMap (·.2))) {i : Nat} {d : DataW Unit} (hd : ds[i]? = some d) : ∃ q', xs[i]? = some (d, q') ∧ i < xs.length := by
  injection h with h1 h2
  injection h1 with h1
  rw [h1, List.getElem?_map, Option.map_eq_some_iff] at hd
  obtain ⟨⟨x, y⟩, hx, rfl⟩ := hd
  exact ⟨y, hx, (List.getElem?_eq_some_iff.1 hx).1⟩
theorem arr_at {f n : Nat} {t e : TypeId} {cs : List Value} {ds : List (DataW Unit)} {q : List MemPlace} (ht : Tryd.prog.underlying t = some (.array n e)) (h : DataW.trod enc Tryd.prog W base sp held f t cs = some (.agg ds, q)) {i : Nat} {d : DataW Unit} (hd : ds[i]? = some d) : ∃ m q', DataW.trod enc Tryd.prog W base sp held m e ((cs.drop (i * Tryd.prog.cellsOf e)).take (Tryd.prog.cellsOf e)) = some (d, q') := by
  obtain ⟨xs, m, rfl, hx, -, hn, hel⟩ := DataW.trod_array ht h
  obtain ⟨q', h1, h2⟩ := part_at hx hd
  exact ⟨m, q', (hel i (by omega)).trans h1⟩
end
theorem slot {cs : List Value} {a : Nat} {v : Value} (h : (cs.drop a).take 1 = [v]) : cs[a]? = some v := by
  have := congrArg (·[0]?) h
  simpa [List.getElem?_take, List.getElem?_drop] using this
theorem head_open {n : String} {d : DataW Unit} {r : List (String × DataW Unit)} {W : World} {g : Nat} {t : TypeId} (h : laidMet Tryd.prog ((n, d) :: r) W) (hg : Tryd.prog.globalNamed n = some g) (ht : (Tryd.prog.globals[g]?).map (·.type) = some t) : ∃ (cs : Array Value) (f : Nat) (q : List MemPlace), W.var? Tryd.prog n = some cs ∧ DataW.trod (fun _ => ()) Tryd.prog W 0 (fun _ => true) false f t cs.toList = some (d, q) := by
  obtain ⟨ps, ⟨g0, t0, cs0, f0, p0, q0, hg0, ht0, hv0, hd0, -, -⟩, -, -⟩ := h
  obtain rfl := Option.some.inj (hg.symm.trans hg0)
  obtain rfl := Option.some.inj (ht.symm.trans ht0)
  exact ⟨_, _, _, hv0, hd0⟩
abbrev laidS : List (String × DataW Unit) := [("math/bits.deBruijn32tab", Rows.laid_math_bits_deBruijn32tab), ("math/bits.deBruijn64tab", Rows.laid_math_bits_deBruijn64tab), ("internal/strconv.uint64pow10", Rows.laid_internal_strconv_uint64pow10), ("tollbridge/nodes.widths", Rows.laid_tollbridge_nodes_widths)]
theorem room_at {n : String} {d : DataW Unit} {r : List (String × DataW Unit)} {W : World} {g : Nat} (h : laidMet Tryd.prog ((n, d) :: r) W) (hg : Tryd.prog.globalNamed n = some g) : g < W.heap.size := by
  obtain ⟨ps, ⟨g0, t0, cs0, f0, p0, q0, hg0, ht0, hv0, hd0, -, -⟩, -, -⟩ := h
  have hv := hv0
  unfold World.var? at hv
  rw [hg] at hv
  simp only [Option.bind_some] at hv
  by_cases hz : g < W.heap.size
  · exact hz
  · rw [Array.getElem?_eq_none (by omega)] at hv
    cases hv
theorem room_of_laid {W : World} (h : laidMet Tryd.prog laidS W) : 4 ≤ W.heap.size := by
  have h1 := room_at h n32
  have h2 := room_at h.tail n64
  have h3 := room_at h.tail.tail nP10
  have h4 := room_at h.tail.tail.tail nNW
  omega
theorem wd_of {W : World} {r : List (String × DataW Unit)} (h : laidMet Tryd.prog (("tollbridge/nodes.widths", Rows.laid_tollbridge_nodes_widths) :: r) W) (k : Nat) (hk : k < 11) : W.cell? ⟨0, k, none⟩ = some (.int .i64 ((wdt k : Nat) : Int)) := by
  rw [wdData] at h
  obtain ⟨cs, f, q, hv, hd⟩ := head_open h nNW tNW
  obtain ⟨m, q1, h1⟩ := arr_at Tryd.underlying83 hd (i := k) (d := .lit (.int .i64 ((wdt k : Nat) : Int))) (by simp [hk])
  rw [cells3] at h1
  have c := slot (cellI Tryd.underlying3 h1)
  rw [Nat.mul_one] at c
  exact (World.var?_cell nNW hv _).trans (by simpa using c)
theorem pow_of {W : World} {r : List (String × DataW Unit)} (h : laidMet Tryd.prog (("internal/strconv.uint64pow10", Rows.laid_internal_strconv_uint64pow10) :: r) W) : Pow W.heap.size W := by
  rw [powData] at h
  exact Lib.tabBelow_of_tabIs (Lib.tabIs_of_head nP10 tP10 Tryd.underlying125 Tryd.underlying33 cellsU cellsA20 h)
/-- WHAT THE ROWS' LIST GIVES. -/
theorem tabs_of_laid {W : World} (h : laidMet Tryd.prog laidS W) : Tabs W.heap.size W := ⟨wd_of h.tail.tail.tail, pow_of h.tail.tail, room_of_laid h⟩
/-- The heap that the program's own initialisers leave meets the rows' list. -/
theorem door_met (os : Os) (args : Array Value) : laidMet Tryd.prog laidS ((World.doorLaid Tryd.prog 34 os).forCall (fun _ _ => 0) ⟨#[], args, []⟩).memory :=
  laidMet_of_run' 8 (by kernel_rfl) (by kernel_rfl)

section
variable {H : Type} {enc : TypeId × Value → H} {W : World}
theorem weights_all_mem {P : Program} {e : TypeId} : ∀ {l : List (DataW H)} {d : DataW H}, d ∈ l → ∀ n ∈ d.weights P e, n ∈ DataW.weightsAll P e l
  | x :: r, d, hd, n, hn => by
    simp only [DataW.weightsAll, List.mem_append]
    rcases List.mem_cons.1 hd with rfl | hd
    · exact Or.inl hn
    · exact Or.inr (weights_all_mem hd n hn)
theorem weights_slice {P : Program} {t e : TypeId} {elems spare : List (DataW H)} (hu : P.underlying t = some (.slice e)) : (DataW.slice elems spare).weights P t = (elems.length + spare.length) * P.bytesOf e :: (DataW.weightsAll P e elems ++ DataW.weightsAll P e spare) := by
  simp [DataW.weights, hu]
theorem pickO {α : Type} {n : Nat} {p : Nat → α → Prop} (h : ∀ i, i < n → ∃ x, p i x) : ∃ l : List α, l.length = n ∧ ∀ i (hi : i < l.length), p i l[i] := by
  induction n with
  | zero => exact ⟨[], rfl, fun i hi => by simp at hi⟩
  | succ n ih =>
    obtain ⟨l, h1, h2⟩ := ih fun i hi => h i (by omega)
    obtain ⟨x, hx⟩ := h n (by omega)
    refine ⟨l ++ [x], by simp [h1], fun i hi => ?_⟩
    by_cases hlt : i < l.length
    · rw [List.getElem_append_left hlt]; exact h2 i hlt
    · have : i = l.length := by simp at hi; omega
      subst this
      rw [List.getElem_append_right (Nat.le_refl _)]
      simpa [h1] using hx
/-- What one thing of type e, that came in, holds. -/
def Opens (enc : TypeId × Value → H) (W : World) (e k : Nat) {α : Type} (R : World → (Nat → Option Value) → α → Prop) : Prop :=
  ∀ fuel cs D Pl, DataW.trod enc Tryd.prog W 0 (fun _ => true) true fuel e cs = some (D, Pl) → (∀ y ∈ Pl, y.block < W.heap.size) → (∀ n ∈ D.weights Tryd.prog e, n ≤ reachBytes) → ∃ x, ∀ f : Nat → Option Value, (∀ i, i < k → f i = cs[i]?) → R W f x
/-- A SLICE THAT CAME IN. -/
theorem open_lst {α : Type} {t e k : Nat} {R : World → (Nat → Option Value) → α → Prop} (hu : Tryd.prog.underlying t = some (.slice e)) (hk : Tryd.prog.cellsOf e = k) (hk0 : 0 < k) (hb : 1 ≤ Tryd.prog.bytesOf e) (hel : Opens enc W e k R)
    {fuel : Nat} {cs : List Value} {d : DataW H} {p : List MemPlace} (hf : DataW.trod enc Tryd.prog W 0 (fun _ => true) true fuel t cs = some (d, p)) (hlt : ∀ y ∈ p, y.block < W.heap.size) (hw : ∀ n ∈ d.weights Tryd.prog t, n ≤ reachBytes) :
    ∃ v l, cs = [v] ∧ Lst (fun b => b < W.heap.size) k R W v l ∧ l.length * Tryd.prog.bytesOf e ≤ 140737488355328 := by
  rcases open_slice hu hf with ⟨hcs, _⟩ | ⟨a, len, cap, m, fu, D, Pl, hcs, _, hl, hm, hmm, hx, hc⟩
  · exact ⟨_, [], hcs, Lst.nil _ _ _ _, by simp⟩
  · simp only [if_true] at hmm
    subst hmm
    rw [hk] at hx hc
    have hd : d = .slice ((List.range len).map D) ((List.range (m - len)).map fun j => D (len + j)) := congrArg Prod.fst hx
    have hp : p = MemPlace.row a (m * k) ++ (List.range m).flatMap Pl := congrArg Prod.snd hx
    rw [hd, weights_slice hu] at hw
    have hby : len * Tryd.prog.bytesOf e ≤ 140737488355328 := by
      have h1 := hw _ List.mem_cons_self
      simp only [reachBytes, List.length_map, List.length_range] at h1
      have h3 : len * Tryd.prog.bytesOf e ≤ (len + (m - len)) * Tryd.prog.bytesOf e := Nat.mul_le_mul_right _ (by omega)
      omega
    have hlen : len ≤ 140737488355328 := by
      have h1 := hw _ List.mem_cons_self
      simp only [reachBytes, List.length_map, List.length_range] at h1
      have h3 : len + (m - len) ≤ (len + (m - len)) * Tryd.prog.bytesOf e := Nat.le_mul_of_pos_right _ hb
      omega
    obtain ⟨l, h1, h2⟩ := pickO (n := len) (p := fun i x => ∃ cs', W.cells? 0 (a.add (i * k)) k = some cs' ∧ ∀ f : Nat → Option Value, (∀ i, i < k → f i = cs'[i]?) → R W f x) (fun i hi => by
      obtain ⟨cs', hcl, htr⟩ := hc i (by omega)
      obtain ⟨x, hx⟩ := hel _ _ _ _ htr (fun y hy => hlt y (by rw [hp]; exact List.mem_append_right _ (List.mem_flatMap.2 ⟨i, List.mem_range.2 (by omega), hy⟩))) (fun n hn => hw n (List.mem_cons_of_mem _ (List.mem_append_left _ (weights_all_mem (d := D i) (List.mem_map.2 ⟨i, List.mem_range.2 hi, rfl⟩) n hn))))
      exact ⟨x, cs', hcl, hx⟩)
    obtain ⟨b, off, spot⟩ := a
    refine ⟨_, l, hcs, ⟨some ⟨b, off, spot⟩, m, by rw [h1], by omega, by omega, (fun h => by cases h), fun hne => ?_⟩, by rw [h1]; exact hby⟩
    have hpos : 0 < l.length := List.length_pos_iff.2 hne
    have hspot : spot = none := by
      obtain ⟨cs', hcl, _⟩ := h2 0 hpos
      have h0 := (World.cells?_some hcl).2.2 0 (by omega)
      have hl0 := (World.cells?_some hcl).2.1
      have : 0 < cs'.length := by omega
      rw [List.getElem?_eq_getElem this] at h0
      simpa [Addr.add] using World.cell?_spot h0
    subst hspot
    refine ⟨b, off, ?_, rfl, fun j hj => ?_⟩
    · refine hlt (.cell b off) ?_
      rw [hp]
      exact List.mem_append_left _ (MemPlace.mem_row.2 ⟨0, Nat.mul_pos (by omega) hk0, by simp⟩)
    · obtain ⟨cs', hcl, hR⟩ := h2 j hj
      refine hR _ fun i hi => ?_
      have := (World.cells?_some hcl).2.2 i hi
      rw [Addr.add_mid, Addr.add_mid] at this
      exact this
theorem opens_lst {α : Type} {t e k : Nat} {R : World → (Nat → Option Value) → α → Prop} (hu : Tryd.prog.underlying t = some (.slice e)) (hk : Tryd.prog.cellsOf e = k) (hk0 : 0 < k) (hb : 1 ≤ Tryd.prog.bytesOf e) (hel : Opens enc W e k R) :
    Opens enc W t 1 (fun w f l => (∃ u, f 0 = some u ∧ Lst (fun b => b < W.heap.size) k R w u l) ∧ l.length * Tryd.prog.bytesOf e ≤ 140737488355328) := fun fuel cs D Pl hf hlt hw => by
  obtain ⟨v, l, rfl, hl, hby⟩ := open_lst hu hk hk0 hb hel hf hlt hw
  exact ⟨l, fun f hf => ⟨⟨v, by rw [hf 0 (by omega)]; rfl, hl⟩, hby⟩⟩
/-- THE FIELDS OF A STRUCT THAT CAME IN. -/
theorem open_fields {t : Nat} {fs : Array Field} (hu : Tryd.prog.underlying t = some (.struct fs)) {fuel : Nat} {cs : List Value} {D : DataW H} {Pl : List MemPlace} (hf : DataW.trod enc Tryd.prog W 0 (fun _ => true) true fuel t cs = some (D, Pl)) (hlt : ∀ y ∈ Pl, y.block < W.heap.size) (hw : ∀ n ∈ D.weights Tryd.prog t, n ≤ reachBytes) :
    cs.length = Tryd.prog.cellsOf t ∧ ∀ (i : Nat) (f : Field), fs[i]? = some f → ∃ n D' Pl', DataW.trod enc Tryd.prog W 0 (fun _ => true) true n f.type ((cs.drop f.offset).take (Tryd.prog.cellsOf f.type)) = some (D', Pl') ∧ (∀ y ∈ Pl', y.block < W.heap.size) ∧ ∀ n ∈ D'.weights Tryd.prog f.type, n ≤ reachBytes := by
  obtain ⟨xs, n, _, hx, hl, hlen, hfs⟩ := DataW.trod_struct hu hf
  refine ⟨hl, fun i f hi => ?_⟩
  have h1 := hfs i f hi
  have hi' : i < xs.length := by rw [hlen]; exact (Array.getElem?_eq_some_iff.1 hi).1
  rw [List.getElem?_eq_getElem hi'] at h1
  simp only [Prod.mk.injEq] at hx
  refine ⟨n, xs[i].1, xs[i].2, h1, fun y hy => hlt y ?_, fun m hm => hw m ?_⟩
  · rw [hx.2]; exact List.mem_flatMap.2 ⟨xs[i], List.getElem_mem _, hy⟩
  · rw [hx.1]
    simp only [DataW.weights, hu]
    exact DataW.weights_mem_each (j := i) (by simp [hi]) (by simp [hi']) m hm
theorem take_one {cs : List Value} {o : Nat} {v : Value} (h : (cs.drop o).take 1 = [v]) : cs[o]? = some v := by
  have := congrArg (·[0]?) h
  simpa [List.getElem?_take, List.getElem?_drop] using this
theorem one_int {t : Nat} {k : IntKind} (hu : Tryd.prog.underlying t = some (.int k)) (hc : Tryd.prog.cellsOf t = 1) {fuel : Nat} {cs : List Value} {o : Nat} {x : DataW H × List MemPlace} (hf : DataW.trod enc Tryd.prog W 0 (fun _ => true) true fuel t ((cs.drop o).take (Tryd.prog.cellsOf t)) = some x) :
    ∃ n : Int, cs[o]? = some (.int k n) ∧ (Lit.int k n).wf = true := by
  rw [hc] at hf
  obtain ⟨n, e1, _, wn⟩ := DataW.trod_int hu hf
  exact ⟨n, take_one e1, wn⟩
theorem one_lst {α : Type} {t e k : Nat} {R : World → (Nat → Option Value) → α → Prop} (hc : Tryd.prog.cellsOf t = 1) (hu : Tryd.prog.underlying t = some (.slice e)) (hk : Tryd.prog.cellsOf e = k) (hk0 : 0 < k) (hb : 1 ≤ Tryd.prog.bytesOf e) (hel : Opens enc W e k R)
    {fuel : Nat} {cs : List Value} {o : Nat} {d : DataW H} {p : List MemPlace} (hf : DataW.trod enc Tryd.prog W 0 (fun _ => true) true fuel t ((cs.drop o).take (Tryd.prog.cellsOf t)) = some (d, p)) (hlt : ∀ y ∈ p, y.block < W.heap.size) (hw : ∀ n ∈ d.weights Tryd.prog t, n ≤ reachBytes) :
    ∃ v l, cs[o]? = some v ∧ Lst (fun b => b < W.heap.size) k R W v l ∧ l.length * Tryd.prog.bytesOf e ≤ 140737488355328 := by
  rw [hc] at hf
  obtain ⟨v, l, e, h⟩ := open_lst hu hk hk0 hb hel hf hlt hw
  exact ⟨v, l, take_one e, h⟩
theorem opens_ac : Opens enc W 54 3 RAc := fun fuel cs D Pl hf hlt hw => by
  have F := open_fields Tryd.underlying54 hf hlt hw
  obtain ⟨_, _, _, e0, _, _⟩ := F.2 0 _ rfl
  obtain ⟨_, _, _, e1, _, _⟩ := F.2 1 _ rfl
  obtain ⟨_, _, _, e2, _, _⟩ := F.2 2 _ rfl
  obtain ⟨a, a1, a2⟩ := one_int (o := 0) Tryd.underlying32 cellsI8 e0
  obtain ⟨b, b1, b2⟩ := one_int (o := 1) Tryd.underlying32 cellsI8 e1
  obtain ⟨c, c1, c2⟩ := one_int (o := 2) Tryd.underlying33 cellsU e2
  have := bounds_i8 a2
  have := bounds_i8 b2
  have := bounds_u64 c2
  exact ⟨⟨a, b, c⟩, fun f h => ⟨by rw [h 0 (by omega), a1], by rw [h 1 (by omega), b1], by rw [h 2 (by omega), c1], ⟨by simp only; omega, by simp only; omega⟩, ⟨by simp only; omega, by simp only; omega⟩, by unfold InB; simp only; omega⟩⟩
theorem open_cps {v : Value} {d : DataW H} {p : List MemPlace} (h0 : DataW.Trod enc Tryd.prog W 0 (fun _ => true) true 31 v d p) (hlt : ∀ y ∈ p, y.block < W.heap.size) (hw : ∀ n ∈ d.weights Tryd.prog 31, n ≤ reachBytes) (hv : ∃ ao n c, v = .slice ao n c) :
    ∃ c, Cps (fun b => b < W.heap.size) W v c := by
  obtain ⟨fuel, hf⟩ := h0
  obtain ⟨ao, n, c, rfl⟩ := hv
  obtain ⟨v', l, hcs, hl, -⟩ := open_lst Tryd.underlying31 cellsACTS (by omega) (by rw [bytesACTS]; omega) (opens_lst Tryd.underlying52 cellsACT (by omega) (by rw [bytesACT]; omega) opens_ac) hf hlt hw
  simp only [Value.cells] at hcs
  have : v' = .slice ao n c := by simpa using hcs.symm
  subst this
  exact ⟨l, Lst.carry hl (fun b _ hb => ⟨hb, rfl⟩) (fun f x h => by obtain ⟨⟨v, hv, _⟩, _⟩ := h; exact ⟨v, hv⟩) (fun f x h => h.1)⟩
end
theorem ok_slice {P : Program} {w : World} {r : Reach} {base : Nat} {params : Array TypeId} {args : Array Value} {t e : TypeId} (hval : ∀ (j : Nat) t v, params[j]? = some t → args[j]? = some v → Value.okWide P w r base t v) (hu : P.underlying t = some (.slice e)) (j : Nat) (v : Value) (hp : params[j]? = some t) (ha : args[j]? = some v) : ∃ ao n c, v = .slice ao n c := okWide_slice hu (hval j t v hp ha)
end Go.Proofs.YtggbokghhohofaaDoor
