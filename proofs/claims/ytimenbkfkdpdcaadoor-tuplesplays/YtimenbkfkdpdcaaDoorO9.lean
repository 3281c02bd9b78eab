/-
  Proved here: the rows' list of variables gives the widths' table; slices, structs and rules that come in hold what their cells read as, within the reach of every row. No further condition.
-/
import Derived.Test.YtimenbkfkdpdcaaDoorRows
import Derived.Test.YtimenbkfkdpdcaaDoorCards
import Derived.Test.YtimenbkfkdpdcaaDoorTie
import Derived.Test.YtimenbkfkdpdcaaDoorWK
import Derived.WalkKit
import Derived.ProofKit
import Derived.OpenShut
import Derived.ChangeSame
import Derived.LaidMore
import Derived.Stop.LaidErr
import Derived.Deep.DeepHandedRow
import Derived.Deep.Slices
import Derived.Lib.LaidTab
import Derived.SizedLaws
import Derived.Carry
namespace Go.Proofs.YtimenbkfkdpdcaaDoor
open Go.ChangeShapes Go.WideShapes Go.ChangeAt Go.RowKit Go.Deep

theorem own : ownKnob Tryd.prog.godebug = none := by kernel_rfl
theorem gWid : Tryd.prog.globalNamed "tollbridge/header.widths" = some 0 := by kernel_rfl
theorem tWid : (Tryd.prog.globals[0]?).map (·.type) = some 83 := by kernel_rfl
theorem cells3 : Tryd.prog.cellsOf 3 = 1 := by kernel_rfl
theorem cellsCPS : Tryd.prog.cellsOf 34 = 1 := by kernel_rfl
theorem cellsRULE : Tryd.prog.cellsOf 36 = 25 := by kernel_rfl
theorem cellsA11 : Tryd.prog.cellsOf 83 = 11 := by kernel_rfl
theorem laidOut : laidOutB Tryd.prog = true := by kernel_rfl
def widL : List Int := [48, 48, 16, 12, 32, 32, 8, 16, 16, 16, 16]
theorem widData : (Rows.laid_tollbridge_header_widths : DataW Unit) = Lib.tabData .i64 widL := by kernel_rfl
abbrev laidL : List (String × DataW Unit) := [("tollbridge/header.widths", Rows.laid_tollbridge_header_widths)]
/-- WHAT THE ROWS' LIST GIVES: the widths' table. -/
theorem tab_of_laid {W : World} (h : laidMet Tryd.prog laidL W) : Tab W := by
  have hw : laidMet Tryd.prog (("tollbridge/header.widths", Lib.tabData .i64 widL) :: []) W := by rw [← widData]; exact h
  intro k hk
  rw [(Lib.tabIs_of_head gWid tWid Tryd.underlying83 Tryd.underlying3 cells3 cellsA11 hw).cell gWid k hk]
  have hk' : k = 0 ∨ k = 1 ∨ k = 2 ∨ k = 3 ∨ k = 4 ∨ k = 5 ∨ k = 6 ∨ k = 7 ∨ k = 8 ∨ k = 9 ∨ k = 10 := by omega
  rcases hk' with rfl | rfl | rfl | rfl | rfl | rfl | rfl | rfl | rfl | rfl | rfl <;> rfl
/-- The heap that the program's own initialisers leave meets the rows' list. -/
theorem door_met (os : Os) (args : Array Value) : laidMet Tryd.prog laidL ((World.doorLaid Tryd.prog 14 os).forCall (fun _ _ => 0) ⟨#[], args, []⟩).memory :=
  laidMet_of_run' 8 (by kernel_rfl) (by kernel_rfl)

section
variable {α : Type}
/-- A slice of things of k cells each, in a block of T; R says what cells a thing has. -/
def Lst (T : Nat → Prop) (k : Nat) (R : World → (Nat → Option Value) → α → Prop) (w : World) (v : Value) (l : List α) : Prop :=
  ∃ ao cap, v = .slice ao l.length cap ∧ l.length ≤ cap ∧ l.length ≤ 140737488355328 ∧ (ao = none → cap = 0) ∧
    (l ≠ [] → ∃ b o, T b ∧ ao = some ⟨b, o, none⟩ ∧ ∀ j (hj : j < l.length), R w (fun i => w.cell? ⟨b, o + j * k + i, none⟩) l[j])
theorem Lst.carry {T T' : Nat → Prop} {k : Nat} {R R' : World → (Nat → Option Value) → α → Prop} {w w' : World} {v : Value} {l : List α} (h : Lst T k R w v l) (hc : ∀ b, b < w.heap.size → T b → T' b ∧ w'.heap[b]? = w.heap[b]?) (hS : ∀ f x, R w f x → ∃ u, f 0 = some u) (hR : ∀ f x, R w f x → R' w' f x) : Lst T' k R' w' v l := by
  obtain ⟨ao, cap, h1, h2, h3, h4, h5⟩ := h
  refine ⟨ao, cap, h1, h2, h3, h4, fun hne => ?_⟩
  obtain ⟨b, o, hb, rfl, hcl⟩ := h5 hne
  have h0 : 0 < l.length := List.length_pos_iff.2 hne
  obtain ⟨u, hu⟩ := hS _ _ (hcl 0 h0)
  have hq := hc b (cell_lt hu) hb
  refine ⟨b, o, hq.1, rfl, fun j hj => ?_⟩
  have := hR _ _ (hcl j hj)
  have e : (fun i => w'.cell? ⟨b, o + j * k + i, none⟩) = fun i => w.cell? ⟨b, o + j * k + i, none⟩ := by
    funext i; exact cell_same hq.2
  rw [e]; exact this
theorem Lst.form {T : Nat → Prop} {k : Nat} {R : World → (Nat → Option Value) → α → Prop} {w : World} {v : Value} {l : List α} (h : Lst T k R w v l) : ∃ ao cap, v = .slice ao l.length cap ∧ l.length ≤ cap := by
  obtain ⟨ao, cap, h1, h2, _⟩ := h
  exact ⟨ao, cap, h1, h2⟩
theorem Lst.len {T : Nat → Prop} {k : Nat} {R : World → (Nat → Option Value) → α → Prop} {w : World} {v : Value} {l : List α} (h : Lst T k R w v l) : l.length ≤ 140737488355328 := by
  obtain ⟨ao, cap, h1, h2, h3, _⟩ := h
  exact h3
theorem Lst.nil (T : Nat → Prop) (k : Nat) (R : World → (Nat → Option Value) → α → Prop) (w : World) : Lst T k R w nilS [] := ⟨none, 0, rfl, by simp, by simp, fun _ => rfl, fun h => absurd rfl h⟩
theorem Lst.all {T : Nat → Prop} {k : Nat} {R : World → (Nat → Option Value) → α → Prop} {P : α → Prop} {w : World} {v : Value} {l : List α} (h : Lst T k R w v l) (hP : ∀ f x, R w f x → P x) : ∀ x ∈ l, P x := by
  intro x hx
  obtain ⟨_, _, _, _, _, _, h5⟩ := h
  obtain ⟨j, hj, rfl⟩ := List.getElem_of_mem hx
  obtain ⟨b, o, _, _, hcl⟩ := h5 (fun e => by subst e; simp at hj)
  exact hP _ _ (hcl j hj)
end
section
variable {H : Type} {enc : TypeId × Value → H} {W : World}
theorem weights_all_mem {P : Program} {e : TypeId} : ∀ {l : List (DataW H)} {d : DataW H}, d ∈ l → ∀ n ∈ d.weights P e, n ∈ DataW.weightsAll P e l
  | x :: r, d, hd, n, hn => by
    simp only [DataW.weightsAll, List.mem_append]
    rcases List.mem_cons.1 hd with rfl | hd
    · exact Or.inl hn
    · exact Or.inr (weights_all_mem hd n hn)
theorem weights_slice {P : Program} {t e : TypeId} {elems spare : List (DataW H)} (hu : P.underlying t = some (.slice e)) : (DataW.slice elems spare).weights P t = (elems.length + spare.length) * P.bytesOf e :: (DataW.weightsAll P e elems ++ DataW.weightsAll P e spare) := by
  simp [DataW.weights, hu]
theorem pickA {α : Type} {n : Nat} {p : Nat → α → Prop} (h : ∀ i, i < n → ∃ x, p i x) : ∃ l : List α, l.length = n ∧ ∀ i (hi : i < l.length), p i l[i] := by
  induction n with
  | zero => exact ⟨[], rfl, fun i hi => by simp at hi⟩
  | succ n ih =>
    obtain ⟨l, h1, h2⟩ := ih fun i hi => h i (by omega)
    obtain ⟨x, hx⟩ := h n (by omega)
    refine ⟨l ++ [x], by simp [h1], fun i hi => ?_⟩
    by_cases hlt : i < l.length
    · rw [List.getElem_append_left hlt]; exact h2 i hlt
    · have : i = l.length := by simp at hi; omega
      subst this
      rw [List.getElem_append_right (Nat.le_refl _)]
      simpa [h1] using hx
/-- What one thing of type e, that came in, holds. -/
def Opens (enc : TypeId × Value → H) (W : World) (e k : Nat) {α : Type} (R : World → (Nat → Option Value) → α → Prop) : Prop :=
  ∀ fuel cs D Pl, DataW.trod enc Tryd.prog W 0 (fun _ => true) true fuel e cs = some (D, Pl) → (∀ y ∈ Pl, y.block < W.heap.size) → (∀ n ∈ D.weights Tryd.prog e, n ≤ reachBytes) → ∃ x, ∀ f : Nat → Option Value, (∀ i, i < k → f i = cs[i]?) → R W f x
/-- A SLICE THAT CAME IN. -/
theorem open_lst {α : Type} {t e k : Nat} {R : World → (Nat → Option Value) → α → Prop} (hu : Tryd.prog.underlying t = some (.slice e)) (hk : Tryd.prog.cellsOf e = k) (hk0 : 0 < k) (hb : 1 ≤ Tryd.prog.bytesOf e) (hel : Opens enc W e k R)
    {fuel : Nat} {cs : List Value} {d : DataW H} {p : List MemPlace} (hf : DataW.trod enc Tryd.prog W 0 (fun _ => true) true fuel t cs = some (d, p)) (hlt : ∀ y ∈ p, y.block < W.heap.size) (hw : ∀ n ∈ d.weights Tryd.prog t, n ≤ reachBytes) :
    ∃ v l, cs = [v] ∧ Lst (fun b => b < W.heap.size) k R W v l := by
  rcases open_slice hu hf with ⟨hcs, _⟩ | ⟨a, len, cap, m, fu, D, Pl, hcs, _, hl, hm, hmm, hx, hc⟩
  · exact ⟨_, [], hcs, Lst.nil _ _ _ _⟩
  · simp only [if_true] at hmm
    subst hmm
    rw [hk] at hx hc
    have hd : d = .slice ((List.range len).map D) ((List.range (m - len)).map fun j => D (len + j)) := congrArg Prod.fst hx
    have hp : p = MemPlace.row a (m * k) ++ (List.range m).flatMap Pl := congrArg Prod.snd hx
    rw [hd, weights_slice hu] at hw
    have hlen : len ≤ 140737488355328 := by
      have h1 := hw _ List.mem_cons_self
      simp only [reachBytes, List.length_map, List.length_range] at h1
      have h3 : len + (m - len) ≤ (len + (m - len)) * Tryd.prog.bytesOf e := Nat.le_mul_of_pos_right _ hb
      omega
    obtain ⟨l, h1, h2⟩ := pickA (n := len) (p := fun i x => ∃ cs', W.cells? 0 (a.add (i * k)) k = some cs' ∧ ∀ f : Nat → Option Value, (∀ i, i < k → f i = cs'[i]?) → R W f x) (fun i hi => by
      obtain ⟨cs', hcl, htr⟩ := hc i (by omega)
      obtain ⟨x, hx⟩ := hel _ _ _ _ htr (fun y hy => hlt y (by rw [hp]; exact List.mem_append_right _ (List.mem_flatMap.2 ⟨i, List.mem_range.2 (by omega), hy⟩))) (fun n hn => hw n (List.mem_cons_of_mem _ (List.mem_append_left _ (weights_all_mem (d := D i) (List.mem_map.2 ⟨i, List.mem_range.2 hi, rfl⟩) n hn))))
      exact ⟨x, cs', hcl, hx⟩)
    obtain ⟨b, off, spot⟩ := a
    refine ⟨_, l, hcs, some ⟨b, off, spot⟩, m, by rw [h1], by omega, by omega, (fun h => by cases h), fun hne => ?_⟩
    have hpos : 0 < l.length := List.length_pos_iff.2 hne
    have hspot : spot = none := by
      obtain ⟨cs', hcl, _⟩ := h2 0 hpos
      have h0 := (World.cells?_some hcl).2.2 0 (by omega)
      have hl0 := (World.cells?_some hcl).2.1
      have : 0 < cs'.length := by omega
      rw [List.getElem?_eq_getElem this] at h0
      simpa [Addr.add] using World.cell?_spot h0
    subst hspot
    refine ⟨b, off, ?_, rfl, fun j hj => ?_⟩
    · refine hlt (.cell b off) ?_
      rw [hp]
      exact List.mem_append_left _ (MemPlace.mem_row.2 ⟨0, Nat.mul_pos (by omega) hk0, by simp⟩)
    · obtain ⟨cs', hcl, hR⟩ := h2 j hj
      refine hR _ fun i hi => ?_
      have := (World.cells?_some hcl).2.2 i hi
      rw [Addr.add_mid, Addr.add_mid] at this
      exact this
theorem opens_lst {α : Type} {t e k : Nat} {R : World → (Nat → Option Value) → α → Prop} (hu : Tryd.prog.underlying t = some (.slice e)) (hk : Tryd.prog.cellsOf e = k) (hk0 : 0 < k) (hb : 1 ≤ Tryd.prog.bytesOf e) (hel : Opens enc W e k R) :
    Opens enc W t 1 (fun w f l => ∃ u, f 0 = some u ∧ Lst (fun b => b < W.heap.size) k R w u l) := fun fuel cs D Pl hf hlt hw => by
  obtain ⟨v, l, rfl, hl⟩ := open_lst hu hk hk0 hb hel hf hlt hw
  exact ⟨l, fun f hf => ⟨v, by rw [hf 0 (by omega)]; rfl, hl⟩⟩
/-- THE FIELDS OF A STRUCT THAT CAME IN. -/
theorem open_fields {t : Nat} {fs : Array Field} (hu : Tryd.prog.underlying t = some (.struct fs)) {fuel : Nat} {cs : List Value} {D : DataW H} {Pl : List MemPlace} (hf : DataW.trod enc Tryd.prog W 0 (fun _ => true) true fuel t cs = some (D, Pl)) (hlt : ∀ y ∈ Pl, y.block < W.heap.size) (hw : ∀ n ∈ D.weights Tryd.prog t, n ≤ reachBytes) :
    cs.length = Tryd.prog.cellsOf t ∧ ∀ (i : Nat) (f : Field), fs[i]? = some f → ∃ n D' Pl', DataW.trod enc Tryd.prog W 0 (fun _ => true) true n f.type ((cs.drop f.offset).take (Tryd.prog.cellsOf f.type)) = some (D', Pl') ∧ (∀ y ∈ Pl', y.block < W.heap.size) ∧ ∀ n ∈ D'.weights Tryd.prog f.type, n ≤ reachBytes := by
  obtain ⟨xs, n, _, hx, hl, hlen, hfs⟩ := DataW.trod_struct hu hf
  refine ⟨hl, fun i f hi => ?_⟩
  have h1 := hfs i f hi
  have hi' : i < xs.length := by rw [hlen]; exact (Array.getElem?_eq_some_iff.1 hi).1
  rw [List.getElem?_eq_getElem hi'] at h1
  simp only [Prod.mk.injEq] at hx
  refine ⟨n, xs[i].1, xs[i].2, h1, fun y hy => hlt y ?_, fun m hm => hw m ?_⟩
  · rw [hx.2]; exact List.mem_flatMap.2 ⟨xs[i], List.getElem_mem _, hy⟩
  · rw [hx.1]
    simp only [DataW.weights, hu]
    exact DataW.weights_mem_each (j := i) (by simp [hi]) (by simp [hi']) m hm
theorem take_one {cs : List Value} {o : Nat} {v : Value} (h : (cs.drop o).take 1 = [v]) : cs[o]? = some v := by
  have := congrArg (·[0]?) h
  simpa [List.getElem?_take, List.getElem?_drop] using this
theorem one_int {t : Nat} {k : IntKind} (hu : Tryd.prog.underlying t = some (.int k)) (hc : Tryd.prog.cellsOf t = 1) {fuel : Nat} {cs : List Value} {o : Nat} {x : DataW H × List MemPlace} (hf : DataW.trod enc Tryd.prog W 0 (fun _ => true) true fuel t ((cs.drop o).take (Tryd.prog.cellsOf t)) = some x) :
    ∃ n : Int, cs[o]? = some (.int k n) ∧ (Lit.int k n).wf = true := by
  rw [hc] at hf
  obtain ⟨n, e1, _, wn⟩ := DataW.trod_int hu hf
  exact ⟨n, take_one e1, wn⟩
theorem one_lst {α : Type} {t e k : Nat} {R : World → (Nat → Option Value) → α → Prop} (hc : Tryd.prog.cellsOf t = 1) (hu : Tryd.prog.underlying t = some (.slice e)) (hk : Tryd.prog.cellsOf e = k) (hk0 : 0 < k) (hb : 1 ≤ Tryd.prog.bytesOf e) (hel : Opens enc W e k R)
    {fuel : Nat} {cs : List Value} {o : Nat} {d : DataW H} {p : List MemPlace} (hf : DataW.trod enc Tryd.prog W 0 (fun _ => true) true fuel t ((cs.drop o).take (Tryd.prog.cellsOf t)) = some (d, p)) (hlt : ∀ y ∈ p, y.block < W.heap.size) (hw : ∀ n ∈ d.weights Tryd.prog t, n ≤ reachBytes) :
    ∃ v l, cs[o]? = some v ∧ Lst (fun b => b < W.heap.size) k R W v l := by
  rw [hc] at hf
  obtain ⟨v, l, e, h⟩ := open_lst hu hk hk0 hb hel hf hlt hw
  exact ⟨v, l, take_one e, h⟩
/-- A rule as it came in. -/
structure RuV where
  r : Int
  m : Nat → Int
  cp : Value
  ck : Int
def RRu : World → (Nat → Option Value) → RuV → Prop := fun _ f x => (∀ i, i < 25 → f i = (rc x.r x.m x.cp x.ck)[i]?) ∧ Wf x.m ∧ x.cp.oneCell' = true
theorem rc_cp (r : Int) (m : Nat → Int) (cp : Value) (ck : Int) : (rc r m cp ck)[23]? = some cp ∧ (rc r m cp ck)[24]? = some (.int .u64 ck) := by
  unfold rc
  rw [Array.getElem?_append_right (by simp [row_size]), Array.getElem?_append_right (by simp [row_size])]
  simp [row_size]
theorem one_sl {t e : Nat} (hu : Tryd.prog.underlying t = some (.slice e)) (hc : Tryd.prog.cellsOf t = 1) {fuel : Nat} {cs : List Value} {o : Nat} {x : DataW H × List MemPlace} (hf : DataW.trod enc Tryd.prog W 0 (fun _ => true) true fuel t ((cs.drop o).take (Tryd.prog.cellsOf t)) = some x) :
    ∃ u, cs[o]? = some u ∧ u.oneCell' = true := by
  rw [hc] at hf
  rcases open_slice hu hf with ⟨hcs, _⟩ | ⟨_, _, _, _, _, _, _, hcs, _⟩
  · exact ⟨_, take_one hcs, rfl⟩
  · exact ⟨_, take_one hcs, rfl⟩
theorem open_mat {fuel : Nat} {cs : List Value} {x : DataW H × List MemPlace} (hf : DataW.trod enc Tryd.prog W 0 (fun _ => true) true fuel 33 cs = some x) : ∃ m : Nat → Int, (∀ k, k < 22 → cs[k]? = some (.int .u64 (m k))) ∧ Wf m := by
  obtain ⟨y0, y1, n, hx, hl, e0, e1⟩ := trod_struct2 Tryd.underlying33 hf
  obtain ⟨a, ca, ha, wa⟩ := open_arr e0
  obtain ⟨b, cb, hb, wb⟩ := open_arr e1
  refine ⟨fun k => if k < 11 then a k else b (k - 11), fun k hk => ?_, fun k => ?_⟩
  · by_cases h : k < 11
    · have := row_at 11 a k h
      rw [← ca, cellsH] at this
      show _ = some (Value.int .u64 (if k < 11 then a k else b (k - 11)))
      rw [if_pos h, ← this]
      simp [h]
    · have := row_at 11 b (k - 11) (by omega)
      rw [← cb, cellsH] at this
      show _ = some (Value.int .u64 (if k < 11 then a k else b (k - 11)))
      rw [if_neg h, ← this]
      simp [List.getElem?_drop, show k - 11 < 11 by omega, show 11 + (k - 11) = k by omega]
  · by_cases h : k < 11
    · simp only [h, if_true]; exact wa k
    · simp only [h, if_false]; exact wb _
theorem opens_rule : Opens enc W 36 25 RRu := fun fuel cs D Pl hf hlt hw => by
  have F := open_fields Tryd.underlying36 hf hlt hw
  obtain ⟨_, _, _, e0, _, _⟩ := F.2 0 _ rfl
  obtain ⟨_, _, _, e1, _, _⟩ := F.2 1 _ rfl
  obtain ⟨_, _, _, e2, _, _⟩ := F.2 2 _ rfl
  obtain ⟨_, _, _, e3, _, _⟩ := F.2 3 _ rfl
  obtain ⟨a, a1, a2⟩ := one_int (o := 0) Tryd.underlying3 cells3 e0
  obtain ⟨m, m1, m2⟩ := open_mat e1
  obtain ⟨u, u1, u2⟩ := one_sl (o := 23) Tryd.underlying34 cellsCPS e2
  obtain ⟨c, c1, c2⟩ := one_int (o := 24) Tryd.underlying29 cellsU e3
  refine ⟨⟨a, m, u, c⟩, fun f hf' => ⟨fun i hi => ?_, m2, u2⟩⟩
  rw [hf' i hi]
  by_cases h0 : i = 0
  · subst h0; rw [a1, rc_rank]
  · by_cases h1 : i < 23
    · obtain ⟨k, rfl⟩ : ∃ k, i = 1 + k := ⟨i - 1, by omega⟩
      have hk : k < 22 := by omega
      rw [rc_mat _ _ _ _ k hk]
      have := m1 k hk
      rw [Nat.add_comm]
      simpa [List.getElem?_take, List.getElem?_drop, cellsM, hk] using this
    · by_cases h2 : i = 23
      · subst h2; rw [u1, (rc_cp _ _ _ _).1]
      · obtain rfl : i = 24 := by omega
        rw [c1, (rc_cp _ _ _ _).2]
/-- A RULE THAT CAME IN. -/
theorem open_rule {v : Value} {d : DataW H} {p : List MemPlace} (hv0 : ∃ cs, v = .agg cs ∧ cs.size = Tryd.prog.cellsOf 36) (h0 : DataW.Trod enc Tryd.prog W 0 (fun _ => true) true 36 v d p) (hlt : ∀ y ∈ p, y.block < W.heap.size) (hw : ∀ n ∈ d.weights Tryd.prog 36, n ≤ reachBytes) :
    ∃ x : RuV, v = .agg (rc x.r x.m x.cp x.ck) ∧ Wf x.m ∧ x.cp.oneCell' = true := by
  obtain ⟨fuel, hf⟩ := h0
  obtain ⟨cs, rfl, hs⟩ := hv0
  obtain ⟨x, hx⟩ := opens_rule _ _ _ _ hf hlt hw
  obtain ⟨h1, h2, h3⟩ := hx (fun i => cs.toList[i]?) fun i _ => by simp [Value.cells]
  refine ⟨x, ?_, h2, h3⟩
  have : cs = rc x.r x.m x.cp x.ck := by
    apply Array.ext_getElem?
    intro i
    rw [cellsRULE] at hs
    by_cases hi : i < 25
    · rw [← Array.getElem?_toList]; exact h1 i hi
    · rw [Array.getElem?_eq_none (by omega), Array.getElem?_eq_none (by rw [rc_size]; omega)]
  rw [this]
end
theorem ok_struct {P : Program} {w : World} {r : Reach} {base : Nat} {params : Array TypeId} {args : Array Value} {t : TypeId} {fs : Array Field} (hval : ∀ (j : Nat) t v, params[j]? = some t → args[j]? = some v → Value.okWide P w r base t v) (hu : P.underlying t = some (.struct fs)) (j : Nat) (v : Value) (hp : params[j]? = some t) (ha : args[j]? = some v) : ∃ cs, v = .agg cs ∧ cs.size = P.cellsOf t := by
  have h := hval j t v hp ha
  unfold Value.okWide at h
  rw [hu] at h
  obtain ⟨cs, h1, h2, _⟩ := h
  exact ⟨cs, h1, h2⟩
theorem ok_slice {P : Program} {w : World} {r : Reach} {base : Nat} {params : Array TypeId} {args : Array Value} {t e : TypeId} (hval : ∀ (j : Nat) t v, params[j]? = some t → args[j]? = some v → Value.okWide P w r base t v) (hu : P.underlying t = some (.slice e)) (j : Nat) (v : Value) (hp : params[j]? = some t) (ha : args[j]? = some v) : ∃ ao n c, v = .slice ao n c := okWide_slice hu (hval j t v hp ha)
end Go.Proofs.YtimenbkfkdpdcaaDoor
