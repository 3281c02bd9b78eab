/-
  Proved here: the rows' list of variables gives the widths' table; rules, copies and ports that came in hold what their cells read as, within the reach of every row. No further condition.
-/
import Derived.Test.YtejmobkfanejbaaDoorRows
import Derived.Test.YtejmobkfanejbaaDoorCards
import Derived.Test.YtejmobkfanejbaaDoorTie
import Derived.Test.YtejmobkfanejbaaDoorA2
import Derived.WalkKit
import Derived.ProofKit
import Derived.OpenShut
import Derived.ChangeSame
import Derived.LaidMore
import Derived.Stop.LaidErr
import Derived.Deep.DeepHandedRow
import Derived.Deep.Slices
import Derived.Lib.LaidTab
import Derived.SizedLaws
import Derived.Carry
namespace Go.Proofs.YtejmobkfanejbaaDoor
open Go.ChangeShapes Go.WideShapes Go.ChangeAt Go.RowKit Go.Deep

theorem own : ownKnob Tryd.prog.godebug = none := by kernel_rfl
theorem gWid : Tryd.prog.globalNamed "tollbridge/header.widths" = some 0 := by kernel_rfl
theorem tWid : (Tryd.prog.globals[0]?).map (·.type) = some 59 := by kernel_rfl
theorem cells3 : Tryd.prog.cellsOf 3 = 1 := by kernel_rfl
theorem cellsCPS : Tryd.prog.cellsOf 27 = 1 := by kernel_rfl
theorem cellsRULE : Tryd.prog.cellsOf 29 = 25 := by kernel_rfl
theorem cellsA11 : Tryd.prog.cellsOf 59 = 11 := by kernel_rfl
theorem laidOut : laidOutB Tryd.prog = true := by kernel_rfl
def widL : List Int := [48, 48, 16, 12, 32, 32, 8, 16, 16, 16, 16]
theorem widData : (Rows.laid_tollbridge_header_widths : DataW Unit) = Lib.tabData .i64 widL := by kernel_rfl
abbrev laidL : List (String × DataW Unit) := [("tollbridge/header.widths", Rows.laid_tollbridge_header_widths)]
/-- WHAT THE ROWS' LIST GIVES: the widths' table. -/
theorem tab_of_laid {W : World} (h : laidMet Tryd.prog laidL W) : Tab W := by
  have hw : laidMet Tryd.prog (("tollbridge/header.widths", Lib.tabData .i64 widL) :: []) W := by rw [← widData]; exact h
  intro k hk
  rw [(Lib.tabIs_of_head gWid tWid Tryd.underlying59 Tryd.underlying3 cells3 cellsA11 hw).cell gWid k hk]
  have hk' : k = 0 ∨ k = 1 ∨ k = 2 ∨ k = 3 ∨ k = 4 ∨ k = 5 ∨ k = 6 ∨ k = 7 ∨ k = 8 ∨ k = 9 ∨ k = 10 := by omega
  rcases hk' with rfl | rfl | rfl | rfl | rfl | rfl | rfl | rfl | rfl | rfl | rfl <;> rfl
/-- The heap that the program's own initialisers leave meets the rows' list. -/
theorem door_met (os : Os) (args : Array Value) : laidMet Tryd.prog laidL ((World.doorLaid Tryd.prog 14 os).forCall (fun _ _ => 0) ⟨#[], args, []⟩).memory :=
  laidMet_of_run' 8 (by kernel_rfl) (by kernel_rfl)

theorem cellsI8 : Tryd.prog.cellsOf 46 = 1 := by kernel_rfl
theorem cellsACT : Tryd.prog.cellsOf 48 = 3 := by kernel_rfl
theorem cellsACTS : Tryd.prog.cellsOf 45 = 1 := by kernel_rfl
theorem bytesACT : Tryd.prog.bytesOf 48 = 16 := by kernel_rfl
theorem bytesACTS : Tryd.prog.bytesOf 45 = 24 := by kernel_rfl
section
variable {H : Type} {enc : TypeId × Value → H} {W : World}
theorem weights_all_mem {P : Program} {e : TypeId} : ∀ {l : List (DataW H)} {d : DataW H}, d ∈ l → ∀ n ∈ d.weights P e, n ∈ DataW.weightsAll P e l
  | x :: r, d, hd, n, hn => by
    simp only [DataW.weightsAll, List.mem_append]
    rcases List.mem_cons.1 hd with rfl | hd
    · exact Or.inl hn
    · exact Or.inr (weights_all_mem hd n hn)
theorem weights_slice {P : Program} {t e : TypeId} {elems spare : List (DataW H)} (hu : P.underlying t = some (.slice e)) : (DataW.slice elems spare).weights P t = (elems.length + spare.length) * P.bytesOf e :: (DataW.weightsAll P e elems ++ DataW.weightsAll P e spare) := by
  simp [DataW.weights, hu]
theorem pickO {α : Type} {n : Nat} {p : Nat → α → Prop} (h : ∀ i, i < n → ∃ x, p i x) : ∃ l : List α, l.length = n ∧ ∀ i (hi : i < l.length), p i l[i] := by
  induction n with
  | zero => exact ⟨[], rfl, fun i hi => by simp at hi⟩
  | succ n ih =>
    obtain ⟨l, h1, h2⟩ := ih fun i hi => h i (by omega)
    obtain ⟨x, hx⟩ := h n (by omega)
    refine ⟨l ++ [x], by simp [h1], fun i hi => ?_⟩
    by_cases hlt : i < l.length
    · rw [List.getElem_append_left hlt]; exact h2 i hlt
    · have : i = l.length := by simp at hi; omega
      subst this
      rw [List.getElem_append_right (Nat.le_refl _)]
      simpa [h1] using hx
/-- What one thing of type e, that came in, holds. -/
def Opens (enc : TypeId × Value → H) (W : World) (e k : Nat) {α : Type} (R : World → (Nat → Option Value) → α → Prop) : Prop :=
  ∀ fuel cs D Pl, DataW.trod enc Tryd.prog W 0 (fun _ => true) true fuel e cs = some (D, Pl) → (∀ y ∈ Pl, y.block < W.heap.size) → (∀ n ∈ D.weights Tryd.prog e, n ≤ reachBytes) → ∃ x, ∀ f : Nat → Option Value, (∀ i, i < k → f i = cs[i]?) → R W f x
/-- A SLICE THAT CAME IN. -/
theorem open_lst {α : Type} {t e k : Nat} {R : World → (Nat → Option Value) → α → Prop} (hu : Tryd.prog.underlying t = some (.slice e)) (hk : Tryd.prog.cellsOf e = k) (hk0 : 0 < k) (hb : 1 ≤ Tryd.prog.bytesOf e) (hel : Opens enc W e k R)
    {fuel : Nat} {cs : List Value} {d : DataW H} {p : List MemPlace} (hf : DataW.trod enc Tryd.prog W 0 (fun _ => true) true fuel t cs = some (d, p)) (hlt : ∀ y ∈ p, y.block < W.heap.size) (hw : ∀ n ∈ d.weights Tryd.prog t, n ≤ reachBytes) :
    ∃ v l, cs = [v] ∧ Lst (fun b => b < W.heap.size) k R W v l ∧ l.length * Tryd.prog.bytesOf e ≤ 140737488355328 := by
  rcases open_slice hu hf with ⟨hcs, _⟩ | ⟨a, len, cap, m, fu, D, Pl, hcs, _, hl, hm, hmm, hx, hc⟩
  · exact ⟨_, [], hcs, Lst.nil _ _ _ _, by simp⟩
  · simp only [if_true] at hmm
    subst hmm
    rw [hk] at hx hc
    have hd : d = .slice ((List.range len).map D) ((List.range (m - len)).map fun j => D (len + j)) := congrArg Prod.fst hx
    have hp : p = MemPlace.row a (m * k) ++ (List.range m).flatMap Pl := congrArg Prod.snd hx
    rw [hd, weights_slice hu] at hw
    have hby : len * Tryd.prog.bytesOf e ≤ 140737488355328 := by
      have h1 := hw _ List.mem_cons_self
      simp only [reachBytes, List.length_map, List.length_range] at h1
      have h3 : len * Tryd.prog.bytesOf e ≤ (len + (m - len)) * Tryd.prog.bytesOf e := Nat.mul_le_mul_right _ (by omega)
      omega
    have hlen : len ≤ 140737488355328 := by
      have h1 := hw _ List.mem_cons_self
      simp only [reachBytes, List.length_map, List.length_range] at h1
      have h3 : len + (m - len) ≤ (len + (m - len)) * Tryd.prog.bytesOf e := Nat.le_mul_of_pos_right _ hb
      omega
    obtain ⟨l, h1, h2⟩ := pickO (n := len) (p := fun i x => ∃ cs', W.cells? 0 (a.add (i * k)) k = some cs' ∧ ∀ f : Nat → Option Value, (∀ i, i < k → f i = cs'[i]?) → R W f x) (fun i hi => by
      obtain ⟨cs', hcl, htr⟩ := hc i (by omega)
      obtain ⟨x, hx⟩ := hel _ _ _ _ htr (fun y hy => hlt y (by rw [hp]; exact List.mem_append_right _ (List.mem_flatMap.2 ⟨i, List.mem_range.2 (by omega), hy⟩))) (fun n hn => hw n (List.mem_cons_of_mem _ (List.mem_append_left _ (weights_all_mem (d := D i) (List.mem_map.2 ⟨i, List.mem_range.2 hi, rfl⟩) n hn))))
      exact ⟨x, cs', hcl, hx⟩)
    obtain ⟨b, off, spot⟩ := a
    refine ⟨_, l, hcs, ⟨some ⟨b, off, spot⟩, m, by rw [h1], by omega, by omega, (fun h => by cases h), fun hne => ?_⟩, by rw [h1]; exact hby⟩
    have hpos : 0 < l.length := List.length_pos_iff.2 hne
    have hspot : spot = none := by
      obtain ⟨cs', hcl, _⟩ := h2 0 hpos
      have h0 := (World.cells?_some hcl).2.2 0 (by omega)
      have hl0 := (World.cells?_some hcl).2.1
      have : 0 < cs'.length := by omega
      rw [List.getElem?_eq_getElem this] at h0
      simpa [Addr.add] using World.cell?_spot h0
    subst hspot
    refine ⟨b, off, ?_, rfl, fun j hj => ?_⟩
    · refine hlt (.cell b off) ?_
      rw [hp]
      exact List.mem_append_left _ (MemPlace.mem_row.2 ⟨0, Nat.mul_pos (by omega) hk0, by simp⟩)
    · obtain ⟨cs', hcl, hR⟩ := h2 j hj
      refine hR _ fun i hi => ?_
      have := (World.cells?_some hcl).2.2 i hi
      rw [Addr.add_mid, Addr.add_mid] at this
      exact this
theorem opens_lst {α : Type} {t e k : Nat} {R : World → (Nat → Option Value) → α → Prop} (hu : Tryd.prog.underlying t = some (.slice e)) (hk : Tryd.prog.cellsOf e = k) (hk0 : 0 < k) (hb : 1 ≤ Tryd.prog.bytesOf e) (hel : Opens enc W e k R) :
    Opens enc W t 1 (fun w f l => (∃ u, f 0 = some u ∧ Lst (fun b => b < W.heap.size) k R w u l) ∧ l.length * Tryd.prog.bytesOf e ≤ 140737488355328) := fun fuel cs D Pl hf hlt hw => by
  obtain ⟨v, l, rfl, hl, hby⟩ := open_lst hu hk hk0 hb hel hf hlt hw
  exact ⟨l, fun f hf => ⟨⟨v, by rw [hf 0 (by omega)]; rfl, hl⟩, hby⟩⟩
/-- THE FIELDS OF A STRUCT THAT CAME IN. -/
theorem open_fields {t : Nat} {fs : Array Field} (hu : Tryd.prog.underlying t = some (.struct fs)) {fuel : Nat} {cs : List Value} {D : DataW H} {Pl : List MemPlace} (hf : DataW.trod enc Tryd.prog W 0 (fun _ => true) true fuel t cs = some (D, Pl)) (hlt : ∀ y ∈ Pl, y.block < W.heap.size) (hw : ∀ n ∈ D.weights Tryd.prog t, n ≤ reachBytes) :
    cs.length = Tryd.prog.cellsOf t ∧ ∀ (i : Nat) (f : Field), fs[i]? = some f → ∃ n D' Pl', DataW.trod enc Tryd.prog W 0 (fun _ => true) true n f.type ((cs.drop f.offset).take (Tryd.prog.cellsOf f.type)) = some (D', Pl') ∧ (∀ y ∈ Pl', y.block < W.heap.size) ∧ ∀ n ∈ D'.weights Tryd.prog f.type, n ≤ reachBytes := by
  obtain ⟨xs, n, _, hx, hl, hlen, hfs⟩ := DataW.trod_struct hu hf
  refine ⟨hl, fun i f hi => ?_⟩
  have h1 := hfs i f hi
  have hi' : i < xs.length := by rw [hlen]; exact (Array.getElem?_eq_some_iff.1 hi).1
  rw [List.getElem?_eq_getElem hi'] at h1
  simp only [Prod.mk.injEq] at hx
  refine ⟨n, xs[i].1, xs[i].2, h1, fun y hy => hlt y ?_, fun m hm => hw m ?_⟩
  · rw [hx.2]; exact List.mem_flatMap.2 ⟨xs[i], List.getElem_mem _, hy⟩
  · rw [hx.1]
    simp only [DataW.weights, hu]
    exact DataW.weights_mem_each (j := i) (by simp [hi]) (by simp [hi']) m hm
theorem take_one {cs : List Value} {o : Nat} {v : Value} (h : (cs.drop o).take 1 = [v]) : cs[o]? = some v := by
  have := congrArg (·[0]?) h
  simpa [List.getElem?_take, List.getElem?_drop] using this
theorem one_int {t : Nat} {k : IntKind} (hu : Tryd.prog.underlying t = some (.int k)) (hc : Tryd.prog.cellsOf t = 1) {fuel : Nat} {cs : List Value} {o : Nat} {x : DataW H × List MemPlace} (hf : DataW.trod enc Tryd.prog W 0 (fun _ => true) true fuel t ((cs.drop o).take (Tryd.prog.cellsOf t)) = some x) :
    ∃ n : Int, cs[o]? = some (.int k n) ∧ (Lit.int k n).wf = true := by
  rw [hc] at hf
  obtain ⟨n, e1, _, wn⟩ := DataW.trod_int hu hf
  exact ⟨n, take_one e1, wn⟩
theorem one_lst {α : Type} {t e k : Nat} {R : World → (Nat → Option Value) → α → Prop} (hc : Tryd.prog.cellsOf t = 1) (hu : Tryd.prog.underlying t = some (.slice e)) (hk : Tryd.prog.cellsOf e = k) (hk0 : 0 < k) (hb : 1 ≤ Tryd.prog.bytesOf e) (hel : Opens enc W e k R)
    {fuel : Nat} {cs : List Value} {o : Nat} {d : DataW H} {p : List MemPlace} (hf : DataW.trod enc Tryd.prog W 0 (fun _ => true) true fuel t ((cs.drop o).take (Tryd.prog.cellsOf t)) = some (d, p)) (hlt : ∀ y ∈ p, y.block < W.heap.size) (hw : ∀ n ∈ d.weights Tryd.prog t, n ≤ reachBytes) :
    ∃ v l, cs[o]? = some v ∧ Lst (fun b => b < W.heap.size) k R W v l ∧ l.length * Tryd.prog.bytesOf e ≤ 140737488355328 := by
  rw [hc] at hf
  obtain ⟨v, l, e, h⟩ := open_lst hu hk hk0 hb hel hf hlt hw
  exact ⟨v, l, take_one e, h⟩
theorem opens_ac : Opens enc W 48 3 RAc := fun fuel cs D Pl hf hlt hw => by
  have F := open_fields Tryd.underlying48 hf hlt hw
  obtain ⟨_, _, _, e0, _, _⟩ := F.2 0 _ rfl
  obtain ⟨_, _, _, e1, _, _⟩ := F.2 1 _ rfl
  obtain ⟨_, _, _, e2, _, _⟩ := F.2 2 _ rfl
  obtain ⟨a, a1, a2⟩ := one_int (o := 0) Tryd.underlying46 cellsI8 e0
  obtain ⟨b, b1, b2⟩ := one_int (o := 1) Tryd.underlying46 cellsI8 e1
  obtain ⟨c, c1, c2⟩ := one_int (o := 2) Tryd.underlying22 cellsU e2
  have := bounds_i8 a2
  have := bounds_i8 b2
  have := bounds_u64 c2
  exact ⟨⟨a, b, c⟩, fun f h => ⟨by rw [h 0 (by omega), a1], by rw [h 1 (by omega), b1], by rw [h 2 (by omega), c1], ⟨by simp only; omega, by simp only; omega⟩, ⟨by simp only; omega, by simp only; omega⟩, by unfold InB; simp only; omega⟩⟩
theorem open_mat {fuel : Nat} {cs : List Value} {x : DataW H × List MemPlace} (hf : DataW.trod enc Tryd.prog W 0 (fun _ => true) true fuel 26 cs = some x) : ∃ m : Nat → Int, (∀ k, k < 22 → cs[k]? = some (.int .u64 (m k))) ∧ Wf m := by
  obtain ⟨y0, y1, n, hx, hl, e0, e1⟩ := trod_struct2 Tryd.underlying26 hf
  obtain ⟨a, ca, ha, wa⟩ := open_arr e0
  obtain ⟨b, cb, hb, wb⟩ := open_arr e1
  refine ⟨fun k => if k < 11 then a k else b (k - 11), fun k hk => ?_, fun k => ?_⟩
  · by_cases h : k < 11
    · have := row_at 11 a k h
      rw [← ca, cellsH] at this
      show _ = some (Value.int .u64 (if k < 11 then a k else b (k - 11)))
      rw [if_pos h, ← this]
      simp [h]
    · have := row_at 11 b (k - 11) (by omega)
      rw [← cb, cellsH] at this
      show _ = some (Value.int .u64 (if k < 11 then a k else b (k - 11)))
      rw [if_neg h, ← this]
      simp [List.getElem?_drop, show k - 11 < 11 by omega, show 11 + (k - 11) = k by omega]
  · by_cases h : k < 11
    · simp only [h, if_true]; exact wa k
    · simp only [h, if_false]; exact wb _
theorem open_rul {fuel : Nat} {cs : List Value} {D : DataW H} {Pl : List MemPlace} (hf : DataW.trod enc Tryd.prog W 0 (fun _ => true) true fuel 29 cs = some (D, Pl)) (hlt : ∀ y ∈ Pl, y.block < W.heap.size) (hw : ∀ n ∈ D.weights Tryd.prog 29, n ≤ reachBytes) :
    ∃ (r : Rl) (u : Value), (∀ i, i < 25 → cs[i]? = (rlc r u)[i]?) ∧ Cps (fun b => b < W.heap.size) W u r.cp ∧ r.Fit := by
  have F := open_fields Tryd.underlying29 hf hlt hw
  obtain ⟨_, _, _, e0, _, _⟩ := F.2 0 _ rfl
  obtain ⟨_, _, _, e1, _, _⟩ := F.2 1 _ rfl
  obtain ⟨_, _, _, e2, l2, w2⟩ := F.2 2 _ rfl
  obtain ⟨_, _, _, e3, _, _⟩ := F.2 3 _ rfl
  obtain ⟨a, a1, a2⟩ := one_int (o := 0) Tryd.underlying3 cells3 e0
  obtain ⟨m, m1, m2⟩ := open_mat e1
  obtain ⟨u, l, u1, u2, u3⟩ := one_lst (o := 23) cellsCPS Tryd.underlying27 cellsACTS (by omega) (by rw [bytesACTS]; omega) (opens_lst Tryd.underlying45 cellsACT (by omega) (by rw [bytesACT]; omega) opens_ac) e2 l2 w2
  obtain ⟨c, c1, c2⟩ := one_int (o := 24) Tryd.underlying22 cellsU e3
  have ba := bounds_i64 a2
  have bc := bounds_u64 c2
  rw [bytesACTS] at u3
  refine ⟨⟨a, m, l, c⟩, u, fun i hi => ?_, Lst.carry u2 (fun b _ hb => ⟨hb, rfl⟩) (fun f x h => by obtain ⟨⟨v, hv, _⟩, _⟩ := h; exact ⟨v, hv⟩) (fun f x h => h.1), ⟨by unfold I64; simp only; omega, m2, by unfold InB; simp only; omega, u3, ?_⟩⟩
  · by_cases h0 : i = 0
    · subst h0; rw [a1]; exact (rc_rank _ _ _ _).symm
    · by_cases h1 : i < 23
      · obtain ⟨k, rfl⟩ : ∃ k, i = 1 + k := ⟨i - 1, by omega⟩
        have hk : k < 22 := by omega
        rw [rc_mat _ _ _ _ k hk]
        have := m1 k hk
        rw [Nat.add_comm]
        simpa [List.getElem?_take, List.getElem?_drop, cellsM, hk] using this
      · by_cases h2 : i = 23
        · subst h2; rw [u1, (rc_cp _ _ _ _).1]
        · obtain rfl : i = 24 := by omega
          rw [c1, (rc_cp _ _ _ _).2]
  · exact Lst.all u2 (P := fun (l : List Ac) => l.length * 16 ≤ 140737488355328) fun f x h => by have := h.2; rw [bytesACT] at this; exact this
theorem open_cps {v : Value} {d : DataW H} {p : List MemPlace} (h0 : DataW.Trod enc Tryd.prog W 0 (fun _ => true) true 27 v d p) (hlt : ∀ y ∈ p, y.block < W.heap.size) (hw : ∀ n ∈ d.weights Tryd.prog 27, n ≤ reachBytes) (hv : ∃ ao n c, v = .slice ao n c) :
    ∃ c, Cps (fun b => b < W.heap.size) W v c := by
  obtain ⟨fuel, hf⟩ := h0
  obtain ⟨ao, n, c, rfl⟩ := hv
  obtain ⟨v', l, hcs, hl, -⟩ := open_lst Tryd.underlying27 cellsACTS (by omega) (by rw [bytesACTS]; omega) (opens_lst Tryd.underlying45 cellsACT (by omega) (by rw [bytesACT]; omega) opens_ac) hf hlt hw
  simp only [Value.cells] at hcs
  have : v' = .slice ao n c := by simpa using hcs.symm
  subst this
  exact ⟨l, Lst.carry hl (fun b _ hb => ⟨hb, rfl⟩) (fun f x h => by obtain ⟨⟨v, hv, _⟩, _⟩ := h; exact ⟨v, hv⟩) (fun f x h => h.1)⟩
theorem cellsU16 : Tryd.prog.cellsOf 40 = 1 := by kernel_rfl
theorem bytesU16 : Tryd.prog.bytesOf 40 = 2 := by kernel_rfl
theorem opens_pt : Opens enc W 40 1 RPt := fun fuel cs D Pl hf hlt hw => by
  obtain ⟨n, e1, _, wn⟩ := DataW.trod_int Tryd.underlying40 hf
  have := bounds_u16 wn
  exact ⟨n, fun f h => ⟨by rw [h 0 (by omega), e1]; rfl, by omega, by omega⟩⟩
theorem open_pts {v : Value} {d : DataW H} {p : List MemPlace} (h0 : DataW.Trod enc Tryd.prog W 0 (fun _ => true) true 35 v d p) (hlt : ∀ y ∈ p, y.block < W.heap.size) (hw : ∀ n ∈ d.weights Tryd.prog 35, n ≤ reachBytes) (hv : ∃ ao n c, v = .slice ao n c) :
    ∃ l, Pts (fun b => b < W.heap.size) W v l := by
  obtain ⟨fuel, hf⟩ := h0
  obtain ⟨ao, n, c, rfl⟩ := hv
  obtain ⟨v', l, hcs, hl, -⟩ := open_lst Tryd.underlying35 cellsU16 (by omega) (by rw [bytesU16]; omega) opens_pt hf hlt hw
  simp only [Value.cells] at hcs
  have : v' = .slice ao n c := by simpa using hcs.symm
  subst this
  exact ⟨l, hl⟩
end
theorem ok_slice {P : Program} {w : World} {r : Reach} {base : Nat} {params : Array TypeId} {args : Array Value} {t e : TypeId} (hval : ∀ (j : Nat) t v, params[j]? = some t → args[j]? = some v → Value.okWide P w r base t v) (hu : P.underlying t = some (.slice e)) (j : Nat) (v : Value) (hp : params[j]? = some t) (ha : args[j]? = some v) : ∃ ao n c, v = .slice ao n c := okWide_slice hu (hval j t v hp ha)
theorem ok_struct {P : Program} {w : World} {r : Reach} {base : Nat} {params : Array TypeId} {args : Array Value} {t : TypeId} {fs : Array Field} (hval : ∀ (j : Nat) t v, params[j]? = some t → args[j]? = some v → Value.okWide P w r base t v) (hu : P.underlying t = some (.struct fs)) (j : Nat) (v : Value) (hp : params[j]? = some t) (ha : args[j]? = some v) : ∃ cs, v = .agg cs ∧ cs.size = P.cellsOf t := by
  have h := hval j t v hp ha
  unfold Value.okWide at h
  rw [hu] at h
  obtain ⟨cs, h1, h2, _⟩ := h
  exact ⟨cs, h1, h2⟩
/-- A RULE THAT CAME IN. -/
theorem open_rule {H : Type} {enc : TypeId × Value → H} {W : World} {v : Value} {d : DataW H} {p : List MemPlace} (hv0 : ∃ cs, v = .agg cs ∧ cs.size = Tryd.prog.cellsOf 29) (h0 : DataW.Trod enc Tryd.prog W 0 (fun _ => true) true 29 v d p) (hlt : ∀ y ∈ p, y.block < W.heap.size) (hw : ∀ n ∈ d.weights Tryd.prog 29, n ≤ reachBytes) :
    ∃ (x : Rl) (u : Value), v = .agg (rlc x u) ∧ x.Fit ∧ Cps (fun b => b < W.heap.size) W u x.cp := by
  obtain ⟨fuel, hf⟩ := h0
  obtain ⟨cs, rfl, hs⟩ := hv0
  obtain ⟨r, u, h1, h2, h3⟩ := open_rul hf hlt hw
  refine ⟨r, u, ?_, h3, h2⟩
  have : cs = rlc r u := by
    apply Array.ext_getElem?
    intro i
    rw [cellsRULE] at hs
    by_cases hi : i < 25
    · have := h1 i hi
      rw [← Array.getElem?_toList]; simpa [Value.cells] using this
    · rw [Array.getElem?_eq_none (by omega), Array.getElem?_eq_none (by rw [rc_size]; omega)]
  rw [this]
end Go.Proofs.YtejmobkfanejbaaDoor
