/-
  Proved here: deals that came in hold what their cells read as, within the reach of every row (open_deals). No further condition.
-/
import Derived.Test.YtdehlnaoehjehaaGreatDoorzOB
namespace Go.Proofs.YtdehlnaoehjehaaGreatDoor
set_option maxRecDepth 100000
open Go.ChangeShapes Go.WideShapes Go.ChangeAt Go.RowKit Go.Deep

theorem cellsI8 : Tryz.prog.cellsOf 27 = 1 := by kernel_rfl
theorem cellsACT : Tryz.prog.cellsOf 154 = 3 := by kernel_rfl
theorem cellsACTS : Tryz.prog.cellsOf 155 = 1 := by kernel_rfl
theorem bytesACT : Tryz.prog.bytesOf 154 = 16 := by kernel_rfl
theorem bytesACTS : Tryz.prog.bytesOf 155 = 24 := by kernel_rfl
section
variable {H : Type} {enc : TypeId × Value → H} {W : World}
theorem weights_all_mem {P : Program} {e : TypeId} : ∀ {l : List (DataW H)} {d : DataW H}, d ∈ l → ∀ n ∈ d.weights P e, n ∈ DataW.weightsAll P e l
  | x :: r, d, hd, n, hn => by
    simp only [DataW.weightsAll, List.mem_append]
    rcases List.mem_cons.1 hd with rfl | hd
    · exact Or.inl hn
    · exact Or.inr (weights_all_mem hd n hn)
theorem weights_slice {P : Program} {t e : TypeId} {elems spare : List (DataW H)} (hu : P.underlying t = some (.slice e)) : (DataW.slice elems spare).weights P t = (elems.length + spare.length) * P.bytesOf e :: (DataW.weightsAll P e elems ++ DataW.weightsAll P e spare) := by
  simp [DataW.weights, hu]
theorem pickO {α : Type} {n : Nat} {p : Nat → α → Prop} (h : ∀ i, i < n → ∃ x, p i x) : ∃ l : List α, l.length = n ∧ ∀ i (hi : i < l.length), p i l[i] := by
  induction n with
  | zero => exact ⟨[], rfl, fun i hi => by simp at hi⟩
  | succ n ih =>
    obtain ⟨l, h1, h2⟩ := ih fun i hi => h i (by omega)
    obtain ⟨x, hx⟩ := h n (by omega)
    refine ⟨l ++ [x], by simp [h1], fun i hi => ?_⟩
    by_cases hlt : i < l.length
    · rw [List.getElem_append_left hlt]; exact h2 i hlt
    · have : i = l.length := by simp at hi; omega
      subst this
      rw [List.getElem_append_right (Nat.le_refl _)]
      simpa [h1] using hx
/-- What one thing of type e, that came in, holds. -/
def Opens (enc : TypeId × Value → H) (W : World) (e k : Nat) {α : Type} (R : World → (Nat → Option Value) → α → Prop) : Prop :=
  ∀ fuel cs D Pl, DataW.trod enc Tryz.prog W 0 (fun _ => true) true fuel e cs = some (D, Pl) → (∀ y ∈ Pl, y.block < W.heap.size) → (∀ n ∈ D.weights Tryz.prog e, n ≤ reachBytes) → ∃ x, ∀ f : Nat → Option Value, (∀ i, i < k → f i = cs[i]?) → R W f x
/-- A SLICE THAT CAME IN. -/
theorem open_lst {α : Type} {t e k : Nat} {R : World → (Nat → Option Value) → α → Prop} (hu : Tryz.prog.underlying t = some (.slice e)) (hk : Tryz.prog.cellsOf e = k) (hk0 : 0 < k) (hb : 1 ≤ Tryz.prog.bytesOf e) (hel : Opens enc W e k R)
    {fuel : Nat} {cs : List Value} {d : DataW H} {p : List MemPlace} (hf : DataW.trod enc Tryz.prog W 0 (fun _ => true) true fuel t cs = some (d, p)) (hlt : ∀ y ∈ p, y.block < W.heap.size) (hw : ∀ n ∈ d.weights Tryz.prog t, n ≤ reachBytes) :
    ∃ v l, cs = [v] ∧ Lst (fun b => b < W.heap.size) k R W v l ∧ l.length * Tryz.prog.bytesOf e ≤ 140737488355328 := by
  rcases open_slice hu hf with ⟨hcs, _⟩ | ⟨a, len, cap, m, fu, D, Pl, hcs, _, hl, hm, hmm, hx, hc⟩
  · exact ⟨_, [], hcs, Lst.nil _ _ _ _, by simp⟩
  · simp only [if_true] at hmm
    subst hmm
    rw [hk] at hx hc
    have hd : d = .slice ((List.range len).map D) ((List.range (m - len)).map fun j => D (len + j)) := congrArg Prod.fst hx
    have hp : p = MemPlace.row a (m * k) ++ (List.range m).flatMap Pl := congrArg Prod.snd hx
    rw [hd, weights_slice hu] at hw
    have hby : len * Tryz.prog.bytesOf e ≤ 140737488355328 := by
      have h1 := hw _ List.mem_cons_self
      simp only [reachBytes, List.length_map, List.length_range] at h1
      have h3 : len * Tryz.prog.bytesOf e ≤ (len + (m - len)) * Tryz.prog.bytesOf e := Nat.mul_le_mul_right _ (by omega)
      omega
    have hlen : len ≤ 140737488355328 := by
      have h1 := hw _ List.mem_cons_self
      simp only [reachBytes, List.length_map, List.length_range] at h1
      have h3 : len + (m - len) ≤ (len + (m - len)) * Tryz.prog.bytesOf e := Nat.le_mul_of_pos_right _ hb
      omega
    obtain ⟨l, h1, h2⟩ := pickO (n := len) (p := fun i x => ∃ cs', W.cells? 0 (a.add (i * k)) k = some cs' ∧ ∀ f : Nat → Option Value, (∀ i, i < k → f i = cs'[i]?) → R W f x) (fun i hi => by
      obtain ⟨cs', hcl, htr⟩ := hc i (by omega)
      obtain ⟨x, hx⟩ := hel _ _ _ _ htr (fun y hy => hlt y (by rw [hp]; exact List.mem_append_right _ (List.mem_flatMap.2 ⟨i, List.mem_range.2 (by omega), hy⟩))) (fun n hn => hw n (List.mem_cons_of_mem _ (List.mem_append_left _ (weights_all_mem (d := D i) (List.mem_map.2 ⟨i, List.mem_range.2 hi, rfl⟩) n hn))))
      exact ⟨x, cs', hcl, hx⟩)
    obtain ⟨b, off, spot⟩ := a
    refine ⟨_, l, hcs, ⟨some ⟨b, off, spot⟩, m, by rw [h1], by omega, by omega, (fun h => by cases h), fun hne => ?_⟩, by rw [h1]; exact hby⟩
    have hpos : 0 < l.length := List.length_pos_iff.2 hne
    have hspot : spot = none := by
      obtain ⟨cs', hcl, _⟩ := h2 0 hpos
      have h0 := (World.cells?_some hcl).2.2 0 (by omega)
      have hl0 := (World.cells?_some hcl).2.1
      have : 0 < cs'.length := by omega
      rw [List.getElem?_eq_getElem this] at h0
      simpa [Addr.add] using World.cell?_spot h0
    subst hspot
    refine ⟨b, off, ?_, rfl, fun j hj => ?_⟩
    · refine hlt (.cell b off) ?_
      rw [hp]
      exact List.mem_append_left _ (MemPlace.mem_row.2 ⟨0, Nat.mul_pos (by omega) hk0, by simp⟩)
    · obtain ⟨cs', hcl, hR⟩ := h2 j hj
      refine hR _ fun i hi => ?_
      have := (World.cells?_some hcl).2.2 i hi
      rw [Addr.add_mid, Addr.add_mid] at this
      exact this
theorem opens_lst {α : Type} {t e k : Nat} {R : World → (Nat → Option Value) → α → Prop} (hu : Tryz.prog.underlying t = some (.slice e)) (hk : Tryz.prog.cellsOf e = k) (hk0 : 0 < k) (hb : 1 ≤ Tryz.prog.bytesOf e) (hel : Opens enc W e k R) :
    Opens enc W t 1 (fun w f l => (∃ u, f 0 = some u ∧ Lst (fun b => b < W.heap.size) k R w u l) ∧ l.length * Tryz.prog.bytesOf e ≤ 140737488355328) := fun fuel cs D Pl hf hlt hw => by
  obtain ⟨v, l, rfl, hl, hby⟩ := open_lst hu hk hk0 hb hel hf hlt hw
  exact ⟨l, fun f hf => ⟨⟨v, by rw [hf 0 (by omega)]; rfl, hl⟩, hby⟩⟩
/-- THE FIELDS OF A STRUCT THAT CAME IN. -/
theorem open_fields {t : Nat} {fs : Array Field} (hu : Tryz.prog.underlying t = some (.struct fs)) {fuel : Nat} {cs : List Value} {D : DataW H} {Pl : List MemPlace} (hf : DataW.trod enc Tryz.prog W 0 (fun _ => true) true fuel t cs = some (D, Pl)) (hlt : ∀ y ∈ Pl, y.block < W.heap.size) (hw : ∀ n ∈ D.weights Tryz.prog t, n ≤ reachBytes) :
    cs.length = Tryz.prog.cellsOf t ∧ ∀ (i : Nat) (f : Field), fs[i]? = some f → ∃ n D' Pl', DataW.trod enc Tryz.prog W 0 (fun _ => true) true n f.type ((cs.drop f.offset).take (Tryz.prog.cellsOf f.type)) = some (D', Pl') ∧ (∀ y ∈ Pl', y.block < W.heap.size) ∧ ∀ n ∈ D'.weights Tryz.prog f.type, n ≤ reachBytes := by
  obtain ⟨xs, n, _, hx, hl, hlen, hfs⟩ := DataW.trod_struct hu hf
  refine ⟨hl, fun i f hi => ?_⟩
  have h1 := hfs i f hi
  have hi' : i < xs.length := by rw [hlen]; exact (Array.getElem?_eq_some_iff.1 hi).1
  rw [List.getElem?_eq_getElem hi'] at h1
  simp only [Prod.mk.injEq] at hx
  refine ⟨n, xs[i].1, xs[i].2, h1, fun y hy => hlt y ?_, fun m hm => hw m ?_⟩
  · rw [hx.2]; exact List.mem_flatMap.2 ⟨xs[i], List.getElem_mem _, hy⟩
  · rw [hx.1]
    simp only [DataW.weights, hu]
    exact DataW.weights_mem_each (j := i) (by simp [hi]) (by simp [hi']) m hm
theorem take_one {cs : List Value} {o : Nat} {v : Value} (h : (cs.drop o).take 1 = [v]) : cs[o]? = some v := by
  have := congrArg (·[0]?) h
  simpa [List.getElem?_take, List.getElem?_drop] using this
theorem one_int {t : Nat} {k : IntKind} (hu : Tryz.prog.underlying t = some (.int k)) (hc : Tryz.prog.cellsOf t = 1) {fuel : Nat} {cs : List Value} {o : Nat} {x : DataW H × List MemPlace} (hf : DataW.trod enc Tryz.prog W 0 (fun _ => true) true fuel t ((cs.drop o).take (Tryz.prog.cellsOf t)) = some x) :
    ∃ n : Int, cs[o]? = some (.int k n) ∧ (Lit.int k n).wf = true := by
  rw [hc] at hf
  obtain ⟨n, e1, _, wn⟩ := DataW.trod_int hu hf
  exact ⟨n, take_one e1, wn⟩
theorem one_lst {α : Type} {t e k : Nat} {R : World → (Nat → Option Value) → α → Prop} (hc : Tryz.prog.cellsOf t = 1) (hu : Tryz.prog.underlying t = some (.slice e)) (hk : Tryz.prog.cellsOf e = k) (hk0 : 0 < k) (hb : 1 ≤ Tryz.prog.bytesOf e) (hel : Opens enc W e k R)
    {fuel : Nat} {cs : List Value} {o : Nat} {d : DataW H} {p : List MemPlace} (hf : DataW.trod enc Tryz.prog W 0 (fun _ => true) true fuel t ((cs.drop o).take (Tryz.prog.cellsOf t)) = some (d, p)) (hlt : ∀ y ∈ p, y.block < W.heap.size) (hw : ∀ n ∈ d.weights Tryz.prog t, n ≤ reachBytes) :
    ∃ v l, cs[o]? = some v ∧ Lst (fun b => b < W.heap.size) k R W v l ∧ l.length * Tryz.prog.bytesOf e ≤ 140737488355328 := by
  rw [hc] at hf
  obtain ⟨v, l, e, h⟩ := open_lst hu hk hk0 hb hel hf hlt hw
  exact ⟨v, l, take_one e, h⟩
theorem opens_ac : Opens enc W 154 3 RAc := fun fuel cs D Pl hf hlt hw => by
  have F := open_fields Tryz.underlying154 hf hlt hw
  obtain ⟨_, _, _, e0, _, _⟩ := F.2 0 _ rfl
  obtain ⟨_, _, _, e1, _, _⟩ := F.2 1 _ rfl
  obtain ⟨_, _, _, e2, _, _⟩ := F.2 2 _ rfl
  obtain ⟨a, a1, a2⟩ := one_int (o := 0) Tryz.underlying27 cellsI8 e0
  obtain ⟨b, b1, b2⟩ := one_int (o := 1) Tryz.underlying27 cellsI8 e1
  obtain ⟨c, c1, c2⟩ := one_int (o := 2) Tryz.underlying28 cellsU e2
  have := bounds_i8 a2
  have := bounds_i8 b2
  have := bounds_u64 c2
  exact ⟨⟨a, b, c⟩, fun f h => ⟨by rw [h 0 (by omega), a1], by rw [h 1 (by omega), b1], by rw [h 2 (by omega), c1], ⟨by simp only; omega, by simp only; omega⟩, ⟨by simp only; omega, by simp only; omega⟩, by unfold InB; simp only; omega⟩⟩
theorem open_mat {fuel : Nat} {cs : List Value} {x : DataW H × List MemPlace} (hf : DataW.trod enc Tryz.prog W 0 (fun _ => true) true fuel 32 cs = some x) : ∃ m : Nat → Int, (∀ k, k < 22 → cs[k]? = some (.int .u64 (m k))) ∧ Wf m := by
  obtain ⟨y0, y1, n, hx, hl, e0, e1⟩ := trod_struct2 Tryz.underlying32 hf
  obtain ⟨a, ca, ha, wa⟩ := open_arr e0
  obtain ⟨b, cb, hb, wb⟩ := open_arr e1
  refine ⟨fun k => if k < 11 then a k else b (k - 11), fun k hk => ?_, fun k => ?_⟩
  · by_cases h : k < 11
    · have := row_at 11 a k h
      rw [← ca, cellsH] at this
      show _ = some (Value.int .u64 (if k < 11 then a k else b (k - 11)))
      rw [if_pos h, ← this]
      simp [h]
    · have := row_at 11 b (k - 11) (by omega)
      rw [← cb, cellsH] at this
      show _ = some (Value.int .u64 (if k < 11 then a k else b (k - 11)))
      rw [if_neg h, ← this]
      simp [List.getElem?_drop, show k - 11 < 11 by omega, show 11 + (k - 11) = k by omega]
  · by_cases h : k < 11
    · simp only [h, if_true]; exact wa k
    · simp only [h, if_false]; exact wb _
theorem open_rul {fuel : Nat} {cs : List Value} {D : DataW H} {Pl : List MemPlace} (hf : DataW.trod enc Tryz.prog W 0 (fun _ => true) true fuel 35 cs = some (D, Pl)) (hlt : ∀ y ∈ Pl, y.block < W.heap.size) (hw : ∀ n ∈ D.weights Tryz.prog 35, n ≤ reachBytes) :
    ∃ (r : Rl) (u : Value), (∀ i, i < 25 → cs[i]? = (rlc r u)[i]?) ∧ Cps (fun b => b < W.heap.size) W u r.cp ∧ r.Fit := by
  have F := open_fields Tryz.underlying35 hf hlt hw
  obtain ⟨_, _, _, e0, _, _⟩ := F.2 0 _ rfl
  obtain ⟨_, _, _, e1, _, _⟩ := F.2 1 _ rfl
  obtain ⟨_, _, _, e2, l2, w2⟩ := F.2 2 _ rfl
  obtain ⟨_, _, _, e3, _, _⟩ := F.2 3 _ rfl
  obtain ⟨a, a1, a2⟩ := one_int (o := 0) Tryz.underlying3 cells3 e0
  obtain ⟨m, m1, m2⟩ := open_mat e1
  obtain ⟨u, l, u1, u2, u3⟩ := one_lst (o := 23) cellsCPS Tryz.underlying33 cellsACTS (by omega) (by rw [bytesACTS]; omega) (opens_lst Tryz.underlying155 cellsACT (by omega) (by rw [bytesACT]; omega) opens_ac) e2 l2 w2
  obtain ⟨c, c1, c2⟩ := one_int (o := 24) Tryz.underlying28 cellsU e3
  have ba := bounds_i64 a2
  have bc := bounds_u64 c2
  rw [bytesACTS] at u3
  refine ⟨⟨a, m, l, c⟩, u, fun i hi => ?_, Lst.carry u2 (fun b _ hb => ⟨hb, rfl⟩) (fun f x h => by obtain ⟨⟨v, hv, _⟩, _⟩ := h; exact ⟨v, hv⟩) (fun f x h => h.1), ⟨by unfold I64; simp only; omega, m2, by unfold InB; simp only; omega, u3, ?_⟩⟩
  · by_cases h0 : i = 0
    · subst h0; rw [a1]; exact (rc_rank _ _ _ _).symm
    · by_cases h1 : i < 23
      · obtain ⟨k, rfl⟩ : ∃ k, i = 1 + k := ⟨i - 1, by omega⟩
        have hk : k < 22 := by omega
        rw [rc_mat _ _ _ _ k hk]
        have := m1 k hk
        rw [Nat.add_comm]
        simpa [List.getElem?_take, List.getElem?_drop, cellsM, hk] using this
      · by_cases h2 : i = 23
        · subst h2; rw [u1, (rc_cp _ _ _ _).1]
        · obtain rfl : i = 24 := by omega
          rw [c1, (rc_cp _ _ _ _).2]
  · exact Lst.all u2 (P := fun (l : List Ac) => l.length * 16 ≤ 140737488355328) fun f x h => by have := h.2; rw [bytesACT] at this; exact this
/-- A deal: what to do, the rule, the header, the bytes; its copies' slice. -/
structure De where
  dw : Int
  r : Rl
  u : Value
  h : Nat → Int
  n : Int
def dcs (d : De) : Array Value := #[.int .i8 d.dw] ++ rlc d.r d.u ++ row 11 d.h ++ #[.int .i64 d.n]
theorem dcs_size (d : De) : (dcs d).size = 38 := by simp [dcs, rc_size, row_size]
theorem dcs_0 (d : De) : (dcs d)[0]? = some (.int .i8 d.dw) := by
  unfold dcs
  rw [Array.append_assoc, Array.append_assoc, Array.getElem?_append_left (by simp)]; rfl
theorem dcs_r (d : De) (i : Nat) (hi : i < 25) : (dcs d)[1 + i]? = (rlc d.r d.u)[i]? := by
  unfold dcs
  rw [Array.append_assoc, Array.append_assoc, Array.getElem?_append_right (by simp), Array.getElem?_append_left (by simp [rc_size]; omega)]
  rw [show 1 + i - (#[Value.int .i8 d.dw] : Array Value).size = i by simp]
theorem dcs_h (d : De) (i : Nat) (hi : i < 11) : (dcs d)[26 + i]? = some (.int .u64 (d.h i)) := by
  unfold dcs
  rw [Array.getElem?_append_left (by simp [rc_size, row_size]; omega), Array.getElem?_append_right (by simp [rc_size])]
  rw [show 26 + i - (#[Value.int .i8 d.dw] ++ rlc d.r d.u).size = i by simp [rc_size], row_at 11 _ i hi]
theorem dcs_n (d : De) : (dcs d)[37]? = some (.int .i64 d.n) := by
  unfold dcs
  rw [Array.getElem?_append_right (by simp [rc_size, row_size])]
  simp [rc_size, row_size]
theorem dcs_one {d : De} (h : d.u.oneCell' = true) : (dcs d).all (·.oneCell') = true := by
  unfold dcs
  rw [Array.all_append, Array.all_append, Array.all_append, rc_one h, row_one]
  simp [show ∀ k n, (Value.int k n).oneCell' = true from fun _ _ => rfl]
theorem sizeDE (d : De) : (Tryz.prog.info? 37).map (·.size) = some (dcs d).size := by rw [dcs_size]; kernel_rfl
theorem cellsDEAL : Tryz.prog.cellsOf 37 = 38 := by kernel_rfl
structure De.Fit (B : Nat) (w : World) (d : De) : Prop where
  dw : -128 ≤ d.dw ∧ d.dw < 128
  r : d.r.Fit
  c : Cps (fun b => b < B) w d.u d.r.cp
  h : Wf d.h
  n : I64 d.n
def RDe (B : Nat) : World → (Nat → Option Value) → De → Prop := fun w f d => (∀ i, i < 38 → f i = (dcs d)[i]?) ∧ d.Fit B w
theorem opens_deal : Opens enc W 37 38 (RDe W.heap.size) := fun fuel cs D Pl hf hlt hw => by
  have F := open_fields Tryz.underlying37 hf hlt hw
  obtain ⟨_, _, _, e0, _, _⟩ := F.2 0 _ rfl
  obtain ⟨_, _, _, e1, l1, w1⟩ := F.2 1 _ rfl
  obtain ⟨_, _, _, e2, _, _⟩ := F.2 2 _ rfl
  obtain ⟨_, _, _, e3, _, _⟩ := F.2 3 _ rfl
  obtain ⟨a, a1, a2⟩ := one_int (o := 0) Tryz.underlying27 cellsI8 e0
  obtain ⟨r, u, x1, x2, x3⟩ := open_rul e1 l1 w1
  obtain ⟨h, hcs, _, hwf⟩ := open_arr e2
  obtain ⟨c, c1, c2⟩ := one_int (o := 37) Tryz.underlying3 cells3 e3
  have ba := bounds_i8 a2
  have bc := bounds_i64 c2
  refine ⟨⟨a, r, u, h, c⟩, fun f hf' => ⟨fun i hi => ?_, ⟨⟨by simp only; omega, by simp only; omega⟩, x3, x2, hwf, by unfold I64; simp only; omega⟩⟩⟩
  rw [hf' i hi]
  by_cases e : i = 0
  · subst e; rw [dcs_0]; exact a1
  · by_cases e' : i < 26
    · obtain ⟨j, rfl⟩ : ∃ j, i = 1 + j := ⟨i - 1, by omega⟩
      have hj : j < 25 := by omega
      rw [dcs_r _ _ hj]
      have h9 : ((cs.drop 1).take (Tryz.prog.cellsOf 35))[j]? = (rlc r u)[j]? := x1 j hj
      show _ = (rlc r u)[j]?
      rw [← h9, cellsRULE, List.getElem?_take, if_pos hj, List.getElem?_drop]
    · by_cases e'' : i = 37
      · subst e''; rw [dcs_n]; exact c1
      · obtain ⟨j, rfl⟩ : ∃ j, i = 26 + j := ⟨i - 26, by omega⟩
        have hj : j < 11 := by omega
        rw [dcs_h _ _ hj]
        have h1 := row_at 11 h j hj
        rw [← hcs] at h1
        rw [Nat.add_comm]
        simpa [List.getElem?_take, List.getElem?_drop, cellsH, hj, Nat.add_comm] using h1
abbrev Des (B : Nat) (w : World) (v : Value) (l : List De) : Prop := Lst (fun b => b < B) 38 (RDe B) w v l
theorem open_deals {v : Value} {d : DataW H} {p : List MemPlace} (h0 : DataW.Trod enc Tryz.prog W 0 (fun _ => true) true 22 v d p) (hlt : ∀ y ∈ p, y.block < W.heap.size) (hw : ∀ n ∈ d.weights Tryz.prog 22, n ≤ reachBytes) (hv : ∃ ao n c, v = .slice ao n c) :
    ∃ l, Des W.heap.size W v l := by
  obtain ⟨fuel, hf⟩ := h0
  obtain ⟨ao, n, c, rfl⟩ := hv
  obtain ⟨v', l, hcs, hl, -⟩ := open_lst Tryz.underlying22 cellsDEAL (by omega) (by decide +kernel) opens_deal hf hlt hw
  simp only [Value.cells] at hcs
  have : v' = .slice ao n c := by simpa using hcs.symm
  exact ⟨l, this ▸ hl⟩
end
/-- One of the deals. -/
theorem Des.deal {B : Nat} {w : World} {v : Value} {l : List De} (h : Des B w v l) {q : Nat} (hq : q < l.length) : ∃ b o cap, v = .slice (some ⟨b, o, none⟩) l.length cap ∧ b < B ∧ b < w.heap.size ∧ w.rangeAt b (o + q * 38) (dcs l[q]).toList ∧ l[q].Fit B w := by
  obtain ⟨ao, cap, rfl, -, -, -, h5⟩ := h
  obtain ⟨b, o, hb, rfl, h6⟩ := h5 (fun e => by rw [e] at hq; simp at hq)
  obtain ⟨h7, h8⟩ := h6 q hq
  refine ⟨b, o, cap, rfl, hb, ?_, range_of fun i hi => ?_, h8⟩
  · have := h7 0 (by omega)
    rw [dcs_0] at this
    exact cell_lt this
  · rw [dcs_size] at hi
    exact h7 i hi
theorem ok_slice {P : Program} {w : World} {r : Reach} {base : Nat} {params : Array TypeId} {args : Array Value} {t e : TypeId} (hval : ∀ (j : Nat) t v, params[j]? = some t → args[j]? = some v → Value.okWide P w r base t v) (hu : P.underlying t = some (.slice e)) (j : Nat) (v : Value) (hp : params[j]? = some t) (ha : args[j]? = some v) : ∃ ao n c, v = .slice ao n c := okWide_slice hu (hval j t v hp ha)
end Go.Proofs.YtdehlnaoehjehaaGreatDoor
