/-
  Proved here: a policy (a term) that came in can be read in memory as a tree of terms, its Ops of eight bits. No condition.
-/
import Derived.Test.YtjallmncajhamaaDoorGX
import Derived.OpenShut
import Derived.ChangeSame
import Derived.Deep.Slices
namespace Go.Proofs.YtjallmncajhamaaDoor
open Go.ChangeShapes Go.RowKit
set_option maxRecDepth 100000

theorem cellsTM : Tryd.prog.cellsOf 26 = 4 := by kernel_rfl
theorem cellsQY : Tryd.prog.cellsOf 40 = 5 := by kernel_rfl
theorem cellsPO : Tryd.prog.cellsOf 29 = 5 := by kernel_rfl
theorem cellsTI8 : Tryd.prog.cellsOf 22 = 1 := by kernel_rfl
theorem cellsTU : Tryd.prog.cellsOf 23 = 1 := by kernel_rfl
theorem cellsTMS : Tryd.prog.cellsOf 24 = 1 := by kernel_rfl
theorem cellsQYS : Tryd.prog.cellsOf 27 = 1 := by kernel_rfl
theorem cellsT9 : Tryd.prog.cellsOf 9 = 1 := by kernel_rfl
theorem pickL {α : Type} {n : Nat} {p : Nat → α → Prop} (h : ∀ i, i < n → ∃ x, p i x) : ∃ l : List α, l.length = n ∧ ∀ i (hi : i < l.length), p i l[i] := by
  induction n with
  | zero => exact ⟨[], rfl, fun i hi => by simp at hi⟩
  | succ n ih =>
    obtain ⟨l, h1, h2⟩ := ih fun i hi => h i (by omega)
    obtain ⟨x, hx⟩ := h n (by omega)
    refine ⟨l ++ [x], by simp [h1], fun i hi => ?_⟩
    by_cases hlt : i < l.length
    · rw [List.getElem_append_left hlt]; exact h2 i hlt
    · have : i = l.length := by simp at hi; omega
      subst this
      rw [List.getElem_append_right (Nat.le_refl _)]
      simpa [h1] using hx
theorem flat_len {k : Nat} : ∀ l : List (List Value), (∀ x ∈ l, x.length = k) → l.flatten.length = l.length * k
  | [], _ => by simp
  | x :: l, h => by
    rw [List.flatten_cons, List.length_append, flat_len l fun y hy => h y (List.mem_cons_of_mem _ hy), h x List.mem_cons_self, List.length_cons, Nat.add_mul]
    omega
theorem flat_at {k : Nat} : ∀ (l : List (List Value)), (∀ x ∈ l, x.length = k) → ∀ (q : Nat) (v : Value), l.flatten[q]? = some v → ∃ (j : Nat) (hj : j < l.length) (i : Nat), i < k ∧ q = j * k + i ∧ l[j][i]? = some v
  | [], _, q, v, h => by simp at h
  | x :: l, hl, q, v, h => by
    have hx := hl x List.mem_cons_self
    rw [List.flatten_cons] at h
    by_cases hq : q < k
    · rw [List.getElem?_append_left (by omega)] at h
      exact ⟨0, by simp, q, hq, by omega, h⟩
    · rw [List.getElem?_append_right (by omega), hx] at h
      obtain ⟨j, hj, i, h1, h2, h3⟩ := flat_at l (fun y hy => hl y (List.mem_cons_of_mem _ hy)) (q - k) v h
      exact ⟨j + 1, by simp; omega, i, h1, by rw [Nat.add_mul]; omega, by simpa using h3⟩
section
variable {H : Type} {enc : TypeId × Value → H} {W : World}
/-- A SLICE THAT CAME IN, thing by thing. -/
theorem open_rx {t e k : Nat} (hu : Tryd.prog.underlying t = some (.slice e)) (hk : Tryd.prog.cellsOf e = k) (hk0 : 0 < k) {fuel : Nat} {cs : List Value} {d : DataW H} {p : List MemPlace} (hf : DataW.trod enc Tryd.prog W 0 (fun _ => true) true fuel t cs = some (d, p)) (hlt : ∀ y ∈ p, y.block < W.heap.size) (R : List Value → Prop)
    (hel : ∀ m cs' D Pl, m < fuel → DataW.trod enc Tryd.prog W 0 (fun _ => true) true m e cs' = some (D, Pl) → (∀ y ∈ Pl, y.block < W.heap.size) → R cs') :
    ∃ (v : Value) (l : List (List Value)), cs = [v] ∧ Gx (fun b => b < W.heap.size) k W v l.length l.flatten ∧ ∀ x ∈ l, x.length = k ∧ R x := by
  rcases DataW.trod_slice hu hf with ⟨rfl, -⟩ | ⟨a, len, cap, elems, rest, n, rfl, rfl, hx, -, hlc, -, hle, hc, -, -⟩
  · exact ⟨_, [], rfl, ⟨by simp, none, 0, rfl, Nat.le_refl _, fun h => absurd rfl h⟩, fun x hx => by cases hx⟩
  · rw [hk] at hx hc
    have hp : p = MemPlace.row a ((elems.length + rest.length) * k) ++ (elems ++ rest).flatMap (·.2) := congrArg Prod.snd hx
    obtain ⟨l, h1, h2⟩ := pickL (n := len) (p := fun i x => W.cells? 0 (a.add (i * k)) k = some x ∧ R x) (fun i hi => by
      have h3 := hc i hi
      have hi' : i < elems.length := by omega
      rw [List.getElem?_eq_getElem hi', Option.bind_eq_some_iff] at h3
      obtain ⟨x, hx1, hx2⟩ := h3
      exact ⟨x, hx1, hel n x elems[i].1 elems[i].2 (by omega) hx2 fun y hy => hlt y (by rw [hp]; exact List.mem_append_right _ (List.mem_flatMap.2 ⟨elems[i], List.mem_append_left _ (List.getElem_mem _), hy⟩))⟩)
    have hlen : ∀ x ∈ l, x.length = k ∧ R x := fun x hx => by
      obtain ⟨i, hi, rfl⟩ := List.mem_iff_getElem.1 hx
      obtain ⟨q1, q2⟩ := h2 i hi
      exact ⟨(World.cells?_some q1).2.1, q2⟩
    obtain ⟨b, off, spot⟩ := a
    refine ⟨_, l, rfl, ⟨flat_len l fun x hx => (hlen x hx).1, some ⟨b, off, spot⟩, cap, by rw [h1], by omega, fun hne => ?_⟩, hlen⟩
    have hpos : 0 < l.length := by omega
    have hspot : spot = none := by
      obtain ⟨hcl, -⟩ := h2 0 hpos
      have h0 := (World.cells?_some hcl).2.2 0 (by omega)
      have hl0 := (World.cells?_some hcl).2.1
      rw [List.getElem?_eq_getElem (by omega)] at h0
      simpa [Addr.add] using World.cell?_spot h0
    subst hspot
    refine ⟨b, off, rfl, ?_, ?_, fun q v hq => ?_⟩
    · refine hlt (.cell b off) ?_
      rw [hp]
      exact List.mem_append_left _ (MemPlace.mem_row.2 ⟨0, Nat.mul_pos (by omega) hk0, by simp⟩)
    · refine hlt (.cell b off) ?_
      rw [hp]
      exact List.mem_append_left _ (MemPlace.mem_row.2 ⟨0, Nat.mul_pos (by omega) hk0, by simp⟩)
    · obtain ⟨j, hj, i, q1, rfl, q3⟩ := flat_at l (fun x hx => (hlen x hx).1) q v hq
      obtain ⟨hcl, -⟩ := h2 j hj
      have := (World.cells?_some hcl).2.2 i q1
      rw [Addr.add_mid, Addr.add_mid, q3] at this
      rw [← Nat.add_assoc]
      exact this
theorem ti_pick {S : Nat → Prop} : ∀ l : List (List Value), (∀ x ∈ l, ∃ t, GiV S W t x.toArray ∧ Wi t) → ∃ ts, ts.length = l.length ∧ GiL S W ts l.flatten ∧ ∀ t ∈ ts, Wi t
  | [], _ => ⟨[], rfl, by rw [GiL]; rfl, fun t h => by cases h⟩
  | x :: l, h => by
    obtain ⟨t, ht, hw⟩ := h x List.mem_cons_self
    obtain ⟨ts, h1, h2, h3⟩ := ti_pick l fun y hy => h y (List.mem_cons_of_mem _ hy)
    refine ⟨t :: ts, by simp [h1], ?_, fun y hy => ?_⟩
    · rw [GiL]
      exact ⟨x.toArray, l.flatten, by simp, ht, h2⟩
    · rcases List.mem_cons.1 hy with rfl | hy
      · exact hw
      · exact h3 y hy
theorem qi_pick {S : Nat → Prop} : ∀ l : List (List Value), (∀ x ∈ l, ∃ nm t ds, x = .string nm :: ds ∧ GiV S W t ds.toArray ∧ Wi t) → ∃ qs : List Qi, qs.length = l.length ∧ GqL S W qs l.flatten ∧ ∀ q ∈ qs, Wi q.pd
  | [], _ => ⟨[], rfl, rfl, fun q h => by cases h⟩
  | x :: l, h => by
    obtain ⟨nm, t, ds, rfl, ht, hw⟩ := h x List.mem_cons_self
    obtain ⟨ts, h1, h2, h3⟩ := qi_pick l fun y hy => h y (List.mem_cons_of_mem _ hy)
    refine ⟨⟨nm, t⟩ :: ts, by simp [h1], ⟨ds.toArray, l.flatten, by simp, ht, h2⟩, fun y hy => ?_⟩
    rcases List.mem_cons.1 hy with rfl | hy
    · exact hw
    · exact h3 y hy
/-- THE FIELDS OF A STRUCT THAT CAME IN. -/
theorem open_flds {t : Nat} {fs : Array Field} (hu : Tryd.prog.underlying t = some (.struct fs)) {fuel : Nat} {cs : List Value} {D : DataW H} {Pl : List MemPlace} (hf : DataW.trod enc Tryd.prog W 0 (fun _ => true) true fuel t cs = some (D, Pl)) (hlt : ∀ y ∈ Pl, y.block < W.heap.size) :
    cs.length = Tryd.prog.cellsOf t ∧ ∀ (i : Nat) (f : Field), fs[i]? = some f → ∃ n D' Pl', n < fuel ∧ DataW.trod enc Tryd.prog W 0 (fun _ => true) true n f.type ((cs.drop f.offset).take (Tryd.prog.cellsOf f.type)) = some (D', Pl') ∧ ∀ y ∈ Pl', y.block < W.heap.size := by
  obtain ⟨xs, n, rfl, hx, hl, hlen, hfs⟩ := DataW.trod_struct hu hf
  refine ⟨hl, fun i f hi => ?_⟩
  have h1 := hfs i f hi
  have hi' : i < xs.length := by rw [hlen]; exact (Array.getElem?_eq_some_iff.1 hi).1
  rw [List.getElem?_eq_getElem hi'] at h1
  simp only [Prod.mk.injEq] at hx
  refine ⟨n, xs[i].1, xs[i].2, by omega, h1, fun y hy => hlt y ?_⟩
  rw [hx.2]; exact List.mem_flatMap.2 ⟨xs[i], List.getElem_mem _, hy⟩
theorem four_of {cs : List Value} {a b c d : Value} (hl : cs.length = 4) (h0 : (cs.drop 0).take 1 = [a]) (h1 : (cs.drop 1).take 1 = [b]) (h2 : (cs.drop 2).take 1 = [c]) (h3 : (cs.drop 3).take 1 = [d]) : cs = [a, b, c, d] := by
  obtain ⟨x, y, z, u, rfl⟩ : ∃ x y z u, cs = [x, y, z, u] := by
    match cs, hl with
    | [x, y, z, u], _ => exact ⟨x, y, z, u, rfl⟩
  simp at h0 h1 h2 h3
  rw [h0, h1, h2, h3]
theorem nat_u64 {n : Int} (h : (Lit.int .u64 n).wf = true) : ∃ m : Nat, n = (m : Int) := by
  simp [Lit.wf, IntKind.min, IntKind.max, IntKind.signed, IntKind.bits] at h
  exact ⟨n.toNat, by omega⟩
theorem i8_of {n : Int} (h : (Lit.int .i8 n).wf = true) : -128 ≤ n ∧ n ≤ 127 := by
  simp [Lit.wf, IntKind.min, IntKind.max, IntKind.signed, IntKind.bits] at h
  omega
/-- A TERM THAT CAME IN. -/
theorem open_ti : ∀ (N fuel : Nat), fuel ≤ N → ∀ (cs : List Value) (D : DataW H) (Pl : List MemPlace), DataW.trod enc Tryd.prog W 0 (fun _ => true) true fuel 26 cs = some (D, Pl) → (∀ y ∈ Pl, y.block < W.heap.size) → ∃ t, GiV (fun b => b < W.heap.size) W t cs.toArray ∧ Wi t
  | 0, fuel, hN, cs, D, Pl, hf, hlt => by
    obtain rfl : fuel = 0 := by omega
    simp [DataW.trod] at hf
  | N + 1, fuel, hN, cs, D, Pl, hf, hlt => by
    have F := open_flds Tryd.underlying26 hf hlt
    have hl := F.1
    rw [cellsTM] at hl
    obtain ⟨n0, D0, P0, m0, e0, -⟩ : ∃ n D' Pl', n < fuel ∧ DataW.trod enc Tryd.prog W 0 (fun _ => true) true n 22 ((cs.drop 0).take (Tryd.prog.cellsOf 22)) = some (D', Pl') ∧ ∀ y ∈ Pl', y.block < W.heap.size := F.2 0 _ rfl
    obtain ⟨n1, D1, P1, m1, e1, -⟩ : ∃ n D' Pl', n < fuel ∧ DataW.trod enc Tryd.prog W 0 (fun _ => true) true n 22 ((cs.drop 1).take (Tryd.prog.cellsOf 22)) = some (D', Pl') ∧ ∀ y ∈ Pl', y.block < W.heap.size := F.2 1 _ rfl
    obtain ⟨n2, D2, P2, m2, e2, -⟩ : ∃ n D' Pl', n < fuel ∧ DataW.trod enc Tryd.prog W 0 (fun _ => true) true n 23 ((cs.drop 2).take (Tryd.prog.cellsOf 23)) = some (D', Pl') ∧ ∀ y ∈ Pl', y.block < W.heap.size := F.2 2 _ rfl
    obtain ⟨n3, D3, P3, m3, e3, l3⟩ : ∃ n D' Pl', n < fuel ∧ DataW.trod enc Tryd.prog W 0 (fun _ => true) true n 24 ((cs.drop 3).take (Tryd.prog.cellsOf 24)) = some (D', Pl') ∧ ∀ y ∈ Pl', y.block < W.heap.size := F.2 3 _ rfl
    rw [cellsTI8] at e0 e1
    rw [cellsTU] at e2
    rw [cellsTMS] at e3
    obtain ⟨op, c0, -, wo⟩ := DataW.trod_int Tryd.underlying22 e0
    obtain ⟨fd, c1, -, -⟩ := DataW.trod_int Tryd.underlying22 e1
    obtain ⟨nn, c2, -, wn⟩ := DataW.trod_int Tryd.underlying23 e2
    obtain ⟨n, rfl⟩ := nat_u64 wn
    obtain ⟨v, l, c3, hr, hx⟩ := open_rx Tryd.underlying24 cellsTM (by omega) e3 l3 (fun x => ∃ t, GiV (fun b => b < W.heap.size) W t x.toArray ∧ Wi t) (fun m cs' D' Pl' hm h1 h2 => open_ti N m (by omega) cs' D' Pl' h1 h2)
    obtain ⟨ts, h1, h2, h9⟩ := ti_pick l fun x hx' => (hx x hx').2
    obtain rfl := four_of hl c0 c1 c2 c3
    refine ⟨.mk op fd n ts, ?_, Wi.mk _ _ _ _ (i8_of wo).1 (i8_of wo).2 h9⟩
    rw [GiV]
    exact ⟨v, l.flatten, rfl, by rw [h1]; exact hr, h2⟩
/-- A POLICY THAT CAME IN. -/
theorem open_pi {fuel : Nat} {cs : List Value} {D : DataW H} {Pl : List MemPlace} (hf : DataW.trod enc Tryd.prog W 0 (fun _ => true) true fuel 29 cs = some (D, Pl)) (hlt : ∀ y ∈ Pl, y.block < W.heap.size) : ∃ p, GpV (fun b => b < W.heap.size) W p cs.toArray ∧ Wp p := by
  have F := open_flds Tryd.underlying29 hf hlt
  have hl := F.1
  rw [cellsPO] at hl
  obtain ⟨n0, D0, P0, m0, e0, l0⟩ : ∃ n D' Pl', n < fuel ∧ DataW.trod enc Tryd.prog W 0 (fun _ => true) true n 26 ((cs.drop 0).take (Tryd.prog.cellsOf 26)) = some (D', Pl') ∧ ∀ y ∈ Pl', y.block < W.heap.size := F.2 0 _ rfl
  obtain ⟨n1, D1, P1, m1, e1, l1⟩ : ∃ n D' Pl', n < fuel ∧ DataW.trod enc Tryd.prog W 0 (fun _ => true) true n 27 ((cs.drop 4).take (Tryd.prog.cellsOf 27)) = some (D', Pl') ∧ ∀ y ∈ Pl', y.block < W.heap.size := F.2 1 _ rfl
  rw [cellsTM] at e0
  rw [cellsQYS] at e1
  obtain ⟨t, ht, hwt⟩ := open_ti n0 n0 (Nat.le_refl _) _ _ _ e0 l0
  obtain ⟨v, l, c1, hr, hx⟩ := open_rx Tryd.underlying27 cellsQY (by omega) e1 l1 (fun x => ∃ nm t ds, x = .string nm :: ds ∧ GiV (fun b => b < W.heap.size) W t ds.toArray ∧ Wi t) (fun m cs' D' Pl' hm h1 h2 => by
    have G := open_flds Tryd.underlying40 h1 h2
    have gl := G.1
    rw [cellsQY] at gl
    obtain ⟨k0, E0, Q0, u0, f0, -⟩ : ∃ n D' Pl', n < m ∧ DataW.trod enc Tryd.prog W 0 (fun _ => true) true n 9 ((cs'.drop 0).take (Tryd.prog.cellsOf 9)) = some (D', Pl') ∧ ∀ y ∈ Pl', y.block < W.heap.size := G.2 0 _ rfl
    obtain ⟨k1, E1, Q1, u1, f1, q1⟩ : ∃ n D' Pl', n < m ∧ DataW.trod enc Tryd.prog W 0 (fun _ => true) true n 26 ((cs'.drop 1).take (Tryd.prog.cellsOf 26)) = some (D', Pl') ∧ ∀ y ∈ Pl', y.block < W.heap.size := G.2 1 _ rfl
    rw [cellsT9] at f0
    rw [cellsTM] at f1
    obtain ⟨nm, d0, -, -⟩ := DataW.trod_string Tryd.underlying9 f0
    obtain ⟨t', ht', hwt'⟩ := open_ti k1 k1 (Nat.le_refl _) _ _ _ f1 q1
    refine ⟨nm, t', (cs'.drop 1).take 4, ?_, ht', hwt'⟩
    rw [List.take_of_length_le (by simp; omega)]
    cases cs' with
    | nil => simp at gl
    | cons x r =>
      simp at d0
      rw [d0]; rfl)
  obtain ⟨qs, h1, h2, h9⟩ := qi_pick l fun x hx' => (hx x hx').2
  refine ⟨⟨t, qs⟩, ⟨(cs.take 4).toArray, v, l.flatten, ?_, by simpa using ht, by simp only; rw [h1]; exact hr, h2⟩, hwt, h9⟩
  have h4 : cs.drop 4 = [v] := by
    rw [List.take_of_length_le (by rw [List.length_drop]; omega)] at c1
    exact c1
  have h5 : cs = cs.take 4 ++ [v] := by rw [← h4, List.take_append_drop]
  exact (congrArg List.toArray h5).trans (by simp)
end
end Go.Proofs.YtjallmncajhamaaDoor
