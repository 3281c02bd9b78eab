/-
  Proved here: what came in as a rule's copies, a rule, a held rule or a message holds numbers of its types and slices within the reach of every row. No further condition.
-/
/-
  Proved here: a message that came in is its numbers and slices within the reach of every row (open_msg); so is a slice of bytes (open_sl). No further condition.
-/
/-
  Plain facts: what the document's bare keeps of a message; where it keeps all, the rest is blank. No program is spoken of.
-/
/-
  Proved here: the document's Put, Width, size, flag, ports (of package tollbridgeref07) append what they should. Condition where it is named: fewer than 2 to 31 bytes.
-/
/-
  Proved here: the writer's methods number, count, short write the lowest bytes of a number. Conditions: at most 8 bytes.
-/
import Derived.Test.YtllbbbfkdgjffaaGreatDoorO1
import Derived.Test.YtllbbbfkdgjffaaGreatDoorV1
namespace Go.Proofs.YtllbbbfkdgjffaaGreatDoor
open Go.ChangeShapes Go.WideShapes Go.ChangeAt Go.RowKit Go.Deep

section
variable {H : Type} {enc : TypeId × Value → H} {W : World}
/-- THE FIELDS OF A STRUCT THAT CAME IN. -/
theorem open_fields {t : Nat} {fs : Array Field} (hu : Tryz.prog.underlying t = some (.struct fs)) {fuel : Nat} {cs : List Value} {D : DataW H} {Pl : List MemPlace} (hf : DataW.trod enc Tryz.prog W 0 (fun _ => true) true fuel t cs = some (D, Pl)) (hlt : ∀ y ∈ Pl, y.block < W.heap.size) (hw : ∀ n ∈ D.weights Tryz.prog t, n ≤ reachBytes) :
    cs.length = Tryz.prog.cellsOf t ∧ ∀ (i : Nat) (f : Field), fs[i]? = some f → ∃ n D' Pl', DataW.trod enc Tryz.prog W 0 (fun _ => true) true n f.type ((cs.drop f.offset).take (Tryz.prog.cellsOf f.type)) = some (D', Pl') ∧ (∀ y ∈ Pl', y.block < W.heap.size) ∧ ∀ n ∈ D'.weights Tryz.prog f.type, n ≤ reachBytes := by
  obtain ⟨xs, n, _, hx, hl, hlen, hfs⟩ := DataW.trod_struct hu hf
  refine ⟨hl, fun i f hi => ?_⟩
  have h1 := hfs i f hi
  have hi' : i < xs.length := by rw [hlen]; exact (Array.getElem?_eq_some_iff.1 hi).1
  rw [List.getElem?_eq_getElem hi'] at h1
  simp only [Prod.mk.injEq] at hx
  refine ⟨n, xs[i].1, xs[i].2, h1, fun y hy => hlt y ?_, fun m hm => hw m ?_⟩
  · rw [hx.2]; exact List.mem_flatMap.2 ⟨xs[i], List.getElem_mem _, hy⟩
  · rw [hx.1]
    simp only [DataW.weights, hu]
    exact DataW.weights_mem_each (j := i) (by simp [hi]) (by simp [hi']) m hm
theorem take_one {cs : List Value} {o : Nat} {v : Value} (h : (cs.drop o).take 1 = [v]) : cs[o]? = some v := by
  have := congrArg (·[0]?) h
  simpa [List.getElem?_take, List.getElem?_drop] using this
theorem one_int {t : Nat} {k : IntKind} (hu : Tryz.prog.underlying t = some (.int k)) (hc : Tryz.prog.cellsOf t = 1) {fuel : Nat} {cs : List Value} {o : Nat} {x : DataW H × List MemPlace} (hf : DataW.trod enc Tryz.prog W 0 (fun _ => true) true fuel t ((cs.drop o).take (Tryz.prog.cellsOf t)) = some x) :
    ∃ n : Int, cs[o]? = some (.int k n) ∧ (Lit.int k n).wf = true := by
  rw [hc] at hf
  obtain ⟨n, e1, _, wn⟩ := DataW.trod_int hu hf
  exact ⟨n, take_one e1, wn⟩
theorem one_bool {fuel : Nat} {cs : List Value} {o : Nat} {x : DataW H × List MemPlace} (hf : DataW.trod enc Tryz.prog W 0 (fun _ => true) true fuel 4 ((cs.drop o).take (Tryz.prog.cellsOf 4)) = some x) :
    ∃ b : Bool, cs[o]? = some (.bool b) := by
  rw [cellsBool] at hf
  obtain ⟨n, e1, _⟩ := DataW.trod_bool Tryz.underlying4 hf
  exact ⟨n, take_one e1⟩
theorem one_lst {α : Type} {t e k : Nat} {R : World → (Nat → Option Value) → α → Prop} (hc : Tryz.prog.cellsOf t = 1) (hu : Tryz.prog.underlying t = some (.slice e)) (hk : Tryz.prog.cellsOf e = k) (hk0 : 0 < k) (hb : 1 ≤ Tryz.prog.bytesOf e) (hel : Opens enc W e k R)
    {fuel : Nat} {cs : List Value} {o : Nat} {d : DataW H} {p : List MemPlace} (hf : DataW.trod enc Tryz.prog W 0 (fun _ => true) true fuel t ((cs.drop o).take (Tryz.prog.cellsOf t)) = some (d, p)) (hlt : ∀ y ∈ p, y.block < W.heap.size) (hw : ∀ n ∈ d.weights Tryz.prog t, n ≤ reachBytes) :
    ∃ v l, cs[o]? = some v ∧ Lst (fun b => b < W.heap.size) k R W v l := by
  rw [hc] at hf
  obtain ⟨v, l, e, h⟩ := open_lst hu hk hk0 hb hel hf hlt hw
  exact ⟨v, l, take_one e, h⟩
theorem opens_u8 : Opens enc W 5 1 (fun _ f (x : Int) => f 0 = some (.int .u8 x) ∧ 0 ≤ x ∧ x < 256) := fun fuel cs D Pl hf _ _ => by
  obtain ⟨n, e1, _, wn⟩ := DataW.trod_int Tryz.underlying5 hf
  have := bounds_u8 wn
  exact ⟨n, fun f h => ⟨by rw [h 0 (by omega), e1]; rfl, by omega, by omega⟩⟩
theorem opens_sh : Opens enc W 32 1 RSh := fun fuel cs D Pl hf _ _ => by
  obtain ⟨n, e1, _, wn⟩ := DataW.trod_int Tryz.underlying32 hf
  have := bounds_u16 wn
  exact ⟨n, fun f h => ⟨by rw [h 0 (by omega), e1]; rfl, by unfold In16; omega⟩⟩
theorem opens_ac : Opens enc W 93 3 RAc := fun fuel cs D Pl hf hlt hw => by
  have F := open_fields Tryz.underlying93 hf hlt hw
  obtain ⟨_, _, _, e0, _, _⟩ := F.2 0 _ rfl
  obtain ⟨_, _, _, e1, _, _⟩ := F.2 1 _ rfl
  obtain ⟨_, _, _, e2, _, _⟩ := F.2 2 _ rfl
  obtain ⟨a, a1, a2⟩ := one_int (o := 0) Tryz.underlying22 cellsI8 e0
  obtain ⟨b, b1, b2⟩ := one_int (o := 1) Tryz.underlying22 cellsI8 e1
  obtain ⟨c, c1, c2⟩ := one_int (o := 2) Tryz.underlying24 cellsU64 e2
  have := bounds_i8 a2
  have := bounds_i8 b2
  have := bounds_u64 c2
  exact ⟨⟨a, b, c⟩, fun f h => ⟨by rw [h 0 (by omega), a1], by rw [h 1 (by omega), b1], by rw [h 2 (by omega), c1], ⟨by simp only; omega, by simp only; omega⟩, ⟨by simp only; omega, by simp only; omega⟩, by unfold InB; simp only; omega⟩⟩
theorem opens_acs : Opens enc W 87 1 (RCp fun b => b < W.heap.size) := opens_lst Tryz.underlying87 cellsACT (by omega) (by decide +kernel) opens_ac
theorem open_hdr {fuel : Nat} {cs : List Value} {x : DataW H × List MemPlace} (hf : DataW.trod enc Tryz.prog W 0 (fun _ => true) true fuel 26 cs = some x) : ∃ h : Nat → Int, ∀ k, k < 11 → cs[k]? = some (.int .u64 (h k)) ∧ InB (h k) := by
  obtain ⟨xs, m, rfl, hx, hl, hn, hel⟩ := DataW.trod_array Tryz.underlying26 hf
  have key : ∀ k, k < 11 → ∃ n : Int, cs[k]? = some (.int .u64 n) ∧ InB n := by
    intro k hk
    have h1 := hel k hk
    have hkx : k < xs.length := by omega
    rw [List.getElem?_eq_getElem hkx, cellsU64, Nat.mul_one] at h1
    obtain ⟨n, e1, e2, wn⟩ := DataW.trod_int Tryz.underlying24 h1
    have := bounds_u64 wn
    exact ⟨n, take_one e1, by unfold InB; omega⟩
  refine ⟨fun k => if hk : k < 11 then (key k hk).choose else 0, fun k hk => ?_⟩
  simp only [hk, dite_true]
  exact (key k hk).choose_spec
theorem open_mat {fuel : Nat} {cs : List Value} {D : DataW H} {Pl : List MemPlace} (hf : DataW.trod enc Tryz.prog W 0 (fun _ => true) true fuel 28 cs = some (D, Pl)) (hlt : ∀ y ∈ Pl, y.block < W.heap.size) (hw : ∀ n ∈ D.weights Tryz.prog 28, n ≤ reachBytes) : ∃ m : Nat → Int, (∀ k, k < 22 → cs[k]? = some (.int .u64 (m k)) ∧ InB (m k)) ∧ ∀ k, 22 ≤ k → m k = 0 := by
  have F := open_fields Tryz.underlying28 hf hlt hw
  obtain ⟨_, _, _, e0, _, _⟩ := F.2 0 _ rfl
  obtain ⟨_, _, _, e1, _, _⟩ := F.2 1 _ rfl
  obtain ⟨a, ha⟩ := open_hdr e0
  obtain ⟨b, hb⟩ := open_hdr e1
  refine ⟨fun k => if k < 11 then a k else if k < 22 then b (k - 11) else 0, fun k hk => ?_, fun k hk => ?_⟩
  · by_cases h : k < 11
    · have := ha k h
      simp only [h, if_true]
      simpa [List.getElem?_take, List.getElem?_drop, cellsHDR, h] using this
    · have := hb (k - 11) (by omega)
      simp only [h, if_false, hk, if_true]
      have h2 : k - 11 < 11 := by omega
      have h3 : 11 + (k - 11) = k := by omega
      simpa [List.getElem?_take, List.getElem?_drop, cellsHDR, h2, h3] using this
  · simp only [show ¬ k < 11 by omega, show ¬ k < 22 by omega, if_false]
theorem open_rule {fuel : Nat} {cs : List Value} {D : DataW H} {Pl : List MemPlace} (hf : DataW.trod enc Tryz.prog W 0 (fun _ => true) true fuel 31 cs = some (D, Pl)) (hlt : ∀ y ∈ Pl, y.block < W.heap.size) (hw : ∀ n ∈ D.weights Tryz.prog 31, n ≤ reachBytes) :
    ∃ (r : Rl) (u : Value), (∀ i, i < 25 → cs[i]? = (rlc r u)[i]?) ∧ Cps (fun b => b < W.heap.size) W u r.cp ∧ r.Fit := by
  have F := open_fields Tryz.underlying31 hf hlt hw
  obtain ⟨_, _, _, e0, _, _⟩ := F.2 0 _ rfl
  obtain ⟨_, _, _, e1, l1, w1⟩ := F.2 1 _ rfl
  obtain ⟨_, _, _, e2, l2, w2⟩ := F.2 2 _ rfl
  obtain ⟨_, _, _, e3, _, _⟩ := F.2 3 _ rfl
  obtain ⟨a, a1, a2⟩ := one_int (o := 0) Tryz.underlying3 cells3 e0
  obtain ⟨m, m1, m2⟩ := open_mat e1 l1 w1
  obtain ⟨u, l, u1, u2⟩ := one_lst (o := 23) cellsCPS Tryz.underlying29 cellsACTS (by omega) (by decide +kernel) opens_acs e2 l2 w2
  obtain ⟨c, c1, c2⟩ := one_int (o := 24) Tryz.underlying24 cellsU64 e3
  have ba := bounds_i64 a2
  have bc := bounds_u64 c2
  refine ⟨⟨a, m, l, c⟩, u, fun i hi => ?_, u2, ⟨by simp only; omega, by simp only; omega⟩, fun k hk => (m1 k hk).2, m2, ?_, by unfold InB; simp only; omega⟩
  · by_cases h0 : i = 0
    · subst h0; rw [a1, rlc_rk]
    · by_cases h1 : i < 23
      · obtain ⟨k, rfl⟩ : ∃ k, i = 1 + k := ⟨i - 1, by omega⟩
        have hk : k < 22 := by omega
        rw [rlc_mt _ _ k hk]
        have := (m1 k hk).1
        rw [Nat.add_comm]
        simpa [List.getElem?_take, List.getElem?_drop, cellsMAT, hk] using this
      · by_cases h2 : i = 23
        · subst h2; rw [u1, rlc_cp]
        · obtain rfl : i = 24 := by omega
          rw [c1, rlc_ck]
  · exact Lst.all u2 (P := fun (l : List Ac) => ∀ a ∈ l, a.Fit) fun f x ⟨u, _, h⟩ => Lst.all h fun f a h => h.2.2.2
theorem opens_hd : Opens enc W 57 27 (RHd fun b => b < W.heap.size) := fun fuel cs D Pl hf hlt hw => by
  have F := open_fields Tryz.underlying57 hf hlt hw
  obtain ⟨_, _, _, e0, l0, w0⟩ := F.2 0 _ rfl
  obtain ⟨_, _, _, e1, l1, w1⟩ := F.2 1 _ rfl
  obtain ⟨r, u, r1, r2, r3⟩ := open_rule e0 l0 w0
  have G := open_fields Tryz.underlying55 e1 l1 w1
  obtain ⟨_, _, _, g0, _, _⟩ := G.2 0 _ rfl
  obtain ⟨_, _, _, g1, _, _⟩ := G.2 1 _ rfl
  obtain ⟨a, a1, a2⟩ := one_int (o := 0) Tryz.underlying24 cellsU64 g0
  obtain ⟨b, b1, b2⟩ := one_int (o := 1) Tryz.underlying24 cellsU64 g1
  have ba := bounds_u64 a2
  have bb := bounds_u64 b2
  refine ⟨⟨r, a, b⟩, fun f h => ⟨u, fun i hi => ?_, r2, r3, by unfold InB; simp only; omega, by unfold InB; simp only; omega⟩⟩
  rw [h i hi]
  by_cases h0 : i < 25
  · rw [hdc_rl _ _ i h0, ← r1 i h0]
    simp [cellsRULE, h0]
  · by_cases h1 : i = 25
    · subst h1
      rw [hdc_pk]
      simpa [List.getElem?_take, List.getElem?_drop, cellsCNT] using a1
    · obtain rfl : i = 26 := by omega
      rw [hdc_bt]
      simpa [List.getElem?_take, List.getElem?_drop, cellsCNT] using b1
end
end Go.Proofs.YtllbbbfkdgjffaaGreatDoor
namespace Go.Proofs.YtllbbbfkdgjffaaGreatDoor
open Go.ChangeShapes Go.WideShapes Go.ChangeAt Go.RowKit Go.Deep

theorem slc_of_lst {T : Nat → Prop} {w : World} {v : Value} {l : List Int} (h : Lst T 1 (fun _ f (x : Int) => f 0 = some (.int .u8 x) ∧ 0 ≤ x ∧ x < 256) w v l) : SlC T w v l := by
  have hall := Lst.all h (P := fun x => 0 ≤ x ∧ x < 256) fun f x h => h.2
  obtain ⟨ao, cap, h1, h2, h3, h4, h5⟩ := h
  refine ⟨ao, cap, h1, h2, h3, hall, h4, fun hne => ?_⟩
  obtain ⟨b, o, hb, rfl, hcl⟩ := h5 hne
  refine ⟨b, o, hb, rfl, fun j hj => ?_⟩
  have := (hcl j hj).1
  rw [List.getD_eq_getElem?_getD, List.getElem?_eq_getElem hj]
  simpa using this
theorem ok_struct {P : Program} {w : World} {r : Reach} {base : Nat} {params : Array TypeId} {args : Array Value} {t : TypeId} {fs : Array Field} (hval : ∀ (j : Nat) t v, params[j]? = some t → args[j]? = some v → Value.okWide P w r base t v) (hu : P.underlying t = some (.struct fs)) (j : Nat) (v : Value) (hp : params[j]? = some t) (ha : args[j]? = some v) : ∃ cs, v = .agg cs ∧ cs.size = P.cellsOf t := by
  have h := hval j t v hp ha
  unfold Value.okWide at h
  rw [hu] at h
  obtain ⟨cs, h1, h2, _⟩ := h
  exact ⟨cs, h1, h2⟩
theorem ok_slice {P : Program} {w : World} {r : Reach} {base : Nat} {params : Array TypeId} {args : Array Value} {t e : TypeId} (hval : ∀ (j : Nat) t v, params[j]? = some t → args[j]? = some v → Value.okWide P w r base t v) (hu : P.underlying t = some (.slice e)) (j : Nat) (v : Value) (hp : params[j]? = some t) (ha : args[j]? = some v) : ∃ ao n c, v = .slice ao n c := okWide_slice hu (hval j t v hp ha)
theorem msc_came (m : Ms) (s : Sls) (cs : Array Value) (hs : cs.size = 36) (hr : ∀ k, k < 25 → cs.toList[3 + k]? = (rlc m.r s.cp)[k]?) (c0 : cs.toList[0]? = some (.int .i8 m.ty)) (c1 : cs.toList[1]? = some (.int .u32 m.id)) (c2 : cs.toList[2]? = some (.int .i8 m.dw)) (c4 : cs.toList[28]? = some (.int .u16 m.po)) (c5 : cs.toList[29]? = some (.bool m.up)) (c6 : cs.toList[30]? = some (.int .u16 m.sw))
    (c7 : cs.toList[31]? = some s.ps) (c8 : cs.toList[32]? = some s.ed) (c9 : cs.toList[33]? = some s.fr) (c10 : cs.toList[34]? = some s.hs) (c11 : cs.toList[35]? = some (.int .u16 m.co)) : cs = msc m s := by
  apply Array.ext_getElem?
  intro i
  have A := msc_at m s
  rw [← Array.getElem?_toList]
  by_cases h : 3 ≤ i ∧ i < 28
  · obtain ⟨k, rfl⟩ : ∃ k, i = 3 + k := ⟨i - 3, by omega⟩
    have hk : k < 25 := by omega
    rw [msc_rl _ _ k hk, hr k hk]
  · by_cases h36 : i < 36
    · have hi : i = 0 ∨ i = 1 ∨ i = 2 ∨ i = 28 ∨ i = 29 ∨ i = 30 ∨ i = 31 ∨ i = 32 ∨ i = 33 ∨ i = 34 ∨ i = 35 := by omega
      obtain ⟨A0, A1, A2, A3, A4, A5, A6, A7, A8, A9, A10⟩ := A
      rcases hi with rfl | rfl | rfl | rfl | rfl | rfl | rfl | rfl | rfl | rfl | rfl
      · rw [c0, A0]
      · rw [c1, A1]
      · rw [c2, A2]
      · rw [c4, A3]
      · rw [c5, A4]
      · rw [c6, A5]
      · rw [c7, A6]
      · rw [c8, A7]
      · rw [c9, A8]
      · rw [c10, A9]
      · rw [c11, A10]
    · rw [List.getElem?_eq_none (by simp; omega), Array.getElem?_eq_none (by rw [msc_size]; omega)]
section
variable {H : Type} {enc : TypeId × Value → H} {W : World}
/-- A SLICE OF BYTES THAT CAME IN. -/
theorem open_sl {v : Value} {d : DataW H} {p : List MemPlace} (h0 : DataW.Trod enc Tryz.prog W 0 (fun _ => true) true 34 v d p) (hlt : ∀ y ∈ p, y.block < W.heap.size) (hw : ∀ n ∈ d.weights Tryz.prog 34, n ≤ reachBytes) (hv : ∃ ao n c, v = .slice ao n c) :
    ∃ bs, SlC (fun b => b < W.heap.size) W v bs := by
  obtain ⟨fuel, hf⟩ := h0
  obtain ⟨ao, n, c, rfl⟩ := hv
  obtain ⟨v', l, hcs, hl⟩ := open_lst Tryz.underlying34 cells5 (by omega) (by decide +kernel) opens_u8 hf hlt hw
  simp only [Value.cells] at hcs
  have : v' = .slice ao n c := by simpa using hcs.symm
  exact ⟨l, this ▸ slc_of_lst hl⟩
set_option maxHeartbeats 800000 in
/-- A MESSAGE THAT CAME IN. -/
theorem open_msg {v : Value} {d : DataW H} {p : List MemPlace} (hv0 : ∃ cs, v = .agg cs ∧ cs.size = Tryz.prog.cellsOf 37) (h0 : DataW.Trod enc Tryz.prog W 0 (fun _ => true) true 37 v d p) (hlt : ∀ y ∈ p, y.block < W.heap.size) (hw : ∀ n ∈ d.weights Tryz.prog 37, n ≤ reachBytes) :
    ∃ (m : Ms) (s : Sls), v = .agg (msc m s) ∧ m.Fit ∧ Mss (fun b => b < W.heap.size) W m s := by
  obtain ⟨cs, rfl, hsz⟩ := hv0
  rw [cellsMSG] at hsz
  obtain ⟨fuel, hf⟩ := h0
  have F := open_fields Tryz.underlying37 hf hlt hw
  simp only [Value.cells] at F
  obtain ⟨_, _, _, e0, l0, w0⟩ := F.2 0 _ rfl
  obtain ⟨_, _, _, e1, l1, w1⟩ := F.2 1 _ rfl
  obtain ⟨_, _, _, e2, l2, w2⟩ := F.2 2 _ rfl
  obtain ⟨_, _, _, e3, l3, w3⟩ := F.2 3 _ rfl
  obtain ⟨_, _, _, e4, l4, w4⟩ := F.2 4 _ rfl
  obtain ⟨_, _, _, e5, l5, w5⟩ := F.2 5 _ rfl
  obtain ⟨_, _, _, e6, l6, w6⟩ := F.2 6 _ rfl
  obtain ⟨_, _, _, e7, l7, w7⟩ := F.2 7 _ rfl
  obtain ⟨_, _, _, e8, l8, w8⟩ := F.2 8 _ rfl
  obtain ⟨_, _, _, e9, l9, w9⟩ := F.2 9 _ rfl
  obtain ⟨_, _, _, e10, l10, w10⟩ := F.2 10 _ rfl
  obtain ⟨_, _, _, e11, l11, w11⟩ := F.2 11 _ rfl
  obtain ⟨x0, c0, b0⟩ := one_int (o := 0) Tryz.underlying22 cellsI8 e0
  have b0 := bounds_i8 b0
  obtain ⟨x1, c1, b1⟩ := one_int (o := 1) Tryz.underlying23 cellsU32 e1
  have b1 := bounds_u32 b1
  obtain ⟨x2, c2, b2⟩ := one_int (o := 2) Tryz.underlying22 cellsI8 e2
  have b2 := bounds_i8 b2
  obtain ⟨x4, c4, b4⟩ := one_int (o := 28) Tryz.underlying32 cellsU16 e4
  have b4 := bounds_u16 b4
  obtain ⟨x6, c6, b6⟩ := one_int (o := 30) Tryz.underlying32 cellsU16 e6
  have b6 := bounds_u16 b6
  obtain ⟨x11, c11, b11⟩ := one_int (o := 35) Tryz.underlying32 cellsU16 e11
  have b11 := bounds_u16 b11
  obtain ⟨r3, u3, c3, m3, f3⟩ := open_rule e3 l3 w3
  obtain ⟨x5, c5⟩ := one_bool (o := 29) e5
  obtain ⟨u7, x7, c7, m7⟩ := one_lst (o := 31) cellsUS Tryz.underlying33 cellsU16 (by omega) (by decide +kernel) opens_sh e7 l7 w7
  obtain ⟨u8, x8, c8, m8⟩ := one_lst (o := 32) cellsUS Tryz.underlying33 cellsU16 (by omega) (by decide +kernel) opens_sh e8 l8 w8
  obtain ⟨u9, x9, c9, m9⟩ := one_lst (o := 33) cellsBY Tryz.underlying34 cells5 (by omega) (by decide +kernel) opens_u8 e9 l9 w9
  obtain ⟨u10, x10, c10, m10⟩ := one_lst (o := 34) cellsHDS Tryz.underlying35 cellsHELD (by omega) (by decide +kernel) opens_hd e10 l10 w10
  have m9' := slc_of_lst m9
  clear F e0 e1 e2 e3 e4 e5 e6 e7 e8 e9 e10 e11 l0 l1 l2 l3 l4 l5 l6 l7 l8 l9 l10 l11 w0 w1 w2 w3 w4 w5 w6 w7 w8 w9 w10 w11
  refine ⟨⟨x0, x1, x2, r3, x4, x5, x6, x7, x8, x9, x10, x11⟩, ⟨u3, u7, u8, u9, u10⟩, ?_, ⟨by simp only; omega, by simp only; omega, by simp only; omega, f3, by unfold In16; simp only; omega, by unfold In16; simp only; omega, Lst.all m7 fun f x h => h.2, Lst.all m8 fun f x h => h.2, m9'.isB, Lst.all m10 fun f x ⟨u, _, _, h⟩ => h, by unfold In16; simp only; omega⟩, ⟨m3, m7, m8, m9', m10⟩⟩
  refine congrArg Value.agg (msc_came _ _ cs hsz (fun k hk => ?_) c0 c1 c2 c4 c5 c6 c7 c8 c9 c10 c11)
  rw [← c3 k hk]
  simp [List.getElem?_drop, cellsRULE, hk, Nat.add_comm]
end
end Go.Proofs.YtllbbbfkdgjffaaGreatDoor
namespace Go.Proofs.YtllbbbfkdgjffaaGreatDoor

/-- A message with what counts of its type alone. -/
def brM (m : Ms) : Ms :=
  if m.ty = 4 then { zMs with ty := m.ty, id := m.id, sw := m.sw, ps := m.ps, ed := m.ed }
  else if m.ty = 5 then { zMs with ty := m.ty, id := m.id, dw := m.dw, r := m.r }
  else if m.ty = 6 ∨ m.ty = 7 then { zMs with ty := m.ty, id := m.id, po := m.po, fr := m.fr }
  else if m.ty = 11 then { zMs with ty := m.ty, id := m.id, po := m.po, hs := m.hs }
  else if m.ty = 12 then { zMs with ty := m.ty, id := m.id, po := m.po, up := m.up }
  else if m.ty = 13 then { zMs with ty := m.ty, id := m.id, co := m.co }
  else { zMs with ty := m.ty, id := m.id }
def onlyB (m : Ms) : Bool := decide ((brM m).dw = m.dw) && (decide ((brM m).po = m.po) && (((brM m).up == m.up) && (decide ((brM m).sw = m.sw) && (decide ((brM m).co = m.co) && (decide ((brM m).ps.length = m.ps.length) && (decide ((brM m).ed.length = m.ed.length) && (decide ((brM m).fr.length = m.fr.length) && (decide ((brM m).hs.length = m.hs.length) && (decide (m.ty = 5) || blRl m.r)))))))))
theorem blRl_z : blRl zRl = true := by decide +kernel
theorem onlyB_eq (m : Ms) : onlyB m = blank (rest m) := by
  obtain ⟨ty, id, dw, r, po, up, sw, ps, ed, fr, hs, co⟩ := m
  unfold onlyB blank rest brM pts
  by_cases h4 : ty = 4
  · subst h4
    rw [Bool.eq_iff_iff]
    simp [clF, zMs] <;> grind
  by_cases h5 : ty = 5
  · subst h5
    rw [Bool.eq_iff_iff]
    simp [clF, zMs, blRl_z] <;> grind
  by_cases h6 : ty = 6 ∨ ty = 7
  · rw [Bool.eq_iff_iff]
    simp [h4, h5, h6, clF, zMs] <;> grind
  by_cases h11 : ty = 11
  · subst h11
    rw [Bool.eq_iff_iff]
    simp [clF, zMs] <;> grind
  by_cases h12 : ty = 12
  · subst h12
    rw [Bool.eq_iff_iff]
    simp [clF, zMs] <;> grind
  by_cases h13 : ty = 13
  · subst h13
    rw [Bool.eq_iff_iff]
    simp [clF, zMs] <;> grind
  rw [Bool.eq_iff_iff]
  simp [h4, h5, h6, h11, h12, h13, zMs] <;> grind
end Go.Proofs.YtllbbbfkdgjffaaGreatDoor
namespace Go.Proofs.YtllbbbfkdgjffaaGreatDoor
open Go.RowKit

theorem dg_at7 (n : Int) : ∀ (k j : Nat), j < k → (dg n k)[j]? = some (n / 2 ^ (8 * (k - 1 - j)) % 256)
  | 0, _, h => absurd h (by omega)
  | k + 1, 0, _ => by simp [dg]
  | k + 1, j + 1, h => by
    simp only [dg, List.getElem?_cons_succ]
    rw [dg_at7 n k j (by omega)]
    congr 4
    omega
theorem take_step (n : Int) (k j : Nat) (h : j < k) : (dg n k).take (j + 1) = (dg n k).take j ++ [n / 2 ^ (8 * (k - 1 - j)) % 256] := by
  rw [List.take_add_one, dg_at7 n k j h]; rfl
theorem take_all (n : Int) (k : Nat) : (dg n k).take k = dg n k := List.take_of_length_le (by rw [dg_len]; exact Nat.le_refl _)
theorem Ext.step {base : Nat} {w wr w' : World} {v u v' : Value} {xs : List Int} {x : Int} {o : Obj} (hE : Ext base w v wr u xs) (h : Ext base (wr.alloc o) u w' v' (xs ++ [x])) : Ext base w v w' v' (xs ++ [x]) := hE.trans (h.allocFirst hE.own)
set_option maxHeartbeats 400000 in
/-- WHAT THE DOCUMENT's Put APPENDS. -/
theorem put7_any (base k : Nat) (n : Int) (v : Value) (xs : List Int) (w : World) (hk : k ≤ 8) (hown : Owns base w v xs) (hlen : xs.length ≤ 2147483648) (hbase : base ≤ w.heap.size) :
    Calls Tryz.prog 33 #[v, .int .u64 n, .int .i64 k] w fun e w' => ∃ v', e = .returned v' ∧ Ext base w v w' v' (xs ++ dg n k) := by
  go_enter Tryz.func33, Tryz.ntmps33
  go_wp2
  go_loopw [0, 7] (fun b s wr => ∃ j : Nat, j ≤ k ∧ s = .int .i64 ((k : Int) - 1 - j) ∧ Ext base w v wr b (xs ++ (dg n k).take j)) (fun _ s _ => (intOf s + 1).toNat)
  case atStart => exact ⟨0, by omega, by go_num, by simpa using Ext.refl hown⟩
  case round =>
    obtain ⟨j, hj, rfl, hE⟩ := hrel
    have hb2 := Nat.le_trans hbase hE.grown.size
    have hl2 : (xs ++ (dg n k).take j).length ≤ 2147483656 := by simp only [List.length_append, List.length_take, dg_len]; omega
    by_cases hlt : j < k
    · have HE : Hid (Ext base w v wr u0 (xs ++ (dg n k).take j)) := hE
      clear hE hown
      go_wp2_with (at_builtin; refine app22 (.tmp 14) (.tmp 21) rfl rfl rfl rfl (HE.out.own.alloc _) (sl_one wr _ (Int.emod_nonneg _ (by omega)) (Int.emod_lt_of_pos _ (by omega))) (by simp; omega) (by simp only [List.length_cons, List.length_nil]; omega) ?_; intro v' w' hE1)
      have R := HE.out.step hE1
      rw [List.append_assoc, ← take_step n k j hlt] at R
      have HR : Hid (Ext base w v w' v' (xs ++ (dg n k).take (j + 1))) := R
      clear R hE1 HE
      go_wp2
      go_roundw
      case rel => exact ⟨j + 1, by omega, by go_num, HR.out⟩
      case measure => simp [intOf]; omega
    · obtain rfl : j = k := by omega
      rw [take_all] at hE
      go_wp2
      go_ret
      exact ⟨u0, rfl, hE⟩
set_option maxHeartbeats 1600000 in
theorem rwidth_in (f : Int) (hf : f = 0 ∨ f = 1 ∨ f = 2 ∨ f = 3 ∨ f = 4 ∨ f = 5 ∨ f = 6 ∨ f = 7 ∨ f = 8 ∨ f = 9 ∨ f = 10) (w : World) :
    Calls Tryz.prog 52 #[.int .i8 f] w fun e w' => e = .returned (.int .i64 (widV f)) ∧ w' = w := by
  rcases hf with rfl | rfl | rfl | rfl | rfl | rfl | rfl | rfl | rfl | rfl | rfl
  all_goals
    go_enter Tryz.func52, Tryz.ntmps52
    go_wp2
    go_ret
    exact ⟨rfl, rfl⟩

set_option maxHeartbeats 1600000 in
theorem rwidth_out (f : Int) (hf : f < 0 ∨ 10 < f) (w : World) :
    Calls Tryz.prog 52 #[.int .i8 f] w fun e w' => e = .returned (.int .i64 (widV f)) ∧ w' = w := by
  have e0 : widV f = 0 := by unfold widV; rw [if_neg (by omega)]
  rw [e0]
  have t0 : (f == 0) = false := beq_eq_false_iff_ne.2 (by omega)
  have t1 : (f == 1) = false := beq_eq_false_iff_ne.2 (by omega)
  have t2 : (f == 2) = false := beq_eq_false_iff_ne.2 (by omega)
  have t3 : (f == 3) = false := beq_eq_false_iff_ne.2 (by omega)
  have t4 : (f == 4) = false := beq_eq_false_iff_ne.2 (by omega)
  have t5 : (f == 5) = false := beq_eq_false_iff_ne.2 (by omega)
  have t6 : (f == 6) = false := beq_eq_false_iff_ne.2 (by omega)
  have t7 : (f == 7) = false := beq_eq_false_iff_ne.2 (by omega)
  have t8 : (f == 8) = false := beq_eq_false_iff_ne.2 (by omega)
  have t9 : (f == 9) = false := beq_eq_false_iff_ne.2 (by omega)
  have t10 : (f == 10) = false := beq_eq_false_iff_ne.2 (by omega)
  clear hf e0
  go_enter Tryz.func52, Tryz.ntmps52
  go_wp2
  go_ret
  exact ⟨rfl, rfl⟩

/-- The document's Width. -/
theorem rwidth_any (f : Int) (w : World) : Calls Tryz.prog 52 #[.int .i8 f] w fun e w' => e = .returned (.int .i64 (widV f)) ∧ w' = w := by
  by_cases h : f < 0 ∨ 10 < f
  · exact rwidth_out f h w
  · exact rwidth_in f (by omega) w
theorem rsize_any (k : Nat) (hk : k < 11) (w : World) : Calls Tryz.prog 42 #[.int .i8 (k : Int)] w fun e w' => e = .returned (.int .i64 (sz k : Nat)) ∧ w' = w := by
  have HC := hid (rwidth_any (k : Int) w)
  have e0 : widV (k : Int) = wid k := by unfold widV; rw [if_pos (by omega)]; simp
  rw [e0] at HC
  have hz := sz_wid k hk
  have hbd : 0 ≤ wid k ∧ wid k ≤ 48 := by unfold wid; split <;> omega
  have hle := sz_le k
  obtain ⟨x, hx⟩ : ∃ x, x = wid k := ⟨_, rfl⟩
  rw [← hx] at HC hz hbd
  obtain ⟨s, hs⟩ : ∃ s, s = sz k := ⟨_, rfl⟩
  rw [← hs] at hz hle
  rw [← hs]
  have hx0 : 0 ≤ x ∧ x ≤ 48 := hbd
  have hw1 : IntKind.i64.wrap (x + 7) = x + 7 := by rw [IntKind.wrap_i64]; omega
  have hq : (x + 7).tdiv 8 = (s : Int) := by rw [Int.tdiv_eq_ediv_of_nonneg (by omega)]; exact hz
  have hw2 : IntKind.i64.wrap (s : Int) = (s : Int) := by rw [IntKind.wrap_i64]; omega
  clear hx hs e0
  go_enter Tryz.func42, Tryz.ntmps42
  go_wp2_with (go_at_call 52; refine (HC.out).mono ?_; rintro e w1 ⟨rfl, rfl⟩)
  go_ret
  exact ⟨by simp, rfl⟩
theorem rflag_any (b : Bool) (w : World) : Calls Tryz.prog 36 #[.bool b] w fun e w' => e = .returned (.int .u64 (flag b)) ∧ w' = w := by
  cases b
  all_goals
    go_enter Tryz.func36, Tryz.ntmps36
    go_wp2
    go_ret
    exact ⟨rfl, rfl⟩
theorem flat2 (l : List Int) : (l.flatMap fun x => dg x 2).length = 2 * l.length := by
  induction l with
  | nil => rfl
  | cons a l ih => simp only [List.flatMap_cons, List.length_append, dg_len, ih, List.length_cons]; omega
set_option maxHeartbeats 1600000 in
/-- WHAT ports APPENDS. -/
theorem rports_any {T : Nat → Prop} (base : Nat) (v u : Value) (xs l : List Int) (w : World) (hown : Owns base w v xs) (hl : Shs T w u l) (hT : ∀ b, T b → b < base) (hlen : xs.length + 2 + 2 * l.length ≤ 2147483648) (hbase : base ≤ w.heap.size) :
    Calls Tryz.prog 34 #[v, u] w fun e w' => ∃ v', e = .returned v' ∧ Ext base w v w' v' (xs ++ encSh l) := by
  obtain ⟨ao, cap, rfl, hcap⟩ := hl.form
  have HL := hid hl
  have HO := hid hown
  have hlc : (l.length : Int) < 9223372036854775808 := by omega
  have hcv : IntKind.u64.wrap (l.length : Int) = (l.length : Int) := by rw [IntKind.wrap_u64]; omega
  have HP := hid (put7_any base 2 (l.length : Int) v xs w (by omega) hown (by omega) hbase)
  have HPn : Hid (∀ z vz q (hq : q < l.length), Ext base w v z vz (xs ++ (dg l.length 2 ++ (l.take q).flatMap fun x => dg x 2)) → Calls Tryz.prog 33 #[vz, .int .u64 l[q], .int .i64 2] z fun e w' => ∃ v', e = .returned v' ∧ Ext base w v w' v' (xs ++ (dg l.length 2 ++ (l.take (q + 1)).flatMap fun x => dg x 2))) := fun z vz q hq hE => by
    refine (put7_any base 2 l[q] vz _ z (by omega) hE.own ?_ (Nat.le_trans hbase hE.grown.size)).mono ?_
    · have : ((l.take q).flatMap fun x => dg x 2).length = 2 * q := by
        rw [flat2]; simp; omega
      simp only [List.length_append, dg_len, this]; omega
    · rintro e w' ⟨v', rfl, h2⟩
      refine ⟨v', rfl, ?_⟩
      have := hE.trans h2
      rw [List.take_add_one, List.getElem?_eq_getElem hq, List.flatMap_append]
      simpa [List.append_assoc] using this
  have HC : Hid (∀ z vz ys, Ext base w v z vz ys → ∀ q (hq : q < l.length), ∃ b o, ao = some ⟨b, o, none⟩ ∧ z.cell? ⟨b, o + q, none⟩ = some (.int .u16 l[q]) ∧ In16 l[q]) := fun z vz ys hE q hq => by
    obtain ⟨ao', cap', h1, h2, h3, h4, h5⟩ := HL.out
    obtain ⟨b, o, hb, hao, hc⟩ := h5 (fun e => by rw [e] at hq; simp at hq)
    have e1 : ao = ao' := by simp at h1; exact h1.1
    obtain ⟨c1, c2⟩ := hc q hq
    simp only [Nat.mul_one, Nat.add_zero] at c1
    have hbb : b < base := hT b hb
    exact ⟨b, o, e1.trans hao, by rw [(hE.below HO.out hbase).cell (p := ⟨b, o + q, none⟩) hbb]; exact c1, c2⟩
  clear hl hown hT
  go_enter Tryz.func34, Tryz.ntmps34
  go_upto_region 3 with (go_at_call 33; refine (HP.out).mono ?_; rintro e w1 ⟨v1, rfl, hE1⟩; have HE1 := hid hE1; clear hE1 HP)
  go_loopw [0, 5] (fun b i wr => ∃ q : Nat, q ≤ l.length ∧ i = .int .i64 q ∧ Ext base w v wr b (xs ++ (dg l.length 2 ++ (l.take q).flatMap fun x => dg x 2))) (fun _ i _ => l.length - (intOf i).toNat)
  case atStart => exact ⟨0, by omega, rfl, by simpa using HE1.out⟩
  case round =>
    obtain ⟨q, hq, rfl, hE⟩ := hrel
    generalize wr = wx at *
    have HE := hid hE
    by_cases hlt : q < l.length
    · have hd : decide ((q : Int) < (l.length : Int)) = true := decide_eq_true (by omega)
      obtain ⟨b, o, hao, hc, h16⟩ := HC.out wx u0 _ hE q hlt
      subst hao
      have HP1 := hid (HPn.out wx u0 q hlt hE)
      obtain ⟨x, hx⟩ : ∃ x, x = l[q] := ⟨_, rfl⟩
      rw [← hx] at hc h16 HP1
      have hcx : IntKind.u64.wrap x = x := by have := h16.1; have := h16.2; rw [IntKind.wrap_u64]; omega
      have hw1 : IntKind.i64.wrap ((q : Int) + 1) = (q : Int) + 1 := by rw [IntKind.wrap_i64]; omega
      clear hx hE HPn HC HL
      go_wp2_with (go_at_call 33; refine (HP1.out).mono ?_; rintro e w2 ⟨v2, rfl, hE2⟩; have HE2 := hid hE2; clear hE2 HP1)
      go_roundw
      case rel => exact ⟨q + 1, by omega, by go_num, HE2.out⟩
      case measure => simp [intOf]; omega
    · obtain rfl : q = l.length := by omega
      have hd : decide ((l.length : Int) < (l.length : Int)) = false := by simp
      rw [List.take_length] at HE
      clear hE
      go_wp2
      go_ret
      exact ⟨u0, rfl, HE.out⟩
end Go.Proofs.YtllbbbfkdgjffaaGreatDoor
namespace Go.Proofs.YtllbbbfkdgjffaaGreatDoor
open Go.RowKit

/-- What a writing call leaves: nothing but the writer and blocks of S has turned; the bytes zs are written, or it ends by the panic. -/
def WrP (S : Nat → Prop) (c m : Nat) (xs zs : List Int) (ok : Bool) (w : World) (e : Ending) (w' : World) : Prop :=
  Only (OS c S) w w' ∧ ((ok = true ∧ e = .returned (.tuple #[]) ∧ Wt S w' c m (xs ++ zs)) ∨ (ok = false ∧ e = .panicked PC))

set_option maxHeartbeats 800000 in
theorem wnumber_any {S : Nat → Prop} {w : World} {c m : Nat} {xs : List Int} (hW : Wt S w c m xs) (k : Nat) (n : Int) (hk : k ≤ 8) (hk0 : 0 < k) :
    Calls Tryz.prog 32 #[.pointer (some ⟨c, 0, none⟩), .int .i64 k, .int .u64 n] w fun e w' => e = .returned (.tuple #[]) ∧ Only (OS c S) w w' ∧ Wt S w' c m (xs ++ dg n k) := by
  have HW : Hid (Wt S w c m xs) := hW
  clear hW
  have HZ := by8_zero n
  have HB0 : Hid (Below w.heap.size w (w.alloc (.cells (by8 n 0) 97))) := (Below.refl _ _).alloc (Nat.le_refl _) _
  have HN0 : Hid ((w.alloc (.cells (by8 n 0) 97)).heap[w.heap.size]? = some (.cells (by8 n 0) 97 (0, 0))) := heap_alloc_new _ _
  have HS0 : Hid ((w.alloc (.cells (by8 n 0) 97)).heap.size = w.heap.size + 1) := by show _ = _; simp
  go_enter Tryz.func32, Tryz.ntmps32
  go_upto_region 1 with fail
  rw [← HZ]
  clear HZ
  generalize w.alloc (.cells (by8 n 0) 97) = w0 at HB0 HN0 HS0 ⊢
  go_wp2
  go_loopw [8] (fun i wr => ∃ j : Nat, j ≤ 8 ∧ i = .int .i64 j ∧ Below w.heap.size w wr ∧ wr.heap[w.heap.size]? = some (.cells (by8 n j) 97 (0, 0)) ∧ wr.heap.size = w.heap.size + 1) (fun i _ => 8 - (intOf i).toNat)
  case atStart => exact ⟨0, by omega, rfl, HB0.out, HN0.out, HS0.out⟩
  case round =>
    obtain ⟨j, hj, rfl, hb, hg, hs⟩ := hrel
    have HB : Hid (Below w.heap.size w wr) := hb
    have HG : Hid (wr.heap[w.heap.size]? = some (.cells (by8 n j) 97 (0, 0))) := hg
    have HS : Hid (wr.heap.size = w.heap.size + 1) := hs
    clear hb hg hs HB0 HN0 HS0
    by_cases hlt : j < 8
    · have hcl : ∃ x, wr.cell? ⟨w.heap.size, j, none⟩ = some x := ⟨_, (cell_of_row wr _ j _ _ _ HG.out).trans (by8_at n j j hlt)⟩
      obtain ⟨x, hcl⟩ := hcl
      have hfz : wr.frozen? ⟨w.heap.size, j, none⟩ = false := by
        have := HG.out
        simp [World.frozen?, this]
      have hsh : (56 - 8 * (j : Int)).toNat = 56 - 8 * j := by omega
      have h56 : 0 ≤ 56 - 8 * (j : Int) := by omega
      go_wp2
      go_roundw
      case rel =>
        refine ⟨j + 1, by omega, by go_num, HB.out.setCell (p := ⟨w.heap.size, j, none⟩) (Nat.le_refl _) _, ?_, ?_⟩
        · rw [heap_setCell_same wr _ j _ _ _ HG.out]
          rw [by8_set n j hlt]
        · rw [← HS.out]; simp
      case measure => simp [intOf]; omega
    · obtain rfl : j = 8 := by omega
      have hb := HW.out.hide HB.out
      have HC := wbytes_any hb (by8_sl HG.out hk) (fun e => by have := HW.out.gd.lt; omega)
      have HC' : Hid (Calls Tryz.prog 46 #[.pointer (some ⟨c, 0, none⟩), .slice (some ⟨w.heap.size, 8 - k, none⟩) k k] wr fun e w' => e = .returned (.tuple #[]) ∧ Only (OS c S) w w' ∧ Wt S w' c m (xs ++ dg n k)) := by
        refine HC.mono ?_
        rintro e w' ⟨rfl, ho, hq⟩
        have ho2 := only_back HW.out.gd HB.out ho
        exact ⟨rfl, ho2, hq.back HW.out.gd ho2.size⟩
      clear HC hb
      have hk' : k = 1 ∨ k = 2 ∨ k = 3 ∨ k = 4 ∨ k = 5 ∨ k = 6 ∨ k = 7 ∨ k = 8 := by omega
      rcases hk' with rfl | rfl | rfl | rfl | rfl | rfl | rfl | rfl
      all_goals
        go_wp2_with (go_at_call 46; refine (HC'.out).mono ?_; rintro e w' ⟨rfl, hq⟩; have HQ : Hid _ := hq; clear hq)
        first | go_end0 | refine bodyPost_ret (results_none rfl _ _ _) rfl ?_
        exact ⟨rfl, HQ.out⟩
end Go.Proofs.YtllbbbfkdgjffaaGreatDoor
