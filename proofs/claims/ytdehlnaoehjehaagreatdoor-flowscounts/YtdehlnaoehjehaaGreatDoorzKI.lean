/-
  Proved here: Find of package flows. Conditions: numbers are of their width; fewer than 2 to 31 were added.
-/
/-
  Proved here: modify of package flows: the rules under a match have other copies and another Cookie. Conditions: the widths' table holds its numbers; numbers are of their width; fewer than 2 to 31 Cookies gone.
-/
import Derived.Test.YtdehlnaoehjehaaGreatDoorzKG
namespace Go.Proofs.YtdehlnaoehjehaaGreatDoor
set_option maxRecDepth 100000
open Go.RowKit Go.Maps

/-- A rule has other counts. -/
def upE (es : List Fe) (k pk bt : Int) : List Fe := es.map fun y => if y.k = k then { y with pk := pk, bt := bt } else y
theorem upE_mem {es : List Fe} {k pk bt : Int} {y : Fe} (h : y ∈ upE es k pk bt) : ∃ x ∈ es, y.p = x.p ∧ y.k = x.k ∧ y.r = x.r ∧ y.u = x.u ∧ ((x.k = k ∧ y = { x with pk := pk, bt := bt }) ∨ (x.k ≠ k ∧ y = x)) := by
  obtain ⟨x, hx, rfl⟩ := List.mem_map.1 h
  by_cases e : x.k = k
  · rw [if_pos e]; exact ⟨x, hx, rfl, rfl, rfl, rfl, Or.inl ⟨e, rfl⟩⟩
  · rw [if_neg e]; exact ⟨x, hx, rfl, rfl, rfl, rfl, Or.inr ⟨e, rfl⟩⟩
theorem upE_pair {es : List Fe} {k pk bt : Int} {R : Fe → Fe → Prop} (h : es.Pairwise R) (hR : ∀ a b a' b' : Fe, a'.p = a.p → a'.k = a.k → a'.r = a.r → b'.p = b.p → b'.k = b.k → b'.r = b.r → R a b → R a' b') : (upE es k pk bt).Pairwise R := by
  unfold upE
  rw [List.pairwise_map]
  refine h.imp fun {a b} hab => hR a b _ _ ?_ ?_ ?_ ?_ ?_ ?_ hab
  all_goals (split <;> rfl)
theorem upE_ru (es : List Fe) (k pk bt : Int) : (upE es k pk bt).map Fe.ru = es.map Fe.ru := by
  unfold upE
  rw [List.map_map]
  refine List.map_congr_left fun x _ => ?_
  show Fe.ru (if x.k = k then _ else _) = _
  split <;> rfl
theorem upE_len (es : List Fe) (k pk bt : Int) : (upE es k pk bt).length = es.length := by simp [upE]
theorem fec_two (x : Fe) (pk bt : Int) : ((fec x).setIfInBounds 0 (.int .u64 pk)).setIfInBounds 1 (.int .u64 bt) = fec { x with pk := pk, bt := bt } := by
  apply Array.ext_getElem?
  intro i
  rw [Array.getElem?_setIfInBounds, Array.size_setIfInBounds, Array.getElem?_setIfInBounds, fec_size]
  by_cases h1 : 1 = i
  · subst h1; rw [if_pos rfl, if_pos (by omega)]; exact (fec_at { x with pk := pk, bt := bt }).2.1.symm
  · rw [if_neg h1]
    by_cases h0 : 0 = i
    · subst h0; rw [if_pos rfl, if_pos (by omega)]; exact (fec_at { x with pk := pk, bt := bt }).1.symm
    · rw [if_neg h0]
      by_cases h2 : i = 2
      · subst h2; rw [(fec_at x).2.2, (fec_at _).2.2]
      · by_cases h3 : i < 28
        · obtain ⟨j, rfl⟩ : ∃ j, i = 3 + j := ⟨i - 3, by omega⟩
          rw [fec_rl _ j (by omega), fec_rl _ j (by omega)]
        · rw [Array.getElem?_eq_none (by rw [fec_size]; omega), Array.getElem?_eq_none (by rw [fec_size]; omega)]
theorem FlO.count {S : Nat → Prop} {o : Nat → Fg} {w w' : World} {g : Nat} {room ad : Int} {es : List Fe} {gs : List Ge} (h : FlO S o w g room ad es gs) {x : Fe} (hx : x ∈ es) {pk bt : Int} (hp : InB pk) (hb : InB bt) (hT : Tch w x.p w') (hc : w'.heap[x.p]? = some (.cells (fec { x with pk := pk, bt := bt }) 104 (0, 0))) : FlO S o w' g room ad (upE es x.k pk bt) gs := by
  obtain ⟨vm, br, bp, bg, Gr, Gp, Gg, h1, h2⟩ := h
  have hxe := h1.ent x hx
  have nep : ∀ y ∈ es, y.k ≠ x.k → y.p ≠ x.p := fun y hy e e2 => by
    obtain ⟨i, hi, rfl⟩ := List.getElem_of_mem hx
    obtain ⟨j, hj, rfl⟩ := List.getElem_of_mem hy
    rcases Nat.lt_trichotomy i j with h | h | h
    · exact List.pairwise_iff_getElem.1 h1.ne i j hi hj h e2.symm
    · subst h; exact e rfl
    · exact List.pairwise_iff_getElem.1 h1.ne j i hj hi h e2
  have cop : ∀ b, b < w.heap.size → o b = .cop → w'.heap[b]? = w.heap[b]? := fun b hb' h5 => hT.block b hb' fun e => by rw [e, hxe.t] at h5; cases h5
  refine ⟨vm, br, bp, bg, Gr, Gp, Gg, h1.setEnt (fun b hb' hS h5 => ⟨hS, rfl, hT.block b hb' fun e => h5 (e ▸ hxe.t)⟩) (upE_ru es x.k pk bt) (fun y hy => ?_) ?_, ⟨fun l v => ?_, fun l v => ?_, h2.gg, fun y hy => ?_, h2.fig, ?_, fun y hy => ?_, ?_, h2.once, h2.ad0, h2.rm, by rw [upE_len]; exact h2.len⟩⟩
  · obtain ⟨z, hz, -, -, -, -, ⟨e1, rfl⟩ | ⟨e1, rfl⟩⟩ := upE_mem hy
    · obtain rfl := uniq_k h2.num hz hx e1
      exact ⟨hxe.s, hxe.t, hc, Cps.carry (fun b hb' hS => ⟨hS, cop b hb' hS.2⟩) hxe.c⟩
    · have h5 := h1.ent y hz
      exact h5.carry fun b hb' hS h6 => ⟨hS, rfl, by
        rcases h6 with rfl | h6
        · exact hT.block _ hb' (nep y hz e1)
        · exact cop b hb' h6⟩
  · exact upE_pair h1.ne fun a b a' b' e1 _ _ e2 _ _ h => by rw [e1, e2]; exact h
  · rw [h2.gr]
    constructor
    · rintro ⟨y, hy, e1, e2⟩
      refine ⟨if y.k = x.k then { y with pk := pk, bt := bt } else y, List.mem_map.2 ⟨y, hy, rfl⟩, ?_, ?_⟩
      · split <;> exact e1
      · split <;> exact e2
    · rintro ⟨y, hy, e1, e2⟩
      obtain ⟨z, hz, e3, e4, -⟩ := upE_mem hy
      exact ⟨z, hz, e4 ▸ e1, e3 ▸ e2⟩
  · rw [h2.gp]
    constructor
    · rintro ⟨y, hy, e1, e2⟩
      refine ⟨if y.k = x.k then { y with pk := pk, bt := bt } else y, List.mem_map.2 ⟨y, hy, rfl⟩, ?_, ?_⟩
      · split <;> exact e1
      · split <;> exact e2
    · rintro ⟨y, hy, e1, e2⟩
      obtain ⟨z, hz, e3, -, e4, -⟩ := upE_mem hy
      exact ⟨z, hz, e4 ▸ e1, e3 ▸ e2⟩
  · obtain ⟨z, hz, -, -, e3, -, ⟨e1, rfl⟩ | ⟨e1, rfl⟩⟩ := upE_mem hy
    · have := h2.fit z hz; exact ⟨this.1, this.2.1, hp, hb⟩
    · exact h2.fit _ hz
  · exact upE_pair h2.num fun a b a' b' _ e1 _ _ e2 _ h => by rw [e1, e2]; exact h
  · obtain ⟨z, hz, -, e4, -⟩ := upE_mem hy
    rw [e4]; exact h2.bd z hz
  · exact upE_pair h2.apart fun a b a' b' _ _ e1 _ _ e2 h => by rw [e1, e2]; exact h
theorem Fl.count {S : Nat → Prop} {w w' : World} {g : Nat} {room ad : Int} {es : List Fe} {gs : List Ge} (h : Fl S w g room ad es gs) {x : Fe} (hx : x ∈ es) {pk bt : Int} (hp : InB pk) (hb : InB bt) (hT : Tch w x.p w') (hc : w'.heap[x.p]? = some (.cells (fec { x with pk := pk, bt := bt }) 104 (0, 0))) : Fl S w' g room ad (upE es x.k pk bt) gs := by
  obtain ⟨o, h⟩ := h
  exact ⟨o, h.count hx hp hb hT hc⟩
theorem Lst.oneC {α : Type} {T : Nat → Prop} {k : Nat} {R : World → (Nat → Option Value) → α → Prop} {w : World} {v : Value} {l : List α} (h : Lst T k R w v l) : v.oneCell' = true := by
  obtain ⟨ao, c, rfl, -⟩ := h.form
  rfl
/-- What Find answers. -/
def FiP (S : Nat → Prop) (w : World) (g : Nat) (room ad : Int) (es : List Fe) (gs : List Ge) (hd : Nat → Int) (n : Int) (e : Ending) (w' : World) : Prop :=
  Only S w w' ∧ ∃ f, Met es hd f ∧ match f with
    | none => e = .returned (.tuple #[.agg (rc 0 zf nilS 0), .bool false]) ∧ Fl S w' g room ad es gs
    | some x => ∃ u', e = .returned (.tuple #[.agg (rlc x.r u'), .bool true]) ∧ Cps (fun b => w.heap.size ≤ b) w' u' x.r.cp ∧ Fl S w' g room ad (upE es x.k (sumE x.pk 1) (sumE x.bt (max n 0))) gs
theorem resFi (tmps : Array Value) (w : World) (q : Nat) (cs : Array Value) (c : Value) (hp : tmps.getD 6 undef = pv q) (hc : tmps.getD 7 undef = c) (hg : w.heap[q]? = some (.cells cs 35 (0, 0))) (hs : cs.size = 25) :
    (results Tryz.f10 tmps).run Tryz.prog w = .ok (.tuple #[.agg cs, c]) w := by
  have hp' : tmps[6]?.getD undef = pv q := by simpa using hp
  have hc' : tmps[7]?.getD undef = c := by simpa using hc
  have h0 : (loadVar 35 ⟨q, 0, none⟩).run Tryz.prog w = .ok (.agg cs) w := run_loadVar_row w q 35 35 _ (0, 0) _ hg Tryz.underlying35 rfl (by rw [hs]; kernel_rfl)
  simp [results, Tryz.results10, hp', hc', asAddr, h0]
theorem runBldZ (w : World) : (Instr.build 35 #[]).run Tryz.prog w = .ok (.agg (rc 0 zf nilS 0)) w := by
  rw [zero_rc]
  show _ = _
  kernel_rfl
theorem bldZ {ops : Array Oper} {rest : List Oper} {o : Oper} {a : Act} {w : World} {Q : Exit → Act → World → Prop} (ho : o.op = .build 35 #[]) (hw : Region.wanted o (yielded ops a.tmps) = true)
    (h : wpList Tryz.prog ops Q rest (a.put o.dst (.agg (rc 0 zf nilS 0))) w) : wpList Tryz.prog ops Q (o :: rest) a w := by
  unfold wpList
  rw [if_pos hw]
  refine Or.inl ?_
  unfold Oper.wp execOp
  have := runBldZ w
  simp only [ho, List.map_toArray, List.map_nil, Sem.run_bind, Sem.run_pure, Result.andThen_ok, this]
  exact h
structure Hfi (b : Nat) (h : Nat → Int) (w : World) : Prop where
  rr : w.rangeAt b 0 (row 11 h).toList
set_option maxHeartbeats 3200000 in
set_option maxRecDepth 100000 in
theorem find_flows {S : Nat → Prop} (w : World) (g : Nat) (room ad : Int) (es : List Fe) (gs : List Ge) (h : Fl S w g room ad es gs) (hf : Fresh S w) (hd : Nat → Int) (hw : Wf hd) (n : Int) (hn : I64 n) (had : ad < 2147483640) :
    Calls Tryz.prog 10 #[pv g, hv hd, .int .i64 n] w (FiP S w g room ad es gs hd n) := by
  obtain ⟨W0, hW0⟩ : ∃ W0, W0 = (w.alloc (.cells (row 11 hd) 30)).alloc (.cells (rc 0 zf nilS 0) 35) := ⟨_, rfl⟩
  have hB0 : Below w.heap.size w W0 := by rw [hW0]; exact ((Below.refl _ _).alloc (Nat.le_refl _) _).alloc (by simp) _
  have hs0 : W0.heap.size = w.heap.size + 2 := by rw [hW0]; simp
  have hX0 : W0.heap[w.heap.size]? = some (.cells (row 11 hd) 30 (0, 0)) := by rw [hW0, heap_alloc_old _ _ (by simp)]; exact heap_alloc_new _ _
  have hY0 : W0.heap[w.heap.size + 1]? = some (.cells (rc 0 zf nilS 0) 35 (0, 0)) := by
    have := heap_alloc_new (w.alloc (.cells (row 11 hd) 30)) (.cells (rc 0 zf nilS 0) 35)
    rw [World.size_alloc] at this
    rw [hW0]; exact this
  obtain ⟨S1, hS1⟩ : ∃ S1 : Nat → Prop, ∀ b, S1 b ↔ S b ∧ b < w.heap.size := ⟨fun b => S b ∧ b < w.heap.size, fun _ => Iff.rfl⟩
  have hF0 : ∀ w1, Below w.heap.size w w1 → Fl S1 w1 g room ad es gs := fun w1 hb => h.carry fun b hb' hS => ⟨(hS1 b).2 ⟨hS, hb'⟩, hb.block b hb'⟩
  have HM := hid (met_any W0.drew g room ad es gs (hF0 _ hB0.drew) hd hw had)
  have HH : Hid (Hfi w.heap.size hd W0.drew) := ⟨row_range (w := W0.drew) hX0⟩
  have HZ : Hid (∀ w1, Below W0.drew.heap.size W0.drew w1 → Hfi w.heap.size hd w1 ∧ w1.heap[w.heap.size + 1]? = some (.cells (rc 0 zf nilS 0) 35 (0, 0)) ∧ Below w.heap.size w w1) := fun w1 hb => by
    have hsz : w.heap.size + 2 ≤ W0.drew.heap.size := by show _ ≤ W0.heap.size; omega
    exact ⟨⟨range_on (w := W0.drew) (row_range (w := W0.drew) hX0) hb⟩, (hb.block _ (by omega)).trans hY0, hB0.drew.trans (hb.mono hB0.size)⟩
  -- nothing is met
  have HNo : Hid (∀ w1, Below W0.drew.heap.size W0.drew w1 → Met es hd none → (w1.setRow (w.heap.size + 1) (rc 0 zf nilS 0)).heap[w.heap.size + 1]? = some (.cells (rc 0 zf nilS 0) 35 (0, 0)) ∧ FiP S w g room ad es gs hd n (.returned (.tuple #[.agg (rc 0 zf nilS 0), .bool false])) (w1.setRow (w.heap.size + 1) (rc 0 zf nilS 0))) := fun w1 hb hm => by
    obtain ⟨-, q2, q3⟩ := HZ.out w1 hb
    have hb3 : Below w.heap.size w (w1.setRow (w.heap.size + 1) (rc 0 zf nilS 0)) := below_setRow q3 (by omega) _
    exact ⟨setRow_heap w1 _ _ _ _ _ q2, Only.of hb3 hf, none, hm, rfl, h.on hb3⟩
  -- one is met
  have HYes : Hid (∀ w1 x, Below W0.drew.heap.size W0.drew w1 → Met es hd (some x) → Calls Tryz.prog 35 #[.func (.func 36) #[pv x.p] #[], .int .i64 n] w1 fun e w2 => e = .returned (.tuple #[]) ∧ w2.rangeAt x.p 3 (rlc x.r x.u).toList ∧ Calls Tryz.prog 37 #[.agg (rlc x.r x.u)] w2 fun e w3 => ∃ u', e = .returned (.agg (rlc x.r u')) ∧ w3.heap[w.heap.size + 1]? = some (.cells (rc 0 zf nilS 0) 35 (0, 0)) ∧ u'.oneCell' = true ∧
      (w3.setRow (w.heap.size + 1) (rlc x.r u')).heap[w.heap.size + 1]? = some (.cells (rlc x.r u') 35 (0, 0)) ∧ FiP S w g room ad es gs hd n (.returned (.tuple #[.agg (rlc x.r u'), .bool true])) (w3.setRow (w.heap.size + 1) (rlc x.r u'))) := fun w1 x hb hm => by
    obtain ⟨-, q2, q3⟩ := HZ.out w1 hb
    have hx := hm.1
    have hF1 := hF0 w1 q3
    have hF1' := hF1
    obtain ⟨o, vm, br, bp, bg, Gr, Gp, Gg, h1, h2⟩ := hF1'
    have hxe := h1.ent x hx
    obtain ⟨hfit, -, hpk, hbt⟩ := h2.fit x hx
    have hxl : x.p < w.heap.size := ((hS1 _).1 hxe.s).2
    have hm0 : InB (max n 0) := by obtain ⟨n0, n1⟩ := hn; unfold InB; omega
    have h1B : InB 1 := by unfold InB; omega
    refine (onePacket_any w1 x.p (fec x) 104 x.pk x.bt n hxe.h (fec_at x).1 (fec_at x).2.1 hpk hbt hn).mono ?_
    rintro e w2 ⟨rfl, hT, hc⟩
    rw [fec_two] at hc
    have hF2 := hF1.count hx (sumE_in hpk h1B) (sumE_in hbt hm0) hT hc
    have hF2' := hF2
    obtain ⟨o2, vm2, br2, bp2, bg2, Gr2, Gp2, Gg2, k1, k2⟩ := hF2'
    obtain ⟨x', hx'⟩ : ∃ x' : Fe, x' = { x with pk := sumE x.pk 1, bt := sumE x.bt (max n 0) } := ⟨_, rfl⟩
    have hxm : x' ∈ upE es x.k (sumE x.pk 1) (sumE x.bt (max n 0)) := List.mem_map.2 ⟨x, hx, by rw [if_pos rfl, hx']⟩
    have hE2 := k1.ent x' hxm
    have hs12 : w.heap.size + 2 ≤ w1.heap.size := by have := hb.size; have h5 : W0.heap.size ≤ w1.heap.size := this; omega
    have hs2 := hT.size
    have hRes2 : w2.heap[w.heap.size + 1]? = some (.cells (rc 0 zf nilS 0) 35 (0, 0)) := (hT.block _ (by omega) (by omega)).trans q2
    have hrg : w2.rangeAt x.p 3 (rlc x.r x.u).toList := range_of fun i hi => by
      rw [rc_size] at hi
      rw [cell_of_row _ _ _ _ _ _ hc, fec_rl _ i hi]
    refine ⟨rfl, hrg, ?_⟩
    have hcp : Cps (fun b => S1 b ∧ b < w2.heap.size) w2 x.u x.r.cp := by
      have := hE2.c
      rw [hx'] at this
      exact Cps.carry (fun b hb' hS => ⟨⟨hS.1, hb'⟩, rfl⟩) this
    refine (fresh_any w2 x.r x.u hcp (fun b hb' => hb'.2) hfit.sm).mono ?_
    rintro e w3 ⟨u', rfl, hb3, hC3⟩
    have hR3 : w3.heap[w.heap.size + 1]? = some (.cells (rc 0 zf nilS 0) 35 (0, 0)) := (hb3.block _ (by omega)).trans hRes2
    have hs3 := hb3.size
    have oth : ∀ b, b ≠ w.heap.size + 1 → (w3.setRow (w.heap.size + 1) (rlc x.r u')).heap[b]? = w3.heap[b]? := fun b hb' => setRow_other w3 _ b _ hb'
    have hF3 : Fl S (w3.setRow (w.heap.size + 1) (rlc x.r u')) g room ad (upE es x.k (sumE x.pk 1) (sumE x.bt (max n 0))) gs := hF2.carry fun b hb' hS => ⟨((hS1 b).1 hS).1, by rw [oth b (by have := ((hS1 b).1 hS).2; omega), hb3.block b hb']⟩
    refine ⟨u', rfl, hR3, Lst.oneC hC3, setRow_heap w3 _ _ _ _ _ hR3, ?_, some x, hm, u', rfl, Cps.carry (fun b hb' hS => ⟨by show w.heap.size ≤ b; omega, oth b (by omega)⟩) hC3, hF3⟩
    have hOw1 : Only S w w1 := Only.of q3 hf
    have hO2 : Only S w1 w2 := hT.only (hf.on q3.size) ((hS1 _).1 hxe.s).1
    have hO3 : Only S w2 w3 := Only.of hb3 (hf.on (Nat.le_trans q3.size hs2))
    have hO4 : Only S w3 (w3.setRow (w.heap.size + 1) (rlc x.r u')) := ⟨rfl, rfl, rfl, by simp [World.setRow], fun k hk => oth k fun e => hk (hf k (by omega))⟩
    exact ((hOw1.trans hO2).trans hO3).trans hO4
  have HW0 := hid hW0
  clear h hf hw hn hB0 hs0 hX0 hY0 hW0 hF0 hS1
  go_enter Tryz.func10, Tryz.ntmps10
  go_upto_region 1 with fail
  rw [← zero_rc, ← HW0.out]
  clear HW0
  go_upto_region 3 with fail
  refine wp_region_held_drew (S := Hfi w.heap.size hd) (by kernel_rfl) HH.out (fun hHeld => ?_)
  refine wpAnyH_take (i := 0) (v := ?_) rfl (by kernel_rfl) (by kernel_rfl) (by kernel_rfl) (fun _ _ _ h => h) (Or.inl ⟨by rfl, ?_⟩) hHeld ?_
  rotate_left
  · intro w' hSw
    clear hSw
    go_simp
    first | done | with_reducible rfl
  simp only [Act.put, List.getElem_toArray, List.getElem_cons_zero, List.setIfInBounds_toArray, List.set_cons_zero, List.set_cons_succ]
  refine wpAnyH_take (i := 1) (v := ?_) rfl (by kernel_rfl) (by kernel_rfl) (by kernel_rfl) (fun _ _ _ h => h) (Or.inl ⟨by rfl, ?_⟩) hHeld ?_
  rotate_left
  · intro w' hSw
    clear hSw
    go_simp
    first | done | with_reducible rfl
  simp only [Act.put, List.getElem_toArray, List.getElem_cons_succ, List.getElem_cons_zero, List.setIfInBounds_toArray, List.set_cons_zero, List.set_cons_succ]
  refine wpAnyH_take (i := 2) (v := ?_) rfl (by kernel_rfl) (by kernel_rfl) (by kernel_rfl) (fun _ _ _ h => h) (Or.inl ⟨by rfl, ?_⟩) hHeld ?_
  rotate_left
  · intro w' hSw
    clear hSw
    go_simp
    first | done | with_reducible rfl
  simp only [Act.put, List.getElem_toArray, List.getElem_cons_succ, List.getElem_cons_zero, List.setIfInBounds_toArray, List.set_cons_zero, List.set_cons_succ]
  refine wpAnyH_take (i := 3) (v := hv hd) rfl (by kernel_rfl) (by kernel_rfl) (by kernel_rfl) (fun _ _ _ h => h) (Or.inl ⟨by rfl, ?_⟩) hHeld ?_
  · intro w' hSw
    exact runLd 30 (.tmp 4) rfl w.heap.size 0 rfl (row 11 hd) _ hSw.rr Tryz.underlying30 rfl (size24 hd)
  simp only [Act.put, List.getElem_toArray, List.getElem_cons_succ, List.getElem_cons_zero, List.setIfInBounds_toArray, List.set_cons_zero, List.set_cons_succ]
  refine wpAnyH_ready (rs := [4]) (by kernel_rfl) (by simp) ?_
  refine AllReadyH.cons rfl (fun K hK => ?_) AllReadyH.nil
  refine stepFnW 34 (.func 34) [.tmp 16, .tmp 17] _ [pv g, hv hd] rfl rfl rfl rfl (fun _ => rfl) _ HM.out ?_
  rintro e w1 ⟨hb1, f, hm, rfl⟩
  refine Or.inl ⟨_, rfl, ?_⟩
  refine hK.out _ _ (HZ.out w1 hb1).1 (fun hHeld => ?_)
  clear hK K
  simp only [Act.put, List.getElem_toArray, List.getElem_cons_succ, List.getElem_cons_zero, List.setIfInBounds_toArray, List.set_cons_zero, List.set_cons_succ]
  cases f with
  | none =>
    simp only [mtV, Option.isSome_none]
    refine wpAnyH_take (i := 5) (v := ?_) rfl (by kernel_rfl) (by kernel_rfl) (by kernel_rfl) (fun _ _ _ h => h) (Or.inl ⟨by rfl, ?_⟩) hHeld ?_
    rotate_left
    · intro w' hSw
      clear hSw
      go_simp
      first | done | with_reducible rfl
    simp only [Act.put, List.getElem_toArray, List.getElem_cons_succ, List.getElem_cons_zero, List.setIfInBounds_toArray, List.set_cons_zero, List.set_cons_succ]
    refine wpAnyH_take (i := 6) (v := ?_) rfl (by kernel_rfl) (by kernel_rfl) (by kernel_rfl) (fun _ _ _ h => h) (Or.inl ⟨by rfl, ?_⟩) hHeld ?_
    rotate_left
    · intro w' hSw
      clear hSw
      go_simp
      first | done | with_reducible rfl
    simp only [Act.put, List.getElem_toArray, List.getElem_cons_succ, List.getElem_cons_zero, List.setIfInBounds_toArray, List.set_cons_zero, List.set_cons_succ]
    refine wpAnyH_take (i := 7) (v := ?_) rfl (by kernel_rfl) (by kernel_rfl) (by kernel_rfl) (fun _ _ _ h => h) (Or.inl ⟨by rfl, ?_⟩) hHeld ?_
    rotate_left
    · intro w' hSw
      clear hSw
      go_simp
      first | done | with_reducible rfl
    simp only [Act.put, List.getElem_toArray, List.getElem_cons_succ, List.getElem_cons_zero, List.setIfInBounds_toArray, List.set_cons_zero, List.set_cons_succ]
    refine wpAnyH_take (i := 8) (v := ?_) rfl (by kernel_rfl) (by kernel_rfl) (by kernel_rfl) (fun _ _ _ h => h) (Or.inl ⟨by rfl, ?_⟩) hHeld ?_
    rotate_left
    · intro w' hSw
      clear hSw
      go_simp
      first | done | with_reducible rfl
    simp only [Act.put, List.getElem_toArray, List.getElem_cons_succ, List.getElem_cons_zero, List.setIfInBounds_toArray, List.set_cons_zero, List.set_cons_succ]
    refine wpAnyH_take (i := 9) (v := ?_) rfl (by kernel_rfl) (by kernel_rfl) (by kernel_rfl) (fun _ _ _ h => h) (Or.inl ⟨by rfl, ?_⟩) hHeld ?_
    rotate_left
    · intro w' hSw
      clear hSw
      go_simp
      first | done | with_reducible rfl
    simp only [Act.put, List.getElem_toArray, List.getElem_cons_succ, List.getElem_cons_zero, List.setIfInBounds_toArray, List.set_cons_zero, List.set_cons_succ]
    refine wpAnyH_done (by kernel_rfl) ?_ _
    obtain ⟨-, q2, -⟩ := HZ.out w1 hb1
    obtain ⟨z1, z2⟩ := HNo.out w1 hb1 hm
    have HQ2 := hid q2
    have HZ1 := hid z1
    have HZ2 := hid z2
    clear q2 z1 z2 hb1 hm HM HH HZ HNo HYes
    go_wp2_with (first
      | (refine bldZ rfl rfl ?_)
      | (refine stRow 35 (.tmp 6) (.tmp 23) rfl rfl (w.heap.size + 1) (rc 0 zf nilS 0) rfl rfl 35 (rc 0 zf nilS 0) HQ2.out (by rw [rc_size]; kernel_rfl) rfl (rc_one rfl) ?_))
    exact bodyPost_ret (v := .tuple #[.agg (rc 0 zf nilS 0), .bool false]) (resFi _ _ (w.heap.size + 1) (rc 0 zf nilS 0) _ rfl rfl HZ1.out (rc_size _ _ _ _)) rfl HZ2.out
  | some x =>
    simp only [mtV, Option.isSome_some]
    refine wpAnyH_take (i := 5) (v := ?_) rfl (by kernel_rfl) (by kernel_rfl) (by kernel_rfl) (fun _ _ _ h => h) (Or.inl ⟨by rfl, ?_⟩) hHeld ?_
    rotate_left
    · intro w' hSw
      clear hSw
      go_simp
      first | done | with_reducible rfl
    simp only [Act.put, List.getElem_toArray, List.getElem_cons_succ, List.getElem_cons_zero, List.setIfInBounds_toArray, List.set_cons_zero, List.set_cons_succ]
    refine wpAnyH_take (i := 6) (v := ?_) rfl (by kernel_rfl) (by kernel_rfl) (by kernel_rfl) (fun _ _ _ h => h) (Or.inl ⟨by rfl, ?_⟩) hHeld ?_
    rotate_left
    · intro w' hSw
      clear hSw
      go_simp
      first | done | with_reducible rfl
    simp only [Act.put, List.getElem_toArray, List.getElem_cons_succ, List.getElem_cons_zero, List.setIfInBounds_toArray, List.set_cons_zero, List.set_cons_succ]
    refine wpAnyH_take (i := 7) (v := ?_) rfl (by kernel_rfl) (by kernel_rfl) (by kernel_rfl) (fun _ _ _ h => h) (Or.inl ⟨by rfl, ?_⟩) hHeld ?_
    rotate_left
    · intro w' hSw
      clear hSw
      go_simp
      first | done | with_reducible rfl
    simp only [Act.put, List.getElem_toArray, List.getElem_cons_succ, List.getElem_cons_zero, List.setIfInBounds_toArray, List.set_cons_zero, List.set_cons_succ]
    refine wpAnyH_take (i := 8) (v := ?_) rfl (by kernel_rfl) (by kernel_rfl) (by kernel_rfl) (fun _ _ _ h => h) (Or.inl ⟨by rfl, ?_⟩) hHeld ?_
    rotate_left
    · intro w' hSw
      clear hSw
      go_simp
      first | done | with_reducible rfl
    simp only [Act.put, List.getElem_toArray, List.getElem_cons_succ, List.getElem_cons_zero, List.setIfInBounds_toArray, List.set_cons_zero, List.set_cons_succ]
    refine wpAnyH_take (i := 9) (v := ?_) rfl (by kernel_rfl) (by kernel_rfl) (by kernel_rfl) (fun _ _ _ h => h) (Or.inl ⟨by rfl, ?_⟩) hHeld ?_
    rotate_left
    · intro w' hSw
      clear hSw
      go_simp
      first | done | with_reducible rfl
    simp only [Act.put, List.getElem_toArray, List.getElem_cons_succ, List.getElem_cons_zero, List.setIfInBounds_toArray, List.set_cons_zero, List.set_cons_succ]
    refine wpAnyH_done (by kernel_rfl) ?_ _
    have HY := hid (HYes.out w1 x hb1 hm)
    clear hb1 hm HM HH HZ HNo HYes
    go_wp2_with (first
      | (go_at_call 35; refine (HY.out).mono ?_; rintro e w2 ⟨rfl, y1, y2⟩; have HY1 := hid y1; have HY2 := hid y2; clear y1 y2 HY)
      | (refine ldMid 35 (.tmp 32) rfl rfl x.p 3 rfl (rlc x.r x.u) _ Tryz.underlying35 rfl (size_rl x.r x.u) HY1.out ?_)
      | (go_at_call 37; refine (HY2.out).mono ?_; rintro e w3 ⟨u', rfl, v1, v2, v3, v4⟩; have HV1 := hid v1; have HV2 := hid v2; have HV3 := hid v3; have HV4 := hid v4; clear v1 v2 v3 v4 HY2)
      | (refine stRow 35 (.tmp 6) (.tmp 34) rfl rfl (w.heap.size + 1) (rlc x.r u') rfl rfl 35 (rc 0 zf nilS 0) HV1.out (size_rl x.r u') (by rw [rc_size, rc_size]) (rc_one HV2.out) ?_))
    exact bodyPost_ret (v := .tuple #[.agg (rlc x.r u'), .bool true]) (resFi _ _ (w.heap.size + 1) (rlc x.r u') _ rfl rfl HV3.out (rc_size _ _ _ _)) rfl HV4.out
end Go.Proofs.YtdehlnaoehjehaaGreatDoor
namespace Go.Proofs.YtdehlnaoehjehaaGreatDoor
set_option maxRecDepth 100000
open Go.RowKit Go.Maps

/-- A rule takes the place of the one of its number. -/
def upd1 (es : List Fe) (z : Fe) : List Fe := es.map fun y => if y.k = z.k then z else y
theorem upd1_len (es : List Fe) (z : Fe) : (upd1 es z).length = es.length := by simp [upd1]
theorem upd1_mem {es : List Fe} {z y : Fe} (h : y ∈ upd1 es z) : (y = z ∧ ∃ x ∈ es, x.k = z.k) ∨ (y ∈ es ∧ y.k ≠ z.k) := by
  obtain ⟨x, hx, rfl⟩ := List.mem_map.1 h
  by_cases e : x.k = z.k
  · rw [if_pos e]; exact Or.inl ⟨rfl, x, hx, e⟩
  · rw [if_neg e]; exact Or.inr ⟨hx, e⟩
theorem upd1_pair {es : List Fe} {z x : Fe} (hx : x ∈ es) (hn : es.Pairwise fun a b => a.k < b.k) (hk : z.k = x.k) {R : Fe → Fe → Prop} (h : es.Pairwise R) (h1 : ∀ b, R x b → R z b) (h2 : ∀ a, R a x → R a z) (h3 : R x x → R z z) : (upd1 es z).Pairwise R := by
  unfold upd1
  rw [List.pairwise_map]
  refine List.Pairwise.imp_of_mem ?_ h
  intro a b ha hb hab
  have ua : a.k = z.k → a = x := fun e => uniq_k hn ha hx (e.trans hk)
  have ub : b.k = z.k → b = x := fun e => uniq_k hn hb hx (e.trans hk)
  by_cases e1 : a.k = z.k
  · rw [if_pos e1]
    by_cases e2 : b.k = z.k
    · rw [if_pos e2]
      refine h3 ?_
      rw [ua e1, ub e2] at hab; exact hab
    · rw [if_neg e2]
      rw [ua e1] at hab; exact h1 b hab
  · rw [if_neg e1]
    by_cases e2 : b.k = z.k
    · rw [if_pos e2]
      rw [ub e2] at hab; exact h2 a hab
    · rw [if_neg e2]; exact hab
theorem FlO.upd {S : Nat → Prop} {o : Nat → Fg} {w w' : World} {g : Nat} {room ad : Int} {es : List Fe} {gs : List Ge} (h : FlO S o w g room ad es gs) {x z : Fe} (hx : x ∈ es) (ep : z.p = x.p) (ek : z.k = x.k) (er : z.r.rk = x.r.rk) (em : z.r.mt = x.r.mt) (hz : z.r.Fit ∧ InB z.pk ∧ InB z.bt) (hT : Tch w x.p w') (hc : w'.heap[x.p]? = some (.cells (fec z) 104 (0, 0))) (hcp : Cps (fun b => S b ∧ o b = .cop) w' z.u z.r.cp) : FlO S o w' g room ad (upd1 es z) gs := by
  obtain ⟨vm, br, bp, bg, Gr, Gp, Gg, h1, h2⟩ := h
  have hxe := h1.ent x hx
  have nep : ∀ y ∈ es, y.k ≠ x.k → y.p ≠ x.p := fun y hy e e2 => by
    obtain ⟨i, hi, rfl⟩ := List.getElem_of_mem hx
    obtain ⟨j, hj, rfl⟩ := List.getElem_of_mem hy
    rcases Nat.lt_trichotomy i j with h | h | h
    · exact List.pairwise_iff_getElem.1 h1.ne i j hi hj h e2.symm
    · subst h; exact e rfl
    · exact List.pairwise_iff_getElem.1 h1.ne j i hj hi h e2
  have cop : ∀ b, b < w.heap.size → o b = .cop → w'.heap[b]? = w.heap[b]? := fun b hb' h5 => hT.block b hb' fun e => by rw [e, hxe.t] at h5; cases h5
  have hru : (upd1 es z).map Fe.ru = es.map Fe.ru := by
    unfold upd1
    rw [List.map_map]
    refine List.map_congr_left fun y hy => ?_
    show Fe.ru (if y.k = z.k then z else y) = _
    split
    · rename_i e
      rw [uniq_k h2.num hy hx (e.trans ek)]
      simp [Fe.ru, ek, er, em]
    · rfl
  have eqz : ∀ b : Rl, eqP z.r b = eqP x.r b := fun b => by unfold eqP; rw [er, em]
  have eqz' : ∀ a : Rl, eqP a z.r = eqP a x.r := fun b => by unfold eqP; rw [er, em]
  refine ⟨vm, br, bp, bg, Gr, Gp, Gg, h1.setEnt (fun b hb' hS h5 => ⟨hS, rfl, hT.block b hb' fun e => h5 (e ▸ hxe.t)⟩) hru (fun y hy => ?_) ?_, ⟨fun l v => ?_, fun l v => ?_, h2.gg, fun y hy => ?_, h2.fig, ?_, fun y hy => ?_, ?_, h2.once, h2.ad0, h2.rm, by rw [upd1_len]; exact h2.len⟩⟩
  · rcases upd1_mem hy with ⟨rfl, -⟩ | ⟨hy', e1⟩
    · exact ⟨by rw [ep]; exact hxe.s, by rw [ep]; exact hxe.t, by rw [ep]; exact hc, hcp⟩
    · have h5 := h1.ent y hy'
      exact h5.carry fun b hb' hS h6 => ⟨hS, rfl, by
        rcases h6 with rfl | h6
        · exact hT.block _ hb' (nep y hy' (ek ▸ e1))
        · exact cop b hb' h6⟩
  · exact upd1_pair hx h2.num ek h1.ne (fun b h => by rw [ep]; exact h) (fun a h => by rw [ep]; exact h) (fun h => by rw [ep]; exact h)
  · rw [h2.gr]
    constructor
    · rintro ⟨y, hy, e1, e2⟩
      by_cases e : y.k = z.k
      · have := uniq_k h2.num hy hx (e.trans ek)
        exact ⟨z, List.mem_map.2 ⟨y, hy, if_pos e⟩, by rw [ek, ← this]; exact e1, by rw [ep, ← this]; exact e2⟩
      · exact ⟨y, List.mem_map.2 ⟨y, hy, if_neg e⟩, e1, e2⟩
    · rintro ⟨y, hy, e1, e2⟩
      rcases upd1_mem hy with ⟨rfl, -⟩ | ⟨hy', -⟩
      · exact ⟨x, hx, ek ▸ e1, ep ▸ e2⟩
      · exact ⟨y, hy', e1, e2⟩
  · rw [h2.gp]
    constructor
    · rintro ⟨y, hy, e1, e2⟩
      by_cases e : y.k = z.k
      · have := uniq_k h2.num hy hx (e.trans ek)
        exact ⟨z, List.mem_map.2 ⟨y, hy, if_pos e⟩, by rw [er, em, ← this]; exact e1, by rw [ep, ← this]; exact e2⟩
      · exact ⟨y, List.mem_map.2 ⟨y, hy, if_neg e⟩, e1, e2⟩
    · rintro ⟨y, hy, e1, e2⟩
      rcases upd1_mem hy with ⟨rfl, -⟩ | ⟨hy', -⟩
      · exact ⟨x, hx, by rw [← er, ← em]; exact e1, ep ▸ e2⟩
      · exact ⟨y, hy', e1, e2⟩
  · rcases upd1_mem hy with ⟨rfl, -⟩ | ⟨hy', -⟩
    · exact ⟨hz.1, by rw [em]; exact (h2.fit x hx).2.1, hz.2.1, hz.2.2⟩
    · exact h2.fit y hy'
  · exact upd1_pair hx h2.num ek h2.num (fun b h => by rw [ek]; exact h) (fun a h => by rw [ek]; exact h) (fun h => by rw [ek]; exact h)
  · rcases upd1_mem hy with ⟨rfl, -⟩ | ⟨hy', -⟩
    · rw [ek]; exact h2.bd x hx
    · exact h2.bd y hy'
  · exact upd1_pair hx h2.num ek h2.apart (fun b h => by rw [eqz]; exact h) (fun a h => by rw [eqz']; exact h) (fun h => by rw [eqz, eqz']; exact h)
/-- A rule with other copies and another Cookie. -/
def mdE (r : Rl) (u : Value) (x : Fe) : Fe := ⟨x.p, x.k, ⟨x.r.rk, x.r.mt, r.cp, r.ck⟩, u, if x.r.ck = r.ck then x.pk else 0, if x.r.ck = r.ck then x.bt else 0⟩
def mdL (es l : List Fe) (r : Rl) (u : Value) : List Fe := l.foldl (fun es x => upd1 es (mdE r u x)) es
def mdG (r : Rl) (G : Int → Option (Int × Int)) (x : Fe) : Int → Option (Int × Int) := if x.r.ck = r.ck then G else adG G x.r.ck x.pk x.bt
def mgL (r : Rl) (G : Int → Option (Int × Int)) (l : List Fe) : Int → Option (Int × Int) := l.foldl (mdG r) G
theorem mdL_mem {r : Rl} {u : Value} : ∀ {l es : List Fe} {x : Fe}, x ∈ es → (∀ y ∈ l, y.k ≠ x.k) → x ∈ mdL es l r u
  | [], _, _, hx, _ => hx
  | a :: l, es, x, hx, h => by
    refine mdL_mem (l := l) (es := upd1 es (mdE r u a)) (List.mem_map.2 ⟨x, hx, if_neg fun e => h a (by simp) e.symm⟩) fun y hy => h y (by simp [hy])
theorem mdL_snoc (es l : List Fe) (r : Rl) (u : Value) (x : Fe) : mdL es (l ++ [x]) r u = upd1 (mdL es l r u) (mdE r u x) := by simp [mdL, List.foldl_append]
theorem mgL_snoc (r : Rl) (G : Int → Option (Int × Int)) (l : List Fe) (x : Fe) : mgL r G (l ++ [x]) = mdG r (mgL r G l) x := by simp [mgL, List.foldl_append]
theorem fec_cell (x : Fe) (i : Nat) (hi : i < 28) : ∃ v, (fec x)[i]? = some v := ⟨_, Array.getElem?_eq_getElem (by rw [fec_size]; exact hi)⟩
theorem fec_md (x : Fe) (u : Value) (cp : List (List Ac)) (ck : Int) : ((fec x).setIfInBounds 26 u).setIfInBounds 27 (.int .u64 ck) = fec ⟨x.p, x.k, ⟨x.r.rk, x.r.mt, cp, ck⟩, u, x.pk, x.bt⟩ := by
  apply Array.ext_getElem?
  intro i
  rw [Array.getElem?_setIfInBounds, Array.size_setIfInBounds, Array.getElem?_setIfInBounds, fec_size]
  by_cases h1 : 27 = i
  · subst h1
    rw [if_pos rfl, if_pos (by omega)]
    exact (fec_ck ⟨x.p, x.k, ⟨x.r.rk, x.r.mt, cp, ck⟩, u, x.pk, x.bt⟩).symm
  · rw [if_neg h1]
    by_cases h0 : 26 = i
    · subst h0
      rw [if_pos rfl, if_pos (by omega), show 26 = 3 + 23 from rfl, fec_rl _ 23 (by omega)]
      exact (rc_cp _ _ _ _).1.symm
    · rw [if_neg h0]
      by_cases h3 : i < 3
      · have : i = 0 ∨ i = 1 ∨ i = 2 := by omega
        rcases this with rfl | rfl | rfl
        · rw [(fec_at x).1]; exact (fec_at ⟨x.p, x.k, ⟨x.r.rk, x.r.mt, cp, ck⟩, u, x.pk, x.bt⟩).1.symm
        · rw [(fec_at x).2.1]; exact (fec_at ⟨x.p, x.k, ⟨x.r.rk, x.r.mt, cp, ck⟩, u, x.pk, x.bt⟩).2.1.symm
        · rw [(fec_at x).2.2]; exact (fec_at ⟨x.p, x.k, ⟨x.r.rk, x.r.mt, cp, ck⟩, u, x.pk, x.bt⟩).2.2.symm
      · by_cases h4 : i < 28
        · obtain ⟨j, rfl⟩ : ∃ j, i = 3 + j := ⟨i - 3, by omega⟩
          rw [fec_rl _ j (by omega), fec_rl _ j (by omega)]
          show (rc x.r.rk x.r.mt x.u x.r.ck)[j]? = (rc x.r.rk x.r.mt u ck)[j]?
          unfold rc
          rw [Array.getElem?_append_left (by simp [row_size]; omega)]
          rw [show (#[Value.int .i64 x.r.rk] ++ row 22 x.r.mt ++ #[u, Value.int .u64 ck])[j]? = (#[Value.int .i64 x.r.rk] ++ row 22 x.r.mt)[j]? from Array.getElem?_append_left (by simp [row_size]; omega)]
        · rw [Array.getElem?_eq_none (by rw [fec_size]; omega), Array.getElem?_eq_none (by rw [fec_size]; omega)]
end Go.Proofs.YtdehlnaoehjehaaGreatDoor
