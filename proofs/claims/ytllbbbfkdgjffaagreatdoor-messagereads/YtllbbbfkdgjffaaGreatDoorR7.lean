/-
  Proved here: the cursor's methods rule, held read a rule, a held rule, or panic with ErrMessage. Conditions: the bytes lie in blocks of T, the cursor's is none of them.
-/
import Derived.Test.YtllbbbfkdgjffaaGreatDoorR6
import Derived.Great.BuildSlice
namespace Go.Proofs.YtllbbbfkdgjffaaGreatDoor
open Go.RowKit

theorem rlc_ext {A : Array Value} {r : Rl} {u : Value} (hs : A.size = 25) (h0 : A[0]? = some (.int .i64 r.rk)) (hm : ∀ k, k < 22 → A[1 + k]? = some (.int .u64 (r.mt k))) (h23 : A[23]? = some u) (h24 : A[24]? = some (.int .u64 r.ck)) : A = rlc r u := by
  apply Array.ext_getElem?
  intro i
  by_cases hi : 25 ≤ i
  · rw [Array.getElem?_eq_none (by omega), Array.getElem?_eq_none (by rw [rlc_size]; exact hi)]
  · by_cases h1 : 1 ≤ i ∧ i < 23
    · have e1 := hm (i - 1) (by omega)
      have e2 := rlc_mt r u (i - 1) (by omega)
      rw [show 1 + (i - 1) = i by omega] at e1 e2
      rw [e1, e2]
    · have : i = 0 ∨ i = 23 ∨ i = 24 := by omega
      rcases this with rfl | rfl | rfl
      · rw [h0, rlc_rk]
      · rw [h23, rlc_cp]
      · rw [h24, rlc_ck]
abbrev RB (w : World) (g : Nat) (r : Rl) (u : Value) : Prop := w.heap[g]? = some (.cells (rlc r u) 31 (0, 0))
theorem rb_rk {w : World} {g : Nat} {r : Rl} {u : Value} (h : RB w g r u) (x : Int) : RB (w.setCell ⟨g, 0, none⟩ (.int .i64 x)) g { r with rk := x } u := by
  show _ = _
  rw [heap_setCell_same w g 0 _ _ _ h]
  refine congrArg (fun A => some (Obj.cells A 31 (0, 0))) ?_
  refine rlc_ext (by simp [rlc_size]) (by simp [rlc_size]) (fun k hk => ?_) ?_ ?_
  · rw [Array.getElem?_setIfInBounds, if_neg (by omega)]; exact rlc_mt r u k hk
  · rw [Array.getElem?_setIfInBounds, if_neg (by omega)]; exact rlc_cp r u
  · rw [Array.getElem?_setIfInBounds, if_neg (by omega)]; exact rlc_ck r u
theorem rb_ck {w : World} {g : Nat} {r : Rl} {u : Value} (h : RB w g r u) (x : Int) : RB (w.setCell ⟨g, 24, none⟩ (.int .u64 x)) g { r with ck := x } u := by
  show _ = _
  rw [heap_setCell_same w g 24 _ _ _ h]
  refine congrArg (fun A => some (Obj.cells A 31 (0, 0))) ?_
  refine rlc_ext (by simp [rlc_size]) ?_ (fun k hk => ?_) ?_ (by simp [rlc_size])
  · rw [Array.getElem?_setIfInBounds, if_neg (by omega)]; exact rlc_rk r u
  · rw [Array.getElem?_setIfInBounds, if_neg (by omega)]; exact rlc_mt r u k hk
  · rw [Array.getElem?_setIfInBounds, if_neg (by omega)]; exact rlc_cp r u
theorem rb_cp {w : World} {g : Nat} {r : Rl} {u : Value} (h : RB w g r u) (l : List (List Ac)) (v : Value) : RB (w.setCell ⟨g, 23, none⟩ v) g { r with cp := l } v := by
  show _ = _
  rw [heap_setCell_same w g 23 _ _ _ h]
  refine congrArg (fun A => some (Obj.cells A 31 (0, 0))) ?_
  refine rlc_ext (by simp [rlc_size]) ?_ (fun k hk => ?_) (by simp [rlc_size]) ?_
  · rw [Array.getElem?_setIfInBounds, if_neg (by omega)]; exact rlc_rk r u
  · rw [Array.getElem?_setIfInBounds, if_neg (by omega)]; exact rlc_mt r u k hk
  · rw [Array.getElem?_setIfInBounds, if_neg (by omega)]; exact rlc_ck r u
theorem rb_mt {w : World} {g : Nat} {r : Rl} {u : Value} (h : RB w g r u) (m : Nat → Int) : RB (w.setCells g 1 (row 22 m).toList) g { r with mt := m } u := by
  obtain ⟨cur', h1, h2, h3, h4⟩ := setCells_all g (row 22 m).toList 1 w _ _ h
  rw [Array.length_toList, row_size] at h3 h4
  show _ = _
  rw [h1]
  refine congrArg (fun A => some (Obj.cells A 31 (0, 0))) ?_
  refine rlc_ext (by rw [h2, rlc_size]) ?_ (fun k hk => ?_) ?_ ?_
  · rw [h3 0 (by omega)]; exact rlc_rk r u
  · rw [h4 k hk (by rw [rlc_size]; omega)]
    have := row_at 22 m k hk
    simpa using this
  · rw [h3 23 (by omega)]; exact rlc_cp r u
  · rw [h3 24 (by omega)]; exact rlc_ck r u
theorem rb_free {w : World} {g : Nat} {r : Rl} {u : Value} (h : RB w g r u) (o : Nat) : w.frozen? ⟨g, o, none⟩ = false := by
  have : w.heap[g]? = some (.cells (rlc r u) 31 (0, 0)) := h
  simp [World.frozen?, this]
theorem rb_there {w : World} {g : Nat} {r : Rl} {u : Value} (h : RB w g r u) (o n : Nat) (hn : o + n ≤ 25) : w.there g o n := fun j hj => ⟨by
  rw [cell_of_row w g (o + j) _ _ _ h, Array.getElem?_eq_getElem (by rw [rlc_size]; omega)]; rfl, rb_free h _⟩
/-- A reading, then a store of many cells into a block of one's own. -/
theorem rd_setC {T : Nat → Prop} {c n g o : Nat} {vs : List Value} {w W w1 : World} {bs r : List Int} (h : Rc T W c bs) (hO : Only (fun x => x = c ∨ n ≤ x) w W) (hn : n ≤ W.heap.size) (hg : n ≤ g) (hT : ∀ x, T x → x < n) (hc : c < n) (h2 : 2 ≤ n) (ho : Only (fun x => x = c ∨ W.heap.size ≤ x) W w1) (hc1 : Cur T w1 c r) :
    Rc T (w1.setCells g o vs) c r ∧ Only (fun x => x = c ∨ n ≤ x) w (w1.setCells g o vs) ∧ w1.heap.size ≤ (w1.setCells g o vs).heap.size ∧ ∀ k, k < W.heap.size → k ≠ c → k ≠ g → (w1.setCells g o vs).heap[k]? = W.heap[k]? := by
  have h1 := h.on ho hc1
  have hq := setCells_below g vs o w1
  have hoq : Only (fun x => x = g) w1 (w1.setCells g o vs) := ⟨hq.1, hq.2.1, hq.2.2.1, hq.2.2.2.1, fun k hk => hq.2.2.2.2 k hk⟩
  have hO2 : Only (fun x => x = c ∨ n ≤ x) w (w1.setCells g o vs) := (hO.trans (ho.mono fun x hx => by rcases hx with e | e; exact Or.inl e; exact Or.inr (Nat.le_trans hn e))).trans (hoq.mono fun x hx => Or.inr (by rw [hx]; exact hg))
  have hgc : c ≠ g := by omega
  refine ⟨⟨h1.cur.carry (hoq.block c hgc) fun k _ hk => ⟨hk, hoq.block k (by have := hT k hk; omega)⟩, h.out, h1.tab.of (hoq.block 0 (by omega)) (hoq.block 1 (by omega)), h.two, fun x hx => Nat.lt_of_lt_of_le (h1.old x hx) hoq.size⟩, hO2, hoq.size, fun k hk hkc hkg => ?_⟩
  rw [hoq.block k hkg, ho.block k (by rintro (e | e); exact hkc e; omega)]
theorem setCell_size (w : World) (p : Addr) (v : Value) : w.heap.size ≤ (w.setCell p v).heap.size := ((Below.refl 0 w).setCell (p := p) (Nat.zero_le _) v).size
def VRl : Nat → World → Value → Rl → Prop := fun n w v x => ∃ u, v = .agg (rlc x u) ∧ Cps (fun k => n ≤ k ∧ k < w.heap.size) w u x.cp ∧ x.Fit
theorem resRul (tmps : Array Value) (w : World) (g : Nat) (cs : Array Value) (hp : tmps.getD 2 undef = ptr g) (hg : w.heap[g]? = some (.cells cs 31 (0, 0))) (hs : (Tryz.prog.info? 31).map (·.size) = some cs.size) : (results Tryz.f69 tmps).run Tryz.prog w = .ok (.agg cs) w := by
  have hp' : tmps[2]?.getD undef = ptr g := by simpa using hp
  simp [results, Tryz.results69, hp', asAddr, run_loadVar_row w g 31 31 _ (0, 0) _ hg Tryz.underlying31 rfl hs]
theorem i32_wrap (n : Int) : i32 n = wrap64 (wrap32 n) := by
  unfold i32 wrap64 wrap32
  split <;> omega

section
variable {T : Nat → Prop} {c : Nat} {bs : List Int} {w : World}
set_option maxHeartbeats 3200000 in
set_option maxRecDepth 100000 in
theorem crule_any (h : Rc T w c bs) : Calls Tryz.prog 69 #[ptr c] w (RdP T c (rdRl true bs) VRl w) := by
  obtain ⟨W, HW, hb, hz, h0, h1⟩ := two_new w (.cells (rlc zRl nilS) 31) (.cells (rlc zRl nilS) 31)
  have hR := h.new hb
  have hcw := h.cur.lt
  have hpos : 2 ≤ w.heap.size := by have := h.tab.pos; omega
  have HTo := hid h.old
  have HB := hid hb
  have HR := hid hR
  have H0 : Hid (RB W w.heap.size zRl nilS) := h0
  have H1 : Hid (RB W (w.heap.size + 1) zRl nilS) := h1
  have HO0 := hid (Only.of (S := fun x => x = c ∨ w.heap.size ≤ x) hb fun x hx => Or.inr hx)
  have HN := hid (cnumber_any c 4 bs W hR.cur hR.out (by omega) (by omega))
  have hB := h.cur.isB
  have HFit : Hid (∀ x r', rdRl true bs = some (x, r') → x.Fit) := fun x r' he => (rdRl_inv bs x r' hB he).2.2.2
  obtain ⟨sp, HSp⟩ : ∃ o, Hid (rdRl true bs = o) := ⟨_, rfl⟩
  rw [HSp.out] at HFit ⊢
  unfold rdRl at HSp
  clear hb h0 h1 hR
  go_enter Tryz.func69, Tryz.ntmps69
  go_upto_region 2 with fail
  rw [← zero_rl, show (w.alloc (.cells (rlc zRl nilS) 31)).alloc (.cells (rlc zRl nilS) 31) = W from HW.out.symm]
  cases ht : tk 4 bs with
  | none =>
    rw [ht] at HN HSp
    go_wp2_with (go_at_call 40; refine (HN.out).mono ?_; intro e w1 h9; obtain ⟨rfl, hq⟩ := RdP.bad h9; have H9 := hid hq; clear hq h9)
    exact ⟨rfl, RdP.no (only_new HB.out H9.out) HSp.out.symm⟩
  | some p =>
    obtain ⟨x, r1⟩ := p
    rw [ht] at HN HSp
    simp only [Option.bind_some] at HSp
    obtain ⟨-, x0, x1, hBr⟩ := tk_inv hB ht
    rw [pw4] at x1
    have HI := hid (i32_wrap x)
    clear h hB ht
    go_upto_region 3 with (go_at_call 40; refine (HN.out).mono ?_; intro e w1 h9; obtain ⟨v, rfl, h1, h2, rfl⟩ := RdP.get h9; have HX := hid (And.intro h1 h2)
                           have hbk : RB w1 (w.heap.size + 1) zRl nilS := (h1.block _ (by rintro (e | e) <;> omega)).trans H1.out
                           have HBk := hid hbk
                           obtain ⟨k0, -⟩ := rl_cells hbk
                           have fk := rb_free hbk 0
                           clear h1 h2 h9 hbk)
    rw [← HI.out]
    obtain ⟨hR2, hO2, hn2, hk2⟩ := rd_set (g := w.heap.size + 1) (o := 0) (v := .int .i64 (i32 x)) HR.out HO0.out (by omega) (by omega) HTo.out hcw hpos HX.out.1 HX.out.2
    have HM2 : Hid (RB (w1.setCell ⟨w.heap.size + 1, 0, none⟩ (.int .i64 (i32 x))) (w.heap.size + 1) { zRl with rk := i32 x } nilS) := rb_rk HBk.out (i32 x)
    have HF2 : Hid (RB (w1.setCell ⟨w.heap.size + 1, 0, none⟩ (.int .i64 (i32 x))) w.heap.size zRl nilS) := (hk2 w.heap.size (by omega) (by omega) (by omega)).trans H0.out
    have hz2 : w.heap.size + 2 ≤ (w1.setCell ⟨w.heap.size + 1, 0, none⟩ (.int .i64 (i32 x))).heap.size := by
      have := HX.out.1.size
      have := setCell_size w1 ⟨w.heap.size + 1, 0, none⟩ (.int .i64 (i32 x))
      omega
    have HR2 := hid hR2
    have HO2 := hid hO2
    clear hR2 hO2 hk2 k0 fk HX HBk HN HR HO0 H0 H1 HI
    generalize i32 x = rk at HSp HM2 HF2 HR2 HO2 hz2 hn2 ⊢
    generalize w1.setCell ⟨w.heap.size + 1, 0, none⟩ (.int .i64 rk) = V2 at HR2 HO2 hn2 HM2 HF2 hz2 ⊢
    clear w1
    have HN := hid (cnumber_any c 8 r1 V2 HR2.out.cur HR2.out.out (by omega) (by omega))
    cases ht : tk 8 r1 with
    | none =>
      rw [ht] at HN HSp
      go_wp2_with (go_at_call 40; refine (HN.out).mono ?_; intro e w1 h9; obtain ⟨rfl, hq⟩ := RdP.bad h9; have H9 := hid hq; clear hq h9)
      exact ⟨rfl, RdP.no (HO2.out.trans (H9.out.mono fun x hx => by rcases hx with e | e; exact Or.inl e; exact Or.inr (by omega))) HSp.out.symm⟩
    | some p =>
      obtain ⟨ck, r2⟩ := p
      rw [ht] at HN HSp
      simp only [Option.bind_some] at HSp
      clear ht
      go_upto_region 4 with (go_at_call 40; refine (HN.out).mono ?_; intro e w1 h9; obtain ⟨v, rfl, h1, h2, rfl⟩ := RdP.get h9; have HX := hid (And.intro h1 h2)
                             have hbk : RB w1 (w.heap.size + 1) { zRl with rk := rk } nilS := (h1.block _ (by rintro (e | e) <;> omega)).trans HM2.out
                             have HBk := hid hbk
                             obtain ⟨-, -, k2, -⟩ := rl_cells hbk
                             have fk := rb_free hbk 24
                             clear h1 h2 h9 hbk)
      obtain ⟨hR3, hO3, hn3, hk3⟩ := rd_set (g := w.heap.size + 1) (o := 24) (v := .int .u64 ck) HR2.out HO2.out (by omega) (by omega) HTo.out hcw hpos HX.out.1 HX.out.2
      have HM3 : Hid (RB (w1.setCell ⟨w.heap.size + 1, 24, none⟩ (.int .u64 ck)) (w.heap.size + 1) ⟨rk, zf, [], ck⟩ nilS) := rb_ck HBk.out ck
      have HF3 : Hid (RB (w1.setCell ⟨w.heap.size + 1, 24, none⟩ (.int .u64 ck)) w.heap.size zRl nilS) := (hk3 w.heap.size (by omega) (by omega) (by omega)).trans HF2.out
      have hz3 : w.heap.size + 2 ≤ (w1.setCell ⟨w.heap.size + 1, 24, none⟩ (.int .u64 ck)).heap.size := by
        have := HX.out.1.size
        have := setCell_size w1 ⟨w.heap.size + 1, 24, none⟩ (.int .u64 ck)
        omega
      have HR3 := hid hR3
      have HO3 := hid hO3
      clear hR3 hO3 hk3 k2 fk HX HBk HN HR2 HO2 HF2 HM2
      generalize w1.setCell ⟨w.heap.size + 1, 24, none⟩ (.int .u64 ck) = V3 at HR3 HO3 hn3 HM3 HF3 hz3 ⊢
      clear w1
      have HN := hid (cmatch_any HR3.out)
      cases ht : rdMt true r2 with
      | none =>
        rw [ht] at HN HSp
        go_wp2_with (go_at_call 105; refine (HN.out).mono ?_; intro e w1 h9; obtain ⟨rfl, hq⟩ := RdP.bad h9; have H9 := hid hq; clear hq h9)
        exact ⟨rfl, RdP.no (HO3.out.trans (H9.out.mono fun x hx => by rcases hx with e | e; exact Or.inl e; exact Or.inr (by omega))) HSp.out.symm⟩
      | some p =>
        obtain ⟨m, r3⟩ := p
        rw [ht] at HN HSp
        simp only [Option.bind_some] at HSp
        clear ht
        go_upto_region 5 with (first
          | (refine stMid 28 (.tmp 14) (.tmp 13) rfl rfl (w.heap.size + 1) 1 (row 22 m) rfl rfl (by rw [row_size]; exact rb_there HBk.out 1 22 (by omega)) (sizeMt m) (row_one 22 m) ?_)
          | (go_at_call 105; refine (HN.out).mono ?_; intro e w1 h9; obtain ⟨v, rfl, h1, h2, rfl⟩ := RdP.get h9; have HX := hid (And.intro h1 h2)
             have hbk : RB w1 (w.heap.size + 1) ⟨rk, zf, [], ck⟩ nilS := (h1.block _ (by rintro (e | e) <;> omega)).trans HM3.out
             have HBk := hid hbk
             clear h1 h2 h9 hbk))
        obtain ⟨hR4, hO4, hn4, hk4⟩ := rd_setC (g := w.heap.size + 1) (o := 1) (vs := (row 22 m).toList) HR3.out HO3.out (by omega) (by omega) HTo.out hcw hpos HX.out.1 HX.out.2
        have HM4 : Hid (RB (w1.setCells (w.heap.size + 1) 1 (row 22 m).toList) (w.heap.size + 1) ⟨rk, m, [], ck⟩ nilS) := rb_mt HBk.out m
        have HF4 : Hid (RB (w1.setCells (w.heap.size + 1) 1 (row 22 m).toList) w.heap.size zRl nilS) := (hk4 w.heap.size (by omega) (by omega) (by omega)).trans HF3.out
        have hz4 : w.heap.size + 2 ≤ (w1.setCells (w.heap.size + 1) 1 (row 22 m).toList).heap.size := by
          have := HX.out.1.size
          omega
        have HR4 := hid hR4
        have HO4 := hid hO4
        clear hR4 hO4 hk4 HX HBk HN HR3 HO3 HF3 HM3
        generalize w1.setCells (w.heap.size + 1) 1 (row 22 m).toList = V4 at HR4 HO4 hn4 HM4 HF4 hz4 ⊢
        clear hn4 w1
        have HN := hid (rlAA_any HR4.out)
        cases ht : rdL (rdL (rdAc true)) r3 with
        | none =>
          rw [ht] at HN HSp
          go_wp2_with (go_at_call 106; refine (HN.out).mono ?_; intro e w1 h9; obtain ⟨rfl, hq⟩ := RdP.bad h9; have H9 := hid hq; clear hq h9)
          exact ⟨rfl, RdP.no (HO4.out.trans (H9.out.mono fun x hx => by rcases hx with e | e; exact Or.inl e; exact Or.inr (by omega))) HSp.out.symm⟩
        | some p =>
          obtain ⟨l, r4⟩ := p
          rw [ht] at HN HSp
          simp only [Option.map_some] at HSp
          clear ht
          go_upto_region 6 with (go_at_call 106; refine (HN.out).mono ?_; intro e w1 h9; obtain ⟨v, rfl, h1, h2, hv⟩ := RdP.get h9; have HX := hid (And.intro h1 h2); have HVl := hid hv
                                 obtain ⟨va, vc, rfl, -⟩ := Lst.form hv
                                 have hbk : RB w1 (w.heap.size + 1) ⟨rk, m, [], ck⟩ nilS := (h1.block _ (by rintro (e | e) <;> omega)).trans HM4.out
                                 have HBk := hid hbk
                                 obtain ⟨-, k1, -, -⟩ := rl_cells hbk
                                 have fk := rb_free hbk 23
                                 clear h1 h2 h9 hbk hv)
          obtain ⟨hR5, hO5, hn5, hk5⟩ := rd_set (g := w.heap.size + 1) (o := 23) (v := .slice va l.length vc) HR4.out HO4.out (by omega) (by omega) HTo.out hcw hpos HX.out.1 HX.out.2
          have HM5 : Hid (RB (w1.setCell ⟨w.heap.size + 1, 23, none⟩ (.slice va l.length vc)) (w.heap.size + 1) ⟨rk, m, l, ck⟩ (.slice va l.length vc)) := rb_cp HBk.out l _
          have HF5 : Hid (RB (w1.setCell ⟨w.heap.size + 1, 23, none⟩ (.slice va l.length vc)) w.heap.size zRl nilS) := (hk5 w.heap.size (by omega) (by omega) (by omega)).trans HF4.out
          have HV5 : Hid (Cps (fun k => w.heap.size + 2 ≤ k ∧ k < (w1.setCell ⟨w.heap.size + 1, 23, none⟩ (.slice va l.length vc)).heap.size) (w1.setCell ⟨w.heap.size + 1, 23, none⟩ (.slice va l.length vc)) (.slice va l.length vc) l) := Cps.carry (fun b hb hT => ⟨⟨by omega, Nat.lt_of_lt_of_le hb (setCell_size w1 _ _)⟩, heap_setCell_other w1 ⟨w.heap.size + 1, 23, none⟩ b _ (show b ≠ w.heap.size + 1 by omega)⟩) HVl.out
          have HR5 := hid hR5
          have HO5 := hid hO5
          clear hR5 hO5 hk5 k1 fk HX HBk HN HR4 HO4 HF4 HM4 HVl
          generalize w1.setCell ⟨w.heap.size + 1, 23, none⟩ (.slice va l.length vc) = V5 at HR5 HO5 hn5 HM5 HF5 HV5 ⊢
          clear w1
          go_wp2_with (first
            | (refine ldRow 31 (.tmp 3) rfl rfl (w.heap.size + 1) rfl 31 (rlc ⟨rk, m, l, ck⟩ (.slice va l.length vc)) _ Tryz.underlying31 rfl (sizeRl _ _) HM5.out ?_)
            | (refine stRow 31 (.tmp 2) (.tmp 18) rfl rfl w.heap.size (rlc ⟨rk, m, l, ck⟩ (.slice va l.length vc)) rfl rfl 31 (rlc zRl nilS) HF5.out (sizeRl _ _) (by rw [rlc_size, rlc_size]) (rlc_one _ _ rfl) ?_))
          have hRF := setRow_heap V5 w.heap.size (rlc zRl nilS) (rlc ⟨rk, m, l, ck⟩ (.slice va l.length vc)) 31 _ HF5.out
          have hsz : (V5.setRow w.heap.size (rlc ⟨rk, m, l, ck⟩ (.slice va l.length vc))).heap.size = V5.heap.size := by simp [World.setRow]
          refine bodyPost_ret (v := .agg (rlc ⟨rk, m, l, ck⟩ (.slice va l.length vc))) (resRul _ _ w.heap.size _ rfl hRF (sizeRl _ _)) rfl (RdP.yes ?_ HSp.out.symm ?_ ⟨_, rfl, ?_, HFit.out _ _ HSp.out.symm⟩)
          · exact HO5.out.trans ⟨rfl, rfl, rfl, by rw [hsz]; exact Nat.le_refl _, fun k hk => setRow_other V5 w.heap.size k _ (fun e => hk (Or.inr (by omega)))⟩
          · exact HR5.out.cur.carry (setRow_other V5 w.heap.size c _ (by omega)) fun k _ hT => ⟨hT, setRow_other V5 w.heap.size k _ (by have := HTo.out k hT; omega)⟩
          · exact Cps.carry (fun b hb hT => ⟨⟨by omega, by rw [hsz]; exact hb⟩, setRow_other V5 w.heap.size b _ (by omega)⟩) HV5.out
end

/-- A held rule's block. -/
abbrev HBk (w : World) (g : Nat) (h : Hd) (u : Value) : Prop := w.heap[g]? = some (.cells (hdc h u) 57 (0, 0))
theorem hdc_ext {A : Array Value} {h : Hd} {u : Value} (hs : A.size = 27) (hr : ∀ k, k < 25 → A[k]? = (rlc h.r u)[k]?) (h25 : A[25]? = some (.int .u64 h.pk)) (h26 : A[26]? = some (.int .u64 h.bt)) : A = hdc h u := by
  apply Array.ext_getElem?
  intro i
  by_cases hi : 27 ≤ i
  · rw [Array.getElem?_eq_none (by omega), Array.getElem?_eq_none (by rw [hdc_size]; exact hi)]
  · by_cases h1 : i < 25
    · rw [hr i h1, hdc_rl h u i h1]
    · have : i = 25 ∨ i = 26 := by omega
      rcases this with rfl | rfl
      · rw [h25, hdc_pk]
      · rw [h26, hdc_bt]
theorem hb_rl {w : World} {g : Nat} {h : Hd} {u : Value} (hg : HBk w g h u) (r : Rl) (v : Value) : HBk (w.setCells g 0 (rlc r v).toList) g { h with r := r } v := by
  obtain ⟨cur', h1, h2, h3, h4⟩ := setCells_all g (rlc r v).toList 0 w _ _ hg
  rw [Array.length_toList, rlc_size] at h3 h4
  show _ = _
  rw [h1]
  refine congrArg (fun A => some (Obj.cells A 57 (0, 0))) ?_
  refine hdc_ext (by rw [h2, hdc_size]) (fun k hk => ?_) ?_ ?_
  · have := h4 k hk (by rw [hdc_size]; omega)
    rw [Nat.zero_add] at this
    rw [this]; simp
  · rw [h3 25 (by omega)]; exact hdc_pk h u
  · rw [h3 26 (by omega)]; exact hdc_bt h u
theorem hb_pk {w : World} {g : Nat} {h : Hd} {u : Value} (hg : HBk w g h u) (x : Int) : HBk (w.setCell ⟨g, 25, none⟩ (.int .u64 x)) g { h with pk := x } u := by
  show _ = _
  rw [heap_setCell_same w g 25 _ _ _ hg]
  refine congrArg (fun A => some (Obj.cells A 57 (0, 0))) ?_
  refine hdc_ext (by simp [hdc_size]) (fun k hk => ?_) (by simp [hdc_size]) ?_
  · rw [Array.getElem?_setIfInBounds, if_neg (by omega)]; exact hdc_rl h u k hk
  · rw [Array.getElem?_setIfInBounds, if_neg (by omega)]; exact hdc_bt h u
theorem hb_bt {w : World} {g : Nat} {h : Hd} {u : Value} (hg : HBk w g h u) (x : Int) : HBk (w.setCell ⟨g, 26, none⟩ (.int .u64 x)) g { h with bt := x } u := by
  show _ = _
  rw [heap_setCell_same w g 26 _ _ _ hg]
  refine congrArg (fun A => some (Obj.cells A 57 (0, 0))) ?_
  refine hdc_ext (by simp [hdc_size]) (fun k hk => ?_) ?_ (by simp [hdc_size])
  · rw [Array.getElem?_setIfInBounds, if_neg (by omega)]; exact hdc_rl h u k hk
  · rw [Array.getElem?_setIfInBounds, if_neg (by omega)]; exact hdc_pk h u
theorem hb_free {w : World} {g : Nat} {h : Hd} {u : Value} (hg : HBk w g h u) (o : Nat) : w.frozen? ⟨g, o, none⟩ = false := by
  have : w.heap[g]? = some (.cells (hdc h u) 57 (0, 0)) := hg
  simp [World.frozen?, this]
theorem hb_there {w : World} {g : Nat} {h : Hd} {u : Value} (hg : HBk w g h u) (o n : Nat) (hn : o + n ≤ 27) : w.there g o n := fun j hj => ⟨by
  rw [cell_of_row w g (o + j) _ _ _ hg, Array.getElem?_eq_getElem (by rw [hdc_size]; omega)]; rfl, hb_free hg _⟩
abbrev zHd : Hd := ⟨zRl, 0, 0⟩
theorem zero_hd : hdc zHd nilS = #[.int .i64 0, .int .u64 0, .int .u64 0, .int .u64 0, .int .u64 0, .int .u64 0, .int .u64 0, .int .u64 0, .int .u64 0, .int .u64 0, .int .u64 0, .int .u64 0, .int .u64 0, .int .u64 0, .int .u64 0, .int .u64 0, .int .u64 0, .int .u64 0, .int .u64 0, .int .u64 0, .int .u64 0, .int .u64 0, .int .u64 0, nilS, .int .u64 0, .int .u64 0, .int .u64 0] := by kernel_rfl
theorem resHel (tmps : Array Value) (w : World) (g : Nat) (cs : Array Value) (hp : tmps.getD 2 undef = ptr g) (hg : w.heap[g]? = some (.cells cs 57 (0, 0))) (hs : (Tryz.prog.info? 57).map (·.size) = some cs.size) : (results Tryz.f118 tmps).run Tryz.prog w = .ok (.agg cs) w := by
  have hp' : tmps[2]?.getD undef = ptr g := by simpa using hp
  simp [results, Tryz.results118, hp', asAddr, run_loadVar_row w g 57 57 _ (0, 0) _ hg Tryz.underlying57 rfl hs]

section
variable {T : Nat → Prop} {c : Nat} {bs : List Int} {w : World}
set_option maxHeartbeats 3200000 in
set_option maxRecDepth 100000 in
theorem cheld_el (h : Rc T w c bs) : Calls Tryz.prog 118 #[ptr c] w (RdP T c (rdHd true bs) VHd w) := by
  obtain ⟨W, HW, hb, hz, h0, h1⟩ := two_new w (.cells (hdc zHd nilS) 57) (.cells (hdc zHd nilS) 57)
  have hR := h.new hb
  have hcw := h.cur.lt
  have hpos : 2 ≤ w.heap.size := by have := h.tab.pos; omega
  have HTo := hid h.old
  have HB := hid hb
  have HR := hid hR
  have H0 : Hid (HBk W w.heap.size zHd nilS) := h0
  have H1 : Hid (HBk W (w.heap.size + 1) zHd nilS) := h1
  have HO0 := hid (Only.of (S := fun x => x = c ∨ w.heap.size ≤ x) hb fun x hx => Or.inr hx)
  have HN := hid (crule_any hR)
  have hB := h.cur.isB
  have HFit : Hid (∀ x r', rdHd true bs = some (x, r') → x.Fit) := fun x r' he => (rdHd_inv bs x r' hB he).2.2.2
  obtain ⟨sp, HSp⟩ : ∃ o, Hid (rdHd true bs = o) := ⟨_, rfl⟩
  rw [HSp.out] at HFit ⊢
  unfold rdHd at HSp
  clear hb h0 h1 hR hB h
  go_enter Tryz.func118, Tryz.ntmps118
  go_upto_region 2 with fail
  rw [← zero_hd, show (w.alloc (.cells (hdc zHd nilS) 57)).alloc (.cells (hdc zHd nilS) 57) = W from HW.out.symm]
  cases ht : rdRl true bs with
  | none =>
    rw [ht] at HN HSp
    go_wp2_with (go_at_call 69; refine (HN.out).mono ?_; intro e w1 h9; obtain ⟨rfl, hq⟩ := RdP.bad h9; have H9 := hid hq; clear hq h9)
    exact ⟨rfl, RdP.no (only_new HB.out H9.out) HSp.out.symm⟩
  | some p =>
    obtain ⟨x, r1⟩ := p
    rw [ht] at HN HSp
    simp only [Option.bind_some] at HSp
    clear ht
    go_upto_region 3 with (first
      | (refine stMid 31 (.tmp 6) (.tmp 5) rfl rfl (w.heap.size + 1) 0 (rlc x u) rfl rfl (by rw [rlc_size]; exact hb_there HBl.out 0 25 (by omega)) (sizeRl x u) HOne.out ?_)
      | (go_at_call 69; refine (HN.out).mono ?_; intro e w1 h9; obtain ⟨v, rfl, h1, h2, u, rfl, hcp, -⟩ := RdP.get h9; have HX := hid (And.intro h1 h2)
         have HVl := hid hcp
         have HOne := hid (rlc_one x u hcp.one)
         have hbk : HBk w1 (w.heap.size + 1) zHd nilS := (h1.block _ (by rintro (e | e) <;> omega)).trans H1.out
         have HBl := hid hbk
         clear h1 h2 h9 hbk hcp))
    obtain ⟨hR2, hO2, hn2, hk2⟩ := rd_setC (g := w.heap.size + 1) (o := 0) (vs := (rlc x u).toList) HR.out HO0.out (by omega) (by omega) HTo.out hcw hpos HX.out.1 HX.out.2
    have HM2 : Hid (HBk (w1.setCells (w.heap.size + 1) 0 (rlc x u).toList) (w.heap.size + 1) ⟨x, 0, 0⟩ u) := hb_rl HBl.out x u
    have HF2 : Hid (HBk (w1.setCells (w.heap.size + 1) 0 (rlc x u).toList) w.heap.size zHd nilS) := (hk2 w.heap.size (by omega) (by omega) (by omega)).trans H0.out
    have hz2 : w.heap.size + 2 ≤ (w1.setCells (w.heap.size + 1) 0 (rlc x u).toList).heap.size := by
      have := HX.out.1.size
      omega
    have hkk := (setCells_below (w.heap.size + 1) (rlc x u).toList 0 w1).2.2.2.2
    have HV2 : Hid (Cps (fun k => w.heap.size + 2 ≤ k ∧ k < (w1.setCells (w.heap.size + 1) 0 (rlc x u).toList).heap.size) (w1.setCells (w.heap.size + 1) 0 (rlc x u).toList) u x.cp) := Cps.carry (fun b hb hT => ⟨⟨by omega, Nat.lt_of_lt_of_le hb hn2⟩, hkk b (by omega)⟩) HVl.out
    have HR2 := hid hR2
    have HO2 := hid hO2
    clear hR2 hO2 hk2 HX HBl HN HR HO0 H0 H1 hn2 hkk HVl HOne
    generalize w1.setCells (w.heap.size + 1) 0 (rlc x u).toList = V2 at HR2 HO2 HM2 HF2 hz2 HV2 ⊢
    clear w1
    have HN := hid (cnumber_any c 8 r1 V2 HR2.out.cur HR2.out.out (by omega) (by omega))
    cases ht : tk 8 r1 with
    | none =>
      rw [ht] at HN HSp
      go_wp2_with (go_at_call 40; refine (HN.out).mono ?_; intro e w1 h9; obtain ⟨rfl, hq⟩ := RdP.bad h9; have H9 := hid hq; clear hq h9)
      exact ⟨rfl, RdP.no (HO2.out.trans (H9.out.mono fun x hx => by rcases hx with e | e; exact Or.inl e; exact Or.inr (by omega))) HSp.out.symm⟩
    | some p =>
      obtain ⟨pk, r2⟩ := p
      rw [ht] at HN HSp
      simp only [Option.bind_some] at HSp
      clear ht
      go_upto_region 4 with (go_at_call 40; refine (HN.out).mono ?_; intro e w1 h9; obtain ⟨v, rfl, h1, h2, rfl⟩ := RdP.get h9; have HX := hid (And.intro h1 h2)
                             have hbk : HBk w1 (w.heap.size + 1) ⟨x, 0, 0⟩ u := (h1.block _ (by rintro (e | e) <;> omega)).trans HM2.out
                             have HBl := hid hbk
                             obtain ⟨k2, -, -⟩ := hd_cells hbk
                             have fk := hb_free hbk 25
                             clear h1 h2 h9 hbk)
      obtain ⟨hR3, hO3, hn3, hk3⟩ := rd_set (g := w.heap.size + 1) (o := 25) (v := .int .u64 pk) HR2.out HO2.out (by omega) (by omega) HTo.out hcw hpos HX.out.1 HX.out.2
      have HM3 : Hid (HBk (w1.setCell ⟨w.heap.size + 1, 25, none⟩ (.int .u64 pk)) (w.heap.size + 1) ⟨x, pk, 0⟩ u) := hb_pk HBl.out pk
      have HF3 : Hid (HBk (w1.setCell ⟨w.heap.size + 1, 25, none⟩ (.int .u64 pk)) w.heap.size zHd nilS) := (hk3 w.heap.size (by omega) (by omega) (by omega)).trans HF2.out
      have hs3 : V2.heap.size ≤ (w1.setCell ⟨w.heap.size + 1, 25, none⟩ (.int .u64 pk)).heap.size := by
        have := HX.out.1.size
        have := setCell_size w1 ⟨w.heap.size + 1, 25, none⟩ (.int .u64 pk)
        omega
      have HV3 : Hid (Cps (fun k => w.heap.size + 2 ≤ k ∧ k < (w1.setCell ⟨w.heap.size + 1, 25, none⟩ (.int .u64 pk)).heap.size) (w1.setCell ⟨w.heap.size + 1, 25, none⟩ (.int .u64 pk)) u x.cp) := Cps.carry (fun b hb hT => ⟨⟨hT.1, Nat.lt_of_lt_of_le hT.2 hs3⟩, hk3 b hb (by omega) (by omega)⟩) HV2.out
      have HR3 := hid hR3
      have HO3 := hid hO3
      clear hR3 hO3 hk3 k2 fk HX HBl HN HR2 HO2 HF2 HM2 HV2
      have hz3 := Nat.le_trans hz2 hs3
      clear hz2 hs3
      generalize w1.setCell ⟨w.heap.size + 1, 25, none⟩ (.int .u64 pk) = V3 at HR3 HO3 hn3 HM3 HF3 hz3 HV3 ⊢
      clear w1
      have HN := hid (cnumber_any c 8 r2 V3 HR3.out.cur HR3.out.out (by omega) (by omega))
      cases ht : tk 8 r2 with
      | none =>
        rw [ht] at HN HSp
        go_wp2_with (go_at_call 40; refine (HN.out).mono ?_; intro e w1 h9; obtain ⟨rfl, hq⟩ := RdP.bad h9; have H9 := hid hq; clear hq h9)
        exact ⟨rfl, RdP.no (HO3.out.trans (H9.out.mono fun x hx => by rcases hx with e | e; exact Or.inl e; exact Or.inr (by omega))) HSp.out.symm⟩
      | some p =>
        obtain ⟨bt, r3⟩ := p
        rw [ht] at HN HSp
        simp only [Option.map_some] at HSp
        clear ht
        go_upto_region 5 with (go_at_call 40; refine (HN.out).mono ?_; intro e w1 h9; obtain ⟨v, rfl, h1, h2, rfl⟩ := RdP.get h9; have HX := hid (And.intro h1 h2)
                               have hbk : HBk w1 (w.heap.size + 1) ⟨x, pk, 0⟩ u := (h1.block _ (by rintro (e | e) <;> omega)).trans HM3.out
                               have HBl := hid hbk
                               obtain ⟨-, k3, -⟩ := hd_cells hbk
                               have fk := hb_free hbk 26
                               clear h1 h2 h9 hbk)
        obtain ⟨hR4, hO4, hn4, hk4⟩ := rd_set (g := w.heap.size + 1) (o := 26) (v := .int .u64 bt) HR3.out HO3.out (by omega) (by omega) HTo.out hcw hpos HX.out.1 HX.out.2
        have HM4 : Hid (HBk (w1.setCell ⟨w.heap.size + 1, 26, none⟩ (.int .u64 bt)) (w.heap.size + 1) ⟨x, pk, bt⟩ u) := hb_bt HBl.out bt
        have HF4 : Hid (HBk (w1.setCell ⟨w.heap.size + 1, 26, none⟩ (.int .u64 bt)) w.heap.size zHd nilS) := (hk4 w.heap.size (by omega) (by omega) (by omega)).trans HF3.out
        have hs4 : V3.heap.size ≤ (w1.setCell ⟨w.heap.size + 1, 26, none⟩ (.int .u64 bt)).heap.size := by
          have := HX.out.1.size
          have := setCell_size w1 ⟨w.heap.size + 1, 26, none⟩ (.int .u64 bt)
          omega
        have HV4 : Hid (Cps (fun k => w.heap.size + 2 ≤ k ∧ k < (w1.setCell ⟨w.heap.size + 1, 26, none⟩ (.int .u64 bt)).heap.size) (w1.setCell ⟨w.heap.size + 1, 26, none⟩ (.int .u64 bt)) u x.cp) := Cps.carry (fun b hb hT => ⟨⟨hT.1, Nat.lt_of_lt_of_le hT.2 hs4⟩, hk4 b hb (by omega) (by omega)⟩) HV3.out
        have HR4 := hid hR4
        have HO4 := hid hO4
        clear hR4 hO4 hk4 k3 fk HX HBl HN HR3 HO3 HF3 HM3 HV3
        have hz4 := Nat.le_trans hz3 hs4
        clear hz3 hs4
        generalize w1.setCell ⟨w.heap.size + 1, 26, none⟩ (.int .u64 bt) = V4 at HR4 HO4 hn4 HM4 HF4 hz4 HV4 ⊢
        clear w1
        have HOne := hid (hdc_one ⟨x, pk, bt⟩ u HV4.out.one)
        go_wp2_with (first
          | (refine ldRow 57 (.tmp 3) rfl rfl (w.heap.size + 1) rfl 57 (hdc ⟨x, pk, bt⟩ u) _ Tryz.underlying57 rfl (sizeHd _ _) HM4.out ?_)
          | (refine stRow 57 (.tmp 2) (.tmp 15) rfl rfl w.heap.size (hdc ⟨x, pk, bt⟩ u) rfl rfl 57 (hdc zHd nilS) HF4.out (sizeHd _ _) (by rw [hdc_size, hdc_size]) HOne.out ?_))
        have hRF := setRow_heap V4 w.heap.size (hdc zHd nilS) (hdc ⟨x, pk, bt⟩ u) 57 _ HF4.out
        have hsz : (V4.setRow w.heap.size (hdc ⟨x, pk, bt⟩ u)).heap.size = V4.heap.size := by simp [World.setRow]
        refine bodyPost_ret (v := .agg (hdc ⟨x, pk, bt⟩ u)) (resHel _ _ w.heap.size _ rfl hRF (sizeHd _ _)) rfl (RdP.yes ?_ HSp.out.symm ?_ ⟨_, rfl, ?_, HFit.out _ _ HSp.out.symm⟩)
        · exact HO4.out.trans ⟨rfl, rfl, rfl, by rw [hsz]; exact Nat.le_refl _, fun k hk => setRow_other V4 w.heap.size k _ (fun e => hk (Or.inr (by omega)))⟩
        · exact HR4.out.cur.carry (setRow_other V4 w.heap.size c _ (by omega)) fun k _ hT => ⟨hT, setRow_other V4 w.heap.size k _ (by have := HTo.out k hT; omega)⟩
        · exact Cps.carry (fun b hb hT => ⟨⟨by omega, by rw [hsz]; exact hb⟩, setRow_other V4 w.heap.size b _ (by omega)⟩) HV4.out
end
theorem all_mem {cs : Array Value} (h : cs.all (·.oneCell') = true) : ∀ y ∈ cs.toList, y.oneCell' = true := fun y hy => by
  have := Array.all_eq_true_iff_forall_mem.1 h y (by simpa using hy)
  exact this
theorem new_cells (w : World) (cs : Array Value) (t : TypeId) (j : Nat) (u : Value) (hu : cs.toList[j]? = some u) : (w.alloc (.cells cs t)).cell? ⟨w.heap.size, j, none⟩ = some u := by
  rw [cell_of_row _ _ j _ _ _ (heap_alloc_new _ _)]
  simpa using hu
theorem fold_set : ∀ (l : List Value) (k : Nat) (A : Array Value) (i : Nat), ((l.zipIdx k).foldl (fun (cs : Array Value) (x : Value × Nat) => cs.setIfInBounds (0 + x.2) x.1) A).size = A.size ∧ ((l.zipIdx k).foldl (fun (cs : Array Value) (x : Value × Nat) => cs.setIfInBounds (0 + x.2) x.1) A)[i]? = if k ≤ i ∧ i < k + l.length ∧ i < A.size then l[i - k]? else A[i]?
  | [], k, A, i => by
    simp
    omega
  | c :: l, k, A, i => by
    obtain ⟨h1, h2⟩ := fold_set l (k + 1) (A.setIfInBounds (0 + k) c) i
    simp only [List.zipIdx_cons, List.foldl_cons]
    refine ⟨by rw [h1]; simp, ?_⟩
    rw [h2, Array.getElem?_setIfInBounds, Array.size_setIfInBounds]
    simp only [Nat.zero_add, List.length_cons]
    by_cases h : k = i
    · subst h
      rw [if_neg (by omega), if_pos rfl]
      by_cases hs : k < A.size
      · rw [if_pos hs, if_pos ⟨by omega, by omega, hs⟩]; simp
      · rw [if_neg hs, if_neg (by omega), Array.getElem?_eq_none (by omega)]
    · rw [if_neg h]
      by_cases hq : k + 1 ≤ i ∧ i < k + 1 + l.length ∧ i < A.size
      · rw [if_pos hq, if_pos ⟨by omega, by omega, hq.2.2⟩, show i - k = (i - (k + 1)) + 1 by omega]; simp
      · rw [if_neg hq, if_neg (by omega)]
theorem fill_one (n : Nat) (A cs : Array Value) (hA : A.size = n) (hc : cs.size = n) : Instr.fill (fun i => some (i * n, n)) A [(0, .agg cs)] = some cs := by
  simp only [Instr.fill, Value.cells, Nat.zero_mul, Nat.zero_add]
  rw [if_neg (by simp [hA, hc])]
  refine congrArg some ?_
  apply Array.ext_getElem?
  intro i
  rw [← Array.foldl_toList, Array.toList_zipIdx]
  have h := (fold_set cs.toList 0 A i).2
  simp only [Nat.zero_add] at h
  rw [h, Array.length_toList, Nat.sub_zero]
  by_cases hi : i < n
  · rw [if_pos ⟨by omega, by omega, by omega⟩]; simp
  · rw [if_neg (by omega), Array.getElem?_eq_none (by omega), Array.getElem?_eq_none (by omega)]
/-- A slice of one thing is made. -/
theorem bldSl {ops : Array Oper} {rest : List Oper} {o : Oper} {a : Act} {w : World} {Q : Exit → Act → World → Prop} (t e : TypeId) (y : Operand) (ho : o.op = .buildSlice t 1 #[(0, y)]) (hg : o.guard = none) (cs : Array Value) (hy : a.eval y = .agg cs) (hu : Tryz.prog.underlying t = some (.slice e)) (ie : TypeInfo) (z : Value) (n : Nat) (hie : Tryz.prog.info? e = some ie) (hz : ie.zero = some z) (hsz : ie.size = n) (hn : cs.size = n) (hn0 : 0 < n) (hn1 : n ≤ 1000)
    (h : wpList Tryz.prog ops Q rest (a.put o.dst (.slice (some ⟨w.heap.size, 0, none⟩) 1 1)) (w.alloc (.cells cs e))) : wpList Tryz.prog ops Q (o :: rest) a w := by
  refine wpList_buildSlice hg t e 1 _ ho cs ie z hu hie hz (by rw [hsz, Nat.one_mul]; omega) (by rw [hsz, Nat.one_mul]; omega) ?_ h
  rw [hsz]
  have : (Array.map (fun (x : Nat × Operand) => (x.1, a.eval x.2)) #[(0, y)]).toList = [(0, .agg cs)] := by simp [hy]
  show Instr.fill _ _ (Array.map (fun (x : Nat × Operand) => (x.1, a.eval x.2)) #[(0, y)]).toList = _
  rw [this]
  exact fill_one n _ cs (by simp) hn
end Go.Proofs.YtllbbbfkdgjffaaGreatDoor
