/-
  Proved here: the cursor's method message: it reads a message, as 'dec' tells, or panics with ErrMessage. Conditions: 8 bytes are there at least.
-/
import Derived.Test.YtllbbbfkdgjffaaGreatDoorT8
namespace Go.Proofs.YtllbbbfkdgjffaaGreatDoor
open Go.RowKit

def zSl : Sls := ⟨nilS, nilS, nilS, nilS, nilS⟩
theorem zero_ms (x : Int) : msc { zMs with ty := x } zSl = #[.int .i8 x, .int .u32 0, .int .i8 0, .int .i64 0, .int .u64 0, .int .u64 0, .int .u64 0, .int .u64 0, .int .u64 0, .int .u64 0, .int .u64 0, .int .u64 0, .int .u64 0, .int .u64 0, .int .u64 0, .int .u64 0, .int .u64 0, .int .u64 0, .int .u64 0, .int .u64 0, .int .u64 0, .int .u64 0, .int .u64 0, .int .u64 0, .int .u64 0, .int .u64 0, nilS, .int .u64 0, .int .u16 0, .bool false, .int .u16 0, nilS, nilS, nilS, nilS, .int .u16 0] := by kernel_rfl
theorem tkd {bs : List Int} {a k : Nat} (h : a + k ≤ bs.length) : tk k (bs.drop a) = some (fld bs a k, bs.drop (a + k)) := by
  rw [tk_some (by rw [List.length_drop]; omega), List.drop_drop]; rfl
theorem msc_set1 (m m' : Ms) (s s' : Sls) (v : Value) (hv : (msc m' s')[1]? = some v) (hr : m'.r = m.r) (hc : s'.cp = s.cp) (hk : ∀ i, i < 36 → i ≠ 1 → ¬ (3 ≤ i ∧ i < 28) → (msc m' s')[i]? = (msc m s)[i]?) : (msc m s).setIfInBounds 1 v = msc m' s' := by
  apply Array.ext_getElem?
  intro i
  rw [Array.getElem?_setIfInBounds]
  by_cases e : 1 = i
  · subst e
    rw [if_pos rfl, if_pos (by rw [msc_size]; omega), hv]
  · rw [if_neg e]
    by_cases hi : 36 ≤ i
    · rw [Array.getElem?_eq_none (by rw [msc_size]; exact hi), Array.getElem?_eq_none (by rw [msc_size]; exact hi)]
    · by_cases hm : 3 ≤ i ∧ i < 28
      · have e1 := msc_rl m s (i - 3) (by omega)
        have e2 := msc_rl m' s' (i - 3) (by omega)
        rw [show 3 + (i - 3) = i by omega] at e1 e2
        rw [e1, e2, hr, hc]
      · rw [hk i (by omega) (fun h => e h.symm) hm]
theorem set_id (m : Ms) (s : Sls) (x : Int) : (msc m s).setIfInBounds 1 (.int .u32 x) = msc { m with id := x } s :=
  msc_set1 m _ s _ _ (by have := msc_at { m with id := x } s; simp only [this]) rfl rfl fun i hi hne hm => msc_keep hi hm (by simp; omega)
theorem Mss.zero (T : Nat → Prop) (w : World) (x y : Int) : Mss T w { zMs with ty := x, id := y } zSl := ⟨Lst.nil _ _ _ _, Lst.nil _ _ _ _, Lst.nil _ _ _ _, SlC.nil _ _, Lst.nil _ _ _ _⟩
theorem resMsg (tmps : Array Value) (w : World) (g : Nat) (cs : Array Value) (hp : tmps.getD 2 undef = ptr g) (hg : w.heap[g]? = some (.cells cs 37 (0, 0))) (hs : (Tryz.prog.info? 37).map (·.size) = some cs.size) : (results Tryz.f21 tmps).run Tryz.prog w = .ok (.agg cs) w := by
  have hp' : tmps[2]?.getD undef = ptr g := by simpa using hp
  simp [results, Tryz.results21, hp', asAddr, run_loadVar_row w g 37 37 _ (0, 0) _ hg Tryz.underlying37 rfl hs]
theorem dec_no {bs : List Int} (h : ¬ (bs.length ≤ 8192 ∧ fld bs 0 1 = 1 ∧ isTy (tyOf bs) = true ∧ fld bs 2 2 = bs.length)) : dec bs = none := by unfold dec; rw [if_neg h]
theorem dec_yes {bs : List Int} (h : bs.length ≤ 8192 ∧ fld bs 0 1 = 1 ∧ isTy (tyOf bs) = true ∧ fld bs 2 2 = bs.length) : dec bs = prs true bs := by unfold dec; rw [if_pos h]
/-- What the method leaves. -/
def CmP (c : Nat) (bs : List Int) (w : World) (e : Ending) (w' : World) : Prop :=
  Only (fun x => x = c ∨ w.heap.size ≤ x) w w' ∧ ((dec bs = none ∧ e = .panicked PC) ∨ ∃ m s, dec bs = some m ∧ e = .returned (.agg (msc m s)) ∧ Mss (fun x => w.heap.size ≤ x ∧ x < w'.heap.size) w' m s)
section
variable {T : Nat → Prop} {c : Nat} {bs : List Int} {w : World}
set_option maxHeartbeats 1600000 in
set_option maxRecDepth 100000 in
theorem cmessage_any (h : Rc T w c bs) (h8 : 8 ≤ bs.length) : Calls Tryz.prog 21 #[ptr c] w (CmP c bs w) := by
  have hb0 : Below w.heap.size w (w.alloc (.cells (msc zMs zSl) 37)) := (Below.refl _ _).alloc (Nat.le_refl _) _
  have hM0 : MB (w.alloc (.cells (msc zMs zSl) 37)) w.heap.size zMs zSl := heap_alloc_new _ _
  have hz0 : (w.alloc (.cells (msc zMs zSl) 37)).heap.size = w.heap.size + 1 := by simp
  obtain ⟨W, HW⟩ : ∃ W, Hid (w.alloc (.cells (msc zMs zSl) 37) = W) := ⟨_, rfl⟩
  rw [HW.out] at hb0 hM0 hz0
  have hcw := h.cur.lt
  have hpos : 2 ≤ w.heap.size := by have := h.tab.pos; omega
  have hR := h.new hb0
  have HTo := hid h.old
  have HB := hid hb0
  have HR := hid hR
  have HM0 := hid hM0
  have hB := h.cur.isB
  have hln := h.cur.len
  have HN1 := hid (cnumber_any c 1 bs W hR.cur hR.out (by omega) (by omega))
  have e1 : tk 1 bs = some (fld bs 0 1, bs.drop 1) := by have := tkd (bs := bs) (a := 0) (k := 1) (by omega); simpa using this
  rw [e1] at HN1
  obtain ⟨v0, hv0, ao, cap, rfl, -⟩ := hR.cur
  have c0 := cell_of_one hv0
  clear hb0 hM0 hR h e1 hv0
  by_cases hl : bs.length ≤ 8192
  case neg =>
    have HD := hid (dec_no (bs := bs) (fun h => hl h.1))
    have hd : decide (((bs.length : Nat) : Int) ≤ 8192) = false := decide_eq_false (by omega)
    go_enter Tryz.func21, Tryz.ntmps21
    go_upto_region 1 with fail
    rw [← zero_ms 0, show w.alloc (.cells (msc { zMs with ty := 0 } zSl) 37) = W from HW.out]
    go_wp2_with (go_at_call 30; refine (must_false _).mono ?_; rintro e w' ⟨rfl, hw⟩; rw [hw]; clear hw w')
    exact ⟨rfl, Only.of HB.out fun x hx => Or.inr hx, Or.inl ⟨HD.out, rfl⟩⟩
  case pos =>
    have hd : decide (((bs.length : Nat) : Int) ≤ 8192) = true := decide_eq_true (by omega)
    go_enter Tryz.func21, Tryz.ntmps21
    go_upto_region 1 with fail
    rw [← zero_ms 0, show w.alloc (.cells (msc { zMs with ty := 0 } zSl) 37) = W from HW.out]
    go_upto_region 3 with (go_at_call 30; refine (must_true _).mono ?_; rintro e w' ⟨rfl, hw⟩; rw [hw]; clear hw w')
    by_cases h1 : fld bs 0 1 = 1
    case neg =>
      have HD := hid (dec_no (bs := bs) (fun h => h1 h.2.1))
      have hq : (fld bs 0 1 == 1) = false := beq_eq_false_iff_ne.2 h1
      go_wp2_with (first
        | (go_at_call 40; refine (HN1.out).mono ?_; intro e w1 h9; obtain ⟨v, rfl, hq1, hq2, rfl⟩ := RdP.get h9; have HX := hid (And.intro hq1 hq2); clear hq1 hq2 h9)
        | (go_at_call 30; refine (must_false _).mono ?_; rintro e w' ⟨rfl, hw⟩; rw [hw]; clear hw w'))
      exact ⟨rfl, only_new HB.out HX.out.1, Or.inl ⟨HD.out, rfl⟩⟩
    case pos =>
      rw [h1] at HN1
      go_upto_region 4 with (first
        | (go_at_call 40; refine (HN1.out).mono ?_; intro e w1 h9; obtain ⟨v, rfl, hq1, hq2, rfl⟩ := RdP.get h9; have HX := hid (And.intro hq1 hq2); clear hq1 hq2 h9)
        | (go_at_call 30; refine (must_true _).mono ?_; rintro e w' ⟨rfl, hw⟩; rw [hw]; clear hw w'))
      have hR1 := HR.out.on HX.out.1 HX.out.2
      have HN2 := hid (csmall_any c (bs.drop 1) w1 hR1.cur hR1.out)
      have e2 : rdI8 (bs.drop 1) = some (tyOf bs, bs.drop 2) := by unfold rdI8; rw [tkd (by omega)]; rfl
      rw [e2] at HN2
      have HM1 : Hid (MB w1 w.heap.size zMs zSl) := (HX.out.1.block _ (by rintro (e | e) <;> omega)).trans HM0.out
      have HR1 := hid hR1
      have HO1 := hid (only_new HB.out HX.out.1)
      have hz1 := HX.out.1.size
      clear e2 hR1 c0 HX HN1 HM0 HB HR HW
      go_upto_region 5 with (first
        | (refine stNew 37 (.tmp 4) (.tmp 21) rfl rfl w2 37 (msc { zMs with ty := 0 } zSl) (msc { zMs with ty := tyOf bs } zSl) (by rw [← zero_ms 0]) rfl (by rw [← zero_ms (tyOf bs)]; rfl) (sizeMs _ _) (by rw [msc_size, msc_size]) (msc_one _ _ rfl rfl rfl rfl rfl) ?_)
        | (go_at_call 41; refine (HN2.out).mono ?_; intro e w2 h9; obtain ⟨v, rfl, hq1, hq2, rfl⟩ := RdP.get h9; have HX := hid (And.intro hq1 hq2); clear hq1 hq2 h9))
      have hz2 := HX.out.1.size
      have hR2 := HR1.out.on HX.out.1 HX.out.2
      have hbA : Below w2.heap.size w2 (w2.alloc (.cells (msc { zMs with ty := tyOf bs } zSl) 37)) := (Below.refl _ _).alloc (Nat.le_refl _) _
      have HRA : Hid (Rc T (w2.alloc (.cells (msc { zMs with ty := tyOf bs } zSl) 37)) c (bs.drop 2)) := hR2.new hbA
      have HOA : Hid (Only (fun x => x = c ∨ w.heap.size ≤ x) w (w2.alloc (.cells (msc { zMs with ty := tyOf bs } zSl) 37))) := (HO1.out.trans (HX.out.1.mono fun x hx => by rcases hx with e | e; exact Or.inl e; exact Or.inr (by omega))).trans (Only.of hbA fun x hx => Or.inr (by omega))
      have hzA : (w2.alloc (.cells (msc { zMs with ty := tyOf bs } zSl) 37)).heap.size = w2.heap.size + 1 := by simp
      have HMA : Hid (MB (w2.alloc (.cells (msc { zMs with ty := tyOf bs } zSl) 37)) w2.heap.size { zMs with ty := tyOf bs } zSl) := heap_alloc_new _ _
      have HMZ : Hid (MB (w2.alloc (.cells (msc { zMs with ty := tyOf bs } zSl) 37)) w.heap.size zMs zSl) := (heap_alloc_old _ _ (by omega)).trans ((HX.out.1.block _ (by rintro (e | e) <;> omega)).trans HM1.out)
      have hbw : w.heap.size < w2.heap.size := by omega
      clear hbA hR2 HX HM1 HR1 HO1 HN2
      generalize w2.alloc (.cells (msc { zMs with ty := tyOf bs } zSl) 37) = V at HRA HOA hzA HMA HMZ ⊢
      generalize w2.heap.size = b at hzA HMA hbw hz2 ⊢
      clear w2 hz2 hz1 w1 hz0 W
      have HN3 := hid (ccount_any c (bs.drop 2) V HRA.out.cur HRA.out.out)
      have e3 : tk 2 (bs.drop 2) = some (fld bs 2 2, bs.drop 4) := tkd (by omega)
      rw [e3] at HN3
      clear e3
      by_cases h2 : fld bs 2 2 = ((bs.length : Nat) : Int)
      case neg =>
        have HD := hid (dec_no (bs := bs) (fun h => h2 h.2.2.2))
        have hq : (fld bs 2 2 == ((bs.length : Nat) : Int)) = false := beq_eq_false_iff_ne.2 h2
        go_wp2_with (first
          | (go_at_call 39; refine (HN3.out).mono ?_; intro e w3 h9; obtain ⟨v, rfl, hq1, hq2, rfl⟩ := RdP.get h9; have HX := hid (And.intro hq1 hq2); clear hq1 hq2 h9)
          | (go_at_call 30; refine (must_false _).mono ?_; rintro e w' ⟨rfl, hw⟩; rw [hw]; clear hw w'))
        exact ⟨rfl, HOA.out.trans (HX.out.1.mono fun x hx => by rcases hx with e | e; exact Or.inl e; exact Or.inr (by omega)), Or.inl ⟨HD.out, rfl⟩⟩
      case pos =>
        rw [h2] at HN3
        go_upto_region 6 with (first
          | (go_at_call 39; refine (HN3.out).mono ?_; intro e w3 h9; obtain ⟨v, rfl, hq1, hq2, rfl⟩ := RdP.get h9; have HX := hid (And.intro hq1 hq2); clear hq1 hq2 h9)
          | (go_at_call 30; refine (must_true _).mono ?_; rintro e w' ⟨rfl, hw⟩; rw [hw]; clear hw w'))
        have hR3 := HRA.out.on HX.out.1 HX.out.2
        have HO3 : Hid (Only (fun x => x = c ∨ w.heap.size ≤ x) w w3) := HOA.out.trans (HX.out.1.mono fun x hx => by rcases hx with e | e; exact Or.inl e; exact Or.inr (by omega))
        have HMB : Hid (MB w3 b { zMs with ty := tyOf bs } zSl) := (HX.out.1.block _ (by rintro (e | e) <;> omega)).trans HMA.out
        have HMY : Hid (MB w3 w.heap.size zMs zSl) := (HX.out.1.block _ (by rintro (e | e) <;> omega)).trans HMZ.out
        have hz3 : b + 1 ≤ w3.heap.size := by have := HX.out.1.size; omega
        have HR3 := hid hR3
        clear hR3 HX HN3 HMA HMZ HRA HOA hzA V
        have HN4 := hid (cnumber_any c 4 (bs.drop 4) w3 HR3.out.cur HR3.out.out (by omega) (by omega))
        have e4 : tk 4 (bs.drop 4) = some (fld bs 4 4, bs.drop 8) := tkd (by omega)
        rw [e4] at HN4
        clear e4
        have hbd : 0 ≤ fld bs 4 4 ∧ fld bs 4 4 < 4294967296 := by have := fld_bd hB 4 4; exact ⟨this.1, by have := this.2; simpa using this⟩
        have n0 := hbd.1
        have n1 := hbd.2
        clear hbd
        go_upto_region 7 with (go_at_call 40; refine (HN4.out).mono ?_; intro e w4 h9; obtain ⟨v, rfl, hq1, hq2, rfl⟩ := RdP.get h9; have HX := hid (And.intro hq1 hq2)
                               have hbk : MB w4 b { zMs with ty := tyOf bs } zSl := (hq1.block _ (by rintro (e | e) <;> omega)).trans HMB.out
                               have HBl := hid hbk
                               obtain ⟨-, k1, -⟩ := mb_cells hbk
                               have fk := mb_free hbk 1
                               clear hq1 hq2 h9 hbk)
        obtain ⟨hR4, hO4, hn4, hk4⟩ := rd_set (g := b) (o := 1) (v := .int .u32 (fld bs 4 4)) HR3.out HO3.out (by omega) (by omega) HTo.out hcw hpos HX.out.1 HX.out.2
        have HM4 : Hid (MB (w4.setCell ⟨b, 1, none⟩ (.int .u32 (fld bs 4 4))) b (m0 bs) zSl) := mb_set HBl.out (set_id _ _ _)
        have HY4 : Hid (MB (w4.setCell ⟨b, 1, none⟩ (.int .u32 (fld bs 4 4))) w.heap.size zMs zSl) := (hk4 w.heap.size (by omega) (by omega) (by omega)).trans HMY.out
        have hz4 : b + 1 ≤ (w4.setCell ⟨b, 1, none⟩ (.int .u32 (fld bs 4 4))).heap.size := by
          have := HX.out.1.size
          have := setCell_size w4 ⟨b, 1, none⟩ (.int .u32 (fld bs 4 4))
          omega
        have HR4 := hid hR4
        have HO4 := hid hO4
        clear hR4 hO4 hk4 k1 fk HX HBl HN4 HR3 HO3 HMB HMY hz3 n0 n1
        generalize w4.setCell ⟨b, 1, none⟩ (.int .u32 (fld bs 4 4)) = V at HR4 HO4 hn4 HM4 HY4 hz4 ⊢
        clear w4 w3
        obtain ⟨k0, -⟩ := mb_cells HM4.out
        cases hT : isTy (tyOf bs) with
        | false =>
          have HD := hid (dec_no (bs := bs) (fun h => by rw [hT] at h; exact absurd h.2.2.1 (by simp)))
          have HP := hid (fun W => partsOf_no (tyOf bs) W hT)
          go_wp2_with (go_at_call 29; refine (HP.out _).mono ?_; rintro e w' ⟨rfl, hw⟩; rw [hw]; clear hw w')
          exact ⟨rfl, HO4.out, Or.inl ⟨HD.out, rfl⟩⟩
        | true =>
          have HD : Hid (dec bs = (rdPs true (pts (tyOf bs)) (m0 bs) (bs.drop 8)).bind fun x => if x.2 = [] then some x.1 else none) := dec_yes ⟨hl, h1, hT, h2⟩
          have HP := hid (fun W => partsOf_yes (tyOf bs) W hT)
          clear k0 hT hl h1 h2 hd
          obtain ⟨k0, -⟩ := mb_cells HM4.out
          generalize pts (tyOf bs) = ks at HD HP
          go_wp2_with (go_at_call 29; refine (HP.out _).mono ?_; rintro e w5 ⟨v, rfl, hb, hp⟩; have HQ := hid (And.intro hb hp); clear hb hp; obtain ⟨va, vc, hv, -⟩ := HQ.out.2.form; subst hv)
          have hz5 := HQ.out.1.size
          have HR5 := hid (HR4.out.new HQ.out.1)
          have HO5 : Hid (Only (fun x => x = c ∨ w.heap.size ≤ x) w w5) := HO4.out.trans (Only.of HQ.out.1 fun x hx => Or.inr (by omega))
          have HM5 : Hid (MB w5 b (m0 bs) zSl) := (HQ.out.1.block _ (by omega)).trans HM4.out
          have HY5 : Hid (MB w5 w.heap.size zMs zSl) := (HQ.out.1.block _ (by omega)).trans HY4.out
          have HP5 : Hid (Pts (fun x => b < x ∧ x < w5.heap.size) w5 (.slice va ks.length vc) ks) := Pts.carry (fun b hb h => ⟨⟨by omega, hb⟩, rfl⟩) HQ.out.2
          have hlen := HQ.out.2.len
          have hTb : ¬ T b := fun h => by have := HTo.out b h; omega
          clear HQ HP HR4 HO4 HM4 HY4 k0
          go_loopw [35] (fun i wr => ∃ (j : Nat) (mj : Ms) (sj : Sls) (rj : List Int), j ≤ ks.length ∧ i = .int .i64 j ∧ rdPs true ks (m0 bs) (bs.drop 8) = rdPs true (ks.drop j) mj rj ∧ Only (fun x => x = c ∨ x = b ∨ w5.heap.size ≤ x) w5 wr ∧ Rc T wr c rj ∧ MB wr b mj sj ∧ Mss (fun x => w5.heap.size ≤ x ∧ x < wr.heap.size) wr mj sj) (fun i _ => ks.length - (intOf i).toNat)
          case atStart => exact ⟨0, m0 bs, zSl, bs.drop 8, by omega, rfl, by simp, Only.refl _ _, HR5.out, HM5.out, Mss.zero _ _ _ _⟩
          case round =>
            obtain ⟨j, mj, sj, rj, hj, rfl, hsp, ho, hRr, hMr, hMs⟩ := hrel
            have HSp := hid hsp
            have HO := hid ho
            have HRr := hid hRr
            have HMr := hid hMr
            have HMs := hid hMs
            clear hsp ho hRr hMr hMs
            have hzr := HO.out.size
            by_cases hlt : j < ks.length
            · have HPr : Hid (Pts (fun x => b < x ∧ x < w5.heap.size) wr (.slice va ks.length vc) ks) := Pts.carry (fun x hx h => ⟨h, HO.out.block x (by rintro (e | e | e) <;> omega)⟩) HP5.out
              obtain ⟨ao', cap', he, -, -, -, h5⟩ := HPr.out
              obtain ⟨pb, po, hTp, hao, hcl⟩ := h5 (fun e => by rw [e] at hlt; simp at hlt)
              simp only [Value.slice.injEq] at he
              obtain ⟨rfl, -, -⟩ := he
              subst hao
              have hR := hcl j hlt
              have HSt : Hid (ks.drop j = ks[j] :: ks.drop (j + 1)) := List.drop_eq_getElem_cons hlt
              generalize ks[j] = k at hR HSt
              obtain ⟨g1, g2, g3, f0, f1, f2, hPv⟩ := hR
              simp only [Nat.add_zero] at f0
              obtain ⟨W5, HW5⟩ : ∃ W, Hid (wr.alloc (.cells #[.func (.func (fn1 k)) #[] #[ptr g1], .func (.func (fn2 k)) #[] #[ptr g2, ptr g1], .func (.func (fn3 k)) #[] #[ptr g3, ptr g1]] 78) = W) := ⟨_, rfl⟩
              have hb5 : Below wr.heap.size wr W5 := by rw [← HW5.out]; exact (Below.refl _ _).alloc (Nat.le_refl _) _
              have hg5 : W5.heap[wr.heap.size]? = some (.cells #[.func (.func (fn1 k)) #[] #[ptr g1], .func (.func (fn2 k)) #[] #[ptr g2, ptr g1], .func (.func (fn3 k)) #[] #[ptr g3, ptr g1]] 78 (0, 0)) := by rw [← HW5.out]; exact heap_alloc_new _ _
              have hcell : W5.cell? ⟨wr.heap.size, 2, none⟩ = some (.func (.func (fn3 k)) #[] #[ptr g3, ptr g1]) := (three_cells hg5).2.2
              have hzW := hb5.size
              have HC := hid (rd_any (T' := fun x => b < x ∧ x < w5.heap.size) (n := w5.heap.size) k g1 g2 g3 (HRr.out.new hb5) (show MB W5 b mj sj from (hb5.block b (by omega)).trans HMr.out) (HMs.out.carry fun x hx h => ⟨⟨h.1, by omega⟩, hb5.block x hx⟩) (by omega) (by omega) (by omega) (by omega) hTb (by omega) (hPv.carry fun x hx h => ⟨h, hb5.block x hx⟩) (fun x hx => ⟨by omega, by omega⟩))
              have HO5' : Hid (Only (fun x => x = c ∨ x = b ∨ w5.heap.size ≤ x) w5 W5) := HO.out.trans (Only.of hb5 fun x hx => Or.inr (Or.inr (by omega)))
              have HOut : Hid (∀ w', Only (fun x => x = c ∨ x = b ∨ W5.heap.size ≤ x) W5 w' → Only (fun x => x = c ∨ x = b ∨ w5.heap.size ≤ x) w5 w') := fun w' h => HO5'.out.trans (h.mono fun x hx => by rcases hx with e | e | e; exact Or.inl e; exact Or.inr (Or.inl e); exact Or.inr (Or.inr (by omega)))
              have HOw : Hid (∀ w', Only (fun x => x = c ∨ x = b ∨ w5.heap.size ≤ x) w5 w' → Only (fun x => x = c ∨ w.heap.size ≤ x) w w') := fun w' h => HO5.out.trans (h.mono fun x hx => by rcases hx with e | e | e; exact Or.inl e; exact Or.inr (by omega); exact Or.inr (by omega))
              have HX : Hid (rdPs true ks (m0 bs) (bs.drop 8) = (rdF true mj rj k).bind fun x => rdPs true (ks.drop (j + 1)) x.1 x.2) := by show _ = _; rw [HSp.out, HSt.out]; rfl
              clear hb5 hg5 hPv h5 hcl HSt hTp HO5' HPr HSp HO HRr HMr HMs
              cases hok : rdF true mj rj k with
              | none =>
                rw [hok] at HC HX
                clear hok
                go_upto_region 10 with fail
                rw [HW5.out]
                go_wp2_with (refine callCl (fn3 k) (.tmp 40) _ _ [ptr c, ptr b] [ptr g3, ptr g1] rfl rfl rfl rfl (ent3 k) _ HC.out ?_; intro e w6 h9; obtain ⟨hq, ⟨-, rfl⟩ | ⟨_, _, _, hq2, _⟩⟩ := h9; rotate_left; exact absurd hq2 (by simp); refine Or.inr ⟨_, rfl, ?_⟩; have H6 := hid hq; clear hq)
                refine ⟨rfl, HOw.out _ (HOut.out _ H6.out), Or.inl ⟨?_, rfl⟩⟩
                rw [HD.out, HX.out]; rfl
              | some q =>
                obtain ⟨m1, r1⟩ := q
                rw [hok] at HC HX
                clear hok
                go_upto_region 10 with fail
                rw [HW5.out]
                go_wp2_with (refine callCl (fn3 k) (.tmp 40) _ _ [ptr c, ptr b] [ptr g3, ptr g1] rfl rfl rfl rfl (ent3 k) _ HC.out ?_; intro e w6 h9; obtain ⟨hq, ⟨hq2, _⟩ | ⟨m2, s2, r2, hq2, rfl, hq3, hq4, hq5⟩⟩ := h9; exact absurd hq2 (by simp); cases hq2; refine Or.inl ⟨_, rfl, ?_⟩; have H6 := hid (And.intro (HOut.out _ hq) (And.intro hq3 (And.intro hq4 hq5))); clear hq hq3 hq4 hq5)
                go_roundw
                case rel => exact ⟨j + 1, m1, s2, r1, by omega, by go_num, HX.out, H6.out⟩
                case measure => simp [intOf]; omega
            · obtain rfl : j = ks.length := by omega
              have HD2 : Hid (dec bs = if rj = [] then some mj else none) := by
                show _ = _
                rw [HD.out, HSp.out, List.drop_length]; rfl
              have HOw : Hid (Only (fun x => x = c ∨ w.heap.size ≤ x) w wr) := HO5.out.trans (HO.out.mono fun x hx => by rcases hx with e | e | e; exact Or.inl e; exact Or.inr (by omega); exact Or.inr (by omega))
              have HYr : Hid (MB wr w.heap.size zMs zSl) := (HO.out.block _ (by rintro (e | e | e) <;> omega)).trans HY5.out
              obtain ⟨v0, hv0, ao, cap, rfl, -⟩ := HRr.out.cur
              have d0 := cell_of_one hv0
              have HOne := hid HMs.out.one
              clear hv0 HSp HP5 HO5 HD
              cases rj with
              | cons x l =>
                have hq : ((((x :: l).length : Nat) : Int) == 0) = false := by rw [beq_eq_false_iff_ne]; simp; omega
                generalize (x :: l).length = q at d0 hq
                go_wp2_with (go_at_call 30; refine (must_false _).mono ?_; rintro e w' ⟨rfl, hw⟩; rw [hw]; clear hw w')
                exact ⟨rfl, HOw.out, Or.inl ⟨HD2.out, rfl⟩⟩
              | nil =>
                simp only [List.length_nil] at d0
                go_wp2_with (first
                  | (go_at_call 30; refine (must_true _).mono ?_; rintro e w' ⟨rfl, hw⟩; rw [hw]; clear hw w')
                  | (refine ldRow 37 (.tmp 4) rfl rfl b rfl 37 (msc mj sj) _ Tryz.underlying37 rfl (sizeMs _ _) HMr.out ?_)
                  | (refine stRow 37 (.tmp 2) (.tmp 51) rfl rfl w.heap.size (msc mj sj) rfl rfl 37 (msc zMs zSl) HYr.out (sizeMs _ _) (by rw [msc_size, msc_size]) HOne.out ?_))
                have hRF := setRow_heap wr w.heap.size (msc zMs zSl) (msc mj sj) 37 _ HYr.out
                have hsz : (wr.setRow w.heap.size (msc mj sj)).heap.size = wr.heap.size := by simp [World.setRow]
                refine bodyPost_ret (v := .agg (msc mj sj)) (resMsg _ _ w.heap.size _ rfl hRF (sizeMs _ _)) rfl ⟨?_, Or.inr ⟨mj, sj, HD2.out, rfl, ?_⟩⟩
                · exact HOw.out.trans ⟨rfl, rfl, rfl, by rw [hsz]; exact Nat.le_refl _, fun k hk => setRow_other wr w.heap.size k _ (fun e => hk (Or.inr (by omega)))⟩
                · exact HMs.out.carry fun x hx h => ⟨⟨by omega, by rw [hsz]; exact hx⟩, setRow_other wr w.heap.size x _ (by omega)⟩
end
end Go.Proofs.YtllbbbfkdgjffaaGreatDoor
