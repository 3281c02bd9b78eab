/-
  Proved here: the cursor's method match reads a match, or panics with ErrMessage. Conditions: the bytes lie in blocks of T, the cursor's is none of them.
-/
import Derived.Test.YtllbbbfkdgjffaaGreatDoorR5
namespace Go.Proofs.YtllbbbfkdgjffaaGreatDoor
open Go.RowKit

def VM : Nat → World → Value → (Nat → Int) → Prop := fun _ _ v x => v = mv x
theorem and_one {y : Int} (h0 : 0 ≤ y) (h1 : y < 18446744073709551616) : bits .and .u64 y 1 = y % 2 := by
  obtain ⟨a, rfl⟩ := Int.eq_ofNat_of_zero_le h0
  have e : bits .and .u64 (a : Int) 1 = ((BitVec.ofInt 64 (a : Int) &&& BitVec.ofInt 64 1).toNat : Int) := wrap_toNat _
  rw [e, BitVec.toNat_and, BitVec.ofInt_natCast, BitVec.toNat_ofNat, Nat.mod_eq_of_lt (by omega)]
  have e1 : (BitVec.ofInt 64 1).toNat = 1 := by decide
  rw [e1, Nat.and_one_is_mod]
  omega
theorem zero_mt : row 22 zf = #[.int .u64 0, .int .u64 0, .int .u64 0, .int .u64 0, .int .u64 0, .int .u64 0, .int .u64 0, .int .u64 0, .int .u64 0, .int .u64 0, .int .u64 0, .int .u64 0, .int .u64 0, .int .u64 0, .int .u64 0, .int .u64 0, .int .u64 0, .int .u64 0, .int .u64 0, .int .u64 0, .int .u64 0, .int .u64 0] := by kernel_rfl
theorem resMat (tmps : Array Value) (w : World) (g : Nat) (m : Nat → Int) (hp : tmps.getD 2 undef = ptr g) (hg : Blk w g 22 28 m) : (results Tryz.f105 tmps).run Tryz.prog w = .ok (mv m) w := by
  have hp' : tmps[2]?.getD undef = ptr g := by simpa using hp
  simp [results, Tryz.results105, hp', asAddr, run_loadVar_row w g 28 28 _ (0, 0) _ hg Tryz.underlying28 rfl (size26 m)]
theorem rdFs_bit {b : Int} {j : Nat} {m : Nat → Int} {r : List Int} (hj : j < 11) (h : b / 2 ^ j % 2 = 1) : rdFs b (11 - j) m r = (tk (sz j) r).bind fun x => (tk (sz j) x.2).bind fun y => if y.1 = 0 then none else rdFs b (11 - (j + 1)) (upd (upd m j x.1) (11 + j) y.1) y.2 := by
  obtain ⟨q, hq⟩ : ∃ q, 11 - j = q + 1 := ⟨10 - j, by omega⟩
  rw [hq]
  have e : 10 - q = j := by omega
  conv => lhs; unfold rdFs
  rw [e, if_pos h, show 11 - (j + 1) = q by omega]
theorem rdFs_skip {b : Int} {j : Nat} {m : Nat → Int} {r : List Int} (hj : j < 11) (h : ¬ b / 2 ^ j % 2 = 1) : rdFs b (11 - j) m r = rdFs b (11 - (j + 1)) m r := by
  obtain ⟨q, hq⟩ : ∃ q, 11 - j = q + 1 := ⟨10 - j, by omega⟩
  rw [hq]
  have e : 10 - q = j := by omega
  conv => lhs; unfold rdFs
  rw [e, if_neg h, show 11 - (j + 1) = q by omega]

section
variable {T : Nat → Prop} {c : Nat} {bs : List Int} {w : World}
set_option maxHeartbeats 3200000 in
set_option maxRecDepth 100000 in
theorem cmatch_any (h : Rc T w c bs) : Calls Tryz.prog 105 #[ptr c] w (RdP T c (rdMt true bs) VM w) := by
  obtain ⟨W, HW, hb, hz, h0, h1⟩ := two_new w (.cells (row 22 zf) 28) (.cells (row 22 zf) 28)
  have hR := h.new hb
  have hcw := h.cur.lt
  have hpos : 2 ≤ w.heap.size := by have := h.tab.pos; omega
  have HTo := hid h.old
  have HB := hid hb
  have HR := hid hR
  have H0 : Hid (Blk W w.heap.size 22 28 zf) := h0
  have H1 : Hid (Blk W (w.heap.size + 1) 22 28 zf) := h1
  have HO0 := hid (Only.of (S := fun x => x = c ∨ w.heap.size ≤ x) hb fun x hx => Or.inr hx)
  have HN := hid (cnumber_any c 2 bs W hR.cur hR.out (by omega) (by omega))
  have hB := h.cur.isB
  obtain ⟨sp, HSp⟩ : ∃ o, Hid (rdMt true bs = o) := ⟨_, rfl⟩
  rw [HSp.out]
  unfold rdMt at HSp
  clear hb h0 h1 hR
  go_enter Tryz.func105, Tryz.ntmps105
  go_upto_region 2 with fail
  rw [← zero_mt, show (w.alloc (.cells (row 22 zf) 28)).alloc (.cells (row 22 zf) 28) = W from HW.out.symm]
  cases ht : tk 2 bs with
  | none =>
    rw [ht] at HN HSp
    clear h hB ht
    go_wp2_with (go_at_call 40; refine (HN.out).mono ?_; intro e w1 h9; obtain ⟨rfl, hq⟩ := RdP.bad h9; have H9 := hid hq; clear hq h9)
    exact ⟨rfl, RdP.no (only_new HB.out H9.out) HSp.out.symm⟩
  | some p =>
    obtain ⟨b, r0⟩ := p
    rw [ht] at HN HSp
    simp only [Option.bind_some] at HSp
    obtain ⟨-, b0, b1, hBr⟩ := tk_inv hB ht
    rw [pw2] at b1
    clear h hB ht
    by_cases hb11 : b / 2048 = 0
    · rw [if_pos hb11] at HSp
      have d : (b / 2048 == 0) = true := by simpa using hb11
      have hb2 : b < 2048 := by omega
      clear hb11
      go_wp2_with (first
        | (go_at_call 40; refine (HN.out).mono ?_; intro e w1 h9; obtain ⟨v, rfl, h1, h2, rfl⟩ := RdP.get h9; have HX := hid (And.intro h1 h2); clear h1 h2 h9)
        | (go_at_call 30; refine (must_true _).mono ?_; rintro e w' ⟨rfl, hw⟩; rw [hw]; clear hw w'))
      go_loopw [12] (fun i wr => ∃ (j : Nat) (m : Nat → Int) (r : List Int), j ≤ 11 ∧ i = .int .i64 j ∧ Only (fun x => x = c ∨ w.heap.size ≤ x) w wr ∧ Rc T wr c r ∧ w.heap.size + 2 ≤ wr.heap.size ∧ Blk wr w.heap.size 22 28 zf ∧ Blk wr (w.heap.size + 1) 22 28 m ∧ rdFs b 11 zf r0 = rdFs b (11 - j) m r) (fun i _ => 11 - (intOf i).toNat)
      case atStart =>
        have hs := HX.out.1.size
        exact ⟨0, zf, r0, by omega, rfl, only_new HB.out HX.out.1, HR.out.on HX.out.1 HX.out.2, by omega, (HX.out.1.block _ (by rintro (e | e) <;> omega)).trans H0.out, (HX.out.1.block _ (by rintro (e | e) <;> omega)).trans H1.out, rfl⟩
      case round =>
        obtain ⟨j, m, r, hj, rfl, ho, hrc, hn, hb0', hb1', hrel⟩ := hrel
        have HO := hid ho
        have HC := hid hrc
        have HF := hid hb0'
        have HM := hid hb1'
        have HRel := hid hrel
        clear ho hrc hb0' hb1' hrel HX HN HR H0 H1 HO0
        by_cases hlt : j < 11
        · obtain ⟨y, hy⟩ : ∃ y, b / 2 ^ j = y := ⟨_, rfl⟩
          have hp : (0 : Int) < 2 ^ j := Int.pow_pos (by omega)
          have y0 : 0 ≤ y := by rw [← hy]; exact Int.ediv_nonneg b0 (by omega)
          have y1 : y < 18446744073709551616 := by
            have : b / 2 ^ j ≤ b := Int.ediv_le_self _ b0
            omega
          have ha := and_one y0 y1
          by_cases hbit : y % 2 = 1
          · have ha1 : bits .and .u64 y 1 = 1 := by rw [ha, hbit]
            have HRl : Hid (rdFs b (11 - j) m r = _) := rdFs_bit hlt (by rw [hy]; exact hbit)
            have ct := HC.out.tab.1 j hlt
            have hs0 := sz_pos j hlt
            have hs6 := sz_le j
            have HN := hid (cnumber_any c (sz j) r wr HC.out.cur HC.out.out hs0 (by omega))
            have hBr1 := HC.out.cur.isB
            clear ha hbit y0 y1 hp
            go_upto_region 8 with fail
            cases ht : tk (sz j) r with
            | none =>
              rw [ht] at HN HRl
              go_wp2_with (go_at_call 40; refine (HN.out).mono ?_; intro e w1 h9; obtain ⟨rfl, hq⟩ := RdP.bad h9; have H9 := hid hq; clear hq h9)
              refine ⟨rfl, RdP.no (HO.out.trans (H9.out.mono fun x hx => by rcases hx with e | e; exact Or.inl e; exact Or.inr (by omega))) ?_⟩
              rw [← HSp.out, HRel.out, HRl.out]; rfl
            | some p1 =>
              obtain ⟨x1, r1⟩ := p1
              rw [ht] at HN HRl
              simp only [Option.bind_some] at HRl
              have hBr2 := (tk_inv hBr1 ht).2.2.2
              clear ht
              go_upto_region 9 with (go_at_call 40; refine (HN.out).mono ?_; intro e w1 h9; obtain ⟨v, rfl, h1, h2, rfl⟩ := RdP.get h9; have HX := hid (And.intro h1 h2)
                                     have hbk : Blk w1 (w.heap.size + 1) 22 28 m := (h1.block _ (by rintro (e | e) <;> omega)).trans HM.out
                                     have HBk := hid hbk
                                     have ck := hbk.cell j (by omega)
                                     have fk := hbk.frozen j
                                     clear h1 h2 h9 hbk)
              obtain ⟨hR2, hO2, hn2, hk2⟩ := rd_set (g := w.heap.size + 1) (o := j) (v := .int .u64 x1) HC.out HO.out (by omega) (by omega) HTo.out hcw hpos HX.out.1 HX.out.2
              have HM2 : Hid (Blk (w1.setCell ⟨w.heap.size + 1, j, none⟩ (.int .u64 x1)) (w.heap.size + 1) 22 28 (upd m j x1)) := HBk.out.set j x1
              have HF2 : Hid (Blk (w1.setCell ⟨w.heap.size + 1, j, none⟩ (.int .u64 x1)) w.heap.size 22 28 zf) := (hk2 w.heap.size (by omega) (by omega) (by omega)).trans HF.out
              have hz2 : w.heap.size + 2 ≤ (w1.setCell ⟨w.heap.size + 1, j, none⟩ (.int .u64 x1)).heap.size := by
                have := HX.out.1.size
                have : w1.heap.size ≤ (w1.setCell ⟨w.heap.size + 1, j, none⟩ (.int .u64 x1)).heap.size := ((Below.refl 0 w1).setCell (p := ⟨w.heap.size + 1, j, none⟩) (Nat.zero_le _) _).size
                omega
              have HR2 := hid hR2
              have HO2 := hid hO2
              clear hR2 hO2 hk2 ck fk HX HBk HN HC HO HF HM
              generalize w1.setCell ⟨w.heap.size + 1, j, none⟩ (.int .u64 x1) = V2 at HR2 HO2 hn2 HM2 HF2 hz2 ⊢
              clear w1
              have ct2 := HR2.out.tab.1 j hlt
              have HN := hid (cnumber_any c (sz j) r1 V2 HR2.out.cur HR2.out.out hs0 (by omega))
              cases ht : tk (sz j) r1 with
              | none =>
                rw [ht] at HN HRl
                go_wp2_with (go_at_call 40; refine (HN.out).mono ?_; intro e w1 h9; obtain ⟨rfl, hq⟩ := RdP.bad h9; have H9 := hid hq; clear hq h9)
                refine ⟨rfl, RdP.no (HO2.out.trans (H9.out.mono fun x hx => by rcases hx with e | e; exact Or.inl e; exact Or.inr (by omega))) ?_⟩
                rw [← HSp.out, HRel.out, HRl.out]; rfl
              | some p2 =>
                obtain ⟨x2, r2⟩ := p2
                rw [ht] at HN HRl
                simp only [Option.bind_some] at HRl
                clear ht
                go_upto_region 10 with (go_at_call 40; refine (HN.out).mono ?_; intro e w1 h9; obtain ⟨v, rfl, h1, h2, rfl⟩ := RdP.get h9; have HX := hid (And.intro h1 h2)
                                        have hbk : Blk w1 (w.heap.size + 1) 22 28 (upd m j x1) := (h1.block _ (by rintro (e | e) <;> omega)).trans HM2.out
                                        have HBk := hid hbk
                                        have ck := hbk.cell (11 + j) (by omega)
                                        have fk := hbk.frozen (11 + j)
                                        clear h1 h2 h9 hbk)
                obtain ⟨hR3, hO3, hn3, hk3⟩ := rd_set (g := w.heap.size + 1) (o := 11 + j) (v := .int .u64 x2) HR2.out HO2.out (by omega) (by omega) HTo.out hcw hpos HX.out.1 HX.out.2
                have HM3 : Hid (Blk (w1.setCell ⟨w.heap.size + 1, 11 + j, none⟩ (.int .u64 x2)) (w.heap.size + 1) 22 28 (upd (upd m j x1) (11 + j) x2)) := HBk.out.set (11 + j) x2
                have HF3 : Hid (Blk (w1.setCell ⟨w.heap.size + 1, 11 + j, none⟩ (.int .u64 x2)) w.heap.size 22 28 zf) := (hk3 w.heap.size (by omega) (by omega) (by omega)).trans HF2.out
                have hz3 : w.heap.size + 2 ≤ (w1.setCell ⟨w.heap.size + 1, 11 + j, none⟩ (.int .u64 x2)).heap.size := by
                  have := HX.out.1.size
                  have : w1.heap.size ≤ (w1.setCell ⟨w.heap.size + 1, 11 + j, none⟩ (.int .u64 x2)).heap.size := ((Below.refl 0 w1).setCell (p := ⟨w.heap.size + 1, 11 + j, none⟩) (Nat.zero_le _) _).size
                  omega
                have HR3 := hid hR3
                have HO3 := hid hO3
                clear hR3 hO3 hk3 ck fk HX HBk HN HR2 HO2 HF2 HM2
                generalize w1.setCell ⟨w.heap.size + 1, 11 + j, none⟩ (.int .u64 x2) = V3 at HR3 HO3 hn3 HM3 HF3 hz3 ⊢
                clear w1
                have ck3 := HM3.out.cell (11 + j) (by omega)
                rw [upd_same] at ck3
                by_cases hx2 : x2 = 0
                · have t : (x2 != 0) = false := by simp [hx2]
                  rw [if_pos hx2] at HRl
                  clear hx2
                  go_wp2_with (go_at_call 30; refine (must_false _).mono ?_; rintro e w' ⟨rfl, hw⟩; rw [hw]; clear hw w')
                  refine ⟨rfl, RdP.no HO3.out ?_⟩
                  rw [← HSp.out, HRel.out, HRl.out]; rfl
                · have t : (x2 != 0) = true := by simp [hx2]
                  rw [if_neg hx2] at HRl
                  clear hx2
                  go_wp2_with (go_at_call 30; refine (must_true _).mono ?_; rintro e w' ⟨rfl, hw⟩; rw [hw]; clear hw w')
                  go_roundw
                  case rel => exact ⟨j + 1, _, r2, by omega, by go_num, HO3.out, HR3.out, hz3, HF3.out, HM3.out, by rw [HRel.out, HRl.out]⟩
                  case measure => simp [intOf]; omega
          · have ha0 : bits .and .u64 y 1 = 0 := by rw [ha]; omega
            have HRl := hid (rdFs_skip (m := m) (r := r) hlt (show ¬ b / 2 ^ j % 2 = 1 by rw [hy]; exact hbit))
            clear ha hbit y0 y1 hp
            go_wp2
            go_roundw
            case rel => exact ⟨j + 1, m, r, by omega, by go_num, HO.out, HC.out, hn, HF.out, HM.out, by rw [HRel.out, HRl.out]⟩
            case measure => simp [intOf]; omega
        · obtain rfl : j = 11 := by omega
          have hsp : kp true (mOk m) (m, r) = sp := by
            have := HSp.out
            rw [HRel.out] at this
            exact this
          have HSp2 := hid hsp
          have HI := hid (isMatch_any m wr HC.out.tab)
          have hM := HM.out
          clear hsp HSp HRel
          cases ho : mOk m with
          | false =>
            rw [ho] at HI HSp2
            clear ho
            go_wp2_with (first
              | (refine ld26 (.tmp 3) rfl _ rfl rfl m hM ?_)
              | (go_at_call 122; refine (HI.out).mono ?_; rintro e w5 ⟨rfl, hb⟩; have H5 := hid hb; clear hb)
              | (go_at_call 30; refine (must_false _).mono ?_; rintro e w' ⟨rfl, hw⟩; rw [hw]; clear hw w'))
            exact ⟨rfl, RdP.no (HO.out.trans (Only.of H5.out fun x hx => Or.inr (by omega))) (HSp2.out.symm.trans kp_no)⟩
          | true =>
            rw [ho] at HI HSp2
            clear ho
            go_upto_region 13 with (first
              | (refine ld26 (.tmp 3) rfl _ rfl rfl m hM ?_)
              | (go_at_call 122; refine (HI.out).mono ?_; rintro e w5 ⟨rfl, hb⟩; have H5 := hid hb; clear hb)
              | (go_at_call 30; refine (must_true _).mono ?_; rintro e w' ⟨rfl, hw⟩; rw [hw]; clear hw w'))
            have hM5 : Blk w5 (w.heap.size + 1) 22 28 m := (H5.out.block _ (by omega)).trans HM.out
            have HF5 : Hid (Blk w5 w.heap.size 22 28 zf) := (H5.out.block _ (by omega)).trans HF.out
            have hsz5 := H5.out.size
            clear hM
            go_wp2_with (first
              | (refine ld26 (.tmp 3) rfl _ rfl rfl m hM5 ?_)
              | (refine stRow 28 (.tmp 2) (.tmp 46) rfl rfl w.heap.size (row 22 m) rfl rfl 28 (row 22 zf) HF5.out (size26 m) (by rw [row_size, row_size]) (row_one 22 m) ?_))
            have hRF := setRow_heap w5 w.heap.size (row 22 zf) (row 22 m) 28 _ HF5.out
            refine bodyPost_ret (v := mv m) (resMat _ _ w.heap.size m rfl hRF) rfl (RdP.yes ?_ (HSp2.out.symm.trans kp_true) ?_ rfl)
            · refine (HO.out.trans (Only.of H5.out fun x hx => Or.inr (by omega))).trans ⟨rfl, rfl, rfl, by simp [World.setRow], fun k hk => setRow_other w5 w.heap.size k _ (fun e => hk (Or.inr (by omega)))⟩
            · have hR5 := HC.out.new H5.out
              exact hR5.cur.carry (setRow_other w5 w.heap.size c _ (by omega)) fun k _ hT => ⟨hT, setRow_other w5 w.heap.size k _ (by have := HTo.out k hT; omega)⟩
    · rw [if_neg hb11] at HSp
      have d : (b / 2048 == 0) = false := by simpa using hb11
      clear hb11
      go_wp2_with (first
        | (go_at_call 40; refine (HN.out).mono ?_; intro e w1 h9; obtain ⟨v, rfl, h1, h2, rfl⟩ := RdP.get h9; have HX := hid (And.intro h1 h2); clear h1 h2 h9)
        | (go_at_call 30; refine (must_false _).mono ?_; rintro e w' ⟨rfl, hw⟩; rw [hw]; clear hw w'))
      exact ⟨rfl, RdP.no (only_new HB.out HX.out.1) HSp.out.symm⟩
end
end Go.Proofs.YtllbbbfkdgjffaaGreatDoor
