/-
  Proved here: the reader's method atom, over what it calls. Conditions: the reader stands at one of its words; what it calls further on is told.
-/
import Derived.Test.YtoncogkamlgjhaaGreatDoorFBA
namespace Go.Proofs.YtoncogkamlgjhaaGreatDoor
set_option maxRecDepth 100000
open Go.RowKit
set_option maxRecDepth 100000

section
variable {l : List Wd} {pol pred : Nat → Rd Tm} {i : Nat}
theorem atomF_1 (h1 : tk l i Qfilter = true) : atomF l pol pred i = (pred (i + 1)).map fun t => ov 6 [t] := by unfold atomF; rw [if_pos h1]
theorem atomF_2 (h1 : tk l i Qfilter = false) (h2 : tk l i Qid = true) : atomF l pol pred i = .ok (ov 6 [ov 1 []]) (i + 1) := by unfold atomF; rw [h1, if_neg (by decide), if_pos h2]
theorem atomF_3 (h1 : tk l i Qfilter = false) (h2 : tk l i Qid = false) (h3 : tk l i Qdrop = true) : atomF l pol pred i = .ok (ov 6 [ov 0 []]) (i + 1) := by unfold atomF; rw [h1, if_neg (by decide), h2, if_neg (by decide), if_pos h3]
theorem atomF_4 (h1 : tk l i Qfilter = false) (h2 : tk l i Qid = false) (h3 : tk l i Qdrop = false) (h4 : tk l i Qif = true) : atomF l pol pred i = chF l pol pred (i + 1) := by unfold atomF; rw [h1, if_neg (by decide), h2, if_neg (by decide), h3, if_neg (by decide), if_pos h4]; rfl
theorem atomF_5 (h1 : tk l i Qfilter = false) (h2 : tk l i Qid = false) (h3 : tk l i Qdrop = false) (h4 : tk l i Qif = false) (h5 : tk l i Slp = true) : atomF l pol pred i = (pol (i + 1)).exp l Srp := by unfold atomF; rw [h1, if_neg (by decide), h2, if_neg (by decide), h3, if_neg (by decide), h4, if_neg (by decide), if_pos h5]
theorem atomF_6 (h1 : tk l i Qfilter = false) (h2 : tk l i Qid = false) (h3 : tk l i Qdrop = false) (h4 : tk l i Qif = false) (h5 : tk l i Slp = false) : atomF l pol pred i = pair l 7 Sset i := by unfold atomF; rw [h1, if_neg (by decide), h2, if_neg (by decide), h3, if_neg (by decide), h4, if_neg (by decide), h5, if_neg (by decide)]
end
set_option maxHeartbeats 12800000 in
theorem atom_any {l : List Wd} {r m : Nat} {ws : Value} {i : Nat} {W : World} (h : RdM l r m ws i W) (hi : i < l.length) (hb : l.length ≤ 100000) (hcl : Cl l) (hts : ∀ k, (wat l k).t.size ≤ 65536) (pol pred : Nat → Rd Tm) (hap : Adv l pred) (hao : Adv l pol)
    (hO : Say l r m ws 29 pol i) (hP : Say l r m ws 33 pred i) : Calls Tryz.prog 82 #[ptr r] W (RdP l r m ws (atomF l pol pred i) W) := by
  obtain ⟨iR, hiR, hiz, his, -⟩ := info_parts infoTM
  have HI0 := hid (InS.new h)
  obtain ⟨W1, hW1⟩ : ∃ W1, W1 = W.alloc (.cells (tmc 0 0 0 nilS) 26) := ⟨_, rfl⟩
  rw [← hW1] at HI0
  have HE : Hid (W.alloc (.cells #[.int .i8 0, .int .i8 0, .int .u64 0, .slice none 0 0] 26) = W1) := hW1.symm
  have HO := hid hO
  have HP := hid hP
  have HCl := hid hcl
  have HTs := hid hts
  have HAp := hid hap
  have HAo := hid hao
  clear h hO hP hcl hts hW1 hap hao
  have hb' : l.length ≤ 2147483648 := by omega
  go_enter Tryz.func82, Tryz.ntmps82
  go_upto_region 1 with fail
  rw [show W.alloc (.cells #[.int .i8 0, .int .i8 0, .int .u64 0, .slice none 0 0] 26) = W1 from HE.out]
  clear HE
  cases h1 : tk l i Qfilter with
  | true =>
    have HT := hid (takes_yes HI0.out.rd hi hb' h1)
    have HJ := hid (atomF_1 (pol := pol) (pred := pred) h1)
    have hil := tk_lt HCl.out hi (by decide) h1
    clear h1
    go_upto_region 2 with (go_at_call 30; refine (HT.out).mono ?_; rintro e wa ⟨rfl, a1, a2⟩; have HIa := hid (HI0.out.thn a1 a2); clear a1 a2 HT)
    have HC := hid (HP.out (i + 1) wa HIa.out.rd (by omega) hil)
    cases hp : pred (i + 1) with
    | bad j =>
      rw [hp] at HC HJ
      clear hp
      go_wp2_with (go_at_call 33; refine (HC.out).mono ?_; intro e w3 h9; obtain ⟨rfl, a1, a2⟩ := h9.isBad; have HX := hid (HIa.out.bad a1 a2); clear a1 a2 h9)
      refine ⟨rfl, (show RdP l r m ws (atomF l pol pred i) W _ _ from ?_)⟩
      rw [HJ.out]; exact HX.out
    | ok t j =>
      rw [hp] at HC HJ
      clear hp
      go_wp2_with (first
        | (go_at_call 33; refine (HC.out).mono ?_; intro e w3 h9; obtain ⟨cs, rfl, a1, a2, a3⟩ := h9.isOk; have HI3 := hid (HIa.out.thn a1 a2); have HT3 := hid (HIa.out.tm a3); clear a1 a2 a3 h9)
        | (refine bldSl 24 26 (.tmp 8) rfl rfl cs rfl Tryz.underlying24 iR _ 4 hiR hiz his HT3.out.size (by omega) (by omega) ?_)
        | (go_at_call 83; refine (over_any 6 (some ⟨w3.heap.size, 0, none⟩) 1 1 _).mono ?_; rintro e w4 ⟨rfl, hw⟩; have HX := hid (HI3.out.ov HT3.out 6 hw); clear hw)
        | (refine stRow 26 (.tmp 2) (.tmp 10) rfl rfl W.heap.size _ rfl rfl 26 _ HX.out.1.res HX.out.2.info (by rw [HX.out.2.size]; rfl) HX.out.2.one ?_))
      have hF := HX.out.1.fin HX.out.2
      refine bodyPost_ret (res_tm Tryz.results82 _ _ W.heap.size _ HX.out.2.info rfl hF.1) rfl (show RdP l r m ws (atomF l pol pred i) W _ _ from ?_)
      rw [HJ.out]; exact hF.2
  | false =>
    have HT0 := hid (takes_no HI0.out.rd hi hb' h1)
    go_upto_region 3 with (go_at_call 30; refine (HT0.out).mono ?_; rintro e wb0 ⟨rfl, a1, a2⟩; have HIb0 := hid (HI0.out.thn a1 a2); clear a1 a2 HT0)
    cases h2 : tk l i Qid with
    | true =>
      have HT := hid (takes_yes HIb0.out.rd hi hb' h2)
      have HJ := hid (atomF_2 (pol := pol) (pred := pred) h1 h2)
      have hil := tk_lt HCl.out hi (by decide) h2
      clear h1 h2
      go_upto_region 4 with (go_at_call 30; refine (HT.out).mono ?_; rintro e wa ⟨rfl, a1, a2⟩; have HIa := hid (HIb0.out.thn a1 a2); clear a1 a2 HT)
      have hbt := fun W => run_bt0 1 W
      have HTl : Hid (TmV (fun b => W.heap.size < b) wa (ov 1 []) (tmc 1 0 0 nilS)) := TmV.leaf _ _ _ _ _
      go_wp2_with (first
        | (refine bldSl 24 26 (.tmp 14) rfl rfl (tmc 1 0 0 nilS) rfl Tryz.underlying24 iR _ 4 hiR hiz his HTl.out.size (by omega) (by omega) ?_)
        | (go_at_call 83; refine (over_any 6 (some ⟨wa.heap.size, 0, none⟩) 1 1 _).mono ?_; rintro e w4 ⟨rfl, hw⟩; have HX := hid (HIa.out.ov HTl.out 6 hw); clear hw)
        | (refine stRow 26 (.tmp 2) (.tmp 16) rfl rfl W.heap.size _ rfl rfl 26 _ HX.out.1.res HX.out.2.info (by rw [HX.out.2.size]; rfl) HX.out.2.one ?_))
      have hF := HX.out.1.fin HX.out.2
      refine bodyPost_ret (res_tm Tryz.results82 _ _ W.heap.size _ HX.out.2.info rfl hF.1) rfl (show RdP l r m ws (atomF l pol pred i) W _ _ from ?_)
      rw [HJ.out]; exact hF.2
    | false =>
      have HT1 := hid (takes_no HIb0.out.rd hi hb' h2)
      go_upto_region 5 with (go_at_call 30; refine (HT1.out).mono ?_; rintro e wb1 ⟨rfl, a1, a2⟩; have HIb1 := hid (HIb0.out.thn a1 a2); clear a1 a2 HT1)
      cases h3 : tk l i Qdrop with
      | true =>
        have HT := hid (takes_yes HIb1.out.rd hi hb' h3)
        have HJ := hid (atomF_3 (pol := pol) (pred := pred) h1 h2 h3)
        have hil := tk_lt HCl.out hi (by decide) h3
        clear h1 h2 h3
        go_upto_region 6 with (go_at_call 30; refine (HT.out).mono ?_; rintro e wa ⟨rfl, a1, a2⟩; have HIa := hid (HIb1.out.thn a1 a2); clear a1 a2 HT)
        have hbt := fun W => run_bt0 0 W
        have HTl : Hid (TmV (fun b => W.heap.size < b) wa (ov 0 []) (tmc 0 0 0 nilS)) := TmV.leaf _ _ _ _ _
        go_wp2_with (first
          | (refine bldSl 24 26 (.tmp 20) rfl rfl (tmc 0 0 0 nilS) rfl Tryz.underlying24 iR _ 4 hiR hiz his HTl.out.size (by omega) (by omega) ?_)
          | (go_at_call 83; refine (over_any 6 (some ⟨wa.heap.size, 0, none⟩) 1 1 _).mono ?_; rintro e w4 ⟨rfl, hw⟩; have HX := hid (HIa.out.ov HTl.out 6 hw); clear hw)
          | (refine stRow 26 (.tmp 2) (.tmp 22) rfl rfl W.heap.size _ rfl rfl 26 _ HX.out.1.res HX.out.2.info (by rw [HX.out.2.size]; rfl) HX.out.2.one ?_))
        have hF := HX.out.1.fin HX.out.2
        refine bodyPost_ret (res_tm Tryz.results82 _ _ W.heap.size _ HX.out.2.info rfl hF.1) rfl (show RdP l r m ws (atomF l pol pred i) W _ _ from ?_)
        rw [HJ.out]; exact hF.2
      | false =>
        have HT2 := hid (takes_no HIb1.out.rd hi hb' h3)
        go_upto_region 7 with (go_at_call 30; refine (HT2.out).mono ?_; rintro e wb2 ⟨rfl, a1, a2⟩; have HIb2 := hid (HIb1.out.thn a1 a2); clear a1 a2 HT2)
        cases h4 : tk l i Qif with
        | true =>
          have HT := hid (takes_yes HIb2.out.rd hi hb' h4)
          have HJ := hid (atomF_4 (pol := pol) (pred := pred) h1 h2 h3 h4)
          have hil := tk_lt HCl.out hi (by decide) h4
          clear h1 h2 h3 h4
          go_upto_region 8 with (go_at_call 30; refine (HT.out).mono ?_; rintro e wa ⟨rfl, a1, a2⟩; have HIa := hid (HIb2.out.thn a1 a2); clear a1 a2 HT)
          have HC := hid (choice_any HIa.out.rd hil hb HCl.out pol pred HAp.out HAo.out (fun j w a b c => HO.out j w a (by omega) c) (fun j w a b c => HP.out j w a (by omega) c))
          cases hp : chF l pol pred (i + 1) with
          | bad j =>
            rw [hp] at HC HJ
            clear hp
            go_wp2_with (go_at_call 91; refine (HC.out).mono ?_; intro e w3 h9; obtain ⟨rfl, a1, a2⟩ := h9.isBad; have HX := hid (HIa.out.bad a1 a2); clear a1 a2 h9)
            refine ⟨rfl, (show RdP l r m ws (atomF l pol pred i) W _ _ from ?_)⟩
            rw [HJ.out]; exact HX.out
          | ok t j =>
            rw [hp] at HC HJ
            clear hp
            go_wp2_with (first
              | (go_at_call 91; refine (HC.out).mono ?_; intro e w3 h9; obtain ⟨cs, rfl, a1, a2, a3⟩ := h9.isOk; have HI3 := hid (HIa.out.thn a1 a2); have HT3 := hid (HIa.out.tm a3); clear a1 a2 a3 h9)
              | (refine stRow 26 (.tmp 2) (.tmp 27) rfl rfl W.heap.size cs rfl rfl 26 _ HI3.out.res HT3.out.info (by rw [HT3.out.size]; rfl) HT3.out.one ?_))
            have hF := HI3.out.fin HT3.out
            refine bodyPost_ret (res_tm Tryz.results82 _ _ W.heap.size _ HT3.out.info rfl hF.1) rfl (show RdP l r m ws (atomF l pol pred i) W _ _ from ?_)
            rw [HJ.out]; exact hF.2
        | false =>
          have HT3 := hid (takes_no HIb2.out.rd hi hb' h4)
          go_upto_region 9 with (go_at_call 30; refine (HT3.out).mono ?_; rintro e wb3 ⟨rfl, a1, a2⟩; have HIb3 := hid (HIb2.out.thn a1 a2); clear a1 a2 HT3)
          cases h5 : tk l i Slp with
          | true =>
            have HT := hid (takes_yes HIb3.out.rd hi hb' h5)
            have HJ := hid (atomF_5 (pol := pol) (pred := pred) h1 h2 h3 h4 h5)
            have hil := tk_lt HCl.out hi (by decide) h5
            clear h1 h2 h3 h4 h5
            go_upto_region 10 with (go_at_call 30; refine (HT.out).mono ?_; rintro e wa ⟨rfl, a1, a2⟩; have HIa := hid (HIb3.out.thn a1 a2); clear a1 a2 HT)
            have HC := hid (HO.out (i + 1) wa HIa.out.rd (by omega) hil)
            cases hp : pol (i + 1) with
            | bad j =>
              rw [hp] at HC HJ
              clear hp
              go_wp2_with (go_at_call 29; refine (HC.out).mono ?_; intro e w6 h9; obtain ⟨rfl, a1, a2⟩ := h9.isBad; have HX := hid (HIa.out.bad a1 a2); clear a1 a2 h9)
              refine ⟨rfl, (show RdP l r m ws (atomF l pol pred i) W _ _ from ?_)⟩
              rw [HJ.out]; exact HX.out
            | ok t j =>
              have hj := (HAo.out _ hil).1 t j hp
              rw [hp] at HC HJ
              clear hp
              go_upto_region 11 with (first
                | (go_at_call 29; refine (HC.out).mono ?_; intro e w6 h9; obtain ⟨cs, rfl, a1, a2, a3⟩ := h9.isOk; have HI6 := hid (HIa.out.thn a1 a2); have HT6 := hid (HIa.out.tm a3); clear a1 a2 a3 h9)
                | (refine stNew 26 (.tmp 3) (.tmp 32) rfl rfl w6 26 (tmc 0 0 0 nilS) cs rfl rfl rfl HT6.out.info (by rw [HT6.out.size]; rfl) HT6.out.one ?_))
              have HS7 := hid (StS.new HI6.out HT6.out)
              clear HI6 HT6 HC
              generalize w6.alloc (.cells cs 26) = w7 at HS7 ⊢
              generalize w6.heap.size = G at HS7 ⊢
              cases h5 : tk l j Srp with
              | true =>
                have HX5 := hid (exp_yes HS7.out.i.rd hj.2 hb' h5)
                have HJ2 : Hid (atomF l pol pred i = .ok t (j + 1)) := by rw [HJ.out]; exact Rd.exp_t h5
                clear h5 HJ
                go_wp2_with (first
                  | (go_at_call 32; refine (HX5.out).mono ?_; rintro e w8 ⟨rfl, a1, a2⟩; have HS8 := hid (HS7.out.thn a1 a2); clear a1 a2)
                  | (refine ldRow 26 (.tmp 3) rfl rfl G rfl 26 cs _ Tryz.underlying26 rfl HS8.out.tm.info HS8.out.v ?_)
                  | (refine stRow 26 (.tmp 2) (.tmp 35) rfl rfl W.heap.size cs rfl rfl 26 _ HS8.out.i.res HS8.out.tm.info (by rw [HS8.out.tm.size]; rfl) HS8.out.tm.one ?_))
                have hF := HS8.out.i.fin (tm_on HS8.out.tm fun b _ hS => ⟨hS.1, rfl⟩)
                refine bodyPost_ret (res_tm Tryz.results82 _ _ W.heap.size _ HS8.out.tm.info rfl hF.1) rfl (show RdP l r m ws (atomF l pol pred i) W _ _ from ?_)
                rw [HJ2.out]; exact hF.2
              | false =>
                have HX5 := hid (exp_no HS7.out.i.rd hj.2 hb' h5)
                have HJ2 : Hid (atomF l pol pred i = .bad j) := by rw [HJ.out]; exact Rd.exp_f h5
                clear h5 HJ
                go_wp2_with (go_at_call 32; refine (HX5.out).mono ?_; rintro e w8 ⟨rfl, a1, a2⟩; have HX := hid (HS7.out.i.bad a1 a2); clear a1 a2)
                refine ⟨rfl, (show RdP l r m ws (atomF l pol pred i) W _ _ from ?_)⟩
                rw [HJ2.out]; exact HX.out
          | false =>
            have HT4 := hid (takes_no HIb3.out.rd hi hb' h5)
            go_upto_region 13 with (go_at_call 30; refine (HT4.out).mono ?_; rintro e wb4 ⟨rfl, a1, a2⟩; have HIb4 := hid (HIb3.out.thn a1 a2); clear a1 a2 HT4)
            have HJ := hid (atomF_6 (pol := pol) (pred := pred) h1 h2 h3 h4 h5)
            clear h1 h2 h3 h4 h5
            have HC := hid (pair_any HIb4.out.rd hi hb HCl.out HTs.out 7 Sset (by decide))
            cases hp : pair l 7 Sset i with
            | bad j =>
              rw [hp] at HC HJ
              clear hp
              go_wp2_with (go_at_call 84; refine (HC.out).mono ?_; intro e w6 h9; obtain ⟨rfl, a1, a2⟩ := h9.isBad; have HX := hid (HIb4.out.bad a1 a2); clear a1 a2 h9)
              refine ⟨rfl, (show RdP l r m ws (atomF l pol pred i) W _ _ from ?_)⟩
              rw [HJ.out]; exact HX.out
            | ok t j =>
              rw [hp] at HC HJ
              clear hp
              go_wp2_with (first
                | (go_at_call 84; refine (HC.out).mono ?_; intro e w6 h9; obtain ⟨cs, rfl, a1, a2, a3⟩ := h9.isOk; have HI6 := hid (HIb4.out.thn a1 a2); have HT6 := hid (HIb4.out.tm a3); clear a1 a2 a3 h9)
                | (refine stRow 26 (.tmp 2) (.tmp 37) rfl rfl W.heap.size cs rfl rfl 26 _ HI6.out.res HT6.out.info (by rw [HT6.out.size]; rfl) HT6.out.one ?_))
              have hF := HI6.out.fin HT6.out
              refine bodyPost_ret (res_tm Tryz.results82 _ _ W.heap.size _ HT6.out.info rfl hF.1) rfl (show RdP l r m ws (atomF l pol pred i) W _ _ from ?_)
              rw [HJ.out]; exact hF.2
end Go.Proofs.YtoncogkamlgjhaaGreatDoor
