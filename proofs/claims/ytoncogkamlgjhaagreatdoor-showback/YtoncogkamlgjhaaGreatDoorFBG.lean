/-
  Proved here: the reader's method file: what is read is what 'fil' tells. Conditions: the reader stands at the first of its words; no word has more than 65536 bytes.
-/
import Derived.Test.YtoncogkamlgjhaaGreatDoorFBF
namespace Go.Proofs.YtoncogkamlgjhaaGreatDoor
set_option maxRecDepth 100000
open Go.RowKit
set_option maxRecDepth 100000

section
variable {l : List Wd} {pred : Nat → Rd Tm}
theorem qrs_no {f k : Nat} {acc : List Qy} (h : tk l k Qcount = false) : qrs l pred (f + 1) k acc = .ok acc k := by rw [qrs, if_neg (by rw [h]; decide)]
theorem qrs_bad {f k q : Nat} {acc : List Qy} (h : tk l k Qcount = true) (hq : qry l pred (k + 1) = .bad q) : qrs l pred (f + 1) k acc = .bad q := by rw [qrs, if_pos h, hq]
theorem qrs_on {f k q : Nat} {x : Qy} {acc : List Qy} (h : tk l k Qcount = true) (hq : qry l pred (k + 1) = .ok x q) : qrs l pred (f + 1) k acc = qrs l pred f q (acc ++ [x]) := by rw [qrs, if_pos h, hq]
theorem qry_1 {k : Nat} (h : ¬ ((wat l k).k = 1 ∧ isKw (wat l k).t = false)) : qry l pred k = .bad k := by unfold qry; rw [if_neg h]
theorem qry_2 {k : Nat} (h : (wat l k).k = 1 ∧ isKw (wat l k).t = false) (ht : tk l (k + 1) Seq = false) : qry l pred k = .bad (k + 1) := by unfold qry; rw [if_pos h, if_neg (by rw [ht]; decide)]
theorem qry_3 {k : Nat} (h : (wat l k).k = 1 ∧ isKw (wat l k).t = false) (ht : tk l (k + 1) Seq = true) : qry l pred k = (pred (k + 2)).map fun t => ⟨(wat l k).t, t⟩ := by unfold qry; rw [if_pos h, if_pos ht]
end
set_option maxHeartbeats 25600000 in
theorem file_any {l : List Wd} {r m : Nat} {ws : Value} {W : World} (h : RdM l r m ws 0 W) (hb : l.length ≤ 100000) (hcl : Cl l) (hts : ∀ k, (wat l k).t.size ≤ 65536) : Calls Tryz.prog 15 #[ptr r] W (FlP l r m ws (fil l) W) := by
  have HPO := hid (fun w hw => (ps_any (r := r) (m := m) (ws := ws) hb hcl hts l.length).1 0 w hw (by omega) hcl.pos)
  have HPD := hid (fun j w hw hj => (ps_any (r := r) (m := m) (ws := ws) hb hcl hts l.length).2.1 j w hw (by omega) hj)
  have HAo := hid ((ps_adv hcl l.length).1 0 hcl.pos)
  have HAp := hid (ps_adv hcl l.length).2.1
  have HFD : Hid (fil l = ((ps l l.length).pol 0).bind fun m i => (qrs l (ps l l.length).pred l.length i []).bind fun qs j => if (wat l j).k = 0 then .ok ⟨m, qs⟩ j else .bad j) := rfl
  generalize (ps l l.length).pol 0 = R0 at HPO HAo HFD
  generalize (ps l l.length).pred = pred at HPD HAp HFD
  have HI0 := hid (InP.new h)
  obtain ⟨W1, hW1⟩ : ∃ W1, W1 = W.alloc (.cells pz 29) := ⟨_, rfl⟩
  rw [← hW1] at HI0
  have HE : Hid (W.alloc (.cells #[.int .i8 0, .int .i8 0, .int .u64 0, .slice none 0 0, .slice none 0 0] 29) = W1) := hW1.symm
  have HC := hid (HPO.out W1 HI0.out.rd)
  have HCl := hid hcl
  have HTs := hid hts
  clear h hcl hts hW1 HPO
  have hb' : l.length ≤ 2147483648 := by omega
  go_enter Tryz.func15, Tryz.ntmps15
  go_upto_region 1 with fail
  rw [show W.alloc (.cells #[.int .i8 0, .int .i8 0, .int .u64 0, .slice none 0 0, .slice none 0 0] 29) = W1 from HE.out]
  clear HE
  cases R0 with
  | bad j =>
    have HJ : Hid (fil l = .bad j) := by show _ = _; rw [HFD.out]; rfl
    go_wp2_with (go_at_call 29; refine (HC.out).mono ?_; intro e w3 h9; obtain ⟨rfl, a1, a2⟩ := h9.isBad; have HX := hid (And.intro (HI0.out.only.thn a1) a2); clear a1 a2 h9)
    refine ⟨rfl, (show FlP l r m ws (fil l) W _ _ from ?_)⟩
    rw [HJ.out]; exact ⟨HX.out.1, rfl, HX.out.2⟩
  | ok t i =>
    have hi := HAo.out.1 t i rfl
    have HJ : Hid (fil l = (qrs l pred l.length i []).bind fun qs j => if (wat l j).k = 0 then .ok ⟨t, qs⟩ j else .bad j) := HFD.out
    clear HFD HAo
    go_upto_region 2 with (first
      | (go_at_call 29; refine (HC.out).mono ?_; intro e w2 h9; obtain ⟨cs, rfl, a1, a2, a3⟩ := h9.isOk
         obtain ⟨x0, x1, x2, x3, rfl⟩ := arr4 a3.size
         have HI2 := hid (HI0.out.thn a1 a2); have HT2 := hid (HI0.out.tm a3); have hbp := fun W => run_bp0 x0 x1 x2 x3 W; have HO2 := hid a3.one; clear a1 a2 a3 h9)
      | (refine stNew 29 (.tmp 3) (.tmp 7) rfl rfl w2 29 pz #[x0, x1, x2, x3, nilS] rfl rfl rfl rfl rfl (by have h1 := HO2.out; simp at h1 ⊢; exact ⟨h1.1, h1.2.1, h1.2.2.1, h1.2.2.2, rfl⟩) ?_))
    have HS0 := hid (FiS.new HI2.out HT2.out)
    clear HI2 HT2 HC HI0 hbp HO2
    generalize w2.alloc (.cells #[x0, x1, x2, x3, nilS] 29) = w3 at HS0 ⊢
    generalize w2.heap.size = V at HS0 ⊢
    simp only [Act.put]
    go_loopw [8] (fun _ wr => ∃ (qs : List Qy) (ao : Option Addr) (cap k fu : Nat), k < l.length ∧ l.length - k ≤ fu ∧ qs.length ≤ k ∧ Hid (FiS W l r m ws V t x0 x1 x2 x3 qs (.slice ao qs.length cap) k wr) ∧ Hid (qrs l pred fu k qs = qrs l pred l.length i [])) (fun _ wr => l.length - rAt r wr)
    case atStart => exact ⟨[], none, 0, i, l.length, hi.2, by omega, by simp, HS0, rfl⟩
    case round =>
      clear HS0
      obtain ⟨qs, ao, cap, k, fu, hk1, hk2, hk3, HS, HL⟩ := hrel
      obtain ⟨fu, rfl⟩ : ∃ f', fu = f' + 1 := ⟨fu - 1, by omega⟩
      have HRA := hid HS.out.i.rd.rAt
      cases ht : tk l k Qcount with
      | true =>
        have HTy := hid (takes_yes HS.out.i.rd hk1 hb' ht)
        have hkk := tk_lt HCl.out hk1 (by decide) ht
        have HTk := hid ht
        clear ht
        go_upto_region 3 with (go_at_call 30; refine (HTy.out).mono ?_; rintro e w3 ⟨rfl, a1, a2⟩; have HS3 := hid (HS.out.thn a1 a2); clear a1 a2)
        clear HS HTy
        by_cases hq : (wat l (k + 1)).k = 1 ∧ isKw (wat l (k + 1)).t = false
        · have HQn := hid (qname_yes HS3.out.i.rd hkk hb HTs.out hq.1 hq.2)
          have hk4 := k_lt HCl.out hkk (by rw [hq.1]; decide)
          have HQq := hid hq
          clear hq
          go_upto_region 4 with (go_at_call 31; refine (HQn.out).mono ?_; rintro e w4 ⟨rfl, a1, a2⟩; have HS4 := hid (HS3.out.thn a1 a2); clear a1 a2)
          clear HS3 HQn
          cases ht : tk l (k + 1 + 1) Seq with
          | false =>
            have HX5 := hid (exp_no HS4.out.i.rd hk4 hb' ht)
            have HJF : Hid (fil l = .bad (k + 1 + 1)) := by show _ = _; rw [HJ.out, ← HL.out, qrs_bad HTk.out (qry_2 HQq.out ht)]; rfl
            clear ht
            go_wp2_with (go_at_call 32; refine (HX5.out).mono ?_; rintro e w8 ⟨rfl, a1, a2⟩; have HX := hid (And.intro (HS4.out.i.only.thn a1) a2); clear a1 a2)
            refine ⟨rfl, (show FlP l r m ws (fil l) W _ _ from ?_)⟩
            rw [HJF.out]; exact ⟨HX.out.1, rfl, HX.out.2⟩
          | true =>
            have HX5 := hid (exp_yes HS4.out.i.rd hk4 hb' ht)
            have hk5 := tk_lt HCl.out hk4 (by decide) ht
            have HQy := hid (qry_3 (pred := pred) HQq.out ht)
            clear ht
            go_upto_region 5 with (go_at_call 32; refine (HX5.out).mono ?_; rintro e w5 ⟨rfl, a1, a2⟩; have HS5 := hid (HS4.out.thn a1 a2); clear a1 a2)
            clear HS4 HX5
            have HSD : Hid (FiS W l r m ws V t x0 x1 x2 x3 qs (.slice ao qs.length cap) (k + 1 + 1 + 1) w5.drew) := HS5.out.bel (bel_drew (Below.refl _ _))
            have HC := hid (HPD.out _ w5.drew HSD.out.i.rd hk5)
            clear HS5
            have HS5 := HSD
            have HS5D := HSD
            clear HSD
            cases hp : pred (k + 1 + 1 + 1) with
            | bad q =>
              have HJF : Hid (fil l = .bad q) := by show _ = _; rw [HJ.out, ← HL.out, qrs_bad HTk.out (by rw [HQy.out, show k + 1 + 2 = k + 1 + 1 + 1 by omega, hp]; rfl)]; rfl
              rw [hp] at HC
              clear hp
              refine wp_region_held_drew (S := (fun _ => True)) (by kernel_rfl) trivial (fun hHeld => ?_)
              refine wpAnyH_take (i := 0) (v := ?_) rfl (by kernel_rfl) (by kernel_rfl) (by kernel_rfl) (fun _ _ _ h => h) (Or.inl ⟨by rfl, ?_⟩) hHeld ?_
              rotate_left
              · intro w' hSw
                clear hSw
                go_simp
                first | done | with_reducible rfl
              simp only [Act.put, List.getElem_toArray, List.getElem_cons_zero, List.setIfInBounds_toArray, List.set_cons_zero, List.set_cons_succ]
              refine wpAnyH_take (i := 2) (v := ?_) rfl (by kernel_rfl) (by kernel_rfl) (by kernel_rfl) (fun _ _ _ h => h) (Or.inl ⟨by rfl, ?_⟩) hHeld ?_
              rotate_left
              · intro w' hSw
                clear hSw
                go_simp
                first | done | with_reducible rfl
              simp only [Act.put, List.getElem_toArray, List.getElem_cons_succ, List.getElem_cons_zero, List.setIfInBounds_toArray, List.set_cons_zero, List.set_cons_succ]
              refine wpAnyH_take (i := 3) (v := ?_) rfl (by kernel_rfl) (by kernel_rfl) (by kernel_rfl) (fun _ _ _ h => h) (Or.inl ⟨by rfl, ?_⟩) hHeld ?_
              rotate_left
              · intro w' hSw
                clear hSw
                go_simp
                first | done | with_reducible rfl
              simp only [Act.put, List.getElem_toArray, List.getElem_cons_succ, List.getElem_cons_zero, List.setIfInBounds_toArray, List.set_cons_zero, List.set_cons_succ]
              refine an2 1 4 _ _ (by kernel_rfl) rfl rfl ?_ ?_
              · skip
                refine Sp.ldq (.tmp 14) rfl rfl V 4 ao qs.length cap rfl HS5D.out.c4 ?_
                refine ⟨trivial, ?_⟩
                simp only [Act.put, List.getElem_toArray, List.getElem_cons_succ, List.getElem_cons_zero, List.setIfInBounds_toArray, List.set_cons_zero, List.set_cons_succ]
                refine an1 4 _ (by kernel_rfl) rfl ?_
                refine Sp.of rfl (stepFnW 33 (.func 33) [.tmp 17] _ [ptr r] rfl rfl rfl rfl (fun _ => rfl) _ HC.out ?_)
                intro e w6 h9
                obtain ⟨rfl, a1, a2⟩ := h9.isBad
                refine Or.inr ⟨_, rfl, ?_⟩
                refine ⟨rfl, (show FlP l r m ws (fil l) W _ _ from ?_)⟩
                rw [HJF.out]
                exact ⟨HS5.out.i.only.thn a1, rfl, a2⟩
              · skip
                refine Sp.of rfl (stepFnW 33 (.func 33) [.tmp 17] _ [ptr r] rfl rfl rfl rfl (fun _ => rfl) _ HC.out ?_)
                intro e w6 h9
                obtain ⟨rfl, a1, a2⟩ := h9.isBad
                refine Or.inr ⟨_, rfl, ?_⟩
                refine ⟨rfl, (show FlP l r m ws (fil l) W _ _ from ?_)⟩
                rw [HJF.out]
                exact ⟨HS5.out.i.only.thn a1, rfl, a2⟩
            | ok u q =>
              have hq := (HAp.out _ hk5).1 u q hp
              have HQ2 : Hid (qrs l pred l.length i [] = qrs l pred fu q (qs ++ [⟨(wat l (k + 1)).t, u⟩])) := by show _ = _; rw [← HL.out, qrs_on HTk.out (by rw [HQy.out, show k + 1 + 2 = k + 1 + 1 + 1 by omega, hp]; rfl)]
              rw [hp] at HC
              clear hp HL HQy HQq HTk
              refine wp_region_held_drew (S := (fun _ => True)) (by kernel_rfl) trivial (fun hHeld => ?_)
              refine wpAnyH_take (i := 0) (v := ?_) rfl (by kernel_rfl) (by kernel_rfl) (by kernel_rfl) (fun _ _ _ h => h) (Or.inl ⟨by rfl, ?_⟩) hHeld ?_
              rotate_left
              · intro w' hSw
                clear hSw
                go_simp
                first | done | with_reducible rfl
              simp only [Act.put, List.getElem_toArray, List.getElem_cons_zero, List.setIfInBounds_toArray, List.set_cons_zero, List.set_cons_succ]
              refine wpAnyH_take (i := 2) (v := ?_) rfl (by kernel_rfl) (by kernel_rfl) (by kernel_rfl) (fun _ _ _ h => h) (Or.inl ⟨by rfl, ?_⟩) hHeld ?_
              rotate_left
              · intro w' hSw
                clear hSw
                go_simp
                first | done | with_reducible rfl
              simp only [Act.put, List.getElem_toArray, List.getElem_cons_succ, List.getElem_cons_zero, List.setIfInBounds_toArray, List.set_cons_zero, List.set_cons_succ]
              refine wpAnyH_take (i := 3) (v := ?_) rfl (by kernel_rfl) (by kernel_rfl) (by kernel_rfl) (fun _ _ _ h => h) (Or.inl ⟨by rfl, ?_⟩) hHeld ?_
              rotate_left
              · intro w' hSw
                clear hSw
                go_simp
                first | done | with_reducible rfl
              simp only [Act.put, List.getElem_toArray, List.getElem_cons_succ, List.getElem_cons_zero, List.setIfInBounds_toArray, List.set_cons_zero, List.set_cons_succ]
              refine an2 1 4 _ _ (by kernel_rfl) rfl rfl ?_ ?_
              · skip
                refine Sp.ldq (.tmp 14) rfl rfl V 4 ao qs.length cap rfl HS5D.out.c4 ?_
                refine ⟨trivial, ?_⟩
                simp only [Act.put, List.getElem_toArray, List.getElem_cons_succ, List.getElem_cons_zero, List.setIfInBounds_toArray, List.set_cons_zero, List.set_cons_succ]
                refine an1 4 _ (by kernel_rfl) rfl ?_
                refine Sp.of rfl (stepFnW 33 (.func 33) [.tmp 17] _ [ptr r] rfl rfl rfl rfl (fun _ => rfl) _ HC.out ?_)
                intro e w6 h9
                obtain ⟨cs, rfl, a1, a2, a3⟩ := h9.isOk
                refine Or.inl ⟨_, rfl, ?_⟩
                refine ⟨trivial, ?_⟩
                obtain ⟨y0, y1, y2, y3, rfl⟩ := arr4 a3.size
                have HX := hid (And.intro a1 (And.intro a2 a3))
                have HS6 := hid (HS5.out.thn a1 a2)
                clear a1 a2 a3 h9
                simp only [Act.put, List.getElem_toArray, List.getElem_cons_succ, List.getElem_cons_zero, List.setIfInBounds_toArray, List.set_cons_zero, List.set_cons_succ]
                refine wpAnyH_take (i := 5) (v := .agg #[.string (wat l (k + 1)).t, y0, y1, y2, y3]) rfl (by kernel_rfl) (by kernel_rfl) (by kernel_rfl) (fun _ _ _ h => h) (Or.inl ⟨by rfl, ?_⟩) hHeld ?_
                · intro w' hSw
                  exact runBd (us := #[(0, .string (wat l (k + 1)).t), (1, .agg #[y0, y1, y2, y3])]) _ rfl (by kernel_rfl) (run_bq _ _ _ _ _ _)
                simp only [Act.put, List.getElem_toArray, List.getElem_cons_succ, List.getElem_cons_zero, List.setIfInBounds_toArray, List.set_cons_zero, List.set_cons_succ]
                refine an1 6 _ (by kernel_rfl) rfl ?_
                refine Sp.bs 27 40 (.tmp 19) rfl rfl #[.string (wat l (k + 1)).t, y0, y1, y2, y3] rfl Tryz.underlying27 infoQY rfl (by omega) (by omega) ?_
                refine ⟨trivial, ?_⟩
                have HS7 : Hid (FiS W l r m ws V t x0 x1 x2 x3 qs (.slice ao qs.length cap) q (w6.alloc (.cells #[.string (wat l (k + 1)).t, y0, y1, y2, y3] 40))) := HS6.out.bel ((Below.refl _ _).alloc (Nat.le_refl _) _)
                simp only [Act.put, List.getElem_toArray, List.getElem_cons_succ, List.getElem_cons_zero, List.setIfInBounds_toArray, List.set_cons_zero, List.set_cons_succ]
                obtain ⟨xs, g1, g2⟩ := HS7.out.ks
                refine an1 7 _ (by kernel_rfl) rfl ?_
                refine Sp.rw (.tmp 15) (.tmp 20) 27 rfl rfl (k := 5) (t := 40) (n := qs.length) (m := 1) (c := 1) (us := [.string (wat l (k + 1)).t, y0, y1, y2, y3]) (ad := ⟨w6.heap.size, 0, none⟩) rfl rfl Tryz.underlying27 infoQY rfl (by omega) (by omega) g1 (by simp) (fun jj x hx => by rw [Addr.add_lit, Nat.zero_add, cell_of_row _ _ _ _ _ _ (heap_alloc_new _ _)]; simpa using hx) (fun x hx => by have h1 := HX.out.2.2.one; rw [Array.all_eq_true_iff_forall_mem] at h1; rcases List.mem_cons.1 hx with rfl | hx; rfl; exact h1 x (by simpa using hx)) (by omega) (Or.inl (by omega)) ?_
                intro v' w7 hA hW
                obtain ⟨ao', cap', rfl⟩ := (hW _ g1).form
                obtain ⟨f1, f2, f3⟩ := HS5.out.app (q := ⟨(wat l (k + 1)).t, u⟩) HX.out.1 HX.out.2.1 HX.out.2.2 rfl hA g1 g2 hW
                have HS8 := hid f3
                clear f3 hA hW g1 g2
                refine ⟨trivial, ?_⟩
                simp only [Act.put, List.getElem_toArray, List.getElem_cons_succ, List.getElem_cons_zero, List.setIfInBounds_toArray, List.set_cons_zero, List.set_cons_succ]
                have hHeld : True := trivial
                refine wpAnyH_take (i := 8) (v := ?_) rfl (by kernel_rfl) (by kernel_rfl) (by kernel_rfl) (fun _ _ _ h => h) (Or.inl ⟨by rfl, ?_⟩) hHeld ?_
                rotate_left
                · intro w' hSw
                  clear hSw
                  go_simp
                  first | done | with_reducible rfl
                simp only [Act.put, List.getElem_toArray, List.getElem_cons_succ, List.getElem_cons_zero, List.setIfInBounds_toArray, List.set_cons_zero, List.set_cons_succ]
                refine an1 9 _ (by kernel_rfl) rfl ?_
                refine Sp.stq (.tmp 22) (.tmp 21) rfl rfl V 4 ao' (qs.length + 1) cap' _ rfl rfl f1 f2 ?_
                refine ⟨trivial, ?_⟩
                simp only [Act.put, List.getElem_toArray, List.getElem_cons_succ, List.getElem_cons_zero]
                refine wpAnyH_done (by kernel_rfl) ?_ _
                go_wp2
                have hl1 : (qs ++ [(⟨(wat l (k + 1)).t, u⟩ : Qy)]).length = qs.length + 1 := by simp
                refine ⟨?_, ?_⟩
                · have HS9 : Hid (FiS W l r m ws V t x0 x1 x2 x3 (qs ++ [⟨(wat l (k + 1)).t, u⟩]) (.slice ao' (qs ++ [(⟨(wat l (k + 1)).t, u⟩ : Qy)]).length cap') q (w7.setCell ⟨V, 4, none⟩ (.slice ao' (qs.length + 1) cap'))) := by rw [hl1]; exact HS8.out
                  have hl2 : (qs ++ [(⟨(wat l (k + 1)).t, u⟩ : Qy)]).length ≤ q := by omega
                  have hl3 : l.length - q ≤ fu := by omega
                  exact ⟨qs ++ [⟨(wat l (k + 1)).t, u⟩], ao', cap', q, fu, hq.2, hl3, hl2, HS9, hid HQ2.out.symm⟩
                · show l.length - rAt r _ < l.length - rAt r wr
                  rw [HS8.out.i.rd.rAt, HRA.out]; omega
              · skip
                refine Sp.of rfl (stepFnW 33 (.func 33) [.tmp 17] _ [ptr r] rfl rfl rfl rfl (fun _ => rfl) _ HC.out ?_)
                intro e w6 h9
                obtain ⟨cs, rfl, a1, a2, a3⟩ := h9.isOk
                refine Or.inl ⟨_, rfl, ?_⟩
                refine ⟨trivial, ?_⟩
                obtain ⟨y0, y1, y2, y3, rfl⟩ := arr4 a3.size
                have HX := hid (And.intro a1 (And.intro a2 a3))
                have HS6 := hid (HS5.out.thn a1 a2)
                clear a1 a2 a3 h9
                simp only [Act.put, List.getElem_toArray, List.getElem_cons_succ, List.getElem_cons_zero, List.setIfInBounds_toArray, List.set_cons_zero, List.set_cons_succ]
                refine wpAnyH_take (i := 5) (v := .agg #[.string (wat l (k + 1)).t, y0, y1, y2, y3]) rfl (by kernel_rfl) (by kernel_rfl) (by kernel_rfl) (fun _ _ _ h => h) (Or.inl ⟨by rfl, ?_⟩) hHeld ?_
                · intro w' hSw
                  exact runBd (us := #[(0, .string (wat l (k + 1)).t), (1, .agg #[y0, y1, y2, y3])]) _ rfl (by kernel_rfl) (run_bq _ _ _ _ _ _)
                simp only [Act.put, List.getElem_toArray, List.getElem_cons_succ, List.getElem_cons_zero, List.setIfInBounds_toArray, List.set_cons_zero, List.set_cons_succ]
                refine an2 1 6 _ _ (by kernel_rfl) rfl rfl ?_ ?_
                · skip
                  refine Sp.ldq (.tmp 14) rfl rfl V 4 ao qs.length cap rfl HS6.out.c4 ?_
                  refine ⟨trivial, ?_⟩
                  simp only [Act.put, List.getElem_toArray, List.getElem_cons_succ, List.getElem_cons_zero, List.setIfInBounds_toArray, List.set_cons_zero, List.set_cons_succ]
                  refine an1 6 _ (by kernel_rfl) rfl ?_
                  refine Sp.bs 27 40 (.tmp 19) rfl rfl #[.string (wat l (k + 1)).t, y0, y1, y2, y3] rfl Tryz.underlying27 infoQY rfl (by omega) (by omega) ?_
                  refine ⟨trivial, ?_⟩
                  have HS7 : Hid (FiS W l r m ws V t x0 x1 x2 x3 qs (.slice ao qs.length cap) q (w6.alloc (.cells #[.string (wat l (k + 1)).t, y0, y1, y2, y3] 40))) := HS6.out.bel ((Below.refl _ _).alloc (Nat.le_refl _) _)
                  simp only [Act.put, List.getElem_toArray, List.getElem_cons_succ, List.getElem_cons_zero, List.setIfInBounds_toArray, List.set_cons_zero, List.set_cons_succ]
                  obtain ⟨xs, g1, g2⟩ := HS7.out.ks
                  refine an1 7 _ (by kernel_rfl) rfl ?_
                  refine Sp.rw (.tmp 15) (.tmp 20) 27 rfl rfl (k := 5) (t := 40) (n := qs.length) (m := 1) (c := 1) (us := [.string (wat l (k + 1)).t, y0, y1, y2, y3]) (ad := ⟨w6.heap.size, 0, none⟩) rfl rfl Tryz.underlying27 infoQY rfl (by omega) (by omega) g1 (by simp) (fun jj x hx => by rw [Addr.add_lit, Nat.zero_add, cell_of_row _ _ _ _ _ _ (heap_alloc_new _ _)]; simpa using hx) (fun x hx => by have h1 := HX.out.2.2.one; rw [Array.all_eq_true_iff_forall_mem] at h1; rcases List.mem_cons.1 hx with rfl | hx; rfl; exact h1 x (by simpa using hx)) (by omega) (Or.inl (by omega)) ?_
                  intro v' w7 hA hW
                  obtain ⟨ao', cap', rfl⟩ := (hW _ g1).form
                  obtain ⟨f1, f2, f3⟩ := HS5.out.app (q := ⟨(wat l (k + 1)).t, u⟩) HX.out.1 HX.out.2.1 HX.out.2.2 rfl hA g1 g2 hW
                  have HS8 := hid f3
                  clear f3 hA hW g1 g2
                  refine ⟨trivial, ?_⟩
                  simp only [Act.put, List.getElem_toArray, List.getElem_cons_succ, List.getElem_cons_zero, List.setIfInBounds_toArray, List.set_cons_zero, List.set_cons_succ]
                  have hHeld : True := trivial
                  refine wpAnyH_take (i := 8) (v := ?_) rfl (by kernel_rfl) (by kernel_rfl) (by kernel_rfl) (fun _ _ _ h => h) (Or.inl ⟨by rfl, ?_⟩) hHeld ?_
                  rotate_left
                  · intro w' hSw
                    clear hSw
                    go_simp
                    first | done | with_reducible rfl
                  simp only [Act.put, List.getElem_toArray, List.getElem_cons_succ, List.getElem_cons_zero, List.setIfInBounds_toArray, List.set_cons_zero, List.set_cons_succ]
                  refine an1 9 _ (by kernel_rfl) rfl ?_
                  refine Sp.stq (.tmp 22) (.tmp 21) rfl rfl V 4 ao' (qs.length + 1) cap' _ rfl rfl f1 f2 ?_
                  refine ⟨trivial, ?_⟩
                  simp only [Act.put, List.getElem_toArray, List.getElem_cons_succ, List.getElem_cons_zero]
                  refine wpAnyH_done (by kernel_rfl) ?_ _
                  go_wp2
                  have hl1 : (qs ++ [(⟨(wat l (k + 1)).t, u⟩ : Qy)]).length = qs.length + 1 := by simp
                  refine ⟨?_, ?_⟩
                  · have HS9 : Hid (FiS W l r m ws V t x0 x1 x2 x3 (qs ++ [⟨(wat l (k + 1)).t, u⟩]) (.slice ao' (qs ++ [(⟨(wat l (k + 1)).t, u⟩ : Qy)]).length cap') q (w7.setCell ⟨V, 4, none⟩ (.slice ao' (qs.length + 1) cap'))) := by rw [hl1]; exact HS8.out
                    have hl2 : (qs ++ [(⟨(wat l (k + 1)).t, u⟩ : Qy)]).length ≤ q := by omega
                    have hl3 : l.length - q ≤ fu := by omega
                    exact ⟨qs ++ [⟨(wat l (k + 1)).t, u⟩], ao', cap', q, fu, hq.2, hl3, hl2, HS9, hid HQ2.out.symm⟩
                  · show l.length - rAt r _ < l.length - rAt r wr
                    rw [HS8.out.i.rd.rAt, HRA.out]; omega
                · skip
                  refine Sp.bs 27 40 (.tmp 19) rfl rfl #[.string (wat l (k + 1)).t, y0, y1, y2, y3] rfl Tryz.underlying27 infoQY rfl (by omega) (by omega) ?_
                  refine ⟨trivial, ?_⟩
                  have HS7 : Hid (FiS W l r m ws V t x0 x1 x2 x3 qs (.slice ao qs.length cap) q (w6.alloc (.cells #[.string (wat l (k + 1)).t, y0, y1, y2, y3] 40))) := HS6.out.bel ((Below.refl _ _).alloc (Nat.le_refl _) _)
                  simp only [Act.put, List.getElem_toArray, List.getElem_cons_succ, List.getElem_cons_zero, List.setIfInBounds_toArray, List.set_cons_zero, List.set_cons_succ]
                  refine an1 1 _ (by kernel_rfl) rfl ?_
                  refine Sp.ldq (.tmp 14) rfl rfl V 4 ao qs.length cap rfl HS7.out.c4 ?_
                  refine ⟨trivial, ?_⟩
                  simp only [Act.put, List.getElem_toArray, List.getElem_cons_succ, List.getElem_cons_zero, List.setIfInBounds_toArray, List.set_cons_zero, List.set_cons_succ]
                  obtain ⟨xs, g1, g2⟩ := HS7.out.ks
                  refine an1 7 _ (by kernel_rfl) rfl ?_
                  refine Sp.rw (.tmp 15) (.tmp 20) 27 rfl rfl (k := 5) (t := 40) (n := qs.length) (m := 1) (c := 1) (us := [.string (wat l (k + 1)).t, y0, y1, y2, y3]) (ad := ⟨w6.heap.size, 0, none⟩) rfl rfl Tryz.underlying27 infoQY rfl (by omega) (by omega) g1 (by simp) (fun jj x hx => by rw [Addr.add_lit, Nat.zero_add, cell_of_row _ _ _ _ _ _ (heap_alloc_new _ _)]; simpa using hx) (fun x hx => by have h1 := HX.out.2.2.one; rw [Array.all_eq_true_iff_forall_mem] at h1; rcases List.mem_cons.1 hx with rfl | hx; rfl; exact h1 x (by simpa using hx)) (by omega) (Or.inl (by omega)) ?_
                  intro v' w7 hA hW
                  obtain ⟨ao', cap', rfl⟩ := (hW _ g1).form
                  obtain ⟨f1, f2, f3⟩ := HS5.out.app (q := ⟨(wat l (k + 1)).t, u⟩) HX.out.1 HX.out.2.1 HX.out.2.2 rfl hA g1 g2 hW
                  have HS8 := hid f3
                  clear f3 hA hW g1 g2
                  refine ⟨trivial, ?_⟩
                  simp only [Act.put, List.getElem_toArray, List.getElem_cons_succ, List.getElem_cons_zero, List.setIfInBounds_toArray, List.set_cons_zero, List.set_cons_succ]
                  have hHeld : True := trivial
                  refine wpAnyH_take (i := 8) (v := ?_) rfl (by kernel_rfl) (by kernel_rfl) (by kernel_rfl) (fun _ _ _ h => h) (Or.inl ⟨by rfl, ?_⟩) hHeld ?_
                  rotate_left
                  · intro w' hSw
                    clear hSw
                    go_simp
                    first | done | with_reducible rfl
                  simp only [Act.put, List.getElem_toArray, List.getElem_cons_succ, List.getElem_cons_zero, List.setIfInBounds_toArray, List.set_cons_zero, List.set_cons_succ]
                  refine an1 9 _ (by kernel_rfl) rfl ?_
                  refine Sp.stq (.tmp 22) (.tmp 21) rfl rfl V 4 ao' (qs.length + 1) cap' _ rfl rfl f1 f2 ?_
                  refine ⟨trivial, ?_⟩
                  simp only [Act.put, List.getElem_toArray, List.getElem_cons_succ, List.getElem_cons_zero]
                  refine wpAnyH_done (by kernel_rfl) ?_ _
                  go_wp2
                  have hl1 : (qs ++ [(⟨(wat l (k + 1)).t, u⟩ : Qy)]).length = qs.length + 1 := by simp
                  refine ⟨?_, ?_⟩
                  · have HS9 : Hid (FiS W l r m ws V t x0 x1 x2 x3 (qs ++ [⟨(wat l (k + 1)).t, u⟩]) (.slice ao' (qs ++ [(⟨(wat l (k + 1)).t, u⟩ : Qy)]).length cap') q (w7.setCell ⟨V, 4, none⟩ (.slice ao' (qs.length + 1) cap'))) := by rw [hl1]; exact HS8.out
                    have hl2 : (qs ++ [(⟨(wat l (k + 1)).t, u⟩ : Qy)]).length ≤ q := by omega
                    have hl3 : l.length - q ≤ fu := by omega
                    exact ⟨qs ++ [⟨(wat l (k + 1)).t, u⟩], ao', cap', q, fu, hq.2, hl3, hl2, HS9, hid HQ2.out.symm⟩
                  · show l.length - rAt r _ < l.length - rAt r wr
                    rw [HS8.out.i.rd.rAt, HRA.out]; omega
        · have HQn := hid (qname_no HS3.out.i.rd hkk hb HTs.out hq)
          have HJF : Hid (fil l = .bad (k + 1)) := by show _ = _; rw [HJ.out, ← HL.out, qrs_bad HTk.out (qry_1 hq)]; rfl
          clear hq
          go_wp2_with (go_at_call 31; refine (HQn.out).mono ?_; rintro e w8 ⟨rfl, a1, a2⟩; have HX := hid (And.intro (HS3.out.i.only.thn a1) a2); clear a1 a2)
          refine ⟨rfl, (show FlP l r m ws (fil l) W _ _ from ?_)⟩
          rw [HJF.out]; exact ⟨HX.out.1, rfl, HX.out.2⟩
      | false =>
        have HTn := hid (takes_no HS.out.i.rd hk1 hb' ht)
        have HJ2 : Hid (fil l = if (wat l k).k = 0 then .ok ⟨t, qs⟩ k else .bad k) := by show _ = _; rw [HJ.out, ← HL.out, qrs_no ht]; rfl
        clear ht HL HJ
        go_upto_region 6 with (go_at_call 30; refine (HTn.out).mono ?_; rintro e w3 ⟨rfl, a1, a2⟩; have HS3 := hid (HS.out.thn a1 a2); clear a1 a2)
        have HWd := hid (word_at HS3.out.i.rd hk1 hb')
        clear HS HTn
        generalize wat l k = x at HWd HJ2
        obtain ⟨xk, xt, xn, xa⟩ := x
        simp only at HWd HJ2
        have hfd := fun W => run_w0 (xk : Int) (xn : Int) (xa : Int) xt W
        by_cases hk : xk = 0
        · have hk2 : (((xk : Nat) : Int) == 0) = true := by simp; omega
          rw [if_pos hk] at HJ2
          clear hk
          go_wp2_with (first
            | (go_at_call 14; refine (HWd.out).mono ?_; rintro e w4 ⟨rfl, hw⟩; have HS4 := hid (HS3.out.bel hw); clear hw
               have HO4 : Hid ((#[x0, x1, x2, x3, .slice ao qs.length cap] : Array Value).all (·.oneCell') = true) := by
                 have h1 := HS4.out.tm.one
                 show _ = _
                 simp at h1 ⊢
                 exact ⟨h1.1, h1.2.1, h1.2.2.1, h1.2.2.2, rfl⟩)
            | (go_at_call 34; refine (must_true _).mono ?_; rintro e w'' ⟨rfl, hw⟩; rw [hw]; clear hw w'')
            | (refine ldRow 29 (.tmp 3) rfl rfl V rfl 29 _ _ Tryz.underlying29 rfl rfl HS4.out.v ?_)
            | (refine stRow 29 (.tmp 2) (.tmp 28) rfl rfl W.heap.size #[x0, x1, x2, x3, .slice ao qs.length cap] rfl rfl 29 _ HS4.out.i.res rfl rfl HO4.out ?_))
          have hF := setRow_heap w4 W.heap.size pz #[x0, x1, x2, x3, .slice ao qs.length cap] 29 _ HS4.out.i.res
          have hko : ∀ k, k ≠ W.heap.size → (w4.setRow W.heap.size #[x0, x1, x2, x3, .slice ao qs.length cap]).heap[k]? = w4.heap[k]? := fun k hk => setRow_other w4 W.heap.size k _ hk
          have hsz : (w4.setRow W.heap.size #[x0, x1, x2, x3, .slice ao qs.length cap]).heap.size = w4.heap.size := by simp [World.setRow]
          have hlt := HS4.out.i.lt
          refine bodyPost_ret (res_po Tryz.results15 _ _ W.heap.size _ rfl rfl hF) rfl (show FlP l r m ws (fil l) W _ _ from ?_)
          rw [HJ2.out]
          obtain ⟨xs, g1, g2⟩ := HS4.out.ks
          exact ⟨HS4.out.i.only.trans ⟨rfl, rfl, rfl, by omega, fun k hk => hko k (fun e => hk (Or.inr (by omega)))⟩, _, rfl, HS4.out.i.rd.keep fun b hb => hko b (by omega), #[x0, x1, x2, x3], _, xs, rfl, tm_on HS4.out.tm fun b _ hS => ⟨by omega, hko b (by omega)⟩, g1.carry fun b _ hS => ⟨by omega, hko b (by omega)⟩, QyL.carry (fun b _ hS => ⟨by omega, hko b (by omega)⟩) _ _ g2⟩
        · have hk2 : (((xk : Nat) : Int) == 0) = false := by simp; omega
          rw [if_neg hk] at HJ2
          clear hk
          go_wp2_with (first
            | (go_at_call 14; refine (HWd.out).mono ?_; rintro e w4 ⟨rfl, hw⟩; have HS4 := hid (HS3.out.bel hw); clear hw)
            | (go_at_call 34; refine (must_false _).mono ?_; rintro e w'' ⟨rfl, hw⟩; rw [hw]; clear hw w''))
          refine ⟨rfl, (show FlP l r m ws (fil l) W _ _ from ?_)⟩
          rw [HJ2.out]; exact ⟨HS4.out.i.only, rfl, HS4.out.i.rd⟩
end Go.Proofs.YtoncogkamlgjhaaGreatDoor
