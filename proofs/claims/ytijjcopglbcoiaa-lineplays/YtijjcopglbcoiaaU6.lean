/-
  Proved here: an act of tollbridgelaw06, where it takes. Conditions: the seven functions serve ends; the numbers are those behind fewer than 100000 acts.
-/
import Derived.Test.YtijjcopglbcoiaaU0
import Derived.Deep.CutBlock
import Derived.Deep.DeepCutAuto
import Derived.Deep.RegionLaw
import Derived.BigQuiet
namespace Go.Proofs.Ytijjcopglbcoiaa
open Go.RowKit Seal

set_option maxRecDepth 100000 in
set_option maxHeartbeats 3200000 in
theorem act_take (A : PApi) (c : Nat → Nat) (i j t : Nat) (hi : i = 1 ∨ i = 2) (hj : j = 3 ∨ j = 4) (v u tv xb : Value) (e : E) (tl : List (List Int)) (bs : List Int) (w : World) (wo dw an : Int) (n N : Nat) (h : AcS A c i j t v u tv xb e e tl bs w) (hfit : FitN N e) (hN : N ≤ 1000) (htl : tl.length ≤ 1000) (g0 : (dw == 0) = false) (g1 : (dw == 1) = false) (g23 : (dw == 2) = true ∨ ((dw == 2) = false ∧ (dw == 3) = true)) :
    Calls Try.prog 13 #[v, u, .agg (acv wo dw an n xb), .pointer (some ⟨t, 0, none⟩)] w (ActOk A c i j t v u xb e tl bs w) := by
  have hF : Fit e := hfit.fit (by omega)
  obtain ⟨xa, xc, hxe, -⟩ := id h.xb
  subst hxe
  obtain ⟨W, hW⟩ : ∃ W, W = w.alloc (.cells (acv wo dw an n (.slice xa bs.length xc)) 33) := ⟨_, rfl⟩
  have K0 : Keep c (tint c w.heap.size 8) 8 w W := by rw [hW]; exact Keep.alloc c 8 w _
  have H0 : Hid (AcS A (tint c w.heap.size 8) i j t v u tv (.slice xa bs.length xc) e e tl bs W) := h.other K0 (by omega) (by omega) (by omega)
  have HK0 : Hid (KM (Mj i j) c (tint c w.heap.size 8) w W) := KM.of K0 (by omega)
  have hbx : W.heap[w.heap.size]? = some (.cells (acv wo dw an n (.slice xa bs.length xc)) 33 (0, 0)) := by rw [hW]; exact heap_alloc_new _ _
  have HBX : Hid (W.heap[w.heap.size]? = some (.cells (acv wo dw an n (.slice xa bs.length xc)) 33 (0, 0)) ∧ tint c w.heap.size 8 w.heap.size = 8) := ⟨hbx, tint_new (Nat.le_refl _)⟩
  have HW : Hid (W = w.alloc (.cells (acv wo dw an n (.slice xa bs.length xc)) 33)) := hW
  obtain ⟨b0, b1, b2, b3, b4, -⟩ := end_cells hbx
  generalize tint c w.heap.size 8 = c0 at H0 HK0 HBX
  clear hW K0 h hbx
  go_enter Try.func13, Try.ntmps13
  go_upto_region 1 with fail
  rw [← HW.out]
  clear HW
  obtain ⟨ta, tk, hte, hta1, hta2⟩ := H0.out.sp.form
  have HT : Hid (tl ≠ [] → ∃ g o, ta = some ⟨g, o, none⟩ ∧ ∀ j, j < tl.length → ∃ u, W.cell? ⟨g, o + j, none⟩ = some u ∧ SlC (Col c0 7) W u (tl.getD j [])) := hta2
  subst hte
  have hto := cell_of_one H0.out.tb
  clear hta2
  by_cases hA : (dw == 2) = true ∧ tl ≠ []
  · obtain ⟨g2, hne⟩ := hA
    have hpos : 0 < tl.length := List.length_pos_iff.2 hne
    obtain ⟨p, hp1, hp2⟩ := place an (tl.length : Int) (by omega) (by omega)
    have hpl : p < tl.length := by omega
    obtain ⟨g, o, hta, hcl⟩ := HT.out hne
    obtain ⟨um, hum, hus⟩ := hcl p hpl
    obtain ⟨m, hm⟩ : ∃ m, m = tl.getD p [] := ⟨_, rfl⟩
    rw [← hm] at hus
    clear hm hcl g23
    have HUS : Hid (SlC (Col c0 7) W um m) := hus
    obtain ⟨ua, uc, rfl, -⟩ := hus
    subst hta
    have hdp : decide ((0 : Int) < (tl.length : Int)) = true := by simp; omega
    go_upto_region 21 with fail
    go_quiet (fail)
    go_upto_region 22 with fail
    have HX : Hid (AcS A c0 i j t v u (.slice (some ⟨g, o, none⟩) tl.length tk) (.slice xa bs.length xc) e e tl bs (W.drewN nq)) := H0.out.drewN nq
    have HSB : Hid (SlC (Col c0 7) (W.drewN nq) (.slice ua m.length uc) m) := HUS.out.carry fun _ _ h => ⟨h, rfl⟩
    have HKX : Hid (KM (Mj i j) c c0 w (W.drewN nq)) := ⟨HK0.out.os, HK0.out.tape, HK0.out.output, HK0.out.size, HK0.out.same⟩
    clear b0 b1 b2 b3 b4 hto hum HUS HT H0 HK0 HBX
    generalize W.drewN nq = wx at HX HSB HKX ⊢
    have HOw : Hid (Owns wx.heap.size (wx.alloc (.cells #[] 5)) (.slice (some ⟨wx.heap.size, 0, none⟩) 0 0) []) := owns_empty wx (Nat.le_refl _)
    have HL1 : Hid (Below wx.heap.size wx (wx.alloc (.cells #[] 5))) := (Below.refl _ _).alloc (Nat.le_refl _) _
    have HS1 : Hid (Sl wx.heap.size (wx.alloc (.cells #[] 5)) (.slice ua m.length uc) m) := HSB.out.sl.on HL1.out
    have HKL : Hid (m.length ≤ 140737488355328 ∧ IsB m) := ⟨HSB.out.len, HSB.out.isB⟩
    go_upto_region 23 with (at_builtin; refine app22 (.tmp 99) (.tmp 100) rfl rfl rfl rfl HOw.out HS1.out (by simp) (by have := HKL.out.1; simp only [List.length_nil]; omega) ?_; intro v2 w2 X2)
    have XX : Ext wx.heap.size (wx.alloc (.cells #[] 5)) (.slice (some ⟨wx.heap.size, 0, none⟩) 0 0) w2 v2 m := X2
    obtain ⟨c2, k2, s2, m2⟩ := mine_own c0 HKL.out.1 HKL.out.2 (HL1.out.trans (XX.below HOw.out (by simp))) XX.own
    have HK2 : Hid (Keep c0 c2 9 wx w2) := k2
    have H2 : Hid (AcS A c2 i j t v u (.slice (some ⟨g, o, none⟩) tl.length tk) (.slice xa bs.length xc) e e tl bs w2) := HX.out.other k2 (by omega) (by omega) (by omega)
    have HSB2 : Hid (SlC (Col c2 7) w2 (.slice ua m.length uc) m) := k2.sl (by omega) HSB.out
    have HS2 : Hid (SlC (Col c2 9) w2 v2 m) := s2
    have HM2 : Hid (Mine c2 w2 v2 m.length) := m2
    clear XX X2 k2 s2 m2 HOw HS1 HL1
    obtain ⟨ma, mk, hme, hmx⟩ := id HM2.out
    subst hme
    clear hmx
    have HSd : Hid (Calls Try.prog 19 #[v, .slice ma m.length mk] w2 fun r w' => ∃ c', r = .returned (.int .i64 (taE m)) ∧ Keep c2 c' i w2 w' ∧ A.PE (Col c' i) w' v (taS e m)) := A.takeC c2 i v _ e m w2 H2.out.pe hF (HS2.out.ne (by omega))
    go_upto_region 24 with (go_at_call 19; refine (HSd.out).mono ?_; rintro r w3 ⟨c3, rfl, k3, p3⟩
                            have HK3 : Hid (Keep c2 c3 i w2 w3) := k3
                            have H3 : Hid (AcS A c3 i j t v u (.slice (some ⟨g, o, none⟩) tl.length tk) (.slice xa bs.length xc) (taS e m) e tl bs w3) := H2.out.stepA k3 p3 (by omega) (by omega) (by omega)
                            have HM3 : Hid (Mine c3 w3 (.slice ma m.length mk) m.length) := HM2.out.keep k3 (by omega)
                            have HSB3 : Hid (SlC (Col c3 7) w3 (.slice ua m.length uc) m) := k3.sl (by omega) HSB2.out
                            clear k3 p3)
    clear HSd HM2 HS2
    have hlen := HKL.out.1
    go_wp2
    go_loopw [18] (fun x wr => ∃ k : Nat, k ≤ m.length ∧ x = .int .i64 k ∧ Mine c3 wr (.slice ma m.length mk) m.length ∧ Keep c3 c3 9 w3 wr) (fun x _ => m.length - (intOf x).toNat)
    case atStart => exact ⟨0, by omega, rfl, HM3.out, Keep.refl _ _ _⟩
    case round =>
      obtain ⟨k, hk, rfl, hm, hkp⟩ := hrel
      have HMr : Hid (Mine c3 wr (.slice ma m.length mk) m.length) := hm
      have HKr : Hid (Keep c3 c3 9 w3 wr) := hkp
      clear hm hkp
      by_cases hlt : k < m.length
      · obtain ⟨g', hma, hcl, hfr, hnx⟩ := HMr.out.at hlt
        obtain ⟨y, hcl, hy0, hy1⟩ := hcl
        subst hma
        have HNX : Hid (∀ z, 0 ≤ z → z < 256 → Mine c3 (wr.setCell ⟨g', k, none⟩ (.int .u8 z)) (.slice (some ⟨g', 0, none⟩) m.length mk) m.length ∧ Keep c3 c3 9 wr (wr.setCell ⟨g', k, none⟩ (.int .u8 z))) := hnx
        clear hnx
        go_wp2
        obtain ⟨z0, z1⟩ := flip_bd hy0 hy1
        obtain ⟨n1, n2⟩ := HNX.out _ z0 z1
        refine ⟨⟨k + 1, by omega, by go_num, n1, HKr.out.trans n2⟩, ?_⟩
        simp [intOf]; omega
      · obtain rfl : k = m.length := by omega
        have H4 : Hid (AcS A c3 i j t v u (.slice (some ⟨g, o, none⟩) tl.length tk) (.slice xa bs.length xc) (taS e m) e tl bs wr) := H3.out.other HKr.out (by omega) (by omega) (by omega)
        have HSB4 : Hid (SlC (Col c3 7) wr (.slice ua m.length uc) m) := HKr.out.sl (by omega) HSB3.out
        have HSr : Hid (Calls Try.prog 29 #[u, (.slice ua m.length uc)] wr fun r w' => ∃ c', r = .returned (.int .i64 (taE m)) ∧ Keep c3 c' j wr w' ∧ rapi.PE (Col c' j) w' u (taS e m)) := rapi.takeC c3 j u _ e m wr H4.out.re hF (HSB4.out.ne (by omega))
        go_wp2_with (go_at_call 29; refine (HSr.out).mono ?_; rintro r w9 ⟨c9, rfl, k9, p9⟩)
        go_ret
        exact ⟨taS e m, tl, (.slice (some ⟨g, o, none⟩) tl.length tk), c9, by simp, (((HKX.out.trans (KM.of HK2.out (by omega))).trans (KM.of HK3.out (by omega))).trans (KM.of HKr.out (by omega))).trans (KM.of k9 (by omega)), H4.out.stepB k9 p9 (by omega) (by omega) (by omega), fun n hn hl => ⟨hn.take HKL.out.2, by omega⟩⟩
  · have hB : ((dw == 2) = true ∧ tl.length = 0) ∨ ((dw == 2) = false ∧ (dw == 3) = true) := by
      rcases g23 with g2 | g3
      · by_cases hne : tl = []
        · exact Or.inl ⟨g2, by rw [hne]; rfl⟩
        · exact absurd ⟨g2, hne⟩ hA
      · exact Or.inr g3
    clear hA g23
    rcases hB with ⟨g2, hl0⟩ | ⟨g2, g3⟩
    · go_upto_region 22 with fail
      have HX : Hid (AcS A c0 i j t v u (.slice ta tl.length tk) (.slice xa bs.length xc) e e tl bs W) := H0.out
      have HSB : Hid (SlC (Col c0 0) W (.slice xa bs.length xc) bs) := H0.out.xb
      have HKX : Hid (KM (Mj i j) c c0 w W) := HK0.out
      clear b0 b1 b2 b3 b4 hto HT H0 HK0 HBX
      have HOw : Hid (Owns W.heap.size (W.alloc (.cells #[] 5)) (.slice (some ⟨W.heap.size, 0, none⟩) 0 0) []) := owns_empty W (Nat.le_refl _)
      have HL1 : Hid (Below W.heap.size W (W.alloc (.cells #[] 5))) := (Below.refl _ _).alloc (Nat.le_refl _) _
      have HS1 : Hid (Sl W.heap.size (W.alloc (.cells #[] 5)) (.slice xa bs.length xc) bs) := HSB.out.sl.on HL1.out
      have HKL : Hid (bs.length ≤ 140737488355328 ∧ IsB bs) := ⟨HSB.out.len, HSB.out.isB⟩
      go_upto_region 23 with (at_builtin; refine app22 (.tmp 99) (.tmp 100) rfl rfl rfl rfl HOw.out HS1.out (by simp) (by have := HKL.out.1; simp only [List.length_nil]; omega) ?_; intro v2 w2 X2)
      have XX : Ext W.heap.size (W.alloc (.cells #[] 5)) (.slice (some ⟨W.heap.size, 0, none⟩) 0 0) w2 v2 bs := X2
      obtain ⟨c2, k2, s2, m2⟩ := mine_own c0 HKL.out.1 HKL.out.2 (HL1.out.trans (XX.below HOw.out (by simp))) XX.own
      have HK2 : Hid (Keep c0 c2 9 W w2) := k2
      have H2 : Hid (AcS A c2 i j t v u (.slice ta tl.length tk) (.slice xa bs.length xc) e e tl bs w2) := HX.out.other k2 (by omega) (by omega) (by omega)
      have HSB2 : Hid (SlC (Col c2 0) w2 (.slice xa bs.length xc) bs) := k2.sl (by omega) HSB.out
      have HS2 : Hid (SlC (Col c2 9) w2 v2 bs) := s2
      have HM2 : Hid (Mine c2 w2 v2 bs.length) := m2
      clear XX X2 k2 s2 m2 HOw HS1 HL1
      obtain ⟨ma, mk, hme, hmx⟩ := id HM2.out
      subst hme
      clear hmx
      have HSd : Hid (Calls Try.prog 19 #[v, .slice ma bs.length mk] w2 fun r w' => ∃ c', r = .returned (.int .i64 (taE bs)) ∧ Keep c2 c' i w2 w' ∧ A.PE (Col c' i) w' v (taS e bs)) := A.takeC c2 i v _ e bs w2 H2.out.pe hF (HS2.out.ne (by omega))
      go_upto_region 24 with (go_at_call 19; refine (HSd.out).mono ?_; rintro r w3 ⟨c3, rfl, k3, p3⟩
                              have HK3 : Hid (Keep c2 c3 i w2 w3) := k3
                              have H3 : Hid (AcS A c3 i j t v u (.slice ta tl.length tk) (.slice xa bs.length xc) (taS e bs) e tl bs w3) := H2.out.stepA k3 p3 (by omega) (by omega) (by omega)
                              have HM3 : Hid (Mine c3 w3 (.slice ma bs.length mk) bs.length) := HM2.out.keep k3 (by omega)
                              have HSB3 : Hid (SlC (Col c3 0) w3 (.slice xa bs.length xc) bs) := k3.sl (by omega) HSB2.out
                              clear k3 p3)
      clear HSd HM2 HS2
      have hlen := HKL.out.1
      go_wp2
      go_loopw [18] (fun x wr => ∃ k : Nat, k ≤ bs.length ∧ x = .int .i64 k ∧ Mine c3 wr (.slice ma bs.length mk) bs.length ∧ Keep c3 c3 9 w3 wr) (fun x _ => bs.length - (intOf x).toNat)
      case atStart => exact ⟨0, by omega, rfl, HM3.out, Keep.refl _ _ _⟩
      case round =>
        obtain ⟨k, hk, rfl, hm, hkp⟩ := hrel
        have HMr : Hid (Mine c3 wr (.slice ma bs.length mk) bs.length) := hm
        have HKr : Hid (Keep c3 c3 9 w3 wr) := hkp
        clear hm hkp
        by_cases hlt : k < bs.length
        · obtain ⟨g', hma, hcl, hfr, hnx⟩ := HMr.out.at hlt
          obtain ⟨y, hcl, hy0, hy1⟩ := hcl
          subst hma
          have HNX : Hid (∀ z, 0 ≤ z → z < 256 → Mine c3 (wr.setCell ⟨g', k, none⟩ (.int .u8 z)) (.slice (some ⟨g', 0, none⟩) bs.length mk) bs.length ∧ Keep c3 c3 9 wr (wr.setCell ⟨g', k, none⟩ (.int .u8 z))) := hnx
          clear hnx
          go_wp2
          obtain ⟨z0, z1⟩ := flip_bd hy0 hy1
          obtain ⟨n1, n2⟩ := HNX.out _ z0 z1
          refine ⟨⟨k + 1, by omega, by go_num, n1, HKr.out.trans n2⟩, ?_⟩
          simp [intOf]; omega
        · obtain rfl : k = bs.length := by omega
          have H4 : Hid (AcS A c3 i j t v u (.slice ta tl.length tk) (.slice xa bs.length xc) (taS e bs) e tl bs wr) := H3.out.other HKr.out (by omega) (by omega) (by omega)
          have HSB4 : Hid (SlC (Col c3 0) wr (.slice xa bs.length xc) bs) := HKr.out.sl (by omega) HSB3.out
          have HSr : Hid (Calls Try.prog 29 #[u, (.slice xa bs.length xc)] wr fun r w' => ∃ c', r = .returned (.int .i64 (taE bs)) ∧ Keep c3 c' j wr w' ∧ rapi.PE (Col c' j) w' u (taS e bs)) := rapi.takeC c3 j u _ e bs wr H4.out.re hF (HSB4.out.ne (by omega))
          go_wp2_with (go_at_call 29; refine (HSr.out).mono ?_; rintro r w9 ⟨c9, rfl, k9, p9⟩)
          go_ret
          exact ⟨taS e bs, tl, (.slice ta tl.length tk), c9, by simp, (((HKX.out.trans (KM.of HK2.out (by omega))).trans (KM.of HK3.out (by omega))).trans (KM.of HKr.out (by omega))).trans (KM.of k9 (by omega)), H4.out.stepB k9 p9 (by omega) (by omega) (by omega), fun n hn hl => ⟨hn.take HKL.out.2, by omega⟩⟩
    · go_upto_region 22 with fail
      have HX : Hid (AcS A c0 i j t v u (.slice ta tl.length tk) (.slice xa bs.length xc) e e tl bs W) := H0.out
      have HSB : Hid (SlC (Col c0 0) W (.slice xa bs.length xc) bs) := H0.out.xb
      have HKX : Hid (KM (Mj i j) c c0 w W) := HK0.out
      clear b0 b1 b2 b3 b4 hto HT H0 HK0 HBX
      have HOw : Hid (Owns W.heap.size (W.alloc (.cells #[] 5)) (.slice (some ⟨W.heap.size, 0, none⟩) 0 0) []) := owns_empty W (Nat.le_refl _)
      have HL1 : Hid (Below W.heap.size W (W.alloc (.cells #[] 5))) := (Below.refl _ _).alloc (Nat.le_refl _) _
      have HS1 : Hid (Sl W.heap.size (W.alloc (.cells #[] 5)) (.slice xa bs.length xc) bs) := HSB.out.sl.on HL1.out
      have HKL : Hid (bs.length ≤ 140737488355328 ∧ IsB bs) := ⟨HSB.out.len, HSB.out.isB⟩
      go_upto_region 23 with (at_builtin; refine app22 (.tmp 99) (.tmp 100) rfl rfl rfl rfl HOw.out HS1.out (by simp) (by have := HKL.out.1; simp only [List.length_nil]; omega) ?_; intro v2 w2 X2)
      have XX : Ext W.heap.size (W.alloc (.cells #[] 5)) (.slice (some ⟨W.heap.size, 0, none⟩) 0 0) w2 v2 bs := X2
      obtain ⟨c2, k2, s2, m2⟩ := mine_own c0 HKL.out.1 HKL.out.2 (HL1.out.trans (XX.below HOw.out (by simp))) XX.own
      have HK2 : Hid (Keep c0 c2 9 W w2) := k2
      have H2 : Hid (AcS A c2 i j t v u (.slice ta tl.length tk) (.slice xa bs.length xc) e e tl bs w2) := HX.out.other k2 (by omega) (by omega) (by omega)
      have HSB2 : Hid (SlC (Col c2 0) w2 (.slice xa bs.length xc) bs) := k2.sl (by omega) HSB.out
      have HS2 : Hid (SlC (Col c2 9) w2 v2 bs) := s2
      have HM2 : Hid (Mine c2 w2 v2 bs.length) := m2
      clear XX X2 k2 s2 m2 HOw HS1 HL1
      obtain ⟨ma, mk, hme, hmx⟩ := id HM2.out
      subst hme
      clear hmx
      have HSd : Hid (Calls Try.prog 19 #[v, .slice ma bs.length mk] w2 fun r w' => ∃ c', r = .returned (.int .i64 (taE bs)) ∧ Keep c2 c' i w2 w' ∧ A.PE (Col c' i) w' v (taS e bs)) := A.takeC c2 i v _ e bs w2 H2.out.pe hF (HS2.out.ne (by omega))
      go_upto_region 24 with (go_at_call 19; refine (HSd.out).mono ?_; rintro r w3 ⟨c3, rfl, k3, p3⟩
                              have HK3 : Hid (Keep c2 c3 i w2 w3) := k3
                              have H3 : Hid (AcS A c3 i j t v u (.slice ta tl.length tk) (.slice xa bs.length xc) (taS e bs) e tl bs w3) := H2.out.stepA k3 p3 (by omega) (by omega) (by omega)
                              have HM3 : Hid (Mine c3 w3 (.slice ma bs.length mk) bs.length) := HM2.out.keep k3 (by omega)
                              have HSB3 : Hid (SlC (Col c3 0) w3 (.slice xa bs.length xc) bs) := k3.sl (by omega) HSB2.out
                              clear k3 p3)
      clear HSd HM2 HS2
      have hlen := HKL.out.1
      go_wp2
      go_loopw [18] (fun x wr => ∃ k : Nat, k ≤ bs.length ∧ x = .int .i64 k ∧ Mine c3 wr (.slice ma bs.length mk) bs.length ∧ Keep c3 c3 9 w3 wr) (fun x _ => bs.length - (intOf x).toNat)
      case atStart => exact ⟨0, by omega, rfl, HM3.out, Keep.refl _ _ _⟩
      case round =>
        obtain ⟨k, hk, rfl, hm, hkp⟩ := hrel
        have HMr : Hid (Mine c3 wr (.slice ma bs.length mk) bs.length) := hm
        have HKr : Hid (Keep c3 c3 9 w3 wr) := hkp
        clear hm hkp
        by_cases hlt : k < bs.length
        · obtain ⟨g', hma, hcl, hfr, hnx⟩ := HMr.out.at hlt
          obtain ⟨y, hcl, hy0, hy1⟩ := hcl
          subst hma
          have HNX : Hid (∀ z, 0 ≤ z → z < 256 → Mine c3 (wr.setCell ⟨g', k, none⟩ (.int .u8 z)) (.slice (some ⟨g', 0, none⟩) bs.length mk) bs.length ∧ Keep c3 c3 9 wr (wr.setCell ⟨g', k, none⟩ (.int .u8 z))) := hnx
          clear hnx
          go_wp2
          obtain ⟨z0, z1⟩ := flip_bd hy0 hy1
          obtain ⟨n1, n2⟩ := HNX.out _ z0 z1
          refine ⟨⟨k + 1, by omega, by go_num, n1, HKr.out.trans n2⟩, ?_⟩
          simp [intOf]; omega
        · obtain rfl : k = bs.length := by omega
          have H4 : Hid (AcS A c3 i j t v u (.slice ta tl.length tk) (.slice xa bs.length xc) (taS e bs) e tl bs wr) := H3.out.other HKr.out (by omega) (by omega) (by omega)
          have HSB4 : Hid (SlC (Col c3 0) wr (.slice xa bs.length xc) bs) := HKr.out.sl (by omega) HSB3.out
          have HSr : Hid (Calls Try.prog 29 #[u, (.slice xa bs.length xc)] wr fun r w' => ∃ c', r = .returned (.int .i64 (taE bs)) ∧ Keep c3 c' j wr w' ∧ rapi.PE (Col c' j) w' u (taS e bs)) := rapi.takeC c3 j u _ e bs wr H4.out.re hF (HSB4.out.ne (by omega))
          go_wp2_with (go_at_call 29; refine (HSr.out).mono ?_; rintro r w9 ⟨c9, rfl, k9, p9⟩)
          go_ret
          exact ⟨taS e bs, tl, (.slice ta tl.length tk), c9, by simp, (((HKX.out.trans (KM.of HK2.out (by omega))).trans (KM.of HK3.out (by omega))).trans (KM.of HKr.out (by omega))).trans (KM.of k9 (by omega)), H4.out.stepB k9 p9 (by omega) (by omega) (by omega), fun n hn hl => ⟨hn.take HKL.out.2, by omega⟩⟩
end Go.Proofs.Ytijjcopglbcoiaa
