/-
  Proved here: an act of tollbridgelaw06, where it ticks. Conditions: the seven functions serve ends; the numbers are those behind fewer than 100000 acts.
  Proved here: an act of tollbridgelaw06, where it sends. Conditions: the seven functions serve ends; the numbers are those behind fewer than 100000 acts.
  Proved here: an act of tollbridgelaw06, where it takes. Conditions: the seven functions serve ends; the numbers are those behind fewer than 100000 acts.
-/
import Derived.Test.YtijjcopglbcoiaaU0
import Derived.Deep.CutBlock
import Derived.Deep.DeepCutAuto
import Derived.Deep.RegionLaw
import Derived.BigQuiet
namespace Go.Proofs.Ytijjcopglbcoiaa
open Go.RowKit Seal

set_option maxRecDepth 100000 in
set_option maxHeartbeats 3200000 in
theorem act_tick (A : PApi) (c : Nat → Nat) (i j t : Nat) (hi : i = 1 ∨ i = 2) (hj : j = 3 ∨ j = 4) (v u tv xb : Value) (e : E) (tl : List (List Int)) (bs : List Int) (w : World) (wo dw an : Int) (n N : Nat) (h : AcS A c i j t v u tv xb e e tl bs w) (hfit : FitN N e) (hN : N ≤ 1000) (htl : tl.length ≤ 1000) (g0 : (dw == 0) = false) (g1 : (dw == 1) = true) :
    Calls Try.prog 13 #[v, u, .agg (acv wo dw an n xb), .pointer (some ⟨t, 0, none⟩)] w (ActOk A c i j t v u xb e tl bs w) := by
  have hF : Fit e := hfit.fit (by omega)
  obtain ⟨xa, xc, hxe, -⟩ := id h.xb
  subst hxe
  obtain ⟨W, hW⟩ : ∃ W, W = w.alloc (.cells (acv wo dw an n (.slice xa bs.length xc)) 33) := ⟨_, rfl⟩
  have K0 : Keep c (tint c w.heap.size 8) 8 w W := by rw [hW]; exact Keep.alloc c 8 w _
  have H0 : Hid (AcS A (tint c w.heap.size 8) i j t v u tv (.slice xa bs.length xc) e e tl bs W) := h.other K0 (by omega) (by omega) (by omega)
  have HK0 : Hid (KM (Mj i j) c (tint c w.heap.size 8) w W) := KM.of K0 (by omega)
  have hbx : W.heap[w.heap.size]? = some (.cells (acv wo dw an n (.slice xa bs.length xc)) 33 (0, 0)) := by rw [hW]; exact heap_alloc_new _ _
  have HBX : Hid (W.heap[w.heap.size]? = some (.cells (acv wo dw an n (.slice xa bs.length xc)) 33 (0, 0)) ∧ tint c w.heap.size 8 w.heap.size = 8) := ⟨hbx, tint_new (Nat.le_refl _)⟩
  have HW : Hid (W = w.alloc (.cells (acv wo dw an n (.slice xa bs.length xc)) 33)) := hW
  obtain ⟨b0, b1, b2, b3, b4, -⟩ := end_cells hbx
  generalize tint c w.heap.size 8 = c0 at H0 HK0 HBX
  clear hW K0 h hbx
  go_enter Try.func13, Try.ntmps13
  go_upto_region 1 with fail
  rw [← HW.out]
  clear HW
  have hnot : ∀ (x : Bool) (w : World), (Op.unary .not (.bool x)).run Try.prog w = .ok (.bool (!x)) w := fun _ _ => rfl
  have HT1 : Hid (Calls Try.prog 20 #[v] W fun x w' => ∃ u' c', x = .returned u' ∧ Keep c0 c' i W w' ∧ A.PE (Col c' i) w' v e ∧ Ls (Col c' 9) w' u' [tkL e]) := A.tickC c0 i 9 v e W H0.out.pe hF
  go_upto_region 15 with (first
    | (go_at_call 14; refine (HAL.out).mono ?_; rintro r w3 ⟨rfl, hb3⟩)
    | (go_at_call 28; refine (rapi.tickC c1 j 7 u e w1 H1.out.re hF).mono ?_; rintro r w2 ⟨u2, c2, rfl, k2, p2, l2⟩
       have HK2 : Hid (Keep c1 c2 j w1 w2) := k2
       have H2 : Hid (AcS A c2 i j t v u tv (.slice xa bs.length xc) e e tl bs w2) := H1.out.stepB k2 p2 (by omega) (by omega) (by omega)
       have HAL : Hid (Calls Try.prog 14 #[u1, u2] w2 fun r w' => r = .returned (.bool true) ∧ Below w2.heap.size w2 w') := all_same _ _ u1 u2 [tkL e] w2 (k2.ls (by omega) HLs.out) l2
       have HL2 : Hid (Ls (Col c2 7) w2 u2 [tkL e]) := l2
       clear k2 p2 l2)
    | (go_at_call 20; refine (HT1.out).mono ?_; rintro r w1 ⟨u1, c1, rfl, k1, p1, l1⟩
       have HK1 : Hid (Keep c0 c1 i W w1) := k1
       have HLs : Hid (Ls (Col c1 9) w1 u1 [tkL e]) := l1
       have H1 : Hid (AcS A c1 i j t v u tv (.slice xa bs.length xc) e e tl bs w1) := H0.out.stepA k1 p1 (by omega) (by omega) (by omega)
       clear k1 p1 l1))
  have HK3 : Hid (Keep c2 (tint c2 w2.heap.size 9) 9 w2 w3) := Keep.below c2 9 hb3
  have H3 : Hid (AcS A (tint c2 w2.heap.size 9) i j t v u tv (.slice xa bs.length xc) e e tl bs w3) := H2.out.other HK3.out (by omega) (by omega) (by omega)
  have HL3 : Hid (Ls (Col (tint c2 w2.heap.size 9) 7) w3 u2 [tkL e]) := HK3.out.ls (by omega) HL2.out
  clear b0 b1 b2 b3 b4 HT1 hb3 HLs HAL H1 HL2
  generalize tint c2 w2.heap.size 9 = c3 at HK3 H3 HL3
  have hto := cell_of_one H3.out.tb
  have hfo := free_of_one H3.out.tb
  obtain ⟨ta, tk, hte, -⟩ := H3.out.sp.form
  subst hte
  obtain ⟨ua2, uk2, hue, -⟩ := id HL3.out
  subst hue
  have HRL : Hid (Sp (fun k => c3 k = 6 ∧ k < w3.heap.size) (fun k => c3 k = 7 ∧ k < w3.heap.size) w3 (.slice ta tl.length tk) tl) := H3.out.rowLt
  have HLL : Hid (Ls (fun k => c3 k = 7 ∧ k < w3.heap.size) w3 (.slice ua2 1 uk2) [tkL e]) := HL3.out.carry fun _ hk hc => ⟨⟨hc, hk⟩, rfl⟩
  go_upto_region 34 with (at_builtin; refine appSpL (.tmp 63) (.tmp 64) rfl rfl rfl rfl HRL.out HLL.out (fun k hk ht => by have h1 := (HRL.out.own k hk).1; have h2 := ht.1; omega) (by simp; omega) ?_
                          intro v4 w4 A4 P4
                          obtain ⟨c4, k4, h4, e4, f4⟩ := told_app H3.out (by omega) (by omega) A4 P4
                          obtain ⟨ta4, tk4, hte4, -⟩ := P4.form
                          have HK4 : Hid (KM (Mj i j) c3 c4 w3 (w4.setCell ⟨t, 0, none⟩ v4)) := k4
                          have H4 : Hid (AcS A c4 i j t v u v4 (.slice xa bs.length xc) e e (tl ++ [tkL e]) bs (w4.setCell ⟨t, 0, none⟩ v4)) := h4
                          clear A4 P4 k4 h4
                          clear hto hfo
                          subst hte4)
  have hk5 := HK4.out
  have h5 := H4.out
  simp only [List.length_append, List.length_cons, List.length_nil, Nat.zero_add] at hk5 h5
  clear HK4 H4 e4 f4
  generalize w4.setCell ⟨t, 0, none⟩ (.slice ta4 (tl.length + 1) tk4) = w5 at hk5 h5 ⊢
  have HK5 : Hid (KM (Mj i j) c3 c4 w3 w5) := hk5
  have H5 : Hid (AcS A c4 i j t v u (.slice ta4 (tl.length + 1) tk4) (.slice xa bs.length xc) e e (tl ++ [tkL e]) bs w5) := h5
  clear hk5 h5
  have HL1 : Hid (Calls Try.prog 21 #[v] w5 fun r w' => ∃ c', r = .returned (.int .i64 (e.sent.length : Nat)) ∧ Keep c4 c' i w5 w' ∧ A.PE (Col c' i) w' v e) := A.leftC c4 i v e w5 H5.out.pe hF
  go_wp2_with (first
    | (go_at_call 31; refine (rapi.leftC c8 j u e w8 H8.out.re hF).mono ?_; rintro r w9 ⟨c9, rfl, k9, p9⟩)
    | (go_at_call 21; refine (HL1.out).mono ?_; rintro r w8 ⟨c8, rfl, k8, p8⟩; have HK8 : Hid (Keep c4 c8 i w5 w8) := k8; have H8 : Hid (AcS A c8 i j t v u (.slice ta4 (tl.length + 1) tk4) (.slice xa bs.length xc) e e (tl ++ [tkL e]) bs w8) := H5.out.stepA k8 p8 (by omega) (by omega) (by omega); clear k8 p8))
  go_ret
  have h9 := H8.out.stepB k9 p9 (by omega) (by omega) (by omega)
  exact ⟨e, (tl ++ [tkL e]), (.slice ta4 (tl.length + 1) tk4), c9, by simp, (((((HK0.out.trans (KM.of HK1.out (by omega))).trans (KM.of HK2.out (by omega))).trans (KM.of HK3.out (by omega))).trans HK5.out).trans (KM.of HK8.out (by omega))).trans (KM.of k9 (by omega)), h9, fun n hn hl => ⟨hn.next, by simp; omega⟩⟩
end Go.Proofs.Ytijjcopglbcoiaa
namespace Go.Proofs.Ytijjcopglbcoiaa
open Go.RowKit Seal

set_option maxRecDepth 100000 in
set_option maxHeartbeats 3200000 in
theorem act_send (A : PApi) (c : Nat → Nat) (i j t : Nat) (hi : i = 1 ∨ i = 2) (hj : j = 3 ∨ j = 4) (v u tv xb : Value) (e : E) (tl : List (List Int)) (bs : List Int) (w : World) (wo dw an : Int) (n N : Nat) (h : AcS A c i j t v u tv xb e e tl bs w) (hfit : FitN N e) (hN : N ≤ 1000) (g0 : (dw == 0) = true) :
    Calls Try.prog 13 #[v, u, .agg (acv wo dw an n xb), .pointer (some ⟨t, 0, none⟩)] w (ActOk A c i j t v u xb e tl bs w) := by
  have hF : Fit e := hfit.fit (by omega)
  obtain ⟨xa, xc, hxe, -⟩ := id h.xb
  subst hxe
  obtain ⟨W, hW⟩ : ∃ W, W = w.alloc (.cells (acv wo dw an n (.slice xa bs.length xc)) 33) := ⟨_, rfl⟩
  have K0 : Keep c (tint c w.heap.size 8) 8 w W := by rw [hW]; exact Keep.alloc c 8 w _
  have H0 : Hid (AcS A (tint c w.heap.size 8) i j t v u tv (.slice xa bs.length xc) e e tl bs W) := h.other K0 (by omega) (by omega) (by omega)
  have HK0 : Hid (KM (Mj i j) c (tint c w.heap.size 8) w W) := KM.of K0 (by omega)
  have hbx : W.heap[w.heap.size]? = some (.cells (acv wo dw an n (.slice xa bs.length xc)) 33 (0, 0)) := by rw [hW]; exact heap_alloc_new _ _
  have HBX : Hid (W.heap[w.heap.size]? = some (.cells (acv wo dw an n (.slice xa bs.length xc)) 33 (0, 0)) ∧ tint c w.heap.size 8 w.heap.size = 8) := ⟨hbx, tint_new (Nat.le_refl _)⟩
  have HW : Hid (W = w.alloc (.cells (acv wo dw an n (.slice xa bs.length xc)) 33)) := hW
  obtain ⟨b0, b1, b2, b3, b4, -⟩ := end_cells hbx
  generalize tint c w.heap.size 8 = c0 at H0 HK0 HBX
  clear hW K0 h hbx
  go_enter Try.func13, Try.ntmps13
  go_upto_region 1 with fail
  rw [← HW.out]
  clear HW
  have l1 : Below W.heap.size W (W.alloc (.cells #[] 5)) := (Below.refl _ _).alloc (Nat.le_refl _) _
  have HL1 : Hid (Below W.heap.size W (W.alloc (.cells #[] 5))) := l1
  have HOw : Hid (Owns W.heap.size (W.alloc (.cells #[] 5)) (.slice (some ⟨W.heap.size, 0, none⟩) 0 0) []) := owns_empty W (Nat.le_refl _)
  have HS1 : Hid (Sl W.heap.size (W.alloc (.cells #[] 5)) (.slice xa bs.length xc) bs) := H0.out.xb.sl.on l1
  have HKL : Hid (bs.length ≤ 140737488355328 ∧ IsB bs) := ⟨H0.out.xb.len, H0.out.xb.isB⟩
  have q4 : (W.alloc (.cells #[] 5)).cell? ⟨w.heap.size, 4, none⟩ = some (.slice xa bs.length xc) := by
    rw [cell_same (heap_alloc_old _ _ (Array.getElem?_eq_some_iff.1 HBX.out.1).1)]; exact b4
  clear l1
  go_upto_region 4 with (at_builtin; refine app22 (.tmp 23) (.tmp 25) rfl rfl rfl rfl HOw.out HS1.out (by simp) (by have := HKL.out.1; simp only [List.length_nil]; omega) ?_; intro v2 w2 X2)
  have X : Ext W.heap.size (W.alloc (.cells #[] 5)) (.slice (some ⟨W.heap.size, 0, none⟩) 0 0) w2 v2 bs := X2
  obtain ⟨c2, k2, s2, m2⟩ := mine_own c0 HKL.out.1 HKL.out.2 (HL1.out.trans (X.below HOw.out (by simp))) X.own
  have HK2 : Hid (Keep c0 c2 9 W w2) := k2
  have H2 : Hid (AcS A c2 i j t v u tv (.slice xa bs.length xc) e e tl bs w2) := H0.out.other k2 (by omega) (by omega) (by omega)
  have HS2 : Hid (SlC (Col c2 9) w2 v2 bs) := s2
  have HM2 : Hid (Mine c2 w2 v2 bs.length) := m2
  have HB2 : Hid (w2.heap[w.heap.size]? = some (.cells (acv wo dw an n (.slice xa bs.length xc)) 33 (0, 0)) ∧ c2 w.heap.size = 8) := by
    have := k2.same _ (Array.getElem?_eq_some_iff.1 HBX.out.1).1 (by rw [HBX.out.2]; omega)
    exact ⟨by rw [this.2]; exact HBX.out.1, by rw [this.1]; exact HBX.out.2⟩
  clear X X2 k2 s2 m2 HOw HS1 HL1 b0 b1 b2 b3 b4 q4
  obtain ⟨ma, mk, hme, hmx⟩ := id HM2.out
  subst hme
  clear hmx
  have HSd : Hid (Calls Try.prog 18 #[v, .slice ma bs.length mk] w2 fun r w' => ∃ c', r = .returned (.int .i64 (sdE e bs)) ∧ Keep c2 c' i w2 w' ∧ A.PE (Col c' i) w' v (sdS e bs)) := A.sendC c2 i v _ e bs w2 H2.out.pe hF (HS2.out.ne (by omega))
  go_upto_region 5 with (go_at_call 18; refine (HSd.out).mono ?_; rintro r w3 ⟨c3, rfl, k3, p3⟩
                         have HK3 : Hid (Keep c2 c3 i w2 w3) := k3
                         have H3 : Hid (AcS A c3 i j t v u tv (.slice xa bs.length xc) (sdS e bs) e tl bs w3) := H2.out.stepA k3 p3 (by omega) (by omega) (by omega)
                         have HM3 : Hid (Mine c3 w3 (.slice ma bs.length mk) bs.length) := HM2.out.keep k3 (by omega)
                         have HB3 : Hid (w3.heap[w.heap.size]? = some (.cells (acv wo dw an n (.slice xa bs.length xc)) 33 (0, 0)) ∧ c3 w.heap.size = 8) := by
                           have := k3.same _ (Array.getElem?_eq_some_iff.1 HB2.out.1).1 (by rw [HB2.out.2]; omega)
                           exact ⟨by rw [this.2]; exact HB2.out.1, by rw [this.1]; exact HB2.out.2⟩
                         clear k3 p3)
  clear HSd HM2 HB2 HS2
  have hlen := HKL.out.1
  go_wp2
  go_loopw [11] (fun x wr => ∃ k : Nat, k ≤ bs.length ∧ x = .int .i64 k ∧ Mine c3 wr (.slice ma bs.length mk) bs.length ∧ Keep c3 c3 9 w3 wr) (fun x _ => bs.length - (intOf x).toNat)
  case atStart => exact ⟨0, by omega, rfl, HM3.out, Keep.refl _ _ _⟩
  case round =>
    obtain ⟨k, hk, rfl, hm, hkp⟩ := hrel
    have HMr : Hid (Mine c3 wr (.slice ma bs.length mk) bs.length) := hm
    have HKr : Hid (Keep c3 c3 9 w3 wr) := hkp
    clear hm hkp
    by_cases hlt : k < bs.length
    · obtain ⟨g, hma, hcl, hfr, hnx⟩ := HMr.out.at hlt
      obtain ⟨y, hcl, hy0, hy1⟩ := hcl
      subst hma
      have HNX : Hid (∀ z, 0 ≤ z → z < 256 → Mine c3 (wr.setCell ⟨g, k, none⟩ (.int .u8 z)) (.slice (some ⟨g, 0, none⟩) bs.length mk) bs.length ∧ Keep c3 c3 9 wr (wr.setCell ⟨g, k, none⟩ (.int .u8 z))) := hnx
      clear hnx
      go_wp2
      obtain ⟨z0, z1⟩ := flip_bd hy0 hy1
      obtain ⟨n1, n2⟩ := HNX.out _ z0 z1
      refine ⟨⟨k + 1, by omega, by go_num, n1, HKr.out.trans n2⟩, ?_⟩
      simp [intOf]; omega
    · obtain rfl : k = bs.length := by omega
      have H4 : Hid (AcS A c3 i j t v u tv (.slice xa bs.length xc) (sdS e bs) e tl bs wr) := H3.out.other HKr.out (by omega) (by omega) (by omega)
      have HB4 : wr.heap[w.heap.size]? = some (.cells (acv wo dw an n (.slice xa bs.length xc)) 33 (0, 0)) := by
        rw [(HKr.out.same _ (Array.getElem?_eq_some_iff.1 HB3.out.1).1 (by rw [HB3.out.2]; omega)).2]; exact HB3.out.1
      obtain ⟨b0, b1, b2, b3, b4, -⟩ := end_cells HB4
      clear HB4
      have HSr : Hid (Calls Try.prog 27 #[u, .slice xa bs.length xc] wr fun r w' => ∃ c', r = .returned (.int .i64 (sdE e bs)) ∧ Keep c3 c' j wr w' ∧ rapi.PE (Col c' j) w' u (sdS e bs)) := rapi.sendC c3 j u _ e bs wr H4.out.re hF (H4.out.xb.ne (by omega))
      go_wp2_with (go_at_call 27; refine (HSr.out).mono ?_; rintro r w9 ⟨c9, rfl, k9, p9⟩)
      go_ret
      exact ⟨sdS e bs, tl, tv, c9, by simp, (((HK0.out.trans (KM.of HK2.out (by omega))).trans (KM.of HK3.out (by omega))).trans (KM.of HKr.out (by omega))).trans (KM.of k9 (by omega)), H4.out.stepB k9 p9 (by omega) (by omega) (by omega), fun n hn hl => ⟨hn.send bs, by omega⟩⟩
end Go.Proofs.Ytijjcopglbcoiaa
namespace Go.Proofs.Ytijjcopglbcoiaa
open Go.RowKit Seal

set_option maxRecDepth 100000 in
set_option maxHeartbeats 3200000 in
theorem act_take (A : PApi) (c : Nat → Nat) (i j t : Nat) (hi : i = 1 ∨ i = 2) (hj : j = 3 ∨ j = 4) (v u tv xb : Value) (e : E) (tl : List (List Int)) (bs : List Int) (w : World) (wo dw an : Int) (n N : Nat) (h : AcS A c i j t v u tv xb e e tl bs w) (hfit : FitN N e) (hN : N ≤ 1000) (htl : tl.length ≤ 1000) (g0 : (dw == 0) = false) (g1 : (dw == 1) = false) (g23 : (dw == 2) = true ∨ ((dw == 2) = false ∧ (dw == 3) = true)) :
    Calls Try.prog 13 #[v, u, .agg (acv wo dw an n xb), .pointer (some ⟨t, 0, none⟩)] w (ActOk A c i j t v u xb e tl bs w) := by
  have hF : Fit e := hfit.fit (by omega)
  obtain ⟨xa, xc, hxe, -⟩ := id h.xb
  subst hxe
  obtain ⟨W, hW⟩ : ∃ W, W = w.alloc (.cells (acv wo dw an n (.slice xa bs.length xc)) 33) := ⟨_, rfl⟩
  have K0 : Keep c (tint c w.heap.size 8) 8 w W := by rw [hW]; exact Keep.alloc c 8 w _
  have H0 : Hid (AcS A (tint c w.heap.size 8) i j t v u tv (.slice xa bs.length xc) e e tl bs W) := h.other K0 (by omega) (by omega) (by omega)
  have HK0 : Hid (KM (Mj i j) c (tint c w.heap.size 8) w W) := KM.of K0 (by omega)
  have hbx : W.heap[w.heap.size]? = some (.cells (acv wo dw an n (.slice xa bs.length xc)) 33 (0, 0)) := by rw [hW]; exact heap_alloc_new _ _
  have HBX : Hid (W.heap[w.heap.size]? = some (.cells (acv wo dw an n (.slice xa bs.length xc)) 33 (0, 0)) ∧ tint c w.heap.size 8 w.heap.size = 8) := ⟨hbx, tint_new (Nat.le_refl _)⟩
  have HW : Hid (W = w.alloc (.cells (acv wo dw an n (.slice xa bs.length xc)) 33)) := hW
  obtain ⟨b0, b1, b2, b3, b4, -⟩ := end_cells hbx
  generalize tint c w.heap.size 8 = c0 at H0 HK0 HBX
  clear hW K0 h hbx
  go_enter Try.func13, Try.ntmps13
  go_upto_region 1 with fail
  rw [← HW.out]
  clear HW
  obtain ⟨ta, tk, hte, hta1, hta2⟩ := H0.out.sp.form
  have HT : Hid (tl ≠ [] → ∃ g o, ta = some ⟨g, o, none⟩ ∧ ∀ j, j < tl.length → ∃ u, W.cell? ⟨g, o + j, none⟩ = some u ∧ SlC (Col c0 7) W u (tl.getD j [])) := hta2
  subst hte
  have hto := cell_of_one H0.out.tb
  clear hta2
  by_cases hA : (dw == 2) = true ∧ tl ≠ []
  · obtain ⟨g2, hne⟩ := hA
    have hpos : 0 < tl.length := List.length_pos_iff.2 hne
    obtain ⟨p, hp1, hp2⟩ := place an (tl.length : Int) (by omega) (by omega)
    have hpl : p < tl.length := by omega
    obtain ⟨g, o, hta, hcl⟩ := HT.out hne
    obtain ⟨um, hum, hus⟩ := hcl p hpl
    obtain ⟨m, hm⟩ : ∃ m, m = tl.getD p [] := ⟨_, rfl⟩
    rw [← hm] at hus
    clear hm hcl g23
    have HUS : Hid (SlC (Col c0 7) W um m) := hus
    obtain ⟨ua, uc, rfl, -⟩ := hus
    subst hta
    have hdp : decide ((0 : Int) < (tl.length : Int)) = true := by simp; omega
    go_upto_region 21 with fail
    go_quiet (fail)
    go_upto_region 22 with fail
    have HX : Hid (AcS A c0 i j t v u (.slice (some ⟨g, o, none⟩) tl.length tk) (.slice xa bs.length xc) e e tl bs (W.drewN nq)) := H0.out.drewN nq
    have HSB : Hid (SlC (Col c0 7) (W.drewN nq) (.slice ua m.length uc) m) := HUS.out.carry fun _ _ h => ⟨h, rfl⟩
    have HKX : Hid (KM (Mj i j) c c0 w (W.drewN nq)) := ⟨HK0.out.os, HK0.out.tape, HK0.out.output, HK0.out.size, HK0.out.same⟩
    clear b0 b1 b2 b3 b4 hto hum HUS HT H0 HK0 HBX
    generalize W.drewN nq = wx at HX HSB HKX ⊢
    have HOw : Hid (Owns wx.heap.size (wx.alloc (.cells #[] 5)) (.slice (some ⟨wx.heap.size, 0, none⟩) 0 0) []) := owns_empty wx (Nat.le_refl _)
    have HL1 : Hid (Below wx.heap.size wx (wx.alloc (.cells #[] 5))) := (Below.refl _ _).alloc (Nat.le_refl _) _
    have HS1 : Hid (Sl wx.heap.size (wx.alloc (.cells #[] 5)) (.slice ua m.length uc) m) := HSB.out.sl.on HL1.out
    have HKL : Hid (m.length ≤ 140737488355328 ∧ IsB m) := ⟨HSB.out.len, HSB.out.isB⟩
    go_upto_region 23 with (at_builtin; refine app22 (.tmp 99) (.tmp 100) rfl rfl rfl rfl HOw.out HS1.out (by simp) (by have := HKL.out.1; simp only [List.length_nil]; omega) ?_; intro v2 w2 X2)
    have XX : Ext wx.heap.size (wx.alloc (.cells #[] 5)) (.slice (some ⟨wx.heap.size, 0, none⟩) 0 0) w2 v2 m := X2
    obtain ⟨c2, k2, s2, m2⟩ := mine_own c0 HKL.out.1 HKL.out.2 (HL1.out.trans (XX.below HOw.out (by simp))) XX.own
    have HK2 : Hid (Keep c0 c2 9 wx w2) := k2
    have H2 : Hid (AcS A c2 i j t v u (.slice (some ⟨g, o, none⟩) tl.length tk) (.slice xa bs.length xc) e e tl bs w2) := HX.out.other k2 (by omega) (by omega) (by omega)
    have HSB2 : Hid (SlC (Col c2 7) w2 (.slice ua m.length uc) m) := k2.sl (by omega) HSB.out
    have HS2 : Hid (SlC (Col c2 9) w2 v2 m) := s2
    have HM2 : Hid (Mine c2 w2 v2 m.length) := m2
    clear XX X2 k2 s2 m2 HOw HS1 HL1
    obtain ⟨ma, mk, hme, hmx⟩ := id HM2.out
    subst hme
    clear hmx
    have HSd : Hid (Calls Try.prog 19 #[v, .slice ma m.length mk] w2 fun r w' => ∃ c', r = .returned (.int .i64 (taE m)) ∧ Keep c2 c' i w2 w' ∧ A.PE (Col c' i) w' v (taS e m)) := A.takeC c2 i v _ e m w2 H2.out.pe hF (HS2.out.ne (by omega))
    go_upto_region 24 with (go_at_call 19; refine (HSd.out).mono ?_; rintro r w3 ⟨c3, rfl, k3, p3⟩
                            have HK3 : Hid (Keep c2 c3 i w2 w3) := k3
                            have H3 : Hid (AcS A c3 i j t v u (.slice (some ⟨g, o, none⟩) tl.length tk) (.slice xa bs.length xc) (taS e m) e tl bs w3) := H2.out.stepA k3 p3 (by omega) (by omega) (by omega)
                            have HM3 : Hid (Mine c3 w3 (.slice ma m.length mk) m.length) := HM2.out.keep k3 (by omega)
                            have HSB3 : Hid (SlC (Col c3 7) w3 (.slice ua m.length uc) m) := k3.sl (by omega) HSB2.out
                            clear k3 p3)
    clear HSd HM2 HS2
    have hlen := HKL.out.1
    go_wp2
    go_loopw [18] (fun x wr => ∃ k : Nat, k ≤ m.length ∧ x = .int .i64 k ∧ Mine c3 wr (.slice ma m.length mk) m.length ∧ Keep c3 c3 9 w3 wr) (fun x _ => m.length - (intOf x).toNat)
    case atStart => exact ⟨0, by omega, rfl, HM3.out, Keep.refl _ _ _⟩
    case round =>
      obtain ⟨k, hk, rfl, hm, hkp⟩ := hrel
      have HMr : Hid (Mine c3 wr (.slice ma m.length mk) m.length) := hm
      have HKr : Hid (Keep c3 c3 9 w3 wr) := hkp
      clear hm hkp
      by_cases hlt : k < m.length
      · obtain ⟨g', hma, hcl, hfr, hnx⟩ := HMr.out.at hlt
        obtain ⟨y, hcl, hy0, hy1⟩ := hcl
        subst hma
        have HNX : Hid (∀ z, 0 ≤ z → z < 256 → Mine c3 (wr.setCell ⟨g', k, none⟩ (.int .u8 z)) (.slice (some ⟨g', 0, none⟩) m.length mk) m.length ∧ Keep c3 c3 9 wr (wr.setCell ⟨g', k, none⟩ (.int .u8 z))) := hnx
        clear hnx
        go_wp2
        obtain ⟨z0, z1⟩ := flip_bd hy0 hy1
        obtain ⟨n1, n2⟩ := HNX.out _ z0 z1
        refine ⟨⟨k + 1, by omega, by go_num, n1, HKr.out.trans n2⟩, ?_⟩
        simp [intOf]; omega
      · obtain rfl : k = m.length := by omega
        have H4 : Hid (AcS A c3 i j t v u (.slice (some ⟨g, o, none⟩) tl.length tk) (.slice xa bs.length xc) (taS e m) e tl bs wr) := H3.out.other HKr.out (by omega) (by omega) (by omega)
        have HSB4 : Hid (SlC (Col c3 7) wr (.slice ua m.length uc) m) := HKr.out.sl (by omega) HSB3.out
        have HSr : Hid (Calls Try.prog 29 #[u, (.slice ua m.length uc)] wr fun r w' => ∃ c', r = .returned (.int .i64 (taE m)) ∧ Keep c3 c' j wr w' ∧ rapi.PE (Col c' j) w' u (taS e m)) := rapi.takeC c3 j u _ e m wr H4.out.re hF (HSB4.out.ne (by omega))
        go_wp2_with (go_at_call 29; refine (HSr.out).mono ?_; rintro r w9 ⟨c9, rfl, k9, p9⟩)
        go_ret
        exact ⟨taS e m, tl, (.slice (some ⟨g, o, none⟩) tl.length tk), c9, by simp, (((HKX.out.trans (KM.of HK2.out (by omega))).trans (KM.of HK3.out (by omega))).trans (KM.of HKr.out (by omega))).trans (KM.of k9 (by omega)), H4.out.stepB k9 p9 (by omega) (by omega) (by omega), fun n hn hl => ⟨hn.take HKL.out.2, by omega⟩⟩
  · have hB : ((dw == 2) = true ∧ tl.length = 0) ∨ ((dw == 2) = false ∧ (dw == 3) = true) := by
      rcases g23 with g2 | g3
      · by_cases hne : tl = []
        · exact Or.inl ⟨g2, by rw [hne]; rfl⟩
        · exact absurd ⟨g2, hne⟩ hA
      · exact Or.inr g3
    clear hA g23
    rcases hB with ⟨g2, hl0⟩ | ⟨g2, g3⟩
    · go_upto_region 22 with fail
      have HX : Hid (AcS A c0 i j t v u (.slice ta tl.length tk) (.slice xa bs.length xc) e e tl bs W) := H0.out
      have HSB : Hid (SlC (Col c0 0) W (.slice xa bs.length xc) bs) := H0.out.xb
      have HKX : Hid (KM (Mj i j) c c0 w W) := HK0.out
      clear b0 b1 b2 b3 b4 hto HT H0 HK0 HBX
      have HOw : Hid (Owns W.heap.size (W.alloc (.cells #[] 5)) (.slice (some ⟨W.heap.size, 0, none⟩) 0 0) []) := owns_empty W (Nat.le_refl _)
      have HL1 : Hid (Below W.heap.size W (W.alloc (.cells #[] 5))) := (Below.refl _ _).alloc (Nat.le_refl _) _
      have HS1 : Hid (Sl W.heap.size (W.alloc (.cells #[] 5)) (.slice xa bs.length xc) bs) := HSB.out.sl.on HL1.out
      have HKL : Hid (bs.length ≤ 140737488355328 ∧ IsB bs) := ⟨HSB.out.len, HSB.out.isB⟩
      go_upto_region 23 with (at_builtin; refine app22 (.tmp 99) (.tmp 100) rfl rfl rfl rfl HOw.out HS1.out (by simp) (by have := HKL.out.1; simp only [List.length_nil]; omega) ?_; intro v2 w2 X2)
      have XX : Ext W.heap.size (W.alloc (.cells #[] 5)) (.slice (some ⟨W.heap.size, 0, none⟩) 0 0) w2 v2 bs := X2
      obtain ⟨c2, k2, s2, m2⟩ := mine_own c0 HKL.out.1 HKL.out.2 (HL1.out.trans (XX.below HOw.out (by simp))) XX.own
      have HK2 : Hid (Keep c0 c2 9 W w2) := k2
      have H2 : Hid (AcS A c2 i j t v u (.slice ta tl.length tk) (.slice xa bs.length xc) e e tl bs w2) := HX.out.other k2 (by omega) (by omega) (by omega)
      have HSB2 : Hid (SlC (Col c2 0) w2 (.slice xa bs.length xc) bs) := k2.sl (by omega) HSB.out
      have HS2 : Hid (SlC (Col c2 9) w2 v2 bs) := s2
      have HM2 : Hid (Mine c2 w2 v2 bs.length) := m2
      clear XX X2 k2 s2 m2 HOw HS1 HL1
      obtain ⟨ma, mk, hme, hmx⟩ := id HM2.out
      subst hme
      clear hmx
      have HSd : Hid (Calls Try.prog 19 #[v, .slice ma bs.length mk] w2 fun r w' => ∃ c', r = .returned (.int .i64 (taE bs)) ∧ Keep c2 c' i w2 w' ∧ A.PE (Col c' i) w' v (taS e bs)) := A.takeC c2 i v _ e bs w2 H2.out.pe hF (HS2.out.ne (by omega))
      go_upto_region 24 with (go_at_call 19; refine (HSd.out).mono ?_; rintro r w3 ⟨c3, rfl, k3, p3⟩
                              have HK3 : Hid (Keep c2 c3 i w2 w3) := k3
                              have H3 : Hid (AcS A c3 i j t v u (.slice ta tl.length tk) (.slice xa bs.length xc) (taS e bs) e tl bs w3) := H2.out.stepA k3 p3 (by omega) (by omega) (by omega)
                              have HM3 : Hid (Mine c3 w3 (.slice ma bs.length mk) bs.length) := HM2.out.keep k3 (by omega)
                              have HSB3 : Hid (SlC (Col c3 0) w3 (.slice xa bs.length xc) bs) := k3.sl (by omega) HSB2.out
                              clear k3 p3)
      clear HSd HM2 HS2
      have hlen := HKL.out.1
      go_wp2
      go_loopw [18] (fun x wr => ∃ k : Nat, k ≤ bs.length ∧ x = .int .i64 k ∧ Mine c3 wr (.slice ma bs.length mk) bs.length ∧ Keep c3 c3 9 w3 wr) (fun x _ => bs.length - (intOf x).toNat)
      case atStart => exact ⟨0, by omega, rfl, HM3.out, Keep.refl _ _ _⟩
      case round =>
        obtain ⟨k, hk, rfl, hm, hkp⟩ := hrel
        have HMr : Hid (Mine c3 wr (.slice ma bs.length mk) bs.length) := hm
        have HKr : Hid (Keep c3 c3 9 w3 wr) := hkp
        clear hm hkp
        by_cases hlt : k < bs.length
        · obtain ⟨g', hma, hcl, hfr, hnx⟩ := HMr.out.at hlt
          obtain ⟨y, hcl, hy0, hy1⟩ := hcl
          subst hma
          have HNX : Hid (∀ z, 0 ≤ z → z < 256 → Mine c3 (wr.setCell ⟨g', k, none⟩ (.int .u8 z)) (.slice (some ⟨g', 0, none⟩) bs.length mk) bs.length ∧ Keep c3 c3 9 wr (wr.setCell ⟨g', k, none⟩ (.int .u8 z))) := hnx
          clear hnx
          go_wp2
          obtain ⟨z0, z1⟩ := flip_bd hy0 hy1
          obtain ⟨n1, n2⟩ := HNX.out _ z0 z1
          refine ⟨⟨k + 1, by omega, by go_num, n1, HKr.out.trans n2⟩, ?_⟩
          simp [intOf]; omega
        · obtain rfl : k = bs.length := by omega
          have H4 : Hid (AcS A c3 i j t v u (.slice ta tl.length tk) (.slice xa bs.length xc) (taS e bs) e tl bs wr) := H3.out.other HKr.out (by omega) (by omega) (by omega)
          have HSB4 : Hid (SlC (Col c3 0) wr (.slice xa bs.length xc) bs) := HKr.out.sl (by omega) HSB3.out
          have HSr : Hid (Calls Try.prog 29 #[u, (.slice xa bs.length xc)] wr fun r w' => ∃ c', r = .returned (.int .i64 (taE bs)) ∧ Keep c3 c' j wr w' ∧ rapi.PE (Col c' j) w' u (taS e bs)) := rapi.takeC c3 j u _ e bs wr H4.out.re hF (HSB4.out.ne (by omega))
          go_wp2_with (go_at_call 29; refine (HSr.out).mono ?_; rintro r w9 ⟨c9, rfl, k9, p9⟩)
          go_ret
          exact ⟨taS e bs, tl, (.slice ta tl.length tk), c9, by simp, (((HKX.out.trans (KM.of HK2.out (by omega))).trans (KM.of HK3.out (by omega))).trans (KM.of HKr.out (by omega))).trans (KM.of k9 (by omega)), H4.out.stepB k9 p9 (by omega) (by omega) (by omega), fun n hn hl => ⟨hn.take HKL.out.2, by omega⟩⟩
    · go_upto_region 22 with fail
      have HX : Hid (AcS A c0 i j t v u (.slice ta tl.length tk) (.slice xa bs.length xc) e e tl bs W) := H0.out
      have HSB : Hid (SlC (Col c0 0) W (.slice xa bs.length xc) bs) := H0.out.xb
      have HKX : Hid (KM (Mj i j) c c0 w W) := HK0.out
      clear b0 b1 b2 b3 b4 hto HT H0 HK0 HBX
      have HOw : Hid (Owns W.heap.size (W.alloc (.cells #[] 5)) (.slice (some ⟨W.heap.size, 0, none⟩) 0 0) []) := owns_empty W (Nat.le_refl _)
      have HL1 : Hid (Below W.heap.size W (W.alloc (.cells #[] 5))) := (Below.refl _ _).alloc (Nat.le_refl _) _
      have HS1 : Hid (Sl W.heap.size (W.alloc (.cells #[] 5)) (.slice xa bs.length xc) bs) := HSB.out.sl.on HL1.out
      have HKL : Hid (bs.length ≤ 140737488355328 ∧ IsB bs) := ⟨HSB.out.len, HSB.out.isB⟩
      go_upto_region 23 with (at_builtin; refine app22 (.tmp 99) (.tmp 100) rfl rfl rfl rfl HOw.out HS1.out (by simp) (by have := HKL.out.1; simp only [List.length_nil]; omega) ?_; intro v2 w2 X2)
      have XX : Ext W.heap.size (W.alloc (.cells #[] 5)) (.slice (some ⟨W.heap.size, 0, none⟩) 0 0) w2 v2 bs := X2
      obtain ⟨c2, k2, s2, m2⟩ := mine_own c0 HKL.out.1 HKL.out.2 (HL1.out.trans (XX.below HOw.out (by simp))) XX.own
      have HK2 : Hid (Keep c0 c2 9 W w2) := k2
      have H2 : Hid (AcS A c2 i j t v u (.slice ta tl.length tk) (.slice xa bs.length xc) e e tl bs w2) := HX.out.other k2 (by omega) (by omega) (by omega)
      have HSB2 : Hid (SlC (Col c2 0) w2 (.slice xa bs.length xc) bs) := k2.sl (by omega) HSB.out
      have HS2 : Hid (SlC (Col c2 9) w2 v2 bs) := s2
      have HM2 : Hid (Mine c2 w2 v2 bs.length) := m2
      clear XX X2 k2 s2 m2 HOw HS1 HL1
      obtain ⟨ma, mk, hme, hmx⟩ := id HM2.out
      subst hme
      clear hmx
      have HSd : Hid (Calls Try.prog 19 #[v, .slice ma bs.length mk] w2 fun r w' => ∃ c', r = .returned (.int .i64 (taE bs)) ∧ Keep c2 c' i w2 w' ∧ A.PE (Col c' i) w' v (taS e bs)) := A.takeC c2 i v _ e bs w2 H2.out.pe hF (HS2.out.ne (by omega))
      go_upto_region 24 with (go_at_call 19; refine (HSd.out).mono ?_; rintro r w3 ⟨c3, rfl, k3, p3⟩
                              have HK3 : Hid (Keep c2 c3 i w2 w3) := k3
                              have H3 : Hid (AcS A c3 i j t v u (.slice ta tl.length tk) (.slice xa bs.length xc) (taS e bs) e tl bs w3) := H2.out.stepA k3 p3 (by omega) (by omega) (by omega)
                              have HM3 : Hid (Mine c3 w3 (.slice ma bs.length mk) bs.length) := HM2.out.keep k3 (by omega)
                              have HSB3 : Hid (SlC (Col c3 0) w3 (.slice xa bs.length xc) bs) := k3.sl (by omega) HSB2.out
                              clear k3 p3)
      clear HSd HM2 HS2
      have hlen := HKL.out.1
      go_wp2
      go_loopw [18] (fun x wr => ∃ k : Nat, k ≤ bs.length ∧ x = .int .i64 k ∧ Mine c3 wr (.slice ma bs.length mk) bs.length ∧ Keep c3 c3 9 w3 wr) (fun x _ => bs.length - (intOf x).toNat)
      case atStart => exact ⟨0, by omega, rfl, HM3.out, Keep.refl _ _ _⟩
      case round =>
        obtain ⟨k, hk, rfl, hm, hkp⟩ := hrel
        have HMr : Hid (Mine c3 wr (.slice ma bs.length mk) bs.length) := hm
        have HKr : Hid (Keep c3 c3 9 w3 wr) := hkp
        clear hm hkp
        by_cases hlt : k < bs.length
        · obtain ⟨g', hma, hcl, hfr, hnx⟩ := HMr.out.at hlt
          obtain ⟨y, hcl, hy0, hy1⟩ := hcl
          subst hma
          have HNX : Hid (∀ z, 0 ≤ z → z < 256 → Mine c3 (wr.setCell ⟨g', k, none⟩ (.int .u8 z)) (.slice (some ⟨g', 0, none⟩) bs.length mk) bs.length ∧ Keep c3 c3 9 wr (wr.setCell ⟨g', k, none⟩ (.int .u8 z))) := hnx
          clear hnx
          go_wp2
          obtain ⟨z0, z1⟩ := flip_bd hy0 hy1
          obtain ⟨n1, n2⟩ := HNX.out _ z0 z1
          refine ⟨⟨k + 1, by omega, by go_num, n1, HKr.out.trans n2⟩, ?_⟩
          simp [intOf]; omega
        · obtain rfl : k = bs.length := by omega
          have H4 : Hid (AcS A c3 i j t v u (.slice ta tl.length tk) (.slice xa bs.length xc) (taS e bs) e tl bs wr) := H3.out.other HKr.out (by omega) (by omega) (by omega)
          have HSB4 : Hid (SlC (Col c3 0) wr (.slice xa bs.length xc) bs) := HKr.out.sl (by omega) HSB3.out
          have HSr : Hid (Calls Try.prog 29 #[u, (.slice xa bs.length xc)] wr fun r w' => ∃ c', r = .returned (.int .i64 (taE bs)) ∧ Keep c3 c' j wr w' ∧ rapi.PE (Col c' j) w' u (taS e bs)) := rapi.takeC c3 j u _ e bs wr H4.out.re hF (HSB4.out.ne (by omega))
          go_wp2_with (go_at_call 29; refine (HSr.out).mono ?_; rintro r w9 ⟨c9, rfl, k9, p9⟩)
          go_ret
          exact ⟨taS e bs, tl, (.slice ta tl.length tk), c9, by simp, (((HKX.out.trans (KM.of HK2.out (by omega))).trans (KM.of HK3.out (by omega))).trans (KM.of HKr.out (by omega))).trans (KM.of k9 (by omega)), H4.out.stepB k9 p9 (by omega) (by omega) (by omega), fun n hn hl => ⟨hn.take HKL.out.2, by omega⟩⟩
end Go.Proofs.Ytijjcopglbcoiaa
