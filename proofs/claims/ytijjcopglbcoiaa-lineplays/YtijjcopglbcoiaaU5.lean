/-
  Proved here: an act of tollbridgelaw06, where it sends. Conditions: the seven functions serve ends; the numbers are those behind fewer than 100000 acts.
-/
import Derived.Test.YtijjcopglbcoiaaU0
import Derived.Deep.CutBlock
import Derived.Deep.DeepCutAuto
import Derived.Deep.RegionLaw
import Derived.BigQuiet
namespace Go.Proofs.Ytijjcopglbcoiaa
open Go.RowKit Seal

set_option maxRecDepth 100000 in
set_option maxHeartbeats 3200000 in
theorem act_send (A : PApi) (c : Nat → Nat) (i j t : Nat) (hi : i = 1 ∨ i = 2) (hj : j = 3 ∨ j = 4) (v u tv xb : Value) (e : E) (tl : List (List Int)) (bs : List Int) (w : World) (wo dw an : Int) (n N : Nat) (h : AcS A c i j t v u tv xb e e tl bs w) (hfit : FitN N e) (hN : N ≤ 1000) (g0 : (dw == 0) = true) :
    Calls Try.prog 13 #[v, u, .agg (acv wo dw an n xb), .pointer (some ⟨t, 0, none⟩)] w (ActOk A c i j t v u xb e tl bs w) := by
  have hF : Fit e := hfit.fit (by omega)
  obtain ⟨xa, xc, hxe, -⟩ := id h.xb
  subst hxe
  obtain ⟨W, hW⟩ : ∃ W, W = w.alloc (.cells (acv wo dw an n (.slice xa bs.length xc)) 33) := ⟨_, rfl⟩
  have K0 : Keep c (tint c w.heap.size 8) 8 w W := by rw [hW]; exact Keep.alloc c 8 w _
  have H0 : Hid (AcS A (tint c w.heap.size 8) i j t v u tv (.slice xa bs.length xc) e e tl bs W) := h.other K0 (by omega) (by omega) (by omega)
  have HK0 : Hid (KM (Mj i j) c (tint c w.heap.size 8) w W) := KM.of K0 (by omega)
  have hbx : W.heap[w.heap.size]? = some (.cells (acv wo dw an n (.slice xa bs.length xc)) 33 (0, 0)) := by rw [hW]; exact heap_alloc_new _ _
  have HBX : Hid (W.heap[w.heap.size]? = some (.cells (acv wo dw an n (.slice xa bs.length xc)) 33 (0, 0)) ∧ tint c w.heap.size 8 w.heap.size = 8) := ⟨hbx, tint_new (Nat.le_refl _)⟩
  have HW : Hid (W = w.alloc (.cells (acv wo dw an n (.slice xa bs.length xc)) 33)) := hW
  obtain ⟨b0, b1, b2, b3, b4, -⟩ := end_cells hbx
  generalize tint c w.heap.size 8 = c0 at H0 HK0 HBX
  clear hW K0 h hbx
  go_enter Try.func13, Try.ntmps13
  go_upto_region 1 with fail
  rw [← HW.out]
  clear HW
  have l1 : Below W.heap.size W (W.alloc (.cells #[] 5)) := (Below.refl _ _).alloc (Nat.le_refl _) _
  have HL1 : Hid (Below W.heap.size W (W.alloc (.cells #[] 5))) := l1
  have HOw : Hid (Owns W.heap.size (W.alloc (.cells #[] 5)) (.slice (some ⟨W.heap.size, 0, none⟩) 0 0) []) := owns_empty W (Nat.le_refl _)
  have HS1 : Hid (Sl W.heap.size (W.alloc (.cells #[] 5)) (.slice xa bs.length xc) bs) := H0.out.xb.sl.on l1
  have HKL : Hid (bs.length ≤ 140737488355328 ∧ IsB bs) := ⟨H0.out.xb.len, H0.out.xb.isB⟩
  have q4 : (W.alloc (.cells #[] 5)).cell? ⟨w.heap.size, 4, none⟩ = some (.slice xa bs.length xc) := by
    rw [cell_same (heap_alloc_old _ _ (Array.getElem?_eq_some_iff.1 HBX.out.1).1)]; exact b4
  clear l1
  go_upto_region 4 with (at_builtin; refine app22 (.tmp 23) (.tmp 25) rfl rfl rfl rfl HOw.out HS1.out (by simp) (by have := HKL.out.1; simp only [List.length_nil]; omega) ?_; intro v2 w2 X2)
  have X : Ext W.heap.size (W.alloc (.cells #[] 5)) (.slice (some ⟨W.heap.size, 0, none⟩) 0 0) w2 v2 bs := X2
  obtain ⟨c2, k2, s2, m2⟩ := mine_own c0 HKL.out.1 HKL.out.2 (HL1.out.trans (X.below HOw.out (by simp))) X.own
  have HK2 : Hid (Keep c0 c2 9 W w2) := k2
  have H2 : Hid (AcS A c2 i j t v u tv (.slice xa bs.length xc) e e tl bs w2) := H0.out.other k2 (by omega) (by omega) (by omega)
  have HS2 : Hid (SlC (Col c2 9) w2 v2 bs) := s2
  have HM2 : Hid (Mine c2 w2 v2 bs.length) := m2
  have HB2 : Hid (w2.heap[w.heap.size]? = some (.cells (acv wo dw an n (.slice xa bs.length xc)) 33 (0, 0)) ∧ c2 w.heap.size = 8) := by
    have := k2.same _ (Array.getElem?_eq_some_iff.1 HBX.out.1).1 (by rw [HBX.out.2]; omega)
    exact ⟨by rw [this.2]; exact HBX.out.1, by rw [this.1]; exact HBX.out.2⟩
  clear X X2 k2 s2 m2 HOw HS1 HL1 b0 b1 b2 b3 b4 q4
  obtain ⟨ma, mk, hme, hmx⟩ := id HM2.out
  subst hme
  clear hmx
  have HSd : Hid (Calls Try.prog 18 #[v, .slice ma bs.length mk] w2 fun r w' => ∃ c', r = .returned (.int .i64 (sdE e bs)) ∧ Keep c2 c' i w2 w' ∧ A.PE (Col c' i) w' v (sdS e bs)) := A.sendC c2 i v _ e bs w2 H2.out.pe hF (HS2.out.ne (by omega))
  go_upto_region 5 with (go_at_call 18; refine (HSd.out).mono ?_; rintro r w3 ⟨c3, rfl, k3, p3⟩
                         have HK3 : Hid (Keep c2 c3 i w2 w3) := k3
                         have H3 : Hid (AcS A c3 i j t v u tv (.slice xa bs.length xc) (sdS e bs) e tl bs w3) := H2.out.stepA k3 p3 (by omega) (by omega) (by omega)
                         have HM3 : Hid (Mine c3 w3 (.slice ma bs.length mk) bs.length) := HM2.out.keep k3 (by omega)
                         have HB3 : Hid (w3.heap[w.heap.size]? = some (.cells (acv wo dw an n (.slice xa bs.length xc)) 33 (0, 0)) ∧ c3 w.heap.size = 8) := by
                           have := k3.same _ (Array.getElem?_eq_some_iff.1 HB2.out.1).1 (by rw [HB2.out.2]; omega)
                           exact ⟨by rw [this.2]; exact HB2.out.1, by rw [this.1]; exact HB2.out.2⟩
                         clear k3 p3)
  clear HSd HM2 HB2 HS2
  have hlen := HKL.out.1
  go_wp2
  go_loopw [11] (fun x wr => ∃ k : Nat, k ≤ bs.length ∧ x = .int .i64 k ∧ Mine c3 wr (.slice ma bs.length mk) bs.length ∧ Keep c3 c3 9 w3 wr) (fun x _ => bs.length - (intOf x).toNat)
  case atStart => exact ⟨0, by omega, rfl, HM3.out, Keep.refl _ _ _⟩
  case round =>
    obtain ⟨k, hk, rfl, hm, hkp⟩ := hrel
    have HMr : Hid (Mine c3 wr (.slice ma bs.length mk) bs.length) := hm
    have HKr : Hid (Keep c3 c3 9 w3 wr) := hkp
    clear hm hkp
    by_cases hlt : k < bs.length
    · obtain ⟨g, hma, hcl, hfr, hnx⟩ := HMr.out.at hlt
      obtain ⟨y, hcl, hy0, hy1⟩ := hcl
      subst hma
      have HNX : Hid (∀ z, 0 ≤ z → z < 256 → Mine c3 (wr.setCell ⟨g, k, none⟩ (.int .u8 z)) (.slice (some ⟨g, 0, none⟩) bs.length mk) bs.length ∧ Keep c3 c3 9 wr (wr.setCell ⟨g, k, none⟩ (.int .u8 z))) := hnx
      clear hnx
      go_wp2
      obtain ⟨z0, z1⟩ := flip_bd hy0 hy1
      obtain ⟨n1, n2⟩ := HNX.out _ z0 z1
      refine ⟨⟨k + 1, by omega, by go_num, n1, HKr.out.trans n2⟩, ?_⟩
      simp [intOf]; omega
    · obtain rfl : k = bs.length := by omega
      have H4 : Hid (AcS A c3 i j t v u tv (.slice xa bs.length xc) (sdS e bs) e tl bs wr) := H3.out.other HKr.out (by omega) (by omega) (by omega)
      have HB4 : wr.heap[w.heap.size]? = some (.cells (acv wo dw an n (.slice xa bs.length xc)) 33 (0, 0)) := by
        rw [(HKr.out.same _ (Array.getElem?_eq_some_iff.1 HB3.out.1).1 (by rw [HB3.out.2]; omega)).2]; exact HB3.out.1
      obtain ⟨b0, b1, b2, b3, b4, -⟩ := end_cells HB4
      clear HB4
      have HSr : Hid (Calls Try.prog 27 #[u, .slice xa bs.length xc] wr fun r w' => ∃ c', r = .returned (.int .i64 (sdE e bs)) ∧ Keep c3 c' j wr w' ∧ rapi.PE (Col c' j) w' u (sdS e bs)) := rapi.sendC c3 j u _ e bs wr H4.out.re hF (H4.out.xb.ne (by omega))
      go_wp2_with (go_at_call 27; refine (HSr.out).mono ?_; rintro r w9 ⟨c9, rfl, k9, p9⟩)
      go_ret
      exact ⟨sdS e bs, tl, tv, c9, by simp, (((HK0.out.trans (KM.of HK2.out (by omega))).trans (KM.of HK3.out (by omega))).trans (KM.of HKr.out (by omega))).trans (KM.of k9 (by omega)), H4.out.stepB k9 p9 (by omega) (by omega) (by omega), fun n hn hl => ⟨hn.send bs, by omega⟩⟩
end Go.Proofs.Ytijjcopglbcoiaa
