/-
  Proved here: an act of tollbridgelaw06, where it asks Left. Conditions: the seven functions serve ends; the numbers are those behind fewer than 100000 acts.
  Proved here: an act of tollbridgelaw06, where it resets. Conditions: the seven functions serve ends; the numbers are those behind fewer than 100000 acts.
  Proved here: an act of tollbridgelaw06, where it asks what came. Conditions: the seven functions serve ends; the numbers are those behind fewer than 100000 acts.
-/
import Derived.Test.YtijjcopglbcoiaaU0
import Derived.Deep.CutBlock
import Derived.Deep.DeepCutAuto
import Derived.Deep.RegionLaw
import Derived.BigQuiet
namespace Go.Proofs.Ytijjcopglbcoiaa
open Go.RowKit Seal

set_option maxRecDepth 100000 in
set_option maxHeartbeats 3200000 in
theorem act_left (A : PApi) (c : Nat → Nat) (i j t : Nat) (hi : i = 1 ∨ i = 2) (hj : j = 3 ∨ j = 4) (v u tv xb : Value) (e : E) (tl : List (List Int)) (bs : List Int) (w : World) (wo dw an : Int) (n N : Nat) (h : AcS A c i j t v u tv xb e e tl bs w) (hfit : FitN N e) (hN : N ≤ 1000) (g0 : (dw == 0) = false) (g1 : (dw == 1) = false) (g2 : (dw == 2) = false) (g3 : (dw == 3) = false) (g4 : (dw == 4) = false) (g5 : (dw == 5) = false) :
    Calls Try.prog 13 #[v, u, .agg (acv wo dw an n xb), .pointer (some ⟨t, 0, none⟩)] w (ActOk A c i j t v u xb e tl bs w) := by
  have hF : Fit e := hfit.fit (by omega)
  obtain ⟨xa, xc, hxe, -⟩ := id h.xb
  subst hxe
  obtain ⟨W, hW⟩ : ∃ W, W = w.alloc (.cells (acv wo dw an n (.slice xa bs.length xc)) 33) := ⟨_, rfl⟩
  have K0 : Keep c (tint c w.heap.size 8) 8 w W := by rw [hW]; exact Keep.alloc c 8 w _
  have H0 : Hid (AcS A (tint c w.heap.size 8) i j t v u tv (.slice xa bs.length xc) e e tl bs W) := h.other K0 (by omega) (by omega) (by omega)
  have HK0 : Hid (KM (Mj i j) c (tint c w.heap.size 8) w W) := KM.of K0 (by omega)
  have hbx : W.heap[w.heap.size]? = some (.cells (acv wo dw an n (.slice xa bs.length xc)) 33 (0, 0)) := by rw [hW]; exact heap_alloc_new _ _
  have HBX : Hid (W.heap[w.heap.size]? = some (.cells (acv wo dw an n (.slice xa bs.length xc)) 33 (0, 0)) ∧ tint c w.heap.size 8 w.heap.size = 8) := ⟨hbx, tint_new (Nat.le_refl _)⟩
  have HW : Hid (W = w.alloc (.cells (acv wo dw an n (.slice xa bs.length xc)) 33)) := hW
  obtain ⟨b0, b1, b2, b3, b4, -⟩ := end_cells hbx
  generalize tint c w.heap.size 8 = c0 at H0 HK0 HBX
  clear hW K0 h hbx
  go_enter Try.func13, Try.ntmps13
  go_upto_region 1 with fail
  rw [← HW.out]
  clear HW
  go_upto_region 34 with fail
  have HL1 : Hid (Calls Try.prog 21 #[v] W fun r w' => ∃ c', r = .returned (.int .i64 (e.sent.length : Nat)) ∧ Keep c0 c' i W w' ∧ A.PE (Col c' i) w' v e) := A.leftC c0 i v e W H0.out.pe hF
  go_wp2_with (first
    | (go_at_call 31; refine (rapi.leftC c1 j u e w1 H1.out.re hF).mono ?_; rintro r w2 ⟨c2, rfl, k2, p2⟩)
    | (go_at_call 21; refine (HL1.out).mono ?_; rintro r w1 ⟨c1, rfl, k1, p1⟩; have HK1 : Hid (Keep c0 c1 i W w1) := k1; have H1 : Hid (AcS A c1 i j t v u tv (.slice xa bs.length xc) e e tl bs w1) := H0.out.stepA k1 p1 (by omega) (by omega) (by omega); clear k1 p1))
  go_ret
  have h2 := H1.out.stepB k2 p2 (by omega) (by omega) (by omega)
  exact ⟨e, tl, tv, c2, by simp, (HK0.out.trans (KM.of HK1.out (by omega))).trans (KM.of k2 (by omega)), h2, fun n hn hl => ⟨hn.next, by omega⟩⟩
end Go.Proofs.Ytijjcopglbcoiaa
namespace Go.Proofs.Ytijjcopglbcoiaa
open Go.RowKit Seal

set_option maxRecDepth 100000 in
set_option maxHeartbeats 3200000 in
theorem act_reset (A : PApi) (c : Nat → Nat) (i j t : Nat) (hi : i = 1 ∨ i = 2) (hj : j = 3 ∨ j = 4) (v u tv xb : Value) (e : E) (tl : List (List Int)) (bs : List Int) (w : World) (wo dw an : Int) (n N : Nat) (h : AcS A c i j t v u tv xb e e tl bs w) (hfit : FitN N e) (hN : N ≤ 1000) (hn32 : n < 4294967296) (g0 : (dw == 0) = false) (g1 : (dw == 1) = false) (g2 : (dw == 2) = false) (g3 : (dw == 3) = false) (g4 : (dw == 4) = false) (g5 : (dw == 5) = true) :
    Calls Try.prog 13 #[v, u, .agg (acv wo dw an n xb), .pointer (some ⟨t, 0, none⟩)] w (ActOk A c i j t v u xb e tl bs w) := by
  have hF : Fit e := hfit.fit (by omega)
  obtain ⟨xa, xc, hxe, -⟩ := id h.xb
  subst hxe
  obtain ⟨W, hW⟩ : ∃ W, W = w.alloc (.cells (acv wo dw an n (.slice xa bs.length xc)) 33) := ⟨_, rfl⟩
  have K0 : Keep c (tint c w.heap.size 8) 8 w W := by rw [hW]; exact Keep.alloc c 8 w _
  have H0 : Hid (AcS A (tint c w.heap.size 8) i j t v u tv (.slice xa bs.length xc) e e tl bs W) := h.other K0 (by omega) (by omega) (by omega)
  have HK0 : Hid (KM (Mj i j) c (tint c w.heap.size 8) w W) := KM.of K0 (by omega)
  have hbx : W.heap[w.heap.size]? = some (.cells (acv wo dw an n (.slice xa bs.length xc)) 33 (0, 0)) := by rw [hW]; exact heap_alloc_new _ _
  have HBX : Hid (W.heap[w.heap.size]? = some (.cells (acv wo dw an n (.slice xa bs.length xc)) 33 (0, 0)) ∧ tint c w.heap.size 8 w.heap.size = 8) := ⟨hbx, tint_new (Nat.le_refl _)⟩
  have HW : Hid (W = w.alloc (.cells (acv wo dw an n (.slice xa bs.length xc)) 33)) := hW
  obtain ⟨b0, b1, b2, b3, b4, -⟩ := end_cells hbx
  generalize tint c w.heap.size 8 = c0 at H0 HK0 HBX
  clear hW K0 h hbx
  go_enter Try.func13, Try.ntmps13
  go_upto_region 1 with fail
  rw [← HW.out]
  clear HW
  go_upto_region 32 with fail
  have HR1 : Hid (Calls Try.prog 17 #[v, .int .u32 (n : Nat)] W fun r w' => ∃ c', r = .returned (.tuple #[]) ∧ Keep c0 c' i W w' ∧ A.PE (Col c' i) w' v (E.mk0 n)) := A.resetC c0 i n v e W H0.out.pe hn32
  go_upto_region 33 with (go_at_call 17; refine (HR1.out).mono ?_; rintro r w1 ⟨c1, rfl, k1, p1⟩; have HK1 : Hid (Keep c0 c1 i W w1) := k1; have H1 : Hid (AcS A c1 i j t v u tv (.slice xa bs.length xc) (E.mk0 n) e tl bs w1) := H0.out.stepA k1 p1 (by omega) (by omega) (by omega); clear k1 p1)
  have hb1 : w1.heap[w.heap.size]? = some (.cells (acv wo dw an n (.slice xa bs.length xc)) 33 (0, 0)) := by
    rw [(HK1.out.same _ (Array.getElem?_eq_some_iff.1 HBX.out.1).1 (by rw [HBX.out.2]; omega)).2]; exact HBX.out.1
  clear b0 b1 b2 b3 b4 HR1
  obtain ⟨b0, b1, b2, b3, b4, -⟩ := end_cells hb1
  clear hb1
  have HR2 : Hid (Calls Try.prog 30 #[u, .int .u32 (n : Nat)] w1 fun r w' => ∃ c', r = .returned (.tuple #[]) ∧ Keep c1 c' j w1 w' ∧ rapi.PE (Col c' j) w' u (E.mk0 n)) := rapi.resetC c1 j n u e w1 H1.out.re hn32
  go_upto_region 34 with (go_at_call 30; refine (HR2.out).mono ?_; rintro r w2 ⟨c2, rfl, k2, p2⟩; have HK2 : Hid (Keep c1 c2 j w1 w2) := k2; have H2 : Hid (AcS A c2 i j t v u tv (.slice xa bs.length xc) (E.mk0 n) (E.mk0 n) tl bs w2) := H1.out.stepB k2 p2 (by omega) (by omega) (by omega); clear k2 p2)
  clear b0 b1 b2 b3 b4 HR2
  have hF2 : Fit (E.mk0 n) := (FitN.mk0 0 n hn32).fit (by omega)
  have HL1 : Hid (Calls Try.prog 21 #[v] w2 fun r w' => ∃ c', r = .returned (.int .i64 ((E.mk0 n).sent.length : Nat)) ∧ Keep c2 c' i w2 w' ∧ A.PE (Col c' i) w' v (E.mk0 n)) := A.leftC c2 i v (E.mk0 n) w2 H2.out.pe hF2
  go_wp2_with (first
    | (go_at_call 31; refine (rapi.leftC c8 j u (E.mk0 n) w8 H8.out.re hF2).mono ?_; rintro r w9 ⟨c9, rfl, k9, p9⟩)
    | (go_at_call 21; refine (HL1.out).mono ?_; rintro r w8 ⟨c8, rfl, k8, p8⟩; have HK8 : Hid (Keep c2 c8 i w2 w8) := k8; have H8 : Hid (AcS A c8 i j t v u tv (.slice xa bs.length xc) (E.mk0 n) (E.mk0 n) tl bs w8) := H2.out.stepA k8 p8 (by omega) (by omega) (by omega); clear k8 p8))
  go_ret
  have h9 := H8.out.stepB k9 p9 (by omega) (by omega) (by omega)
  exact ⟨(E.mk0 n), tl, tv, c9, by simp, (((HK0.out.trans (KM.of HK1.out (by omega))).trans (KM.of HK2.out (by omega))).trans (KM.of HK8.out (by omega))).trans (KM.of k9 (by omega)), h9, fun _ _ hl => ⟨FitN.mk0 _ n hn32, by omega⟩⟩
end Go.Proofs.Ytijjcopglbcoiaa
namespace Go.Proofs.Ytijjcopglbcoiaa
open Go.RowKit Seal

set_option maxRecDepth 100000 in
set_option maxHeartbeats 3200000 in
theorem act_came (A : PApi) (c : Nat → Nat) (i j t : Nat) (hi : i = 1 ∨ i = 2) (hj : j = 3 ∨ j = 4) (v u tv xb : Value) (e : E) (tl : List (List Int)) (bs : List Int) (w : World) (wo dw an : Int) (n N : Nat) (h : AcS A c i j t v u tv xb e e tl bs w) (hfit : FitN N e) (hN : N ≤ 1000) (g0 : (dw == 0) = false) (g1 : (dw == 1) = false) (g2 : (dw == 2) = false) (g3 : (dw == 3) = false) (g4 : (dw == 4) = true) :
    Calls Try.prog 13 #[v, u, .agg (acv wo dw an n xb), .pointer (some ⟨t, 0, none⟩)] w (ActOk A c i j t v u xb e tl bs w) := by
  have hF : Fit e := hfit.fit (by omega)
  obtain ⟨xa, xc, hxe, -⟩ := id h.xb
  subst hxe
  obtain ⟨W, hW⟩ : ∃ W, W = w.alloc (.cells (acv wo dw an n (.slice xa bs.length xc)) 33) := ⟨_, rfl⟩
  have K0 : Keep c (tint c w.heap.size 8) 8 w W := by rw [hW]; exact Keep.alloc c 8 w _
  have H0 : Hid (AcS A (tint c w.heap.size 8) i j t v u tv (.slice xa bs.length xc) e e tl bs W) := h.other K0 (by omega) (by omega) (by omega)
  have HK0 : Hid (KM (Mj i j) c (tint c w.heap.size 8) w W) := KM.of K0 (by omega)
  have hbx : W.heap[w.heap.size]? = some (.cells (acv wo dw an n (.slice xa bs.length xc)) 33 (0, 0)) := by rw [hW]; exact heap_alloc_new _ _
  have HBX : Hid (W.heap[w.heap.size]? = some (.cells (acv wo dw an n (.slice xa bs.length xc)) 33 (0, 0)) ∧ tint c w.heap.size 8 w.heap.size = 8) := ⟨hbx, tint_new (Nat.le_refl _)⟩
  have HW : Hid (W = w.alloc (.cells (acv wo dw an n (.slice xa bs.length xc)) 33)) := hW
  obtain ⟨b0, b1, b2, b3, b4, -⟩ := end_cells hbx
  generalize tint c w.heap.size 8 = c0 at H0 HK0 HBX
  clear hW K0 h hbx
  go_enter Try.func13, Try.ntmps13
  go_upto_region 1 with fail
  rw [← HW.out]
  clear HW
  go_upto_region 30 with fail
  have HC1 : Hid (Calls Try.prog 15 #[v] W fun x w' => ∃ u' c', x = .returned u' ∧ Keep c0 c' i W w' ∧ A.PE (Col c' i) w' v (cmS e) ∧ Ls (Col c' 9) w' u' e.new) := A.cameC c0 i 9 v e W H0.out.pe hF
  go_wp2_with (first
    | (go_at_call 14; refine (HAL.out).mono ?_; rintro r w3 ⟨rfl, hb3⟩)
    | (go_at_call 16; refine (rapi.cameC c1 j 8 u e w1 H1.out.re hF).mono ?_; rintro r w2 ⟨u2, c2, rfl, k2, p2, l2⟩
       have HK2 : Hid (Keep c1 c2 j w1 w2) := k2
       have H2 : Hid (AcS A c2 i j t v u tv (.slice xa bs.length xc) (cmS e) (cmS e) tl bs w2) := H1.out.stepB k2 p2 (by omega) (by omega) (by omega)
       have HAL : Hid (Calls Try.prog 14 #[u1, u2] w2 fun r w' => r = .returned (.bool true) ∧ Below w2.heap.size w2 w') := all_same _ _ u1 u2 e.new w2 (k2.ls (by omega) HLs.out) l2
       clear k2 p2 l2)
    | (go_at_call 15; refine (HC1.out).mono ?_; rintro r w1 ⟨u1, c1, rfl, k1, p1, l1⟩
       have HK1 : Hid (Keep c0 c1 i W w1) := k1
       have HLs : Hid (Ls (Col c1 9) w1 u1 e.new) := l1
       have H1 : Hid (AcS A c1 i j t v u tv (.slice xa bs.length xc) (cmS e) e tl bs w1) := H0.out.stepA k1 p1 (by omega) (by omega) (by omega)
       clear k1 p1 l1))
  go_ret
  have k3 := Keep.below c2 9 hb3
  exact ⟨cmS e, tl, tv, _, rfl, ((HK0.out.trans (KM.of HK1.out (by omega))).trans (KM.of HK2.out (by omega))).trans (KM.of k3 (by omega)), H2.out.other k3 (by omega) (by omega) (by omega), fun n hn hl => ⟨hn.came.next, by omega⟩⟩
end Go.Proofs.Ytijjcopglbcoiaa
