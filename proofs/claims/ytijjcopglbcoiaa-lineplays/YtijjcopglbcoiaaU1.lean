/-
  Proved here: an act of tollbridgelaw06, where it asks Left. Conditions: the seven functions serve ends; the numbers are those behind fewer than 100000 acts.
-/
import Derived.Test.YtijjcopglbcoiaaU0
import Derived.Deep.CutBlock
import Derived.Deep.DeepCutAuto
import Derived.Deep.RegionLaw
import Derived.BigQuiet
namespace Go.Proofs.Ytijjcopglbcoiaa
open Go.RowKit Seal

set_option maxRecDepth 100000 in
set_option maxHeartbeats 3200000 in
theorem act_left (A : PApi) (c : Nat → Nat) (i j t : Nat) (hi : i = 1 ∨ i = 2) (hj : j = 3 ∨ j = 4) (v u tv xb : Value) (e : E) (tl : List (List Int)) (bs : List Int) (w : World) (wo dw an : Int) (n N : Nat) (h : AcS A c i j t v u tv xb e e tl bs w) (hfit : FitN N e) (hN : N ≤ 1000) (g0 : (dw == 0) = false) (g1 : (dw == 1) = false) (g2 : (dw == 2) = false) (g3 : (dw == 3) = false) (g4 : (dw == 4) = false) (g5 : (dw == 5) = false) :
    Calls Try.prog 13 #[v, u, .agg (acv wo dw an n xb), .pointer (some ⟨t, 0, none⟩)] w (ActOk A c i j t v u xb e tl bs w) := by
  have hF : Fit e := hfit.fit (by omega)
  obtain ⟨xa, xc, hxe, -⟩ := id h.xb
  subst hxe
  obtain ⟨W, hW⟩ : ∃ W, W = w.alloc (.cells (acv wo dw an n (.slice xa bs.length xc)) 33) := ⟨_, rfl⟩
  have K0 : Keep c (tint c w.heap.size 8) 8 w W := by rw [hW]; exact Keep.alloc c 8 w _
  have H0 : Hid (AcS A (tint c w.heap.size 8) i j t v u tv (.slice xa bs.length xc) e e tl bs W) := h.other K0 (by omega) (by omega) (by omega)
  have HK0 : Hid (KM (Mj i j) c (tint c w.heap.size 8) w W) := KM.of K0 (by omega)
  have hbx : W.heap[w.heap.size]? = some (.cells (acv wo dw an n (.slice xa bs.length xc)) 33 (0, 0)) := by rw [hW]; exact heap_alloc_new _ _
  have HBX : Hid (W.heap[w.heap.size]? = some (.cells (acv wo dw an n (.slice xa bs.length xc)) 33 (0, 0)) ∧ tint c w.heap.size 8 w.heap.size = 8) := ⟨hbx, tint_new (Nat.le_refl _)⟩
  have HW : Hid (W = w.alloc (.cells (acv wo dw an n (.slice xa bs.length xc)) 33)) := hW
  obtain ⟨b0, b1, b2, b3, b4, -⟩ := end_cells hbx
  generalize tint c w.heap.size 8 = c0 at H0 HK0 HBX
  clear hW K0 h hbx
  go_enter Try.func13, Try.ntmps13
  go_upto_region 1 with fail
  rw [← HW.out]
  clear HW
  go_upto_region 34 with fail
  have HL1 : Hid (Calls Try.prog 21 #[v] W fun r w' => ∃ c', r = .returned (.int .i64 (e.sent.length : Nat)) ∧ Keep c0 c' i W w' ∧ A.PE (Col c' i) w' v e) := A.leftC c0 i v e W H0.out.pe hF
  go_wp2_with (first
    | (go_at_call 31; refine (rapi.leftC c1 j u e w1 H1.out.re hF).mono ?_; rintro r w2 ⟨c2, rfl, k2, p2⟩)
    | (go_at_call 21; refine (HL1.out).mono ?_; rintro r w1 ⟨c1, rfl, k1, p1⟩; have HK1 : Hid (Keep c0 c1 i W w1) := k1; have H1 : Hid (AcS A c1 i j t v u tv (.slice xa bs.length xc) e e tl bs w1) := H0.out.stepA k1 p1 (by omega) (by omega) (by omega); clear k1 p1))
  go_ret
  have h2 := H1.out.stepB k2 p2 (by omega) (by omega) (by omega)
  exact ⟨e, tl, tv, c2, by simp, (HK0.out.trans (KM.of HK1.out (by omega))).trans (KM.of k2 (by omega)), h2, fun n hn hl => ⟨hn.next, by omega⟩⟩
end Go.Proofs.Ytijjcopglbcoiaa
