/-
  Proved here: an act of tollbridgelaw06, where it ticks. Conditions: the seven functions serve ends; the numbers are those behind fewer than 100000 acts.
-/
import Derived.Test.YtijjcopglbcoiaaU0
import Derived.Deep.CutBlock
import Derived.Deep.DeepCutAuto
import Derived.Deep.RegionLaw
import Derived.BigQuiet
namespace Go.Proofs.Ytijjcopglbcoiaa
open Go.RowKit Seal

set_option maxRecDepth 100000 in
set_option maxHeartbeats 3200000 in
theorem act_tick (A : PApi) (c : Nat → Nat) (i j t : Nat) (hi : i = 1 ∨ i = 2) (hj : j = 3 ∨ j = 4) (v u tv xb : Value) (e : E) (tl : List (List Int)) (bs : List Int) (w : World) (wo dw an : Int) (n N : Nat) (h : AcS A c i j t v u tv xb e e tl bs w) (hfit : FitN N e) (hN : N ≤ 1000) (htl : tl.length ≤ 1000) (g0 : (dw == 0) = false) (g1 : (dw == 1) = true) :
    Calls Try.prog 13 #[v, u, .agg (acv wo dw an n xb), .pointer (some ⟨t, 0, none⟩)] w (ActOk A c i j t v u xb e tl bs w) := by
  have hF : Fit e := hfit.fit (by omega)
  obtain ⟨xa, xc, hxe, -⟩ := id h.xb
  subst hxe
  obtain ⟨W, hW⟩ : ∃ W, W = w.alloc (.cells (acv wo dw an n (.slice xa bs.length xc)) 33) := ⟨_, rfl⟩
  have K0 : Keep c (tint c w.heap.size 8) 8 w W := by rw [hW]; exact Keep.alloc c 8 w _
  have H0 : Hid (AcS A (tint c w.heap.size 8) i j t v u tv (.slice xa bs.length xc) e e tl bs W) := h.other K0 (by omega) (by omega) (by omega)
  have HK0 : Hid (KM (Mj i j) c (tint c w.heap.size 8) w W) := KM.of K0 (by omega)
  have hbx : W.heap[w.heap.size]? = some (.cells (acv wo dw an n (.slice xa bs.length xc)) 33 (0, 0)) := by rw [hW]; exact heap_alloc_new _ _
  have HBX : Hid (W.heap[w.heap.size]? = some (.cells (acv wo dw an n (.slice xa bs.length xc)) 33 (0, 0)) ∧ tint c w.heap.size 8 w.heap.size = 8) := ⟨hbx, tint_new (Nat.le_refl _)⟩
  have HW : Hid (W = w.alloc (.cells (acv wo dw an n (.slice xa bs.length xc)) 33)) := hW
  obtain ⟨b0, b1, b2, b3, b4, -⟩ := end_cells hbx
  generalize tint c w.heap.size 8 = c0 at H0 HK0 HBX
  clear hW K0 h hbx
  go_enter Try.func13, Try.ntmps13
  go_upto_region 1 with fail
  rw [← HW.out]
  clear HW
  have hnot : ∀ (x : Bool) (w : World), (Op.unary .not (.bool x)).run Try.prog w = .ok (.bool (!x)) w := fun _ _ => rfl
  have HT1 : Hid (Calls Try.prog 20 #[v] W fun x w' => ∃ u' c', x = .returned u' ∧ Keep c0 c' i W w' ∧ A.PE (Col c' i) w' v e ∧ Ls (Col c' 9) w' u' [tkL e]) := A.tickC c0 i 9 v e W H0.out.pe hF
  go_upto_region 15 with (first
    | (go_at_call 14; refine (HAL.out).mono ?_; rintro r w3 ⟨rfl, hb3⟩)
    | (go_at_call 28; refine (rapi.tickC c1 j 7 u e w1 H1.out.re hF).mono ?_; rintro r w2 ⟨u2, c2, rfl, k2, p2, l2⟩
       have HK2 : Hid (Keep c1 c2 j w1 w2) := k2
       have H2 : Hid (AcS A c2 i j t v u tv (.slice xa bs.length xc) e e tl bs w2) := H1.out.stepB k2 p2 (by omega) (by omega) (by omega)
       have HAL : Hid (Calls Try.prog 14 #[u1, u2] w2 fun r w' => r = .returned (.bool true) ∧ Below w2.heap.size w2 w') := all_same _ _ u1 u2 [tkL e] w2 (k2.ls (by omega) HLs.out) l2
       have HL2 : Hid (Ls (Col c2 7) w2 u2 [tkL e]) := l2
       clear k2 p2 l2)
    | (go_at_call 20; refine (HT1.out).mono ?_; rintro r w1 ⟨u1, c1, rfl, k1, p1, l1⟩
       have HK1 : Hid (Keep c0 c1 i W w1) := k1
       have HLs : Hid (Ls (Col c1 9) w1 u1 [tkL e]) := l1
       have H1 : Hid (AcS A c1 i j t v u tv (.slice xa bs.length xc) e e tl bs w1) := H0.out.stepA k1 p1 (by omega) (by omega) (by omega)
       clear k1 p1 l1))
  have HK3 : Hid (Keep c2 (tint c2 w2.heap.size 9) 9 w2 w3) := Keep.below c2 9 hb3
  have H3 : Hid (AcS A (tint c2 w2.heap.size 9) i j t v u tv (.slice xa bs.length xc) e e tl bs w3) := H2.out.other HK3.out (by omega) (by omega) (by omega)
  have HL3 : Hid (Ls (Col (tint c2 w2.heap.size 9) 7) w3 u2 [tkL e]) := HK3.out.ls (by omega) HL2.out
  clear b0 b1 b2 b3 b4 HT1 hb3 HLs HAL H1 HL2
  generalize tint c2 w2.heap.size 9 = c3 at HK3 H3 HL3
  have hto := cell_of_one H3.out.tb
  have hfo := free_of_one H3.out.tb
  obtain ⟨ta, tk, hte, -⟩ := H3.out.sp.form
  subst hte
  obtain ⟨ua2, uk2, hue, -⟩ := id HL3.out
  subst hue
  have HRL : Hid (Sp (fun k => c3 k = 6 ∧ k < w3.heap.size) (fun k => c3 k = 7 ∧ k < w3.heap.size) w3 (.slice ta tl.length tk) tl) := H3.out.rowLt
  have HLL : Hid (Ls (fun k => c3 k = 7 ∧ k < w3.heap.size) w3 (.slice ua2 1 uk2) [tkL e]) := HL3.out.carry fun _ hk hc => ⟨⟨hc, hk⟩, rfl⟩
  go_upto_region 34 with (at_builtin; refine appSpL (.tmp 63) (.tmp 64) rfl rfl rfl rfl HRL.out HLL.out (fun k hk ht => by have h1 := (HRL.out.own k hk).1; have h2 := ht.1; omega) (by simp; omega) ?_
                          intro v4 w4 A4 P4
                          obtain ⟨c4, k4, h4, e4, f4⟩ := told_app H3.out (by omega) (by omega) A4 P4
                          obtain ⟨ta4, tk4, hte4, -⟩ := P4.form
                          have HK4 : Hid (KM (Mj i j) c3 c4 w3 (w4.setCell ⟨t, 0, none⟩ v4)) := k4
                          have H4 : Hid (AcS A c4 i j t v u v4 (.slice xa bs.length xc) e e (tl ++ [tkL e]) bs (w4.setCell ⟨t, 0, none⟩ v4)) := h4
                          clear A4 P4 k4 h4
                          clear hto hfo
                          subst hte4)
  have hk5 := HK4.out
  have h5 := H4.out
  simp only [List.length_append, List.length_cons, List.length_nil, Nat.zero_add] at hk5 h5
  clear HK4 H4 e4 f4
  generalize w4.setCell ⟨t, 0, none⟩ (.slice ta4 (tl.length + 1) tk4) = w5 at hk5 h5 ⊢
  have HK5 : Hid (KM (Mj i j) c3 c4 w3 w5) := hk5
  have H5 : Hid (AcS A c4 i j t v u (.slice ta4 (tl.length + 1) tk4) (.slice xa bs.length xc) e e (tl ++ [tkL e]) bs w5) := h5
  clear hk5 h5
  have HL1 : Hid (Calls Try.prog 21 #[v] w5 fun r w' => ∃ c', r = .returned (.int .i64 (e.sent.length : Nat)) ∧ Keep c4 c' i w5 w' ∧ A.PE (Col c' i) w' v e) := A.leftC c4 i v e w5 H5.out.pe hF
  go_wp2_with (first
    | (go_at_call 31; refine (rapi.leftC c8 j u e w8 H8.out.re hF).mono ?_; rintro r w9 ⟨c9, rfl, k9, p9⟩)
    | (go_at_call 21; refine (HL1.out).mono ?_; rintro r w8 ⟨c8, rfl, k8, p8⟩; have HK8 : Hid (Keep c4 c8 i w5 w8) := k8; have H8 : Hid (AcS A c8 i j t v u (.slice ta4 (tl.length + 1) tk4) (.slice xa bs.length xc) e e (tl ++ [tkL e]) bs w8) := H5.out.stepA k8 p8 (by omega) (by omega) (by omega); clear k8 p8))
  go_ret
  have h9 := H8.out.stepB k9 p9 (by omega) (by omega) (by omega)
  exact ⟨e, (tl ++ [tkL e]), (.slice ta4 (tl.length + 1) tk4), c9, by simp, (((((HK0.out.trans (KM.of HK1.out (by omega))).trans (KM.of HK2.out (by omega))).trans (KM.of HK3.out (by omega))).trans HK5.out).trans (KM.of HK8.out (by omega))).trans (KM.of k9 (by omega)), h9, fun n hn hl => ⟨hn.next, by simp; omega⟩⟩
end Go.Proofs.Ytijjcopglbcoiaa
