/-
  Proved here: FlowsCounts says true for every room and every list of deals. Condition: the widths' table holds its numbers.
-/
import Derived.Test.YtdehlnaoehjehaaGreatDoorzGC
namespace Go.Proofs.YtdehlnaoehjehaaGreatDoor
set_option maxRecDepth 100000
open Go.RowKit Go.Maps

theorem entFC (args : Array Value) (w : World) : (callFunc 21 args).run Tryz.prog w = .ok (.enter 21 args) w := rfl
set_option maxHeartbeats 12800000 in
set_option maxRecDepth 100000 in
theorem counts_any (w : World) (room : Int) (v : Value) (l : List De) (hl : Des w.heap.size w v l) (ht : Tab w) : Calls Tryz.prog 4 #[.int .i64 room, v] w fun e w' => e = .returned (.bool true) ∧ Below w.heap.size w w' := by
  have HT := hid ht
  have HDs := hid hl
  obtain ⟨ao, cap, rfl, -⟩ := hl.form
  have hlm : (l.length : Int) ≤ 140737488355328 := by have := hl.len; omega
  have HW : Hid (∀ x, Below w.heap.size w x → Calls Tryz.prog 20 #[] x fun e w' => e = .returned (.bool true) ∧ Below w.heap.size w w') := fun x hb => (wakes_any x (HT.out.on hb)).mono fun e w' ⟨q1, q2⟩ => ⟨q1, hb.trans (q2.mono hb.size)⟩
  clear ht hl
  go_enter Tryz.func4, Tryz.ntmps4
  go_upto_region 7 with (first
    | (go_at_call 8; refine (own_new w room).mono ?_; rintro e x1 ⟨g, rfl, h1⟩; have HO := hid (Ctf.new h1); clear h1))
  obtain ⟨bf, hbf⟩ : ∃ bf, bf = x1.heap.size := ⟨_, rfl⟩
  rw [← hbf] at HO
  simp only [← hbf]
  clear hbf
  go_loopw [23] (fun i wr => ∃ k : Nat, k ≤ l.length ∧ k ≤ 150 ∧ i = .int .i64 k ∧ Ctf w wr g bf (rmO room) k) (fun i _ => l.length - (intOf i).toNat)
  case atStart => exact ⟨0, by omega, by omega, rfl, HO.out⟩
  case round =>
    obtain ⟨k, hk, hk2, rfl, hrel⟩ := hrel
    generalize wr = wx at *
    have HR := hid hrel
    clear hrel HO
    by_cases hlt : k < l.length
    · have hdk : decide ((k : Int) < (l.length : Int)) = true := decide_eq_true (by omega)
      have hBx := HR.out.low
      obtain ⟨b, o, cap', hv, hbB, hbw, hrg, hfit⟩ := HDs.out.deal hlt
      obtain ⟨rfl, -⟩ : ao = some ⟨b, o, none⟩ ∧ cap = cap' := by simpa using hv
      obtain ⟨d, hd⟩ : ∃ d, d = l[k] := ⟨_, rfl⟩
      rw [← hd] at hrg hfit
      have HRx : Hid (wx.rangeAt b (o + k * 38) (dcs d).toList) := range_on hrg hBx
      have hw1 : IntKind.i64.wrap ((k : Int) + 1) = (k : Int) + 1 := by rw [IntKind.wrap_i64]; omega
      obtain ⟨W1, hW1⟩ : ∃ W1, W1 = wx.alloc (.cells (dcs d) 37) := ⟨_, rfl⟩
      obtain ⟨xb, hxb⟩ : ∃ xb, xb = wx.heap.size := ⟨_, rfl⟩
      have hX1 : W1.heap[xb]? = some (.cells (dcs d) 37 (0, 0)) := by rw [hW1, hxb]; exact heap_alloc_new _ _
      have HCt : Hid (Ctf w W1 g bf (rmO room) k) := HR.out.on (by rw [hW1]; exact (Below.refl _ _).alloc (Nat.le_refl _) _)
      have hc0 : W1.cell? ⟨xb, 0, none⟩ = some (.int .i8 d.dw) := by rw [cell_of_row _ _ _ _ _ _ hX1]; exact dcs_0 d
      have hc37 : W1.cell? ⟨xb, 37, none⟩ = some (.int .i64 d.n) := by rw [cell_of_row _ _ _ _ _ _ hX1]; exact dcs_n d
      have HRr : Hid (W1.rangeAt xb 1 (rlc d.r d.u).toList) := range_of fun i hi => by
        rw [rc_size] at hi
        rw [cell_of_row _ _ _ _ _ _ hX1]; exact dcs_r d i hi
      have HRh : Hid (W1.rangeAt xb 26 (row 11 d.h).toList) := range_of fun i hi => by
        rw [row_size] at hi
        rw [cell_of_row _ _ _ _ _ _ hX1, row_at 11 _ _ hi]; exact dcs_h d i hi
      have H1c := hid (dcs_one (d := d) (Lst.oneC hfit.c))
      have HDo : Hid _ := hid (ct_do HCt.out hk2 HT.out d.dw hfit.dw d.r hfit.r (Cps.carry (fun b hb hS => ⟨hS, HCt.out.low.block b hS⟩) hfit.c) (fun b hb => hb))
      have HFi := hid (ct_fu HCt.out hk2 d.h hfit.h d.n hfit.n)
      have HW1 := hid hW1
      have HXb := hid hxb
      clear hv hbB hbw hrg hfit hd hW1 hxb hX1 hBx HR
      go_upto_region 9 with (first
        | (refine ldMid 37 (.tmp 26) rfl rfl b (o + k * 38) rfl (dcs d) _ Tryz.underlying37 rfl (sizeDE d) HRx.out ?_)
        | (refine stNew 37 (.tmp 9) (.tmp 27) rfl rfl wx 37 _ (dcs d) rfl rfl rfl (sizeDE d) (by rw [dcs_size]; rfl) H1c.out ?_))
      rw [← HW1.out, ← HXb.out]
      clear HW1 HXb HRx H1c
      by_cases h150 : 150 ≤ k
      · have hd2 : decide ((150 : Int) ≤ (k : Int)) = true := decide_eq_true (by omega)
        have hkt := hk2
        clear HDo HFi HRr HRh hc0 hc37
        have HTl := hid (ct_tail HCt.out hkt)
        go_upto_region 17 with (first
          | (go_at_call 16; refine (HTl.out).mono ?_; rintro e w1 ⟨a1, cap1, n1, rfl, q⟩; have HGo := hid q; clear q HTl)
          | (go_at_call 18; refine (HGo.out).mono ?_; rintro e w2 ⟨a2, cap2, m2, xs, us, rfl, q1, q2, q3, q4, q5, q6⟩; have HQ1 := hid q1; have HQ2 := hid q2; have HQ3 := hid q3; have HQ4 := hid q4; have HQ6 := hid q6; clear q1 q2 q3 q4 q6 HGo)
          | (refine appAll (.tmp 55) (.tmp 57) 45 rfl rfl (k := 27) (t := 52) (n := n1) (m := m2) (c := cap2) (us := us) rfl rfl Tryz.underlying45 infoHELD (hdc_size _ _) (by omega) (by omega) HQ1.out HQ2.out HQ3.out HQ4.out (by omega) ?_; intro v3 w3 hA3 hR3; obtain ⟨a3, cap3, ys, rfl, z1, z2⟩ := HQ6.out v3 w3 hA3 hR3; have HY := hid z1; have HJ := hid z2; clear hA3 hR3 z1 z2 HQ1 HQ2 HQ3 HQ4 HQ6))
        have hyl := HY.out.len
        obtain ⟨N0, hN0⟩ : ∃ N0, N0 = W1.heap.size := ⟨_, rfl⟩
        rw [← hN0] at HY HJ
        clear hN0 HCt
        go_loopw [60] (fun i wr => ∃ j : Nat, j ≤ ys.length ∧ i = .int .i64 j ∧ Cj w w3 wr N0 bf ys j) (fun i _ => ys.length - (intOf i).toNat)
        case atStart => exact ⟨0, by omega, rfl, HJ.out⟩
        case round =>
          obtain ⟨j, hj, rfl, hrel⟩ := hrel
          generalize wr = wy at *
          have HR := hid hrel
          clear hrel HJ
          by_cases hjl : j < ys.length
          · have hdj : decide ((j : Int) < (ys.length : Int)) = true := decide_eq_true (by omega)
            have hw2 : IntKind.i64.wrap ((j : Int) + 1) = (j : Int) + 1 := by rw [IntKind.wrap_i64]; omega
            obtain ⟨b3, o3, cap', hv3, hb3, hb3', hrg⟩ := HY.out.rw.at hjl
            obtain ⟨rfl, -⟩ : a3 = some ⟨b3, o3, none⟩ ∧ cap3 = cap' := by simpa using hv3
            obtain ⟨y, hy⟩ : ∃ y, y = ys[j] := ⟨_, rfl⟩
            have hyb := HY.out.bd _ (List.getElem_mem hjl)
            have hyo := HY.out.one _ (List.getElem_mem hjl)
            have HP : Hid (∀ w2, Below wy.heap.size wy w2 → Calls Tryz.prog 21 #[.int .u64 y.1.r.ck, .int .u64 (wr64 (-y.1.pk)), pv bf] w2 fun e w3' => e = .returned (.tuple #[]) ∧ Cj w w3 w3' N0 bf ys (j + 1)) := fun w2 hb => by rw [hy]; exact cj_put HR.out hjl hyl hb hyb.1
            rw [← hy] at hrg hyb hyo
            have HRy : Hid (wy.rangeAt b3 (o3 + j * 27) (hdc y.1 y.2).toList) := fun q x hq => by
              obtain ⟨fs, hcg, -⟩ := HR.out
              exact (cell_same (hcg.same b3 hb3 hb3')).trans (hrg q x hq)
            have hwn : IntKind.u64.wrap (-y.1.pk) = wr64 (-y.1.pk) := by simp [IntKind.wrap, IntKind.bits, IntKind.signed, wr64]
            have H1c := hid (hdc_one (h := y.1) hyo)
            obtain ⟨W2, hW2⟩ : ∃ W2, W2 = wy.alloc (.cells (hdc y.1 y.2) 52) := ⟨_, rfl⟩
            obtain ⟨yb, hyb2⟩ : ∃ yb, yb = wy.heap.size := ⟨_, rfl⟩
            have hX2 : W2.heap[yb]? = some (.cells (hdc y.1 y.2) 52 (0, 0)) := by rw [hW2, hyb2]; exact heap_alloc_new _ _
            have hB2 : Below wy.heap.size wy W2 := by rw [hW2]; exact (Below.refl _ _).alloc (Nat.le_refl _) _
            have d24 : W2.cell? ⟨yb, 24, none⟩ = some (.int .u64 y.1.r.ck) := by rw [cell_of_row _ _ _ _ _ _ hX2, hdc_rl _ _ 24 (by omega)]; exact (rc_cp _ _ _ _).2
            have d25 : W2.cell? ⟨yb, 25, none⟩ = some (.int .u64 y.1.pk) := by rw [cell_of_row _ _ _ _ _ _ hX2, hdc_pk]
            have HPW := hid (HP.out W2 hB2)
            have HW2 := hid hW2
            have HYb := hid hyb2
            clear hv3 hb3 hb3' hrg hy hyb hyo HP hW2 hyb2 hX2 hB2
            go_upto_region 19 with (first
              | (refine ldMid 52 (.tmp 62) rfl rfl b3 (o3 + j * 27) rfl (hdc y.1 y.2) _ Tryz.underlying52 rfl (sizeHELD _ _) HRy.out ?_)
              | (refine stNew 52 (.tmp 13) (.tmp 63) rfl rfl wy 52 _ (hdc y.1 y.2) rfl rfl rfl (sizeHELD _ _) (by rw [hdc_size]; rfl) H1c.out ?_))
            rw [← HW2.out, ← HYb.out]
            clear HW2 HYb HRy H1c HR
            go_wp2_with (refine callCl 21 (.tmp 64) _ _ [.int .u64 y.1.r.ck, .int .u64 (wr64 (-y.1.pk))] [pv bf] rfl rfl rfl rfl entFC _ HPW.out ?_; rintro e w4 ⟨rfl, q⟩; refine Or.inl ⟨_, rfl, ?_⟩; have HJ4 := hid q; clear q HPW)
            go_roundw
            case rel => exact ⟨j + 1, by omega, by go_num, HJ4.out⟩
            case measure => simp [intOf]; omega
          · have hdj : decide ((j : Int) < (ys.length : Int)) = false := decide_eq_false (by omega)
            obtain rfl : j = ys.length := by omega
            obtain ⟨a5, cap5, n5, hn5, c5, hc5⟩ := cj_end HR.out hyl
            have HC5 := hid hc5
            have hlow := HR.out.low
            have HLw := hid hlow
            clear hc5 HR hlow HY
            go_upto_region 22 with fail
            go_loopw [76] (fun i wr => ∃ q : Nat, q ≤ n5 ∧ i = .int .i64 q ∧ Below wy.heap.size wy wr) (fun i _ => n5 - (intOf i).toNat)
            case atStart => exact ⟨0, by omega, rfl, Below.refl _ _⟩
            case round =>
              obtain ⟨q, hq, rfl, hrel⟩ := hrel
              generalize wr = wz at *
              have HR := hid hrel
              clear hrel
              by_cases hql : q < n5
              · have hdq : decide ((q : Int) < (n5 : Int)) = true := decide_eq_true (by omega)
                have hw3 : IntKind.i64.wrap ((q : Int) + 1) = (q : Int) + 1 := by rw [IntKind.wrap_i64]; omega
                obtain ⟨b6, o6, y, rfl, hy0, hb6, hr6⟩ := HC5.out q hql
                have HRz : Hid (wz.rangeAt b6 (o6 + q * 27) (hdc y nilS).toList) := range_on hr6 HR.out
                have H1c := hid (hdc_one (h := y) (u := nilS) rfl)
                obtain ⟨W3, hW3⟩ : ∃ W3, W3 = wz.alloc (.cells (hdc y nilS) 52) := ⟨_, rfl⟩
                obtain ⟨zb, hzb⟩ : ∃ zb, zb = wz.heap.size := ⟨_, rfl⟩
                have hX3 : W3.heap[zb]? = some (.cells (hdc y nilS) 52 (0, 0)) := by rw [hW3, hzb]; exact heap_alloc_new _ _
                have e25 : W3.cell? ⟨zb, 25, none⟩ = some (.int .u64 0) := by rw [cell_of_row _ _ _ _ _ _ hX3, hdc_pk, hy0]
                have HB3 : Hid (Below wy.heap.size wy W3) := by rw [hW3]; exact HR.out.alloc HR.out.size _
                have HW3 := hid hW3
                have HZb := hid hzb
                clear hy0 hb6 hr6 hW3 hzb hX3 HR
                go_upto_region 24 with (first
                  | (refine ldMid 52 (.tmp 78) rfl rfl b6 (o6 + q * 27) rfl (hdc y nilS) _ Tryz.underlying52 rfl (sizeHELD _ _) HRz.out ?_)
                  | (refine stNew 52 (.tmp 15) (.tmp 79) rfl rfl wz 52 _ (hdc y nilS) rfl rfl rfl (sizeHELD _ _) (by rw [hdc_size]; rfl) H1c.out ?_))
                rw [← HW3.out, ← HZb.out]
                clear HW3 HZb HRz H1c
                go_wp2
                go_roundw
                case rel => exact ⟨q + 1, by omega, by go_num, HB3.out⟩
                case measure => simp [intOf]; omega
              · have hdq : decide ((q : Int) < (n5 : Int)) = false := decide_eq_false (by omega)
                have HWk := hid (HW.out wz (HLw.out.trans (HR.out.mono HLw.out.size)))
                clear HR HC5
                go_wp2_with (go_at_call 20; refine (HWk.out).mono ?_; rintro e w6 ⟨rfl, q6⟩; have HB6 := hid q6; clear q6 HWk)
                go_ret
                exact ⟨rfl, HB6.out⟩
      · have hd2 : decide ((150 : Int) ≤ (k : Int)) = false := decide_eq_false (by omega)
        by_cases h9 : d.dw = 9
        · have hn9 : (d.dw != 9) = false := by simp [h9]
          clear HDo HRr
          go_upto_region 13 with (first
            | (refine ldMid 30 (.tmp 41) rfl rfl xb 26 rfl (row 11 d.h) _ Tryz.underlying30 rfl (size24 d.h) HRh.out ?_)
            | (go_at_call 10; refine (HFi.out).mono ?_; rintro e x2 ⟨r, u, ok, hu, rfl, q1, q2, q3⟩; have HU := hid hu; have HQ1 := hid q1; have HQ2 := hid q2; have HQ3 := hid q3; clear hu q1 q2 q3 HFi)
            | (refine stNew 35 (.tmp 10) (.tmp 46) rfl rfl x2 35 _ (rlc r u) rfl rfl rfl (size_rl _ _) (by rw [rc_size]; rfl) (rc_one HU.out) ?_))
          obtain ⟨W2, hW2⟩ : ∃ W2, W2 = x2.alloc (.cells (rlc r u) 35) := ⟨_, rfl⟩
          obtain ⟨rb, hrb⟩ : ∃ rb, rb = x2.heap.size := ⟨_, rfl⟩
          have hB2 : Below x2.heap.size x2 W2 := by rw [hW2]; exact (Below.refl _ _).alloc (Nat.le_refl _) _
          have hX2 : W2.heap[rb]? = some (.cells (rlc r u) 35 (0, 0)) := by rw [hW2, hrb]; exact heap_alloc_new _ _
          have r24 : W2.cell? ⟨rb, 24, none⟩ = some (.int .u64 r.ck) := by rw [cell_of_row _ _ _ _ _ _ hX2]; exact (rc_cp _ _ _ _).2
          rw [← hW2, ← hrb]
          have HB2 := hid hB2
          clear hW2 hrb hB2 hX2 HRh hc0 hc37
          cases ok with
          | false =>
            go_wp2
            go_roundw
            case rel => exact ⟨k + 1, by omega, by omega, by go_num, (HQ2.out rfl).on HB2.out⟩
            case measure => simp [intOf]; omega
          | true =>
            have HPt := hid (HQ3.out rfl W2 HB2.out)
            clear HQ3 HQ2
            go_wp2_with (refine callCl 21 (.tmp 49) _ _ [.int .u64 r.ck, .int .u64 1] [pv bf] rfl rfl rfl rfl entFC _ HPt.out ?_; rintro e x3 ⟨rfl, q⟩; refine Or.inl ⟨_, rfl, ?_⟩; have HC3 := hid q; clear q HPt)
            go_roundw
            case rel => exact ⟨k + 1, by omega, by omega, by go_num, HC3.out⟩
            case measure => simp [intOf]; omega
        · have hn9 : (d.dw != 9) = true := by simp [h9]
          clear HFi
          go_wp2_with (first
            | (refine ldMid 35 (.tmp 36) rfl rfl xb 1 rfl (rlc d.r d.u) _ Tryz.underlying35 rfl (size_rl d.r d.u) HRr.out ?_)
            | (go_at_call 13; refine (HDo.out).mono ?_; rintro e x2 ⟨⟨n, er, rfl⟩, q2⟩; have HO2 := hid q2; clear q2 HDo))
          go_roundw
          case rel => exact ⟨k + 1, by omega, by omega, by go_num, HO2.out⟩
          case measure => simp [intOf]; omega
    · have hdk : decide ((k : Int) < (l.length : Int)) = false := decide_eq_false (by omega)
      have HCt := HR
      have hkt := hk2
      clear HR
      have HTl := hid (ct_tail HCt.out hkt)
      go_upto_region 17 with (first
        | (go_at_call 16; refine (HTl.out).mono ?_; rintro e w1 ⟨a1, cap1, n1, rfl, q⟩; have HGo := hid q; clear q HTl)
        | (go_at_call 18; refine (HGo.out).mono ?_; rintro e w2 ⟨a2, cap2, m2, xs, us, rfl, q1, q2, q3, q4, q5, q6⟩; have HQ1 := hid q1; have HQ2 := hid q2; have HQ3 := hid q3; have HQ4 := hid q4; have HQ6 := hid q6; clear q1 q2 q3 q4 q6 HGo)
        | (refine appAll (.tmp 55) (.tmp 57) 45 rfl rfl (k := 27) (t := 52) (n := n1) (m := m2) (c := cap2) (us := us) rfl rfl Tryz.underlying45 infoHELD (hdc_size _ _) (by omega) (by omega) HQ1.out HQ2.out HQ3.out HQ4.out (by omega) ?_; intro v3 w3 hA3 hR3; obtain ⟨a3, cap3, ys, rfl, z1, z2⟩ := HQ6.out v3 w3 hA3 hR3; have HY := hid z1; have HJ := hid z2; clear hA3 hR3 z1 z2 HQ1 HQ2 HQ3 HQ4 HQ6))
      have hyl := HY.out.len
      obtain ⟨N0, hN0⟩ : ∃ N0, N0 = wx.heap.size := ⟨_, rfl⟩
      rw [← hN0] at HY HJ
      clear hN0 HCt
      go_loopw [60] (fun i wr => ∃ j : Nat, j ≤ ys.length ∧ i = .int .i64 j ∧ Cj w w3 wr N0 bf ys j) (fun i _ => ys.length - (intOf i).toNat)
      case atStart => exact ⟨0, by omega, rfl, HJ.out⟩
      case round =>
        obtain ⟨j, hj, rfl, hrel⟩ := hrel
        generalize wr = wy at *
        have HR := hid hrel
        clear hrel HJ
        by_cases hjl : j < ys.length
        · have hdj : decide ((j : Int) < (ys.length : Int)) = true := decide_eq_true (by omega)
          have hw2 : IntKind.i64.wrap ((j : Int) + 1) = (j : Int) + 1 := by rw [IntKind.wrap_i64]; omega
          obtain ⟨b3, o3, cap', hv3, hb3, hb3', hrg⟩ := HY.out.rw.at hjl
          obtain ⟨rfl, -⟩ : a3 = some ⟨b3, o3, none⟩ ∧ cap3 = cap' := by simpa using hv3
          obtain ⟨y, hy⟩ : ∃ y, y = ys[j] := ⟨_, rfl⟩
          have hyb := HY.out.bd _ (List.getElem_mem hjl)
          have hyo := HY.out.one _ (List.getElem_mem hjl)
          have HP : Hid (∀ w2, Below wy.heap.size wy w2 → Calls Tryz.prog 21 #[.int .u64 y.1.r.ck, .int .u64 (wr64 (-y.1.pk)), pv bf] w2 fun e w3' => e = .returned (.tuple #[]) ∧ Cj w w3 w3' N0 bf ys (j + 1)) := fun w2 hb => by rw [hy]; exact cj_put HR.out hjl hyl hb hyb.1
          rw [← hy] at hrg hyb hyo
          have HRy : Hid (wy.rangeAt b3 (o3 + j * 27) (hdc y.1 y.2).toList) := fun q x hq => by
            obtain ⟨fs, hcg, -⟩ := HR.out
            exact (cell_same (hcg.same b3 hb3 hb3')).trans (hrg q x hq)
          have hwn : IntKind.u64.wrap (-y.1.pk) = wr64 (-y.1.pk) := by simp [IntKind.wrap, IntKind.bits, IntKind.signed, wr64]
          have H1c := hid (hdc_one (h := y.1) hyo)
          obtain ⟨W2, hW2⟩ : ∃ W2, W2 = wy.alloc (.cells (hdc y.1 y.2) 52) := ⟨_, rfl⟩
          obtain ⟨yb, hyb2⟩ : ∃ yb, yb = wy.heap.size := ⟨_, rfl⟩
          have hX2 : W2.heap[yb]? = some (.cells (hdc y.1 y.2) 52 (0, 0)) := by rw [hW2, hyb2]; exact heap_alloc_new _ _
          have hB2 : Below wy.heap.size wy W2 := by rw [hW2]; exact (Below.refl _ _).alloc (Nat.le_refl _) _
          have d24 : W2.cell? ⟨yb, 24, none⟩ = some (.int .u64 y.1.r.ck) := by rw [cell_of_row _ _ _ _ _ _ hX2, hdc_rl _ _ 24 (by omega)]; exact (rc_cp _ _ _ _).2
          have d25 : W2.cell? ⟨yb, 25, none⟩ = some (.int .u64 y.1.pk) := by rw [cell_of_row _ _ _ _ _ _ hX2, hdc_pk]
          have HPW := hid (HP.out W2 hB2)
          have HW2 := hid hW2
          have HYb := hid hyb2
          clear hv3 hb3 hb3' hrg hy hyb hyo HP hW2 hyb2 hX2 hB2
          go_upto_region 19 with (first
            | (refine ldMid 52 (.tmp 62) rfl rfl b3 (o3 + j * 27) rfl (hdc y.1 y.2) _ Tryz.underlying52 rfl (sizeHELD _ _) HRy.out ?_)
            | (refine stNew 52 (.tmp 13) (.tmp 63) rfl rfl wy 52 _ (hdc y.1 y.2) rfl rfl rfl (sizeHELD _ _) (by rw [hdc_size]; rfl) H1c.out ?_))
          rw [← HW2.out, ← HYb.out]
          clear HW2 HYb HRy H1c HR
          go_wp2_with (refine callCl 21 (.tmp 64) _ _ [.int .u64 y.1.r.ck, .int .u64 (wr64 (-y.1.pk))] [pv bf] rfl rfl rfl rfl entFC _ HPW.out ?_; rintro e w4 ⟨rfl, q⟩; refine Or.inl ⟨_, rfl, ?_⟩; have HJ4 := hid q; clear q HPW)
          go_roundw
          case rel => exact ⟨j + 1, by omega, by go_num, HJ4.out⟩
          case measure => simp [intOf]; omega
        · have hdj : decide ((j : Int) < (ys.length : Int)) = false := decide_eq_false (by omega)
          obtain rfl : j = ys.length := by omega
          obtain ⟨a5, cap5, n5, hn5, c5, hc5⟩ := cj_end HR.out hyl
          have HC5 := hid hc5
          have hlow := HR.out.low
          have HLw := hid hlow
          clear hc5 HR hlow HY
          go_upto_region 22 with fail
          go_loopw [76] (fun i wr => ∃ q : Nat, q ≤ n5 ∧ i = .int .i64 q ∧ Below wy.heap.size wy wr) (fun i _ => n5 - (intOf i).toNat)
          case atStart => exact ⟨0, by omega, rfl, Below.refl _ _⟩
          case round =>
            obtain ⟨q, hq, rfl, hrel⟩ := hrel
            generalize wr = wz at *
            have HR := hid hrel
            clear hrel
            by_cases hql : q < n5
            · have hdq : decide ((q : Int) < (n5 : Int)) = true := decide_eq_true (by omega)
              have hw3 : IntKind.i64.wrap ((q : Int) + 1) = (q : Int) + 1 := by rw [IntKind.wrap_i64]; omega
              obtain ⟨b6, o6, y, rfl, hy0, hb6, hr6⟩ := HC5.out q hql
              have HRz : Hid (wz.rangeAt b6 (o6 + q * 27) (hdc y nilS).toList) := range_on hr6 HR.out
              have H1c := hid (hdc_one (h := y) (u := nilS) rfl)
              obtain ⟨W3, hW3⟩ : ∃ W3, W3 = wz.alloc (.cells (hdc y nilS) 52) := ⟨_, rfl⟩
              obtain ⟨zb, hzb⟩ : ∃ zb, zb = wz.heap.size := ⟨_, rfl⟩
              have hX3 : W3.heap[zb]? = some (.cells (hdc y nilS) 52 (0, 0)) := by rw [hW3, hzb]; exact heap_alloc_new _ _
              have e25 : W3.cell? ⟨zb, 25, none⟩ = some (.int .u64 0) := by rw [cell_of_row _ _ _ _ _ _ hX3, hdc_pk, hy0]
              have HB3 : Hid (Below wy.heap.size wy W3) := by rw [hW3]; exact HR.out.alloc HR.out.size _
              have HW3 := hid hW3
              have HZb := hid hzb
              clear hy0 hb6 hr6 hW3 hzb hX3 HR
              go_upto_region 24 with (first
                | (refine ldMid 52 (.tmp 78) rfl rfl b6 (o6 + q * 27) rfl (hdc y nilS) _ Tryz.underlying52 rfl (sizeHELD _ _) HRz.out ?_)
                | (refine stNew 52 (.tmp 15) (.tmp 79) rfl rfl wz 52 _ (hdc y nilS) rfl rfl rfl (sizeHELD _ _) (by rw [hdc_size]; rfl) H1c.out ?_))
              rw [← HW3.out, ← HZb.out]
              clear HW3 HZb HRz H1c
              go_wp2
              go_roundw
              case rel => exact ⟨q + 1, by omega, by go_num, HB3.out⟩
              case measure => simp [intOf]; omega
            · have hdq : decide ((q : Int) < (n5 : Int)) = false := decide_eq_false (by omega)
              have HWk := hid (HW.out wz (HLw.out.trans (HR.out.mono HLw.out.size)))
              clear HR HC5
              go_wp2_with (go_at_call 20; refine (HWk.out).mono ?_; rintro e w6 ⟨rfl, q6⟩; have HB6 := hid q6; clear q6 HWk)
              go_ret
              exact ⟨rfl, HB6.out⟩
end Go.Proofs.YtdehlnaoehjehaaGreatDoor
