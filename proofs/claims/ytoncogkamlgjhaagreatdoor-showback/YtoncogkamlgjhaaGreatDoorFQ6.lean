/-
  Proved here: the closures of decimal and hexadecimal of package scan; no old memory turns. Conditions: the text lies in its variable; the place is within it; strconv's errors are some.
-/
/-
  Proved here: the closures of fourParts of package scan; no old memory turns. Conditions: the text and the closure lie in their variables; the place is within the text; strconv's errors are some.
-/
import Derived.Test.YtoncogkamlgjhaaGreatDoorFQ4
namespace Go.Proofs.YtoncogkamlgjhaaGreatDoor
set_option maxRecDepth 100000
open Go.RowKit
set_option maxRecDepth 100000

def kd (s : ByteArray) (a : Nat) : Option Fd :=
  if rE isD s a = a then none
  else if 18446744073709551615 < dcv s a then some ⟨0, rE isD s a, 0, 3⟩
  else if 1 < rE isD s a - a ∧ bt s a = 48 then some ⟨0, rE isD s a, 0, 150⟩ else some ⟨2, rE isD s a, dcv s a, 0⟩
def kx (s : ByteArray) (a : Nat) : Option Fd :=
  if bt s a = 48 ∧ bt s (a + 1) = 120 then
    (if rE isH s (a + 2) = a + 2 ∨ 16 < rE isH s (a + 2) - (a + 2) then some ⟨0, rE isH s (a + 2), 0, 150⟩ else some ⟨2, rE isH s (a + 2), hn s (rE isH s (a + 2) - (a + 2)) (a + 2) 0, 0⟩)
  else none
set_option maxHeartbeats 1600000 in
theorem decimal_any (s : ByteArray) (a b : Nat) (w : World) (ht : Tab0 w) (hb : w.cell? ⟨b, 0, none⟩ = some (.string s)) (ha : a ≤ s.size) (hs : s.size ≤ 65536) :
    Calls Tryz.prog 79 #[.int .i64 a, .pointer (some ⟨b, 0, none⟩)] w fun e w' => e = .returned (kdV (kd s a)) ∧ Below w.heap.size w w' := by
  have hbl : b < w.heap.size := cell_lt hb
  have HE := hid (fun W => runEnd_any tellsD s a ha (by omega) W)
  have hge := rE_ge isD s a
  have hle := rE_le (p := isD) ha
  have hal : ∀ j, a ≤ j → j < rE isD s a → isD (bt s j) = true := fun j => rE_all
  have HK : Hid (kd s a = if rE isD s a = a then none else if 18446744073709551615 < dn s (rE isD s a - a) a 0 then some ⟨0, rE isD s a, 0, 3⟩ else if 1 < rE isD s a - a ∧ bt s a = 48 then some ⟨0, rE isD s a, 0, 150⟩ else some ⟨2, rE isD s a, dn s (rE isD s a - a) a 0, 0⟩) := rfl
  generalize rE isD s a = e at HE hge hle hal HK
  have HZ := hid (Rz.new w)
  have hcb : (w.alloc (.cells (fdc ⟨0, 0, 0, 0⟩) 71)).cell? ⟨b, 0, none⟩ = some (.string s) := by rw [World.cell?_alloc_lt _ _ _ hbl]; exact hb
  have HT := hid (ht.on HZ.out.low)
  obtain ⟨W0, hW0⟩ : ∃ W0, W0 = w.alloc (.cells (fdc ⟨0, 0, 0, 0⟩) 71) := ⟨_, rfl⟩
  have HW0 : Hid (w.alloc (.cells #[.int .i8 0, .int .i64 0, .int .u64 0, .int .i64 0] 71) = W0) := hW0.symm
  rw [← hW0] at HZ hcb HT
  clear hW0 hb ht
  by_cases he : e = a
  · subst he
    have hr : kd s e = none := by rw [HK.out, if_pos rfl]
    rw [hr]; clear hr HK hal
    go_enter Tryz.func79, Tryz.ntmps79
    go_upto_region 1 with fail
    rw [HW0.out]
    clear HW0
    go_wp2_with (first
      | (go_at_call 72; refine (HE.out _).mono ?_; rintro e w' ⟨rfl, hw⟩; obtain rfl := hw.symm)
      | (refine stRow 71 (.tmp 3) (.tmp 14) rfl rfl w.heap.size (fdc ⟨0, 0, 0, 0⟩) rfl rfl 71 _ HZ.out.blk (fd4 _) rfl (fd1 _) ?_))
    refine bodyPost_ret (v := kdV none) (results_ct Tryz.results79 _ _ w.heap.size ⟨0, 0, 0, 0⟩ rfl ?_) rfl ?_
    · exact (HZ.out.set _).blk
    · exact ⟨rfl, (HZ.out.set _).low⟩
  · have g1 : (((e : Nat) : Int) == ((a : Nat) : Int)) = false := by simp; omega
    have HAL := hid hal
    by_cases hn : 18446744073709551615 < dn s (e - a) a 0
    · have hr : kd s a = some ⟨0, e, 0, 3⟩ := by rw [HK.out, if_neg he, if_pos hn]
      rw [hr]
      have HP := hid (pu64_no (by omega) hle hs hal hn _ HT.out)
      have HW := hid (wrong_any e 3)
      clear hr HK hal HAL hn
      go_enter Tryz.func79, Tryz.ntmps79
      go_upto_region 1 with fail
      rw [HW0.out]
      clear HW0
      go_wp2_with (first
        | (go_at_call 72; refine (HE.out _).mono ?_; rintro e w' ⟨rfl, hw⟩; obtain rfl := hw.symm)
        | (go_at_call 77; refine (HP.out).mono ?_; rintro e W2 ⟨⟨n, N, rfl⟩, hb2⟩; have HZ2 := hid (HZ.out.on hb2); clear hb2 HP)
        | (go_at_call 73; refine (HW.out _).mono ?_; rintro e W3 ⟨rfl, hb3⟩; have HZ3 := hid (HZ2.out.on hb3); clear hb3 HW)
        | (refine stRow 71 (.tmp 3) (.tmp 27) rfl rfl w.heap.size (fdc ⟨0, e, 0, 3⟩) rfl rfl 71 _ HZ3.out.blk (fd4 _) rfl (fd1 _) ?_))
      refine bodyPost_ret (v := kdV (some ⟨0, e, 0, 3⟩)) (results_ct Tryz.results79 _ _ w.heap.size ⟨0, e, 0, 3⟩ rfl ?_) rfl ?_
      · exact (HZ3.out.set _).blk
      · exact ⟨rfl, (HZ3.out.set _).low⟩
    · have HP := hid (pu64_ok (s := s) (a := a) (e := e) (by omega) hle hs hal (by omega) W0)
      have HZe := hid (fun W => zero_any (s.extract a e) W)
      rw [size_ext hle, ext_bt0 hle (by omega), Nat.add_zero] at HZe
      by_cases hz : 1 < e - a ∧ bt s a = 48
      · have hr : kd s a = some ⟨0, e, 0, 150⟩ := by rw [HK.out, if_neg he, if_neg hn, if_pos hz]
        rw [hr]
        have hzz : (decide (1 < e - a) && decide (bt s a = 48)) = true := by simp [hz]
        rw [hzz] at HZe
        have HW := hid (wrong_any e 150)
        generalize dn s (e - a) a 0 = n at HP
        clear hr HK hal HAL hn hz hzz
        go_enter Tryz.func79, Tryz.ntmps79
        go_upto_region 1 with fail
        rw [HW0.out]
        clear HW0
        go_wp2_with (first
          | (go_at_call 72; refine (HE.out _).mono ?_; rintro e w' ⟨rfl, hw⟩; obtain rfl := hw.symm)
          | (go_at_call 77; refine (HP.out).mono ?_; rintro e W2 ⟨rfl, hb2⟩; have HZ2 := hid (HZ.out.on hb2); replace hcb := (hb2.cell (p := ⟨b, 0, none⟩) (cell_lt hcb)).trans hcb; clear hb2 HP)
          | (go_at_call 78; refine (HZe.out _).mono ?_; rintro e W2 ⟨rfl, rfl⟩; clear HZe)
          | (go_at_call 73; refine (HW.out _).mono ?_; rintro e W3 ⟨rfl, hb3⟩; have HZ3 := hid (HZ2.out.on hb3); clear hb3 HW)
          | (refine stRow 71 (.tmp 3) (.tmp 36) rfl rfl w.heap.size (fdc ⟨0, e, 0, 150⟩) rfl rfl 71 _ HZ3.out.blk (fd4 _) rfl (fd1 _) ?_))
        refine bodyPost_ret (v := kdV (some ⟨0, e, 0, 150⟩)) (results_ct Tryz.results79 _ _ w.heap.size ⟨0, e, 0, 150⟩ rfl ?_) rfl ?_
        · exact (HZ3.out.set _).blk
        · exact ⟨rfl, (HZ3.out.set _).low⟩
      · have hr : kd s a = some ⟨2, e, dn s (e - a) a 0, 0⟩ := by rw [HK.out, if_neg he, if_neg hn, if_neg hz]
        rw [hr]
        have hzz : (decide (1 < e - a) && decide (bt s a = 48)) = false := by
          rw [Bool.eq_false_iff]; intro h; apply hz; simpa using h
        rw [hzz] at HZe
        have HW := hid (number_any e (dn s (e - a) a 0))
        generalize dn s (e - a) a 0 = n at HP HW
        clear hr HK hal HAL hn hz hzz
        go_enter Tryz.func79, Tryz.ntmps79
        go_upto_region 1 with fail
        rw [HW0.out]
        clear HW0
        go_wp2_with (first
          | (go_at_call 72; refine (HE.out _).mono ?_; rintro e w' ⟨rfl, hw⟩; obtain rfl := hw.symm)
          | (go_at_call 77; refine (HP.out).mono ?_; rintro e W2 ⟨rfl, hb2⟩; have HZ2 := hid (HZ.out.on hb2); replace hcb := (hb2.cell (p := ⟨b, 0, none⟩) (cell_lt hcb)).trans hcb; clear hb2 HP)
          | (go_at_call 78; refine (HZe.out _).mono ?_; rintro e W2 ⟨rfl, rfl⟩; clear HZe)
          | (go_at_call 70; refine (HW.out _).mono ?_; rintro e W3 ⟨rfl, hb3⟩; have HZ3 := hid (HZ2.out.on hb3); clear hb3 HW)
          | (refine stRow 71 (.tmp 3) (.tmp 41) rfl rfl w.heap.size (fdc ⟨2, e, n, 0⟩) rfl rfl 71 _ HZ3.out.blk (fd4 _) rfl (fd1 _) ?_))
        refine bodyPost_ret (v := kdV (some ⟨2, e, n, 0⟩)) (results_ct Tryz.results79 _ _ w.heap.size ⟨2, e, n, 0⟩ rfl ?_) rfl ?_
        · exact (HZ3.out.set _).blk
        · exact ⟨rfl, (HZ3.out.set _).low⟩
theorem ext_from {s : ByteArray} {a : Nat} (j : Nat) (ha : a ≤ s.size) : bt (s.extract a s.size) j = bt s (a + j) := by
  by_cases h : a + j < s.size
  · exact ext_bt0 (Nat.le_refl _) (by omega)
  · rw [bt_out h, bt_out (by rw [size_ext (Nat.le_refl _)]; omega)]
theorem hn_step {s : ByteArray} {i e n : Nat} (h : i < e) : hn s (e - i) i n = hn s (e - (i + 1)) (i + 1) (hx n (hv (bt s i))) := by
  rw [show e - i = (e - (i + 1)) + 1 by omega, hn]
set_option maxHeartbeats 1600000 in
theorem hexadecimal_any (s : ByteArray) (a b : Nat) (w : World) (hb : w.cell? ⟨b, 0, none⟩ = some (.string s)) (ha : a ≤ s.size) (hs : s.size ≤ 65536) :
    Calls Tryz.prog 71 #[.int .i64 a, .pointer (some ⟨b, 0, none⟩)] w fun e w' => e = .returned (kdV (kx s a)) ∧ Below w.heap.size w w' := by
  have hbl : b < w.heap.size := cell_lt hb
  have HZ := hid (Rz.new w)
  have hcb : (w.alloc (.cells (fdc ⟨0, 0, 0, 0⟩) 71)).cell? ⟨b, 0, none⟩ = some (.string s) := by rw [World.cell?_alloc_lt _ _ _ hbl]; exact hb
  obtain ⟨W0, hW0⟩ : ∃ W0, W0 = w.alloc (.cells (fdc ⟨0, 0, 0, 0⟩) 71) := ⟨_, rfl⟩
  have HW0 : Hid (w.alloc (.cells #[.int .i8 0, .int .i64 0, .int .u64 0, .int .i64 0] 71) = W0) := hW0.symm
  rw [← hW0] at HZ hcb
  clear hW0 hb
  have HP := hid (fun W => hasPrefix_any (s.extract a s.size) 48 120 (by rw [size_ext (Nat.le_refl _)]; omega) W)
  rw [ext_from 0 ha, ext_from 1 ha, Nat.add_zero, show (48 : UInt8).toNat = 48 from rfl, show (120 : UInt8).toNat = 120 from rfl] at HP
  by_cases hx0 : bt s a = 48 ∧ bt s (a + 1) = 120
  · have hin : a + 1 < s.size := in_of_bt (by rw [hx0.2]; decide)
    have HK : Hid (kx s a = if rE isH s (a + 2) = a + 2 ∨ 16 < rE isH s (a + 2) - (a + 2) then some ⟨0, rE isH s (a + 2), 0, 150⟩ else some ⟨2, rE isH s (a + 2), hn s (rE isH s (a + 2) - (a + 2)) (a + 2) 0, 0⟩) := by
      show _ = _
      unfold kx; rw [if_pos hx0]
    rw [decide_eq_true hx0] at HP
    have HE := hid (fun W => runEnd_any tellsH s (a + 2) (by omega) (by omega) W)
    have hge := rE_ge isH s (a + 2)
    have hle := rE_le (p := isH) (s := s) (k := a + 2) (by omega)
    have HAL : Hid (∀ j, a + 2 ≤ j → j < rE isH s (a + 2) → isH (bt s j) = true) := fun j => rE_all
    generalize rE isH s (a + 2) = e at HE hge hle HAL HK
    have e2 : ((a + 2 : Nat) : Int) = (a : Int) + 2 := by omega
    rw [e2] at HE
    have g0 : IntKind.i64.wrap ((a : Int) + 2) = (a : Int) + 2 := by rw [IntKind.wrap_i64]; omega
    have g1 : IntKind.i64.wrap ((e : Int) - ((a : Int) + 2)) = (e : Int) - ((a : Int) + 2) := by rw [IntKind.wrap_i64]; omega
    by_cases hbad : e = a + 2 ∨ 16 < e - (a + 2)
    · have hr : kx s a = some ⟨0, e, 0, 150⟩ := by rw [HK.out, if_pos hbad]
      rw [hr]
      have HW := hid (wrong_any e 150)
      by_cases hea : e = a + 2
      · have g2 : ((e : Int) == ((a : Int) + 2)) = true := by simp; omega
        clear HAL HK hr hbad hea hx0
        go_enter Tryz.func71, Tryz.ntmps71
        go_upto_region 1 with fail
        rw [HW0.out]
        clear HW0
        go_wp2_with (first
          | (go_at_call 54; refine (HP.out _).mono ?_; rintro e w' ⟨rfl, hw⟩; obtain rfl := hw.symm; clear HP)
          | (go_at_call 72; refine (HE.out _).mono ?_; rintro e w' ⟨rfl, hw⟩; obtain rfl := hw.symm)
          | (go_at_call 73; refine (HW.out _).mono ?_; rintro e W3 ⟨rfl, hb3⟩; have HZ3 := hid (HZ.out.on hb3); clear hb3 HW)
          | (refine stRow 71 (.tmp 3) (.tmp 31) rfl rfl w.heap.size (fdc ⟨0, e, 0, 150⟩) rfl rfl 71 _ HZ3.out.blk (fd4 _) rfl (fd1 _) ?_))
        refine bodyPost_ret (v := kdV (some ⟨0, e, 0, 150⟩)) (results_ct Tryz.results71 _ _ w.heap.size ⟨0, e, 0, 150⟩ rfl ?_) rfl ?_
        · exact (HZ3.out.set _).blk
        · exact ⟨rfl, (HZ3.out.set _).low⟩
      · have g2 : ((e : Int) == ((a : Int) + 2)) = false := by simp; omega
        have g3 : decide ((16 : Int) < (e : Int) - ((a : Int) + 2)) = true := by simp; omega
        clear HAL HK hr hbad hea hx0
        go_enter Tryz.func71, Tryz.ntmps71
        go_upto_region 1 with fail
        rw [HW0.out]
        clear HW0
        go_wp2_with (first
          | (go_at_call 54; refine (HP.out _).mono ?_; rintro e w' ⟨rfl, hw⟩; obtain rfl := hw.symm; clear HP)
          | (go_at_call 72; refine (HE.out _).mono ?_; rintro e w' ⟨rfl, hw⟩; obtain rfl := hw.symm)
          | (go_at_call 73; refine (HW.out _).mono ?_; rintro e W3 ⟨rfl, hb3⟩; have HZ3 := hid (HZ.out.on hb3); clear hb3 HW)
          | (refine stRow 71 (.tmp 3) (.tmp 31) rfl rfl w.heap.size (fdc ⟨0, e, 0, 150⟩) rfl rfl 71 _ HZ3.out.blk (fd4 _) rfl (fd1 _) ?_))
        refine bodyPost_ret (v := kdV (some ⟨0, e, 0, 150⟩)) (results_ct Tryz.results71 _ _ w.heap.size ⟨0, e, 0, 150⟩ rfl ?_) rfl ?_
        · exact (HZ3.out.set _).blk
        · exact ⟨rfl, (HZ3.out.set _).low⟩
    · have hr : kx s a = some ⟨2, e, hn s (e - (a + 2)) (a + 2) 0, 0⟩ := by rw [HK.out, if_neg hbad]
      rw [hr]
      have g2 : ((e : Int) == ((a : Int) + 2)) = false := by simp; omega
      have g3 : decide ((16 : Int) < (e : Int) - ((a : Int) + 2)) = false := by simp; omega
      have HNn : Hid (hn s (e - (a + 2)) (a + 2) 0 = hn s (e - (a + 2)) (a + 2) 0) := rfl
      obtain ⟨N, hN⟩ : ∃ N, N = hn s (e - (a + 2)) (a + 2) 0 := ⟨_, rfl⟩
      rw [← hN]
      have HN := hid hN
      clear HK hr hbad hx0 HNn hN
      go_enter Tryz.func71, Tryz.ntmps71
      go_upto_region 1 with fail
      rw [HW0.out]
      clear HW0
      go_upto_region 9 with (first
          | (go_at_call 54; refine (HP.out _).mono ?_; rintro e w' ⟨rfl, hw⟩; obtain rfl := hw.symm; clear HP)
          | (go_at_call 72; refine (HE.out _).mono ?_; rintro e w' ⟨rfl, hw⟩; obtain rfl := hw.symm))
      clear HE g2 g3 g1 g0
      go_loop [7, 8] (fun vn vi => ∃ n i : Nat, vn = .int .u64 n ∧ vi = .int .i64 i ∧ a + 2 ≤ i ∧ i ≤ e ∧ Hid (n < 18446744073709551616 ∧ N = hn s (e - i) i n)) (fun _ vi => e - (intOf vi).toNat)
      case atStart => exact ⟨0, a + 2, rfl, by rw [e2], by omega, hge, by decide, HN.out⟩
      case round =>
        obtain ⟨n, i, rfl, rfl, hi1, hi2, HR⟩ := hrel
        by_cases hl : i < e
        · have g1 : decide ((i : Int) < (e : Int)) = true := by simp; omega
          have hh := HAL.out i hi1 hl
          have hix := run_bt s i (by omega) W0
          have HV := hid (fun W => hexValue_any (bt s i) hh W)
          have hw1 : IntKind.i64.wrap ((i : Int) + 1) = (i : Int) + 1 := by rw [IntKind.wrap_i64]; omega
          have hsh := shl4 n
          have hv16 := hv_lt hh
          have hor := orHx n (hv (bt s i)) hv16
          have HX : Hid (hx n (hv (bt s i)) < 18446744073709551616) := hx_lt hv16
          have HM : Hid (N = hn s (e - (i + 1)) (i + 1) (hx n (hv (bt s i)))) := by show _ = _; rw [← hn_step hl]; exact HR.out.2
          generalize hx n (hv (bt s i)) = n' at hor HM HX
          generalize hv (bt s i) = hvc at hor hv16 HV
          generalize bt s i = c at hix HV hh
          generalize n * 16 % 18446744073709551616 = m at hor hsh
          clear hh hv16 HR
          go_wp2_with (go_at_call 69; refine (HV.out _).mono ?_; rintro e w' ⟨rfl, hw⟩; obtain rfl := hw.symm)
          go_round
          case rel => exact ⟨n', i + 1, rfl, by go_num, by omega, by omega, HX.out, HM.out⟩
          case measure => simp [intOf]; omega
        · obtain rfl : i = e := by omega
          have g1 : decide ((i : Int) < (i : Int)) = false := by simp
          have hNn : N = n := by rw [HR.out.2, Nat.sub_self, hn]
          subst hNn
          have HW := hid (number_any i N)
          clear HR
          go_wp2_with (first
            | (go_at_call 70; refine (HW.out _).mono ?_; rintro e W3 ⟨rfl, hb3⟩; have HZ3 := hid (HZ.out.on hb3); clear hb3 HW)
            | (refine stRow 71 (.tmp 3) (.tmp 49) rfl rfl w.heap.size (fdc ⟨2, i, N, 0⟩) rfl rfl 71 _ HZ3.out.blk (fd4 _) rfl (fd1 _) ?_))
          try simp only [Exit.inBlock, Exit.then]
          refine bodyPost_ret (v := kdV (some ⟨2, i, N, 0⟩)) (results_ct Tryz.results71 _ _ w.heap.size ⟨2, i, N, 0⟩ rfl ?_) rfl ?_
          · exact (HZ3.out.set _).blk
          · exact ⟨rfl, (HZ3.out.set _).low⟩
  · have hr : kx s a = none := by unfold kx; rw [if_neg hx0]
    rw [hr]
    rw [decide_eq_false hx0] at HP
    clear hr hx0
    go_enter Tryz.func71, Tryz.ntmps71
    go_upto_region 1 with fail
    rw [HW0.out]
    clear HW0
    go_wp2_with (first
      | (go_at_call 54; refine (HP.out _).mono ?_; rintro e w' ⟨rfl, hw⟩; obtain rfl := hw.symm; clear HP)
      | (refine stRow 71 (.tmp 3) (.tmp 14) rfl rfl w.heap.size (fdc ⟨0, 0, 0, 0⟩) rfl rfl 71 _ HZ.out.blk (fd4 _) rfl (fd1 _) ?_))
    refine bodyPost_ret (v := kdV none) (results_ct Tryz.results71 _ _ w.heap.size ⟨0, 0, 0, 0⟩ rfl ?_) rfl ?_
    · exact (HZ.out.set _).blk
    · exact ⟨rfl, (HZ.out.set _).low⟩
end Go.Proofs.YtoncogkamlgjhaaGreatDoor
namespace Go.Proofs.YtoncogkamlgjhaaGreatDoor
set_option maxRecDepth 100000
open Go.RowKit
set_option maxRecDepth 100000

section
variable {ops : Array Oper} {o : Oper} {a : Act} {w : World} {K : Act → World → Prop} {Q : Exit → Act → World → Prop} {E : Prop}
/-- A call of a function value as a step of a region that draws its order. -/
theorem stepC (f : FuncId) (y : Operand) (xs : List Operand) (ts : Array TypeId) (args caps : List Value) (hop : o.op = .call { callee := .value y, args := xs.toArray, argTypes := ts }) (hw : Region.wanted o (yielded ops a.tmps) = true) (hy : a.eval y = .func (.func f) #[] caps.toArray) (hx : xs.map a.eval = args) (hE : ∀ (args : Array Value) w, (callFunc f args).run Tryz.prog w = .ok (.enter f args) w)
    (Φ : Ending → World → Prop) (hC : Calls Tryz.prog f (args ++ caps).toArray w Φ) (hK : ∀ e w', Φ e w' → (∃ v, e = .returned v ∧ K (a.put o.dst v) w') ∨ ∃ ch, e = .panicked ch ∧ Q (.panic ch) a w') : if Region.wanted o (yielded ops a.tmps) = true then Oper.wp Tryz.prog o a w K Q else E := by
  rw [if_pos hw]
  have hrun : (execOp a.eval o).run Tryz.prog w = .ok (.enter f (args ++ caps).toArray) w := by
    unfold execOp
    simp only [hop, resolve, invoke, Deferred.ofValue, hy, Sem.run_bind, Sem.run_pure, Result.andThen_ok, List.map_toArray, hx, List.append_toArray, List.nil_append, hE]
  show Oper.upon Tryz.prog o a K Q ((execOp a.eval o).run Tryz.prog w)
  rw [hrun, Oper.upon_enter]
  refine hC.mono ?_
  intro e w' h
  rcases hK e w' h with ⟨v, rfl, hk⟩ | ⟨ch, rfl, hk⟩
  · exact hk
  · exact hk
end
theorem dotAt_any (s : ByteArray) (k b : Nat) (w : World) (hb : w.cell? ⟨b, 0, none⟩ = some (.string s)) : Calls Tryz.prog 74 #[.int .i64 k, .pointer (some ⟨b, 0, none⟩)] w fun e w' => e = .returned (.bool (decide (bt s k = 46))) ∧ w' = w := by
  by_cases h : k < s.size
  · have g1 : decide ((k : Int) < (s.size : Int)) = true := by simp; omega
    have hix := run_bt s k h w
    have hr : decide (bt s k = 46) = (((bt s k : Nat) : Int) == 46) := by rw [Bool.eq_iff_iff]; simp; omega
    rw [hr]; clear hr
    generalize bt s k = c at hix ⊢
    go_enter Tryz.func74, Tryz.ntmps74
    go_wp2
    go_ret
    exact ⟨rfl, rfl⟩
  · have g1 : decide ((k : Int) < (s.size : Int)) = false := by simp; omega
    have hr : decide (bt s k = 46) = false := by rw [bt_out h]; rfl
    rw [hr]; clear hr
    go_enter Tryz.func74, Tryz.ntmps74
    go_wp2
    go_ret
    exact ⟨rfl, rfl⟩

def dotR (s : ByteArray) : Nat → Nat → Nat → Fd
  | 0, k, n => ⟨2, k, n, 0⟩
  | f + 1, k, n => if f = 3 then (if badP s k then ⟨0, rE isD s k, 0, 150⟩ else dotR s f (rE isD s k) (n * 256 + dcv s k))
      else if bt s k = 46 then (if badP s (k + 1) then ⟨0, rE isD s (k + 1), 0, 150⟩ else dotR s f (rE isD s (k + 1)) (n * 256 + dcv s (k + 1))) else ⟨0, k, 0, 150⟩
def k4 (s : ByteArray) (a : Nat) : Option Fd := if bt s (rE isD s a) = 46 then some (dotR s 4 a 0) else none
theorem dotR_0 {s : ByteArray} {k n : Nat} : dotR s (4 - 0) k n = if badP s k then ⟨0, rE isD s k, 0, 150⟩ else dotR s (4 - 1) (rE isD s k) (n * 256 + dcv s k) := by
  show dotR s (3 + 1) k n = _
  rw [dotR, if_pos rfl]
theorem dotR_i {s : ByteArray} {k n i : Nat} (h0 : i ≠ 0) (hi : i < 4) : dotR s (4 - i) k n = if bt s k = 46 then (if badP s (k + 1) then ⟨0, rE isD s (k + 1), 0, 150⟩ else dotR s (4 - (i + 1)) (rE isD s (k + 1)) (n * 256 + dcv s (k + 1))) else ⟨0, k, 0, 150⟩ := by
  rw [show 4 - i = (4 - (i + 1)) + 1 by omega, dotR, if_neg (by omega)]
abbrev clD (b : Nat) : Value := .func (.func 74) #[] #[.pointer (some ⟨b, 0, none⟩)]
structure Cp (s : ByteArray) (b bc : Nat) (W : World) : Prop where
  c1 : W.cell? ⟨bc, 0, none⟩ = some (clD b)
  c2 : W.cell? ⟨b, 0, none⟩ = some (.string s)
theorem Cp.on {s : ByteArray} {b bc : Nat} {W W' : World} (h : Cp s b bc W) (hb : Below W.heap.size W W') : Cp s b bc W' :=
  ⟨(hb.cell (p := ⟨bc, 0, none⟩) (cell_lt h.c1)).trans h.c1, (hb.cell (p := ⟨b, 0, none⟩) (cell_lt h.c2)).trans h.c2⟩
/-- where the loop over parts is -/
structure Lp (s : ByteArray) (b bc : Nat) (w W : World) : Prop where
  rz : Rz w w.heap.size ⟨0, 0, 0, 0⟩ W
  cp : Cp s b bc W
  tb : Tab0 W
theorem Lp.on {s : ByteArray} {b bc : Nat} {w W W' : World} (h : Lp s b bc w W) (hb : Below W.heap.size W W') : Lp s b bc w W' := ⟨h.rz.on hb, h.cp.on hb, h.tb.on hb⟩
theorem entD (args : Array Value) (w : World) : (callFunc 74 args).run Tryz.prog w = .ok (.enter 74 args) w := rfl
theorem shl8 {n : Nat} (h : n < 16777216) : IntKind.u64.wrap ((n : Int) * 256) = ((n * 256 : Nat) : Int) := by rw [IntKind.wrap_u64]; omega
theorem or8 {n x : Nat} (h : n < 16777216) (hx : x < 256) : bits .or .u64 ((n * 256 : Nat) : Int) (x : Int) = ((n * 256 + x : Nat) : Int) := by
  rw [u64_or_nat _ _ (by omega) (by omega), or_low (i := 8) (by omega) (by omega)]
theorem pow_i {i n : Nat} (hi : i < 4) (h : n < 256 ^ i) : n < 16777216 := by
  have : 256 ^ i ≤ 256 ^ 3 := Nat.pow_le_pow_right (by decide) (by omega)
  have e : 256 ^ 3 = 16777216 := by decide
  omega
theorem pow_s {i n x : Nat} (h : n < 256 ^ i) (hx : x < 256) : n * 256 + x < 256 ^ (i + 1) := by rw [Nat.pow_succ]; omega
set_option maxHeartbeats 3200000 in
theorem fourParts_any (s : ByteArray) (a b bc : Nat) (w : World) (ht : Tab0 w) (hb : Cp s b bc w) (ha : a ≤ s.size) (hs : s.size ≤ 65536) :
    Calls Tryz.prog 75 #[.int .i64 a, .pointer (some ⟨bc, 0, none⟩), .pointer (some ⟨b, 0, none⟩)] w fun e w' => e = .returned (kdV (k4 s a)) ∧ Below w.heap.size w w' := by
  have HL0 : Hid (Lp s b bc w (w.alloc (.cells (fdc ⟨0, 0, 0, 0⟩) 71))) := ⟨Rz.new w, hb.on (Rz.new w).low, ht.on (Rz.new w).low⟩
  obtain ⟨W0, hW0⟩ : ∃ W0, W0 = w.alloc (.cells (fdc ⟨0, 0, 0, 0⟩) 71) := ⟨_, rfl⟩
  have HW0 : Hid (w.alloc (.cells #[.int .i8 0, .int .i64 0, .int .u64 0, .int .i64 0] 71) = W0) := hW0.symm
  rw [← hW0] at HL0
  clear hW0 hb ht
  have HL : Hid (Lp s b bc w W0.drew) := HL0.out.on ((Below.refl _ _).drew)
  have HE := hid (runEnd_any tellsD s a ha (by omega) W0.drew)
  have HD := hid (dotAt_any s (rE isD s a) b W0.drew HL.out.cp.c2)
  have HK : Hid (k4 s a = if bt s (rE isD s a) = 46 then some (dotR s 4 a 0) else none) := rfl
  generalize rE isD s a = e0 at HE HD HK
  go_enter Tryz.func75, Tryz.ntmps75
  go_upto_region 1 with fail
  rw [HW0.out]
  clear HW0
  refine wp_region_held_drew (S := Cp s b bc) (by kernel_rfl) HL.out.cp (fun hHeld => ?_)
  refine wpAnyH_take (i := 0) (v := ?_) rfl (by kernel_rfl) (by kernel_rfl) (by kernel_rfl) (fun _ _ _ h => h) (Or.inl ⟨by rfl, ?_⟩) hHeld ?_
  rotate_left
  · intro w' hSw
    have c1 := hSw.c1
    clear hSw
    go_simp
    first | done | with_reducible rfl
  simp only [Act.put, List.getElem_toArray, List.getElem_cons_zero, List.setIfInBounds_toArray, List.set_cons_zero, List.set_cons_succ]
  refine wpAnyH_take (i := 1) (v := ?_) rfl (by kernel_rfl) (by kernel_rfl) (by kernel_rfl) (fun _ _ _ h => h) (Or.inl ⟨by rfl, ?_⟩) hHeld ?_
  rotate_left
  · intro w' hSw
    have c2 := hSw.c2
    clear hSw
    go_simp
    first | done | with_reducible rfl
  simp only [Act.put, List.getElem_toArray, List.getElem_cons_succ, List.getElem_cons_zero, List.setIfInBounds_toArray, List.set_cons_zero, List.set_cons_succ]
  refine wpAnyH_take (i := 2) (v := ?_) rfl (by kernel_rfl) (by kernel_rfl) (by kernel_rfl) (fun _ _ _ h => h) (Or.inl ⟨by rfl, ?_⟩) hHeld ?_
  rotate_left
  · intro w' hSw
    clear hSw
    go_simp
    first | done | with_reducible rfl
  simp only [Act.put, List.getElem_toArray, List.getElem_cons_succ, List.getElem_cons_zero, List.setIfInBounds_toArray, List.set_cons_zero, List.set_cons_succ]
  refine wpAnyH_ready (rs := [3]) (by kernel_rfl) (by simp) ?_
  refine AllReadyH.cons rfl (fun K hK => ?_) AllReadyH.nil
  refine stepC 72 (.func 72) [.tmp 13, .tmp 14, .func 76] _ [.string s, .int .i64 a, fnV 76] [] rfl rfl rfl rfl (fun _ _ => rfl) _ HE.out ?_
  rintro e w' ⟨rfl, rfl⟩
  refine Or.inl ⟨_, rfl, ?_⟩
  clear HE
  refine hK.out _ _ HL.out.cp (fun hHeld => ?_)
  clear hK K
  simp only [Act.put, List.getElem_toArray, List.getElem_cons_succ, List.getElem_cons_zero, List.setIfInBounds_toArray, List.set_cons_zero, List.set_cons_succ]
  refine wpAnyH_ready (rs := [4]) (by kernel_rfl) (by simp) ?_
  refine AllReadyH.cons rfl (fun K hK => ?_) AllReadyH.nil
  refine stepC 74 (.tmp 12) [.tmp 15] _ [.int .i64 e0] [.pointer (some ⟨b, 0, none⟩)] rfl rfl rfl rfl entD _ HD.out ?_
  rintro e w' ⟨rfl, rfl⟩
  refine Or.inl ⟨_, rfl, ?_⟩
  clear HD
  refine hK.out _ _ HL.out.cp (fun hHeld => ?_)
  clear hK K
  simp only [Act.put, List.getElem_toArray, List.getElem_cons_succ, List.getElem_cons_zero, List.setIfInBounds_toArray, List.set_cons_zero, List.set_cons_succ]
  refine wpAnyH_take (i := 5) (v := ?_) rfl (by kernel_rfl) (by kernel_rfl) (by kernel_rfl) (fun _ _ _ h => h) (Or.inl ⟨by rfl, ?_⟩) hHeld ?_
  rotate_left
  · intro w' hSw
    clear hSw
    go_simp
    first | done | with_reducible rfl
  simp only [Act.put, List.getElem_toArray, List.getElem_cons_succ, List.getElem_cons_zero, List.setIfInBounds_toArray, List.set_cons_zero, List.set_cons_succ]
  refine wpAnyH_done (by kernel_rfl) ?_ _
  generalize W0.drew = W1 at HL ⊢
  by_cases hd : bt s e0 = 46
  · have hr : k4 s a = some (dotR s 4 a 0) := by rw [HK.out, if_pos hd]
    have hdd : decide (bt s e0 = 46) = true := decide_eq_true hd
    rw [hdd]
    obtain ⟨R, hR⟩ : ∃ R, R = dotR s 4 a 0 := ⟨_, rfl⟩
    have HKR : Hid (k4 s a = some R) := by rw [hr, hR]; rfl
    have HR0 := hid hR
    clear HK hr hd hdd HL0 hR
    go_upto_region 6 with fail
    go_loopw [6, 7, 20] (fun vn ve vi wr => ∃ i n k : Nat, vn = .int .u64 n ∧ ve = .int .i64 k ∧ vi = .int .i64 i ∧ i ≤ 4 ∧ k ≤ s.size ∧ Hid (n < 256 ^ i) ∧ Hid (dotR s (4 - i) k n = R) ∧ Hid (Lp s b bc w wr)) (fun _ _ vi _ => 4 - (intOf vi).toNat)
    case atStart => exact ⟨0, 0, a, rfl, rfl, rfl, by omega, ha, (show 0 < 256 ^ 0 by decide), HR0.out.symm, HL.out⟩
    case round =>
      clear HR0 HL
      obtain ⟨i, n, k, rfl, rfl, rfl, hi, hk, HN, HR, HL⟩ := hrel
      by_cases hl : i < 4
      · have g1 : decide ((i : Int) < 4) = true := by simp; omega
        have hw1 : IntKind.i64.wrap ((i : Int) + 1) = (i : Int) + 1 := by rw [IntKind.wrap_i64]; omega
        by_cases hi0 : i = 0
        · subst hi0
          have HRT : Hid (R = if badP s k then ⟨0, rE isD s k, 0, 150⟩ else dotR s (4 - (0 + 1)) (rE isD s k) (n * 256 + dcv s k)) := by show _ = _; rw [← HR.out, dotR_0]
          have hkk := hk
          clear HR g1 hw1
          have hge := rE_ge isD s (k)
          have hle := rE_le (p := isD) (s := s) (k := k) hkk
          have HE := hid (fun W => runEnd_any tellsD s (k) hkk (by omega) W)
          have hal : ∀ j, k ≤ j → j < rE isD s (k) → isD (bt s j) = true := fun j => rE_all
          have HBP : Hid (badP s (k) ↔ (rE isD s (k) = k ∨ 255 < dn s (rE isD s (k) - (k)) (k) 0 ∨ (1 < rE isD s (k) - (k) ∧ bt s (k) = 48))) := Iff.rfl
          have HRR : Hid (R = if badP s (k) then ⟨0, rE isD s (k), 0, 150⟩ else dotR s (4 - (0 + 1)) (rE isD s (k)) (n * 256 + dn s (rE isD s (k) - (k)) (k) 0)) := HRT.out
          clear HRT
          generalize rE isD s (k) = e at hge hle HE hal HBP HRR
          have hc2 := HL.out.cp.c2
          have hc1 := HL.out.cp.c1
          have hkI : (((k : Nat)) : Int) = (k : Int) := by omega
          rw [hkI] at HE
          by_cases hp1 : k = e ∨ 255 < dn s (e - (k)) (k) 0
          · have hR : R = ⟨0, e, 0, 150⟩ := by rw [HRR.out, if_pos (HBP.out.2 (by rcases hp1 with h | h; exact .inl h.symm; exact .inr (.inl h)))]
            have HP := hid (pu8_no hge hle hs hal hp1 _ HL.out.tb)
            have HW := hid (wrong_any e 150)
            clear HRR HBP hal hp1
            go_wp2_with (first
              | (go_at_call 72; refine (HE.out _).mono ?_; rintro e w' ⟨rfl, hw⟩; obtain rfl := hw.symm)
              | (go_at_call 77; refine (HP.out).mono ?_; rintro e W2 ⟨⟨n, N, rfl⟩, hb2⟩; have HL2 := hid (HL.out.on hb2); clear hb2 HP)
              | (go_at_call 73; refine (HW.out _).mono ?_; rintro e W3 ⟨rfl, hb3⟩; have HL3 := hid (HL2.out.on hb3); clear hb3 HW)
              | (refine stRow 71 (.tmp 4) (.tmp 58) rfl rfl w.heap.size (fdc ⟨0, e, 0, 150⟩) rfl rfl 71 _ HL3.out.rz.blk (fd4 _) rfl (fd1 _) ?_))
            try simp only [Exit.inBlock, Exit.then]
            refine bodyPost_ret (v := kdV (some ⟨0, e, 0, 150⟩)) (results_ct Tryz.results75 _ _ w.heap.size ⟨0, e, 0, 150⟩ rfl ?_) rfl ?_
            · exact (HL3.out.rz.set _).blk
            · exact ⟨by rw [HKR.out, hR], (HL3.out.rz.set _).low⟩
          · have HP := hid (pu8_ok (s := s) (a := k) (e := e) (by omega) hle hs hal (by omega) wr)
            have HZe := hid (fun W => zero_any (s.extract (k) e) W)
            rw [size_ext hle, ext_bt0 hle (by omega), Nat.add_zero] at HZe
            rw [hkI.symm] at *
            by_cases hz : 1 < e - (k) ∧ bt s (k) = 48
            · have hR : R = ⟨0, e, 0, 150⟩ := by rw [HRR.out, if_pos (HBP.out.2 (.inr (.inr hz)))]
              have hzz : (decide (1 < e - (k)) && decide (bt s (k) = 48)) = true := by simp [hz]
              rw [hzz] at HZe
              have HW := hid (wrong_any e 150)
              generalize dn s (e - (k)) (k) 0 = x at HP
              clear HRR HBP hal hp1 hz hzz
              go_wp2_with (first
                | (go_at_call 72; refine (HE.out _).mono ?_; rintro e w' ⟨rfl, hw⟩; obtain rfl := hw.symm)
                | (go_at_call 77; refine (HP.out).mono ?_; rintro e W2 ⟨rfl, hb2⟩; have HL2 := hid (HL.out.on hb2); replace hc2 := HL2.out.cp.c2; clear hb2 HP)
                | (go_at_call 78; refine (HZe.out _).mono ?_; rintro e w' ⟨rfl, hw⟩; obtain rfl := hw.symm; clear HZe)
                | (go_at_call 73; refine (HW.out _).mono ?_; rintro e W3 ⟨rfl, hb3⟩; have HL3 := hid (HL2.out.on hb3); clear hb3 HW)
                | (refine stRow 71 (.tmp 4) (.tmp 58) rfl rfl w.heap.size (fdc ⟨0, e, 0, 150⟩) rfl rfl 71 _ HL3.out.rz.blk (fd4 _) rfl (fd1 _) ?_))
              try simp only [Exit.inBlock, Exit.then]
              refine bodyPost_ret (v := kdV (some ⟨0, e, 0, 150⟩)) (results_ct Tryz.results75 _ _ w.heap.size ⟨0, e, 0, 150⟩ rfl ?_) rfl ?_
              · exact (HL3.out.rz.set _).blk
              · exact ⟨by rw [HKR.out, hR], (HL3.out.rz.set _).low⟩
            · have hbn : ¬ badP s (k) := fun h => by
                rcases HBP.out.1 h with h | h | h
                · exact hp1 (.inl h.symm)
                · exact hp1 (.inr h)
                · exact hz h
              have HRn : Hid (dotR s (4 - (0 + 1)) e (n * 256 + dn s (e - (k)) (k) 0) = R) := by show _ = _; rw [HRR.out, if_neg hbn]
              have hzz : (decide (1 < e - (k)) && decide (bt s (k) = 48)) = false := by
                rw [Bool.eq_false_iff]; intro h; apply hz; simpa using h
              rw [hzz] at HZe
              have hx : dn s (e - (k)) (k) 0 < 256 := by omega
              generalize dn s (e - (k)) (k) 0 = x at HP HRn hx hp1
              have hsh := shl8 (pow_i (i := 0) (by omega) HN.out)
              have hor := or8 (pow_i (i := 0) (by omega) HN.out) hx
              have HN2 := hid (pow_s HN.out hx)
              generalize n * 256 + x = n' at hor HN2 HRn
              generalize n * 256 = m at hsh hor
              clear HRR HBP hal hp1 hz hzz hbn hx
              go_wp2_with (first
                | (go_at_call 72; refine (HE.out _).mono ?_; rintro e w' ⟨rfl, hw⟩; obtain rfl := hw.symm)
                | (go_at_call 77; refine (HP.out).mono ?_; rintro e W2 ⟨rfl, hb2⟩; have HL2 := hid (HL.out.on hb2); replace hc2 := HL2.out.cp.c2; clear hb2 HP)
                | (go_at_call 78; refine (HZe.out _).mono ?_; rintro e w' ⟨rfl, hw⟩; obtain rfl := hw.symm; clear HZe))
              refine ⟨?_, ?_⟩
              · (repeat apply Exists.intro)
                refine ⟨?_, rfl⟩
                exact ⟨0 + 1, n', e, rfl, rfl, by go_num, by omega, hle, HN2.out, HRn.out, HL2.out⟩
              · first | (simp [intOf]; done) | (simp [intOf]; omega)
        · have g2 : decide ((0 : Int) < (i : Int)) = true := by simp; omega
          have g2n : decide (0 < i) = true := by simp; omega
          have HD := hid (dotAt_any s k b wr HL.out.cp.c2)
          have hc1 := HL.out.cp.c1
          have HRi : Hid (R = if bt s k = 46 then (if badP s (k + 1) then ⟨0, rE isD s (k + 1), 0, 150⟩ else dotR s (4 - (i + 1)) (rE isD s (k + 1)) (n * 256 + dcv s (k + 1))) else ⟨0, k, 0, 150⟩) := by show _ = _; rw [← HR.out, dotR_i hi0 hl]
          clear HR
          by_cases hdk : bt s k = 46
          · have hkk : k + 1 ≤ s.size := in_of_bt (by rw [hdk]; decide)
            have HRT : Hid (R = if badP s (k + 1) then ⟨0, rE isD s (k + 1), 0, 150⟩ else dotR s (4 - (i + 1)) (rE isD s (k + 1)) (n * 256 + dcv s (k + 1))) := by show _ = _; rw [HRi.out, if_pos hdk]
            rw [decide_eq_true hdk] at HD
            have hwk : IntKind.i64.wrap ((k : Int) + 1) = (k : Int) + 1 := by rw [IntKind.wrap_i64]; omega
            clear HRi hdk
            go_upto_region 12 with (refine callC 74 (.tmp 25) [.tmp 26] _ [.int .i64 k] [.pointer (some ⟨b, 0, none⟩)] rfl rfl rfl rfl entD _ HD.out ?_; rintro r w5 ⟨rfl, hw⟩; obtain rfl := hw.symm; refine Or.inl ⟨_, rfl, ?_⟩; clear HD)
            have hge := rE_ge isD s (k + 1)
            have hle := rE_le (p := isD) (s := s) (k := k + 1) hkk
            have HE := hid (fun W => runEnd_any tellsD s (k + 1) hkk (by omega) W)
            have hal : ∀ j, k + 1 ≤ j → j < rE isD s (k + 1) → isD (bt s j) = true := fun j => rE_all
            have HBP : Hid (badP s (k + 1) ↔ (rE isD s (k + 1) = k + 1 ∨ 255 < dn s (rE isD s (k + 1) - (k + 1)) (k + 1) 0 ∨ (1 < rE isD s (k + 1) - (k + 1) ∧ bt s (k + 1) = 48))) := Iff.rfl
            have HRR : Hid (R = if badP s (k + 1) then ⟨0, rE isD s (k + 1), 0, 150⟩ else dotR s (4 - (i + 1)) (rE isD s (k + 1)) (n * 256 + dn s (rE isD s (k + 1) - (k + 1)) (k + 1) 0)) := HRT.out
            clear HRT
            generalize rE isD s (k + 1) = e at hge hle HE hal HBP HRR
            have hc2 := HL.out.cp.c2
            have hc1 := HL.out.cp.c1
            have hkI : (((k + 1 : Nat)) : Int) = (k : Int) + 1 := by omega
            rw [hkI] at HE
            by_cases hp1 : k + 1 = e ∨ 255 < dn s (e - (k + 1)) (k + 1) 0
            · have hR : R = ⟨0, e, 0, 150⟩ := by rw [HRR.out, if_pos (HBP.out.2 (by rcases hp1 with h | h; exact .inl h.symm; exact .inr (.inl h)))]
              have HP := hid (pu8_no hge hle hs hal hp1 _ HL.out.tb)
              have HW := hid (wrong_any e 150)
              clear HRR HBP hal hp1
              go_wp2_with (first
                | (go_at_call 72; refine (HE.out _).mono ?_; rintro e w' ⟨rfl, hw⟩; obtain rfl := hw.symm)
                | (go_at_call 77; refine (HP.out).mono ?_; rintro e W2 ⟨⟨n, N, rfl⟩, hb2⟩; have HL2 := hid (HL.out.on hb2); clear hb2 HP)
                | (go_at_call 73; refine (HW.out _).mono ?_; rintro e W3 ⟨rfl, hb3⟩; have HL3 := hid (HL2.out.on hb3); clear hb3 HW)
                | (refine stRow 71 (.tmp 4) (.tmp 58) rfl rfl w.heap.size (fdc ⟨0, e, 0, 150⟩) rfl rfl 71 _ HL3.out.rz.blk (fd4 _) rfl (fd1 _) ?_))
              try simp only [Exit.inBlock, Exit.then]
              refine bodyPost_ret (v := kdV (some ⟨0, e, 0, 150⟩)) (results_ct Tryz.results75 _ _ w.heap.size ⟨0, e, 0, 150⟩ rfl ?_) rfl ?_
              · exact (HL3.out.rz.set _).blk
              · exact ⟨by rw [HKR.out, hR], (HL3.out.rz.set _).low⟩
            · have HP := hid (pu8_ok (s := s) (a := k + 1) (e := e) (by omega) hle hs hal (by omega) wr)
              have HZe := hid (fun W => zero_any (s.extract (k + 1) e) W)
              rw [size_ext hle, ext_bt0 hle (by omega), Nat.add_zero] at HZe
              rw [hkI.symm] at *
              by_cases hz : 1 < e - (k + 1) ∧ bt s (k + 1) = 48
              · have hR : R = ⟨0, e, 0, 150⟩ := by rw [HRR.out, if_pos (HBP.out.2 (.inr (.inr hz)))]
                have hzz : (decide (1 < e - (k + 1)) && decide (bt s (k + 1) = 48)) = true := by simp [hz]
                rw [hzz] at HZe
                have HW := hid (wrong_any e 150)
                generalize dn s (e - (k + 1)) (k + 1) 0 = x at HP
                clear HRR HBP hal hp1 hz hzz
                go_wp2_with (first
                  | (go_at_call 72; refine (HE.out _).mono ?_; rintro e w' ⟨rfl, hw⟩; obtain rfl := hw.symm)
                  | (go_at_call 77; refine (HP.out).mono ?_; rintro e W2 ⟨rfl, hb2⟩; have HL2 := hid (HL.out.on hb2); replace hc2 := HL2.out.cp.c2; clear hb2 HP)
                  | (go_at_call 78; refine (HZe.out _).mono ?_; rintro e w' ⟨rfl, hw⟩; obtain rfl := hw.symm; clear HZe)
                  | (go_at_call 73; refine (HW.out _).mono ?_; rintro e W3 ⟨rfl, hb3⟩; have HL3 := hid (HL2.out.on hb3); clear hb3 HW)
                  | (refine stRow 71 (.tmp 4) (.tmp 58) rfl rfl w.heap.size (fdc ⟨0, e, 0, 150⟩) rfl rfl 71 _ HL3.out.rz.blk (fd4 _) rfl (fd1 _) ?_))
                try simp only [Exit.inBlock, Exit.then]
                refine bodyPost_ret (v := kdV (some ⟨0, e, 0, 150⟩)) (results_ct Tryz.results75 _ _ w.heap.size ⟨0, e, 0, 150⟩ rfl ?_) rfl ?_
                · exact (HL3.out.rz.set _).blk
                · exact ⟨by rw [HKR.out, hR], (HL3.out.rz.set _).low⟩
              · have hbn : ¬ badP s (k + 1) := fun h => by
                  rcases HBP.out.1 h with h | h | h
                  · exact hp1 (.inl h.symm)
                  · exact hp1 (.inr h)
                  · exact hz h
                have HRn : Hid (dotR s (4 - (i + 1)) e (n * 256 + dn s (e - (k + 1)) (k + 1) 0) = R) := by show _ = _; rw [HRR.out, if_neg hbn]
                have hzz : (decide (1 < e - (k + 1)) && decide (bt s (k + 1) = 48)) = false := by
                  rw [Bool.eq_false_iff]; intro h; apply hz; simpa using h
                rw [hzz] at HZe
                have hx : dn s (e - (k + 1)) (k + 1) 0 < 256 := by omega
                generalize dn s (e - (k + 1)) (k + 1) 0 = x at HP HRn hx hp1
                have hsh := shl8 (pow_i (i := i) (by omega) HN.out)
                have hor := or8 (pow_i (i := i) (by omega) HN.out) hx
                have HN2 := hid (pow_s HN.out hx)
                generalize n * 256 + x = n' at hor HN2 HRn
                generalize n * 256 = m at hsh hor
                clear HRR HBP hal hp1 hz hzz hbn hx
                go_wp2_with (first
                  | (go_at_call 72; refine (HE.out _).mono ?_; rintro e w' ⟨rfl, hw⟩; obtain rfl := hw.symm)
                  | (go_at_call 77; refine (HP.out).mono ?_; rintro e W2 ⟨rfl, hb2⟩; have HL2 := hid (HL.out.on hb2); replace hc2 := HL2.out.cp.c2; clear hb2 HP)
                  | (go_at_call 78; refine (HZe.out _).mono ?_; rintro e w' ⟨rfl, hw⟩; obtain rfl := hw.symm; clear HZe))
                refine ⟨?_, ?_⟩
                · (repeat apply Exists.intro)
                  refine ⟨?_, rfl⟩
                  exact ⟨i + 1, n', e, rfl, rfl, by go_num, by omega, hle, HN2.out, HRn.out, HL2.out⟩
                · first | (simp [intOf]; done) | (simp [intOf]; omega)
          · have hR : R = ⟨0, k, 0, 150⟩ := by rw [HRi.out, if_neg hdk]
            rw [decide_eq_false hdk] at HD
            have HW := hid (wrong_any k 150)
            clear HRi hdk
            go_wp2_with (first
              | (go_at_call 73; refine (HW.out _).mono ?_; rintro e W3 ⟨rfl, hb3⟩; have HL3 := hid (HL.out.on hb3); clear hb3 HW)
              | (refine callC 74 (.tmp 25) [.tmp 26] _ [.int .i64 k] [.pointer (some ⟨b, 0, none⟩)] rfl rfl rfl rfl entD _ HD.out ?_; rintro r w5 ⟨rfl, hw⟩; obtain rfl := hw.symm; refine Or.inl ⟨_, rfl, ?_⟩; clear HD)
              | (refine stRow 71 (.tmp 4) (.tmp 31) rfl rfl w.heap.size (fdc ⟨0, k, 0, 150⟩) rfl rfl 71 _ HL3.out.rz.blk (fd4 _) rfl (fd1 _) ?_))
            try simp only [Exit.inBlock, Exit.then]
            refine bodyPost_ret (v := kdV (some ⟨0, k, 0, 150⟩)) (results_ct Tryz.results75 _ _ w.heap.size ⟨0, k, 0, 150⟩ rfl ?_) rfl ?_
            · exact (HL3.out.rz.set _).blk
            · exact ⟨by rw [HKR.out, hR], (HL3.out.rz.set _).low⟩
      · obtain rfl : i = 4 := by omega
        have g1 : decide ((4 : Int) < 4) = false := by decide
        have hR : R = ⟨2, k, n, 0⟩ := by rw [← HR.out]; rfl
        have HW := hid (number_any k n)
        clear HR
        go_wp2_with (first
          | (go_at_call 70; refine (HW.out _).mono ?_; rintro e W3 ⟨rfl, hb3⟩; have HL3 := hid (HL.out.on hb3); clear hb3 HW)
          | (refine stRow 71 (.tmp 4) (.tmp 68) rfl rfl w.heap.size (fdc ⟨2, k, n, 0⟩) rfl rfl 71 _ HL3.out.rz.blk (fd4 _) rfl (fd1 _) ?_))
        try simp only [Exit.inBlock, Exit.then]
        refine bodyPost_ret (v := kdV (some ⟨2, k, n, 0⟩)) (results_ct Tryz.results75 _ _ w.heap.size ⟨2, k, n, 0⟩ rfl ?_) rfl ?_
        · exact (HL3.out.rz.set _).blk
        · exact ⟨by rw [HKR.out, hR], (HL3.out.rz.set _).low⟩
  · have hr : k4 s a = none := by rw [HK.out, if_neg hd]
    have hdd : decide (bt s e0 = 46) = false := decide_eq_false hd
    rw [hdd]
    have HKR := hid hr
    clear HK hr hd hdd HL0
    go_wp2_with (refine stRow 71 (.tmp 4) (.tmp 18) rfl rfl w.heap.size (fdc ⟨0, 0, 0, 0⟩) rfl rfl 71 _ HL.out.rz.blk (fd4 _) rfl (fd1 _) ?_)
    refine bodyPost_ret (v := kdV none) (results_ct Tryz.results75 _ _ w.heap.size ⟨0, 0, 0, 0⟩ rfl ?_) rfl ?_
    · exact (HL.out.rz.set _).blk
    · exact ⟨by rw [HKR.out], (HL.out.rz.set _).low⟩
end Go.Proofs.YtoncogkamlgjhaaGreatDoor
