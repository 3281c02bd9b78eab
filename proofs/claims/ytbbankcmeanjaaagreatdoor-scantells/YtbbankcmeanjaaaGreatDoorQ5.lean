/-
  Proved here: the closures of decimal and hexadecimal of package scan; no old memory turns. Conditions: the text lies in its variable; the place is within it; strconv's errors are some.
-/
import Derived.Test.YtbbankcmeanjaaaGreatDoorQ4
namespace Go.Proofs.YtbbankcmeanjaaaGreatDoor
set_option maxRecDepth 100000
open Go.RowKit
set_option maxRecDepth 100000

def kd (s : ByteArray) (a : Nat) : Option Fd :=
  if rE isD s a = a then none
  else if 18446744073709551615 < dcv s a then some ⟨0, rE isD s a, 0, 3⟩
  else if 1 < rE isD s a - a ∧ bt s a = 48 then some ⟨0, rE isD s a, 0, 150⟩ else some ⟨2, rE isD s a, dcv s a, 0⟩
def kx (s : ByteArray) (a : Nat) : Option Fd :=
  if bt s a = 48 ∧ bt s (a + 1) = 120 then
    (if rE isH s (a + 2) = a + 2 ∨ 16 < rE isH s (a + 2) - (a + 2) then some ⟨0, rE isH s (a + 2), 0, 150⟩ else some ⟨2, rE isH s (a + 2), hn s (rE isH s (a + 2) - (a + 2)) (a + 2) 0, 0⟩)
  else none
set_option maxHeartbeats 1600000 in
theorem decimal_any (s : ByteArray) (a b : Nat) (w : World) (ht : Tab w) (hb : w.cell? ⟨b, 0, none⟩ = some (.string s)) (ha : a ≤ s.size) (hs : s.size ≤ 65536) :
    Calls Tryz.prog 47 #[.int .i64 a, .pointer (some ⟨b, 0, none⟩)] w fun e w' => e = .returned (kdV (kd s a)) ∧ Below w.heap.size w w' := by
  have hbl : b < w.heap.size := cell_lt hb
  have HE := hid (fun W => runEnd_any tellsD s a ha (by omega) W)
  have hge := rE_ge isD s a
  have hle := rE_le (p := isD) ha
  have hal : ∀ j, a ≤ j → j < rE isD s a → isD (bt s j) = true := fun j => rE_all
  have HK : Hid (kd s a = if rE isD s a = a then none else if 18446744073709551615 < dn s (rE isD s a - a) a 0 then some ⟨0, rE isD s a, 0, 3⟩ else if 1 < rE isD s a - a ∧ bt s a = 48 then some ⟨0, rE isD s a, 0, 150⟩ else some ⟨2, rE isD s a, dn s (rE isD s a - a) a 0, 0⟩) := rfl
  generalize rE isD s a = e at HE hge hle hal HK
  have HZ := hid (Rz.new w)
  have hcb : (w.alloc (.cells (fdc ⟨0, 0, 0, 0⟩) 45)).cell? ⟨b, 0, none⟩ = some (.string s) := by rw [World.cell?_alloc_lt _ _ _ hbl]; exact hb
  have HT := hid (ht.on HZ.out.low)
  obtain ⟨W0, hW0⟩ : ∃ W0, W0 = w.alloc (.cells (fdc ⟨0, 0, 0, 0⟩) 45) := ⟨_, rfl⟩
  have HW0 : Hid (w.alloc (.cells #[.int .i8 0, .int .i64 0, .int .u64 0, .int .i64 0] 45) = W0) := hW0.symm
  rw [← hW0] at HZ hcb HT
  clear hW0 hb ht
  by_cases he : e = a
  · subst he
    have hr : kd s e = none := by rw [HK.out, if_pos rfl]
    rw [hr]; clear hr HK hal
    go_enter Tryz.func47, Tryz.ntmps47
    go_upto_region 1 with fail
    rw [HW0.out]
    clear HW0
    go_wp2_with (first
      | (go_at_call 40; refine (HE.out _).mono ?_; rintro e w' ⟨rfl, hw⟩; obtain rfl := hw.symm)
      | (refine stRow 45 (.tmp 3) (.tmp 14) rfl rfl w.heap.size (fdc ⟨0, 0, 0, 0⟩) rfl rfl 45 _ HZ.out.blk (fd4 _) rfl (fd1 _) ?_))
    refine bodyPost_ret (v := kdV none) (results_ct Tryz.results47 _ _ w.heap.size ⟨0, 0, 0, 0⟩ rfl ?_) rfl ?_
    · exact (HZ.out.set _).blk
    · exact ⟨rfl, (HZ.out.set _).low⟩
  · have g1 : (((e : Nat) : Int) == ((a : Nat) : Int)) = false := by simp; omega
    have HAL := hid hal
    by_cases hn : 18446744073709551615 < dn s (e - a) a 0
    · have hr : kd s a = some ⟨0, e, 0, 3⟩ := by rw [HK.out, if_neg he, if_pos hn]
      rw [hr]
      have HP := hid (pu64_no (by omega) hle hs hal hn _ HT.out)
      have HW := hid (wrong_any e 3)
      clear hr HK hal HAL hn
      go_enter Tryz.func47, Tryz.ntmps47
      go_upto_region 1 with fail
      rw [HW0.out]
      clear HW0
      go_wp2_with (first
        | (go_at_call 40; refine (HE.out _).mono ?_; rintro e w' ⟨rfl, hw⟩; obtain rfl := hw.symm)
        | (go_at_call 45; refine (HP.out).mono ?_; rintro e W2 ⟨⟨n, N, rfl⟩, hb2⟩; have HZ2 := hid (HZ.out.on hb2); clear hb2 HP)
        | (go_at_call 41; refine (HW.out _).mono ?_; rintro e W3 ⟨rfl, hb3⟩; have HZ3 := hid (HZ2.out.on hb3); clear hb3 HW)
        | (refine stRow 45 (.tmp 3) (.tmp 27) rfl rfl w.heap.size (fdc ⟨0, e, 0, 3⟩) rfl rfl 45 _ HZ3.out.blk (fd4 _) rfl (fd1 _) ?_))
      refine bodyPost_ret (v := kdV (some ⟨0, e, 0, 3⟩)) (results_ct Tryz.results47 _ _ w.heap.size ⟨0, e, 0, 3⟩ rfl ?_) rfl ?_
      · exact (HZ3.out.set _).blk
      · exact ⟨rfl, (HZ3.out.set _).low⟩
    · have HP := hid (pu64_ok (s := s) (a := a) (e := e) (by omega) hle hs hal (by omega) W0)
      have HZe := hid (fun W => zero_any (s.extract a e) W)
      rw [size_ext hle, ext_bt0 hle (by omega), Nat.add_zero] at HZe
      by_cases hz : 1 < e - a ∧ bt s a = 48
      · have hr : kd s a = some ⟨0, e, 0, 150⟩ := by rw [HK.out, if_neg he, if_neg hn, if_pos hz]
        rw [hr]
        have hzz : (decide (1 < e - a) && decide (bt s a = 48)) = true := by simp [hz]
        rw [hzz] at HZe
        have HW := hid (wrong_any e 150)
        generalize dn s (e - a) a 0 = n at HP
        clear hr HK hal HAL hn hz hzz
        go_enter Tryz.func47, Tryz.ntmps47
        go_upto_region 1 with fail
        rw [HW0.out]
        clear HW0
        go_wp2_with (first
          | (go_at_call 40; refine (HE.out _).mono ?_; rintro e w' ⟨rfl, hw⟩; obtain rfl := hw.symm)
          | (go_at_call 45; refine (HP.out).mono ?_; rintro e W2 ⟨rfl, hb2⟩; have HZ2 := hid (HZ.out.on hb2); replace hcb := (hb2.cell (p := ⟨b, 0, none⟩) (cell_lt hcb)).trans hcb; clear hb2 HP)
          | (go_at_call 46; refine (HZe.out _).mono ?_; rintro e W2 ⟨rfl, rfl⟩; clear HZe)
          | (go_at_call 41; refine (HW.out _).mono ?_; rintro e W3 ⟨rfl, hb3⟩; have HZ3 := hid (HZ2.out.on hb3); clear hb3 HW)
          | (refine stRow 45 (.tmp 3) (.tmp 36) rfl rfl w.heap.size (fdc ⟨0, e, 0, 150⟩) rfl rfl 45 _ HZ3.out.blk (fd4 _) rfl (fd1 _) ?_))
        refine bodyPost_ret (v := kdV (some ⟨0, e, 0, 150⟩)) (results_ct Tryz.results47 _ _ w.heap.size ⟨0, e, 0, 150⟩ rfl ?_) rfl ?_
        · exact (HZ3.out.set _).blk
        · exact ⟨rfl, (HZ3.out.set _).low⟩
      · have hr : kd s a = some ⟨2, e, dn s (e - a) a 0, 0⟩ := by rw [HK.out, if_neg he, if_neg hn, if_neg hz]
        rw [hr]
        have hzz : (decide (1 < e - a) && decide (bt s a = 48)) = false := by
          rw [Bool.eq_false_iff]; intro h; apply hz; simpa using h
        rw [hzz] at HZe
        have HW := hid (number_any e (dn s (e - a) a 0))
        generalize dn s (e - a) a 0 = n at HP HW
        clear hr HK hal HAL hn hz hzz
        go_enter Tryz.func47, Tryz.ntmps47
        go_upto_region 1 with fail
        rw [HW0.out]
        clear HW0
        go_wp2_with (first
          | (go_at_call 40; refine (HE.out _).mono ?_; rintro e w' ⟨rfl, hw⟩; obtain rfl := hw.symm)
          | (go_at_call 45; refine (HP.out).mono ?_; rintro e W2 ⟨rfl, hb2⟩; have HZ2 := hid (HZ.out.on hb2); replace hcb := (hb2.cell (p := ⟨b, 0, none⟩) (cell_lt hcb)).trans hcb; clear hb2 HP)
          | (go_at_call 46; refine (HZe.out _).mono ?_; rintro e W2 ⟨rfl, rfl⟩; clear HZe)
          | (go_at_call 38; refine (HW.out _).mono ?_; rintro e W3 ⟨rfl, hb3⟩; have HZ3 := hid (HZ2.out.on hb3); clear hb3 HW)
          | (refine stRow 45 (.tmp 3) (.tmp 41) rfl rfl w.heap.size (fdc ⟨2, e, n, 0⟩) rfl rfl 45 _ HZ3.out.blk (fd4 _) rfl (fd1 _) ?_))
        refine bodyPost_ret (v := kdV (some ⟨2, e, n, 0⟩)) (results_ct Tryz.results47 _ _ w.heap.size ⟨2, e, n, 0⟩ rfl ?_) rfl ?_
        · exact (HZ3.out.set _).blk
        · exact ⟨rfl, (HZ3.out.set _).low⟩
theorem ext_from {s : ByteArray} {a : Nat} (j : Nat) (ha : a ≤ s.size) : bt (s.extract a s.size) j = bt s (a + j) := by
  by_cases h : a + j < s.size
  · exact ext_bt0 (Nat.le_refl _) (by omega)
  · rw [bt_out h, bt_out (by rw [size_ext (Nat.le_refl _)]; omega)]
theorem hn_step {s : ByteArray} {i e n : Nat} (h : i < e) : hn s (e - i) i n = hn s (e - (i + 1)) (i + 1) (hx n (hv (bt s i))) := by
  rw [show e - i = (e - (i + 1)) + 1 by omega, hn]
set_option maxHeartbeats 1600000 in
theorem hexadecimal_any (s : ByteArray) (a b : Nat) (w : World) (hb : w.cell? ⟨b, 0, none⟩ = some (.string s)) (ha : a ≤ s.size) (hs : s.size ≤ 65536) :
    Calls Tryz.prog 39 #[.int .i64 a, .pointer (some ⟨b, 0, none⟩)] w fun e w' => e = .returned (kdV (kx s a)) ∧ Below w.heap.size w w' := by
  have hbl : b < w.heap.size := cell_lt hb
  have HZ := hid (Rz.new w)
  have hcb : (w.alloc (.cells (fdc ⟨0, 0, 0, 0⟩) 45)).cell? ⟨b, 0, none⟩ = some (.string s) := by rw [World.cell?_alloc_lt _ _ _ hbl]; exact hb
  obtain ⟨W0, hW0⟩ : ∃ W0, W0 = w.alloc (.cells (fdc ⟨0, 0, 0, 0⟩) 45) := ⟨_, rfl⟩
  have HW0 : Hid (w.alloc (.cells #[.int .i8 0, .int .i64 0, .int .u64 0, .int .i64 0] 45) = W0) := hW0.symm
  rw [← hW0] at HZ hcb
  clear hW0 hb
  have HP := hid (fun W => hasPrefix_any (s.extract a s.size) 48 120 (by rw [size_ext (Nat.le_refl _)]; omega) W)
  rw [ext_from 0 ha, ext_from 1 ha, Nat.add_zero, show (48 : UInt8).toNat = 48 from rfl, show (120 : UInt8).toNat = 120 from rfl] at HP
  by_cases hx0 : bt s a = 48 ∧ bt s (a + 1) = 120
  · have hin : a + 1 < s.size := in_of_bt (by rw [hx0.2]; decide)
    have HK : Hid (kx s a = if rE isH s (a + 2) = a + 2 ∨ 16 < rE isH s (a + 2) - (a + 2) then some ⟨0, rE isH s (a + 2), 0, 150⟩ else some ⟨2, rE isH s (a + 2), hn s (rE isH s (a + 2) - (a + 2)) (a + 2) 0, 0⟩) := by
      show _ = _
      unfold kx; rw [if_pos hx0]
    rw [decide_eq_true hx0] at HP
    have HE := hid (fun W => runEnd_any tellsH s (a + 2) (by omega) (by omega) W)
    have hge := rE_ge isH s (a + 2)
    have hle := rE_le (p := isH) (s := s) (k := a + 2) (by omega)
    have HAL : Hid (∀ j, a + 2 ≤ j → j < rE isH s (a + 2) → isH (bt s j) = true) := fun j => rE_all
    generalize rE isH s (a + 2) = e at HE hge hle HAL HK
    have e2 : ((a + 2 : Nat) : Int) = (a : Int) + 2 := by omega
    rw [e2] at HE
    have g0 : IntKind.i64.wrap ((a : Int) + 2) = (a : Int) + 2 := by rw [IntKind.wrap_i64]; omega
    have g1 : IntKind.i64.wrap ((e : Int) - ((a : Int) + 2)) = (e : Int) - ((a : Int) + 2) := by rw [IntKind.wrap_i64]; omega
    by_cases hbad : e = a + 2 ∨ 16 < e - (a + 2)
    · have hr : kx s a = some ⟨0, e, 0, 150⟩ := by rw [HK.out, if_pos hbad]
      rw [hr]
      have HW := hid (wrong_any e 150)
      by_cases hea : e = a + 2
      · have g2 : ((e : Int) == ((a : Int) + 2)) = true := by simp; omega
        clear HAL HK hr hbad hea hx0
        go_enter Tryz.func39, Tryz.ntmps39
        go_upto_region 1 with fail
        rw [HW0.out]
        clear HW0
        go_wp2_with (first
          | (go_at_call 23; refine (HP.out _).mono ?_; rintro e w' ⟨rfl, hw⟩; obtain rfl := hw.symm; clear HP)
          | (go_at_call 40; refine (HE.out _).mono ?_; rintro e w' ⟨rfl, hw⟩; obtain rfl := hw.symm)
          | (go_at_call 41; refine (HW.out _).mono ?_; rintro e W3 ⟨rfl, hb3⟩; have HZ3 := hid (HZ.out.on hb3); clear hb3 HW)
          | (refine stRow 45 (.tmp 3) (.tmp 31) rfl rfl w.heap.size (fdc ⟨0, e, 0, 150⟩) rfl rfl 45 _ HZ3.out.blk (fd4 _) rfl (fd1 _) ?_))
        refine bodyPost_ret (v := kdV (some ⟨0, e, 0, 150⟩)) (results_ct Tryz.results39 _ _ w.heap.size ⟨0, e, 0, 150⟩ rfl ?_) rfl ?_
        · exact (HZ3.out.set _).blk
        · exact ⟨rfl, (HZ3.out.set _).low⟩
      · have g2 : ((e : Int) == ((a : Int) + 2)) = false := by simp; omega
        have g3 : decide ((16 : Int) < (e : Int) - ((a : Int) + 2)) = true := by simp; omega
        clear HAL HK hr hbad hea hx0
        go_enter Tryz.func39, Tryz.ntmps39
        go_upto_region 1 with fail
        rw [HW0.out]
        clear HW0
        go_wp2_with (first
          | (go_at_call 23; refine (HP.out _).mono ?_; rintro e w' ⟨rfl, hw⟩; obtain rfl := hw.symm; clear HP)
          | (go_at_call 40; refine (HE.out _).mono ?_; rintro e w' ⟨rfl, hw⟩; obtain rfl := hw.symm)
          | (go_at_call 41; refine (HW.out _).mono ?_; rintro e W3 ⟨rfl, hb3⟩; have HZ3 := hid (HZ.out.on hb3); clear hb3 HW)
          | (refine stRow 45 (.tmp 3) (.tmp 31) rfl rfl w.heap.size (fdc ⟨0, e, 0, 150⟩) rfl rfl 45 _ HZ3.out.blk (fd4 _) rfl (fd1 _) ?_))
        refine bodyPost_ret (v := kdV (some ⟨0, e, 0, 150⟩)) (results_ct Tryz.results39 _ _ w.heap.size ⟨0, e, 0, 150⟩ rfl ?_) rfl ?_
        · exact (HZ3.out.set _).blk
        · exact ⟨rfl, (HZ3.out.set _).low⟩
    · have hr : kx s a = some ⟨2, e, hn s (e - (a + 2)) (a + 2) 0, 0⟩ := by rw [HK.out, if_neg hbad]
      rw [hr]
      have g2 : ((e : Int) == ((a : Int) + 2)) = false := by simp; omega
      have g3 : decide ((16 : Int) < (e : Int) - ((a : Int) + 2)) = false := by simp; omega
      have HNn : Hid (hn s (e - (a + 2)) (a + 2) 0 = hn s (e - (a + 2)) (a + 2) 0) := rfl
      obtain ⟨N, hN⟩ : ∃ N, N = hn s (e - (a + 2)) (a + 2) 0 := ⟨_, rfl⟩
      rw [← hN]
      have HN := hid hN
      clear HK hr hbad hx0 HNn hN
      go_enter Tryz.func39, Tryz.ntmps39
      go_upto_region 1 with fail
      rw [HW0.out]
      clear HW0
      go_upto_region 9 with (first
          | (go_at_call 23; refine (HP.out _).mono ?_; rintro e w' ⟨rfl, hw⟩; obtain rfl := hw.symm; clear HP)
          | (go_at_call 40; refine (HE.out _).mono ?_; rintro e w' ⟨rfl, hw⟩; obtain rfl := hw.symm))
      clear HE g2 g3 g1 g0
      go_loop [7, 8] (fun vn vi => ∃ n i : Nat, vn = .int .u64 n ∧ vi = .int .i64 i ∧ a + 2 ≤ i ∧ i ≤ e ∧ Hid (n < 18446744073709551616 ∧ N = hn s (e - i) i n)) (fun _ vi => e - (intOf vi).toNat)
      case atStart => exact ⟨0, a + 2, rfl, by rw [e2], by omega, hge, by decide, HN.out⟩
      case round =>
        obtain ⟨n, i, rfl, rfl, hi1, hi2, HR⟩ := hrel
        by_cases hl : i < e
        · have g1 : decide ((i : Int) < (e : Int)) = true := by simp; omega
          have hh := HAL.out i hi1 hl
          have hix := run_bt s i (by omega) W0
          have HV := hid (fun W => hexValue_any (bt s i) hh W)
          have hw1 : IntKind.i64.wrap ((i : Int) + 1) = (i : Int) + 1 := by rw [IntKind.wrap_i64]; omega
          have hsh := shl4 n
          have hv16 := hv_lt hh
          have hor := orHx n (hv (bt s i)) hv16
          have HX : Hid (hx n (hv (bt s i)) < 18446744073709551616) := hx_lt hv16
          have HM : Hid (N = hn s (e - (i + 1)) (i + 1) (hx n (hv (bt s i)))) := by show _ = _; rw [← hn_step hl]; exact HR.out.2
          generalize hx n (hv (bt s i)) = n' at hor HM HX
          generalize hv (bt s i) = hvc at hor hv16 HV
          generalize bt s i = c at hix HV hh
          generalize n * 16 % 18446744073709551616 = m at hor hsh
          clear hh hv16 HR
          go_wp2_with (go_at_call 37; refine (HV.out _).mono ?_; rintro e w' ⟨rfl, hw⟩; obtain rfl := hw.symm)
          go_round
          case rel => exact ⟨n', i + 1, rfl, by go_num, by omega, by omega, HX.out, HM.out⟩
          case measure => simp [intOf]; omega
        · obtain rfl : i = e := by omega
          have g1 : decide ((i : Int) < (i : Int)) = false := by simp
          have hNn : N = n := by rw [HR.out.2, Nat.sub_self, hn]
          subst hNn
          have HW := hid (number_any i N)
          clear HR
          go_wp2_with (first
            | (go_at_call 38; refine (HW.out _).mono ?_; rintro e W3 ⟨rfl, hb3⟩; have HZ3 := hid (HZ.out.on hb3); clear hb3 HW)
            | (refine stRow 45 (.tmp 3) (.tmp 49) rfl rfl w.heap.size (fdc ⟨2, i, N, 0⟩) rfl rfl 45 _ HZ3.out.blk (fd4 _) rfl (fd1 _) ?_))
          try simp only [Exit.inBlock, Exit.then]
          refine bodyPost_ret (v := kdV (some ⟨2, i, N, 0⟩)) (results_ct Tryz.results39 _ _ w.heap.size ⟨2, i, N, 0⟩ rfl ?_) rfl ?_
          · exact (HZ3.out.set _).blk
          · exact ⟨rfl, (HZ3.out.set _).low⟩
  · have hr : kx s a = none := by unfold kx; rw [if_neg hx0]
    rw [hr]
    rw [decide_eq_false hx0] at HP
    clear hr hx0
    go_enter Tryz.func39, Tryz.ntmps39
    go_upto_region 1 with fail
    rw [HW0.out]
    clear HW0
    go_wp2_with (first
      | (go_at_call 23; refine (HP.out _).mono ?_; rintro e w' ⟨rfl, hw⟩; obtain rfl := hw.symm; clear HP)
      | (refine stRow 45 (.tmp 3) (.tmp 14) rfl rfl w.heap.size (fdc ⟨0, 0, 0, 0⟩) rfl rfl 45 _ HZ.out.blk (fd4 _) rfl (fd1 _) ?_))
    refine bodyPost_ret (v := kdV none) (results_ct Tryz.results39 _ _ w.heap.size ⟨0, 0, 0, 0⟩ rfl ?_) rfl ?_
    · exact (HZ.out.set _).blk
    · exact ⟨rfl, (HZ.out.set _).low⟩
end Go.Proofs.YtbbankcmeanjaaaGreatDoor
