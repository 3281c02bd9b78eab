/-
  Proved here: number of the document's answers: a number at a place where a digit, or six pairs, stand. Conditions: the place is within the text.
-/
import Derived.Test.YtdpmllfapjjihaaGreatDoorDD
namespace Go.Proofs.YtdpmllfapjjihaaGreatDoor
open Go.RowKit
set_option maxRecDepth 100000

set_option maxHeartbeats 12800000 in
theorem number_any15 (s : ByteArray) (a : Nat) (ha : a < s.size) (hs : s.size ≤ 65536) (w : World) :
    Calls Tryz.prog 55 #[.string s, .int .i64 a] w fun r w' => r = .returned (rv s a (num s a)) ∧ Below w.heap.size w w' := by
  have HZ := hid (Rc.new w)
  obtain ⟨W0, hW0⟩ : ∃ W0, W0 = (w.alloc (.cells (wdc wZ) 56)).alloc (.cells (dfc 0 0 ⟨#[]⟩) 37) := ⟨_, rfl⟩
  have HE : Hid ((w.alloc (.cells #[.int .i8 0, .string ⟨#[]⟩, .int .u64 0, .int .i64 0] 56)).alloc (.cells #[.int .i64 0, .int .i64 0, .string ⟨#[]⟩] 37) = W0) := hW0.symm
  rw [← hW0] at HZ
  clear hW0
  obtain ⟨R, hR⟩ : ∃ R, R = num s a := ⟨_, rfl⟩
  have HR0 := hid hR
  rw [← hR]
  clear hR
  have HPr := hid (fun W => pairs_any s a (Nat.le_of_lt ha) hs W)
  go_enter Tryz.func55, Tryz.ntmps55
  go_upto_region 1 with fail
  rw [HE.out]
  clear HE
  cases hp : pr s a with
  | some n =>
    have h17 := pr_in hp
    obtain ⟨q, hq⟩ : ∃ q, q = a + 17 := ⟨_, rfl⟩
    rw [hp] at HPr
    have hpv : prV a (some n) = .tuple #[.int .u64 (n : Int), .int .i64 (q : Int), .bool true] := by rw [hq]; first | done | rfl
    rw [hpv] at HPr
    have HV : Hid (rv s a R = rv s a (cls s q n)) := by show _ = _; rw [HR0.out, hq]; unfold num; rw [hp]; first | done | rfl
    have hqs : q ≤ s.size := by omega
    have haq : a ≤ q := by omega
    have HC := hid (fun W => closed_any s a q n haq hqs hs W)
    clear hpv hp hq HR0 h17
    go_upto_region 3 with (go_at_call 53; refine (HPr.out _).mono ?_; rintro r w5 ⟨rfl, hw⟩; obtain rfl := hw.symm)
    obtain ⟨x, c, a', t, hrv⟩ := rv_form s a (cls s q n)
    rw [hrv] at HC HV
    clear hrv
    go_wp2_with (first
      | (go_at_call 80; refine (HC.out _).mono ?_; rintro r W2 ⟨rfl, hb2⟩; have HZ2 := hid (HZ.out.on hb2); clear hb2)
      | (refine stRow 56 (.tmp 4) (.tmp 32) rfl rfl w.heap.size (wdc x) rfl rfl 56 _ HZ2.out.b1 (szW _) rfl (wd1a _) ?_)
      | (refine stRow 37 (.tmp 5) (.tmp 33) rfl rfl (w.heap.size + 1) (dfc c a' t) rfl rfl 37 _ (HZ2.out.set1 x).b2 (szF _ _ _) rfl (df1 _ _ _) ?_))
    try simp only [Exit.inBlock, Exit.then]
    exact bodyPost_ret (v := dV x c a' t) (results_cc Tryz.results55 _ ((HZ2.out.set1 x).set2 c a' t) rfl rfl) rfl ⟨by rw [HV.out], ((HZ2.out.set1 x).set2 c a' t).low⟩
  | none =>
    rw [hp] at HPr
    have hpv : prV a none = .tuple #[.int .u64 0, .int .i64 0, .bool false] := rfl
    rw [hpv] at HPr
    clear hpv
    go_upto_region 4 with (go_at_call 53; refine (HPr.out _).mono ?_; rintro r w5 ⟨rfl, hw⟩; obtain rfl := hw.symm)
    clear HPr
    have hix := run_bt s a ha W0
    have hw1 : IntKind.i64.wrap ((a : Int) + 1) = (a : Int) + 1 := by rw [IntKind.wrap_i64]; omega
    by_cases hx0 : bt s a = 48 ∧ bt s (a + 1) = 120
    · have hin1 : a + 1 < s.size := in_of_bt (by rw [hx0.2]; decide)
      have hix1 := hix
      rw [hx0.1, show ((48 : Nat) : Int) = 48 from rfl] at hix1
      have g1 : decide ((a : Int) + 1 < (s.size : Int)) = true := by simp; omega
      have hixb : (Instr.index 9 (.string s) (.int .i64 ((a : Int) + 1))).run Tryz.prog W0 = .ok (.int .u8 ((bt s (a + 1) : Nat) : Int)) W0 := run_bt s (a + 1) hin1 W0
      rw [hx0.2, show ((120 : Nat) : Int) = 120 from rfl] at hixb
      have HNx : Hid (R = hex s a) := by show _ = _; rw [HR0.out]; unfold num; rw [hp]; show (if _ then _ else _) = _; rw [if_pos hx0]
      have hw2 : IntKind.i64.wrap ((a : Int) + 2) = ((a + 2 : Nat) : Int) := by rw [IntKind.wrap_i64]; omega
      obtain ⟨b, hb⟩ : ∃ b, b = a + 2 := ⟨_, rfl⟩
      rw [← hb] at hw2
      have hge := rE_ge isH s b
      have hle := rE_le (p := isH) (s := s) (k := b) (by omega)
      have HAL : Hid (∀ j, b ≤ j → j < rE isH s b → isH (bt s j) = true) := fun j => rE_all
      have HNo : Hid (isH (bt s (rE isH s b)) = false) := rE_no isH256
      have HXE : Hid (hex s a = if rE isH s b = b ∨ 16 < rE isH s b - b then ⟨0, rE isH s b, 0, 150⟩ else cls s (rE isH s b) (hn s (rE isH s b - b) b 0)) := by rw [hb]; rfl
      obtain ⟨e, he⟩ : ∃ e, e = rE isH s b := ⟨_, rfl⟩
      rw [← he] at hge hle HAL HNo HXE
      obtain ⟨N, hN⟩ : ∃ N, N = hn s (e - b) b 0 := ⟨_, rfl⟩
      rw [← hN] at HXE
      have HN := hid hN
      have HBb := hid hb
      clear hx0 hix HR0 hp hN he hb
      go_upto_region 7 with fail
      clear hix1 g1 hixb hw1
      go_loop [9, 10] (fun vn vi => ∃ n i : Nat, vn = .int .u64 n ∧ vi = .int .i64 i ∧ b ≤ i ∧ i ≤ e ∧ Hid (n < 18446744073709551616 ∧ N = hn s (e - i) i n)) (fun _ vi => e - (intOf vi).toNat)
      case atStart => exact ⟨0, b, rfl, rfl, Nat.le_refl _, hge, by decide, HN.out⟩
      case round =>
        obtain ⟨n, i, rfl, rfl, hi1, hi2, HR⟩ := hrel
        by_cases hl : i < e
        · have hin : i < s.size := by omega
          have g1 : decide ((i : Int) < (s.size : Int)) = true := by simp; omega
          have hh := HAL.out i hi1 hl
          have hix := run_bt s i hin W0
          have HV := hid (fun W => value_any (bt s i) W)
          have hw1 : IntKind.i64.wrap ((i : Int) + 1) = (i : Int) + 1 := by rw [IntKind.wrap_i64]; omega
          have hsh := shl4 n
          have hv16 := hv_lt hh
          have hor := orHx n (hv (bt s i)) hv16
          have ev : hvI (bt s i) = ((hv (bt s i) : Nat) : Int) := by unfold hvI; rw [if_pos hh]
          rw [ev] at HV
          have HX : Hid (hx n (hv (bt s i)) < 18446744073709551616) := hx_lt hv16
          have HN2 : Hid (N = hn s (e - (i + 1)) (i + 1) (hx n (hv (bt s i)))) := by
            show _ = _
            rw [HR.out.2, show e - i = (e - (i + 1)) + 1 by omega]; rfl
          generalize hx n (hv (bt s i)) = n' at hor HN2 HX
          generalize bt s i = c at *
          generalize hv c = hvc at *
          generalize n * 16 % 18446744073709551616 = mm at hor hsh
          have g5 : decide ((hvc : Int) < 0) = false := by simp
          have g5b : decide ((0 : Int) ≤ (hvc : Int)) = true := by simp
          have g6 : IntKind.u64.wrap (hvc : Int) = (hvc : Int) := by rw [IntKind.wrap_u64]; omega
          clear hh ev hv16 HR HN hin
          go_wp2_with (go_at_call 79; refine (HV.out _).mono ?_; rintro r w5 ⟨rfl, hw⟩; obtain rfl := hw.symm)
          go_round
          case rel => exact ⟨n', i + 1, rfl, by go_num, by omega, by omega, HX.out, HN2.out⟩
          case measure => simp [intOf]; omega
        · obtain rfl : i = e := by omega
          have hNn : N = n := by have h := HR.out.2; rw [Nat.sub_self] at h; exact h
          subst hNn
          have HRe : Hid (R = if i = b ∨ 16 < i - b then ⟨0, i, 0, 150⟩ else cls s i N) := by show _ = _; rw [HNx.out, HXE.out]
          have HEX : Hid (∀ W, Calls Tryz.prog 79 #[.int .u8 ((bt s i : Nat) : Int)] W fun r w' => r = .returned (.int .i64 (-1)) ∧ w' = W) := fun W => by
            have h := value_any (bt s i) W
            have ev : hvI (bt s i) = -1 := by unfold hvI; rw [if_neg (by rw [HNo.out]; decide)]
            rw [ev] at h
            exact h
          have hw2b : IntKind.i64.wrap ((a : Int) + 2) = (b : Int) := hw2
          obtain ⟨b18, hb18⟩ : ∃ b18, b18 = a + 18 := ⟨_, rfl⟩
          have hw18 : IntKind.i64.wrap ((a : Int) + 18) = (b18 : Int) := by rw [IntKind.wrap_i64]; omega
          have hab : a ≤ b := by have := HBb.out; omega
          clear HXE HNx HNo HAL HR HN hl hi2 hw2b
          cases hin : decide (i < s.size) with
          | true =>
            have hinn : i < s.size := of_decide_eq_true hin
            have g1 : decide ((i : Int) < (s.size : Int)) = true := by simp; omega
            have hix := run_bt s i hinn W0
            clear hin
            go_upto_region 10 with (go_at_call 79; refine (HEX.out _).mono ?_; rintro r w5 ⟨rfl, hw⟩; obtain rfl := hw.symm)
            by_cases hbd : i = b ∨ 16 < i - b
            · have HV : Hid (rv s a R = dV wZ 150 a (s.extract a i)) := by show _ = _; rw [HRe.out, if_pos hbd]; exact rv_bad _ _ _ _ (by decide)
              by_cases hbe : i = b
              · have g2 : ((i : Int) == (b : Int)) = true := by simp; omega
                have g2n : (i == b) = true := by simp; omega
                have HB2 := hid (And.intro hbe hb18)
                have hai : a ≤ i := by omega
                clear HRe hbd hbe hb18 HEX
                go_upto_region 11 with fail
                have hak1 : decide ((a : Int) ≤ ((i : Nat) : Int)) = true := by simp; omega
                refine wp_region_held_drew (S := (fun _ => True)) (by kernel_rfl) trivial (fun hHeld => ?_)
                refine wpAnyH_take (i := 0) (v := ?_) rfl (by kernel_rfl) (by kernel_rfl) (by kernel_rfl) (fun _ _ _ h => h) (Or.inl ⟨by rfl, ?_⟩) hHeld ?_
                rotate_left
                · intro w' hSw
                  clear hSw
                  go_simp
                  first | done | with_reducible rfl
                simp only [Act.put, List.getElem_toArray, List.getElem_cons_zero, List.setIfInBounds_toArray, List.set_cons_zero, List.set_cons_succ]
                refine wpAnyH_take (i := 1) (v := ?_) rfl (by kernel_rfl) (by kernel_rfl) (by kernel_rfl) (fun _ _ _ h => h) (Or.inl ⟨by rfl, ?_⟩) hHeld ?_
                rotate_left
                · intro w' hSw
                  clear hSw
                  go_simp
                  first | done | with_reducible rfl
                simp only [Act.put, List.getElem_toArray, List.getElem_cons_succ, List.getElem_cons_zero, List.setIfInBounds_toArray, List.set_cons_zero, List.set_cons_succ]
                refine wpAnyH_take (i := 2) (v := ?_) rfl (by kernel_rfl) (by kernel_rfl) (by kernel_rfl) (fun _ _ _ h => h) (Or.inl ⟨by rfl, ?_⟩) hHeld ?_
                rotate_left
                · intro w' hSw
                  clear hSw
                  go_simp
                  first | done | with_reducible rfl
                simp only [Act.put, List.getElem_toArray, List.getElem_cons_succ, List.getElem_cons_zero, List.setIfInBounds_toArray, List.set_cons_zero, List.set_cons_succ]
                refine wpAnyH_take (i := 3) (v := ?_) rfl (by kernel_rfl) (by kernel_rfl) (by kernel_rfl) (fun _ _ _ h => h) (Or.inl ⟨by rfl, ?_⟩) hHeld ?_
                rotate_left
                · intro w' hSw
                  clear hSw
                  go_simp
                  first | done | with_reducible rfl
                simp only [Act.put, List.getElem_toArray, List.getElem_cons_succ, List.getElem_cons_zero, List.setIfInBounds_toArray, List.set_cons_zero, List.set_cons_succ]
                refine wpAnyH_take (i := 4) (v := ?_) rfl (by kernel_rfl) (by kernel_rfl) (by kernel_rfl) (fun _ _ _ h => h) (Or.inl ⟨by rfl, ?_⟩) hHeld ?_
                rotate_left
                · intro w' hSw
                  clear hSw
                  go_simp
                  first | done | with_reducible rfl
                simp only [Act.put, List.getElem_toArray, List.getElem_cons_succ, List.getElem_cons_zero, List.setIfInBounds_toArray, List.set_cons_zero, List.set_cons_succ]
                refine wpAnyH_take (i := 5) (v := ?_) rfl (by kernel_rfl) (by kernel_rfl) (by kernel_rfl) (fun _ _ _ h => h) (Or.inl ⟨by rfl, ?_⟩) hHeld ?_
                rotate_left
                · intro w' hSw
                  clear hSw
                  go_simp
                  first | done | with_reducible rfl
                simp only [Act.put, List.getElem_toArray, List.getElem_cons_succ, List.getElem_cons_zero, List.setIfInBounds_toArray, List.set_cons_zero, List.set_cons_succ]
                refine wpAnyH_take (i := 6) (v := ?_) rfl (by kernel_rfl) (by kernel_rfl) (by kernel_rfl) (fun _ _ _ h => h) (Or.inl ⟨by rfl, ?_⟩) hHeld ?_
                rotate_left
                · intro w' hSw
                  clear hSw
                  go_simp
                  first | done | with_reducible rfl
                simp only [Act.put, List.getElem_toArray, List.getElem_cons_succ, List.getElem_cons_zero, List.setIfInBounds_toArray, List.set_cons_zero, List.set_cons_succ]
                refine ready_st 7 _ (by kernel_rfl) rfl 56 (.tmp 4) (.tmp 85) rfl rfl w.heap.size (wdc wZ) rfl rfl 56 _ HZ.out.drew.b1 (szW _) rfl (wd1a _) ?_
                refine ⟨trivial, ?_⟩
                simp only [Act.put, List.getElem_toArray, List.getElem_cons_succ, List.getElem_cons_zero]
                refine ready_st 8 _ (by kernel_rfl) rfl 37 (.tmp 5) (.tmp 91) rfl rfl (w.heap.size + 1) (dfc 150 a (s.extract a i)) rfl rfl 37 _ (HZ.out.drew.set1 wZ).b2 (szF _ _ _) rfl (df1 _ _ _) ?_
                refine ⟨trivial, ?_⟩
                simp only [Act.put, List.getElem_toArray, List.getElem_cons_succ, List.getElem_cons_zero]
                refine wpAnyH_done (by kernel_rfl) ?_ _
                try simp only [Exit.then]
                go_wp2
                try simp only [Exit.inBlock, Exit.then]
                exact bodyPost_ret (v := dV wZ 150 a (s.extract a i)) (results_cc Tryz.results55 _ ((HZ.out.drew.set1 wZ).set2 150 a (s.extract a i)) rfl rfl) rfl ⟨by rw [HV.out], ((HZ.out.drew.set1 wZ).set2 150 a (s.extract a i)).low⟩
              · have g2 : ((i : Int) == (b : Int)) = false := by simp; omega
                have g2n : (i == b) = false := by simp; omega
                have g3 : decide ((b18 : Int) < (i : Int)) = true := by simp; have := HBb.out; omega
                have g3n : decide (b18 < i) = true := by simp; have := HBb.out; omega
                have hai : a ≤ i := by omega
                clear HRe hbd hbe hb18 HEX
                go_upto_region 11 with fail
                have hak1 : decide ((a : Int) ≤ ((i : Nat) : Int)) = true := by simp; omega
                refine wp_region_held_drew (S := (fun _ => True)) (by kernel_rfl) trivial (fun hHeld => ?_)
                refine wpAnyH_take (i := 0) (v := ?_) rfl (by kernel_rfl) (by kernel_rfl) (by kernel_rfl) (fun _ _ _ h => h) (Or.inl ⟨by rfl, ?_⟩) hHeld ?_
                rotate_left
                · intro w' hSw
                  clear hSw
                  go_simp
                  first | done | with_reducible rfl
                simp only [Act.put, List.getElem_toArray, List.getElem_cons_zero, List.setIfInBounds_toArray, List.set_cons_zero, List.set_cons_succ]
                refine wpAnyH_take (i := 1) (v := ?_) rfl (by kernel_rfl) (by kernel_rfl) (by kernel_rfl) (fun _ _ _ h => h) (Or.inl ⟨by rfl, ?_⟩) hHeld ?_
                rotate_left
                · intro w' hSw
                  clear hSw
                  go_simp
                  first | done | with_reducible rfl
                simp only [Act.put, List.getElem_toArray, List.getElem_cons_succ, List.getElem_cons_zero, List.setIfInBounds_toArray, List.set_cons_zero, List.set_cons_succ]
                refine wpAnyH_take (i := 2) (v := ?_) rfl (by kernel_rfl) (by kernel_rfl) (by kernel_rfl) (fun _ _ _ h => h) (Or.inl ⟨by rfl, ?_⟩) hHeld ?_
                rotate_left
                · intro w' hSw
                  clear hSw
                  go_simp
                  first | done | with_reducible rfl
                simp only [Act.put, List.getElem_toArray, List.getElem_cons_succ, List.getElem_cons_zero, List.setIfInBounds_toArray, List.set_cons_zero, List.set_cons_succ]
                refine wpAnyH_take (i := 3) (v := ?_) rfl (by kernel_rfl) (by kernel_rfl) (by kernel_rfl) (fun _ _ _ h => h) (Or.inl ⟨by rfl, ?_⟩) hHeld ?_
                rotate_left
                · intro w' hSw
                  clear hSw
                  go_simp
                  first | done | with_reducible rfl
                simp only [Act.put, List.getElem_toArray, List.getElem_cons_succ, List.getElem_cons_zero, List.setIfInBounds_toArray, List.set_cons_zero, List.set_cons_succ]
                refine wpAnyH_take (i := 4) (v := ?_) rfl (by kernel_rfl) (by kernel_rfl) (by kernel_rfl) (fun _ _ _ h => h) (Or.inl ⟨by rfl, ?_⟩) hHeld ?_
                rotate_left
                · intro w' hSw
                  clear hSw
                  go_simp
                  first | done | with_reducible rfl
                simp only [Act.put, List.getElem_toArray, List.getElem_cons_succ, List.getElem_cons_zero, List.setIfInBounds_toArray, List.set_cons_zero, List.set_cons_succ]
                refine wpAnyH_take (i := 5) (v := ?_) rfl (by kernel_rfl) (by kernel_rfl) (by kernel_rfl) (fun _ _ _ h => h) (Or.inl ⟨by rfl, ?_⟩) hHeld ?_
                rotate_left
                · intro w' hSw
                  clear hSw
                  go_simp
                  first | done | with_reducible rfl
                simp only [Act.put, List.getElem_toArray, List.getElem_cons_succ, List.getElem_cons_zero, List.setIfInBounds_toArray, List.set_cons_zero, List.set_cons_succ]
                refine wpAnyH_take (i := 6) (v := ?_) rfl (by kernel_rfl) (by kernel_rfl) (by kernel_rfl) (fun _ _ _ h => h) (Or.inl ⟨by rfl, ?_⟩) hHeld ?_
                rotate_left
                · intro w' hSw
                  clear hSw
                  go_simp
                  first | done | with_reducible rfl
                simp only [Act.put, List.getElem_toArray, List.getElem_cons_succ, List.getElem_cons_zero, List.setIfInBounds_toArray, List.set_cons_zero, List.set_cons_succ]
                refine ready_st 7 _ (by kernel_rfl) rfl 56 (.tmp 4) (.tmp 85) rfl rfl w.heap.size (wdc wZ) rfl rfl 56 _ HZ.out.drew.b1 (szW _) rfl (wd1a _) ?_
                refine ⟨trivial, ?_⟩
                simp only [Act.put, List.getElem_toArray, List.getElem_cons_succ, List.getElem_cons_zero]
                refine ready_st 8 _ (by kernel_rfl) rfl 37 (.tmp 5) (.tmp 91) rfl rfl (w.heap.size + 1) (dfc 150 a (s.extract a i)) rfl rfl 37 _ (HZ.out.drew.set1 wZ).b2 (szF _ _ _) rfl (df1 _ _ _) ?_
                refine ⟨trivial, ?_⟩
                simp only [Act.put, List.getElem_toArray, List.getElem_cons_succ, List.getElem_cons_zero]
                refine wpAnyH_done (by kernel_rfl) ?_ _
                try simp only [Exit.then]
                go_wp2
                try simp only [Exit.inBlock, Exit.then]
                exact bodyPost_ret (v := dV wZ 150 a (s.extract a i)) (results_cc Tryz.results55 _ ((HZ.out.drew.set1 wZ).set2 150 a (s.extract a i)) rfl rfl) rfl ⟨by rw [HV.out], ((HZ.out.drew.set1 wZ).set2 150 a (s.extract a i)).low⟩
            · have HV : Hid (rv s a R = rv s a (cls s i N)) := by show _ = _; rw [HRe.out, if_neg hbd]
              have g2 : ((i : Int) == (b : Int)) = false := by simp; omega
              have g2n : (i == b) = false := by simp; omega
              have g3 : decide ((b18 : Int) < (i : Int)) = false := by simp; have := HBb.out; omega
              have g3n : decide (b18 < i) = false := by simp; have := HBb.out; omega
              have hai : a ≤ i := by omega
              have HC := hid (fun W => closed_any s a i N hai hle hs W)
              clear HRe hbd hb18 HEX
              obtain ⟨x, c, a', t, hrv⟩ := rv_form s a (cls s i N)
              rw [hrv] at HC HV
              clear hrv
              go_wp2_with (first
                | (go_at_call 80; refine (HC.out _).mono ?_; rintro r W2 ⟨rfl, hb2⟩; have HZ2 := hid (HZ.out.on hb2); clear hb2)
                | (refine stRow 56 (.tmp 4) (.tmp 101) rfl rfl w.heap.size (wdc x) rfl rfl 56 _ HZ2.out.b1 (szW _) rfl (wd1a _) ?_)
                | (refine stRow 37 (.tmp 5) (.tmp 102) rfl rfl (w.heap.size + 1) (dfc c a' t) rfl rfl 37 _ (HZ2.out.set1 x).b2 (szF _ _ _) rfl (df1 _ _ _) ?_))
              try simp only [Exit.inBlock, Exit.then]
              exact bodyPost_ret (v := dV x c a' t) (results_cc Tryz.results55 _ ((HZ2.out.set1 x).set2 c a' t) rfl rfl) rfl ⟨by rw [HV.out], ((HZ2.out.set1 x).set2 c a' t).low⟩
          | false =>
            have hinn : ¬ i < s.size := of_decide_eq_false hin
            have g1 : decide ((i : Int) < (s.size : Int)) = false := by simp; omega
            clear hin
            go_upto_region 10 with fail
            by_cases hbd : i = b ∨ 16 < i - b
            · have HV : Hid (rv s a R = dV wZ 150 a (s.extract a i)) := by show _ = _; rw [HRe.out, if_pos hbd]; exact rv_bad _ _ _ _ (by decide)
              by_cases hbe : i = b
              · have g2 : ((i : Int) == (b : Int)) = true := by simp; omega
                have g2n : (i == b) = true := by simp; omega
                have HB2 := hid (And.intro hbe hb18)
                have hai : a ≤ i := by omega
                clear HRe hbd hbe hb18 HEX
                go_upto_region 11 with fail
                have hak1 : decide ((a : Int) ≤ ((i : Nat) : Int)) = true := by simp; omega
                refine wp_region_held_drew (S := (fun _ => True)) (by kernel_rfl) trivial (fun hHeld => ?_)
                refine wpAnyH_take (i := 0) (v := ?_) rfl (by kernel_rfl) (by kernel_rfl) (by kernel_rfl) (fun _ _ _ h => h) (Or.inl ⟨by rfl, ?_⟩) hHeld ?_
                rotate_left
                · intro w' hSw
                  clear hSw
                  go_simp
                  first | done | with_reducible rfl
                simp only [Act.put, List.getElem_toArray, List.getElem_cons_zero, List.setIfInBounds_toArray, List.set_cons_zero, List.set_cons_succ]
                refine wpAnyH_take (i := 1) (v := ?_) rfl (by kernel_rfl) (by kernel_rfl) (by kernel_rfl) (fun _ _ _ h => h) (Or.inl ⟨by rfl, ?_⟩) hHeld ?_
                rotate_left
                · intro w' hSw
                  clear hSw
                  go_simp
                  first | done | with_reducible rfl
                simp only [Act.put, List.getElem_toArray, List.getElem_cons_succ, List.getElem_cons_zero, List.setIfInBounds_toArray, List.set_cons_zero, List.set_cons_succ]
                refine wpAnyH_take (i := 2) (v := ?_) rfl (by kernel_rfl) (by kernel_rfl) (by kernel_rfl) (fun _ _ _ h => h) (Or.inl ⟨by rfl, ?_⟩) hHeld ?_
                rotate_left
                · intro w' hSw
                  clear hSw
                  go_simp
                  first | done | with_reducible rfl
                simp only [Act.put, List.getElem_toArray, List.getElem_cons_succ, List.getElem_cons_zero, List.setIfInBounds_toArray, List.set_cons_zero, List.set_cons_succ]
                refine wpAnyH_take (i := 3) (v := ?_) rfl (by kernel_rfl) (by kernel_rfl) (by kernel_rfl) (fun _ _ _ h => h) (Or.inl ⟨by rfl, ?_⟩) hHeld ?_
                rotate_left
                · intro w' hSw
                  clear hSw
                  go_simp
                  first | done | with_reducible rfl
                simp only [Act.put, List.getElem_toArray, List.getElem_cons_succ, List.getElem_cons_zero, List.setIfInBounds_toArray, List.set_cons_zero, List.set_cons_succ]
                refine wpAnyH_take (i := 4) (v := ?_) rfl (by kernel_rfl) (by kernel_rfl) (by kernel_rfl) (fun _ _ _ h => h) (Or.inl ⟨by rfl, ?_⟩) hHeld ?_
                rotate_left
                · intro w' hSw
                  clear hSw
                  go_simp
                  first | done | with_reducible rfl
                simp only [Act.put, List.getElem_toArray, List.getElem_cons_succ, List.getElem_cons_zero, List.setIfInBounds_toArray, List.set_cons_zero, List.set_cons_succ]
                refine wpAnyH_take (i := 5) (v := ?_) rfl (by kernel_rfl) (by kernel_rfl) (by kernel_rfl) (fun _ _ _ h => h) (Or.inl ⟨by rfl, ?_⟩) hHeld ?_
                rotate_left
                · intro w' hSw
                  clear hSw
                  go_simp
                  first | done | with_reducible rfl
                simp only [Act.put, List.getElem_toArray, List.getElem_cons_succ, List.getElem_cons_zero, List.setIfInBounds_toArray, List.set_cons_zero, List.set_cons_succ]
                refine wpAnyH_take (i := 6) (v := ?_) rfl (by kernel_rfl) (by kernel_rfl) (by kernel_rfl) (fun _ _ _ h => h) (Or.inl ⟨by rfl, ?_⟩) hHeld ?_
                rotate_left
                · intro w' hSw
                  clear hSw
                  go_simp
                  first | done | with_reducible rfl
                simp only [Act.put, List.getElem_toArray, List.getElem_cons_succ, List.getElem_cons_zero, List.setIfInBounds_toArray, List.set_cons_zero, List.set_cons_succ]
                refine ready_st 7 _ (by kernel_rfl) rfl 56 (.tmp 4) (.tmp 85) rfl rfl w.heap.size (wdc wZ) rfl rfl 56 _ HZ.out.drew.b1 (szW _) rfl (wd1a _) ?_
                refine ⟨trivial, ?_⟩
                simp only [Act.put, List.getElem_toArray, List.getElem_cons_succ, List.getElem_cons_zero]
                refine ready_st 8 _ (by kernel_rfl) rfl 37 (.tmp 5) (.tmp 91) rfl rfl (w.heap.size + 1) (dfc 150 a (s.extract a i)) rfl rfl 37 _ (HZ.out.drew.set1 wZ).b2 (szF _ _ _) rfl (df1 _ _ _) ?_
                refine ⟨trivial, ?_⟩
                simp only [Act.put, List.getElem_toArray, List.getElem_cons_succ, List.getElem_cons_zero]
                refine wpAnyH_done (by kernel_rfl) ?_ _
                try simp only [Exit.then]
                go_wp2
                try simp only [Exit.inBlock, Exit.then]
                exact bodyPost_ret (v := dV wZ 150 a (s.extract a i)) (results_cc Tryz.results55 _ ((HZ.out.drew.set1 wZ).set2 150 a (s.extract a i)) rfl rfl) rfl ⟨by rw [HV.out], ((HZ.out.drew.set1 wZ).set2 150 a (s.extract a i)).low⟩
              · have g2 : ((i : Int) == (b : Int)) = false := by simp; omega
                have g2n : (i == b) = false := by simp; omega
                have g3 : decide ((b18 : Int) < (i : Int)) = true := by simp; have := HBb.out; omega
                have g3n : decide (b18 < i) = true := by simp; have := HBb.out; omega
                have hai : a ≤ i := by omega
                clear HRe hbd hbe hb18 HEX
                go_upto_region 11 with fail
                have hak1 : decide ((a : Int) ≤ ((i : Nat) : Int)) = true := by simp; omega
                refine wp_region_held_drew (S := (fun _ => True)) (by kernel_rfl) trivial (fun hHeld => ?_)
                refine wpAnyH_take (i := 0) (v := ?_) rfl (by kernel_rfl) (by kernel_rfl) (by kernel_rfl) (fun _ _ _ h => h) (Or.inl ⟨by rfl, ?_⟩) hHeld ?_
                rotate_left
                · intro w' hSw
                  clear hSw
                  go_simp
                  first | done | with_reducible rfl
                simp only [Act.put, List.getElem_toArray, List.getElem_cons_zero, List.setIfInBounds_toArray, List.set_cons_zero, List.set_cons_succ]
                refine wpAnyH_take (i := 1) (v := ?_) rfl (by kernel_rfl) (by kernel_rfl) (by kernel_rfl) (fun _ _ _ h => h) (Or.inl ⟨by rfl, ?_⟩) hHeld ?_
                rotate_left
                · intro w' hSw
                  clear hSw
                  go_simp
                  first | done | with_reducible rfl
                simp only [Act.put, List.getElem_toArray, List.getElem_cons_succ, List.getElem_cons_zero, List.setIfInBounds_toArray, List.set_cons_zero, List.set_cons_succ]
                refine wpAnyH_take (i := 2) (v := ?_) rfl (by kernel_rfl) (by kernel_rfl) (by kernel_rfl) (fun _ _ _ h => h) (Or.inl ⟨by rfl, ?_⟩) hHeld ?_
                rotate_left
                · intro w' hSw
                  clear hSw
                  go_simp
                  first | done | with_reducible rfl
                simp only [Act.put, List.getElem_toArray, List.getElem_cons_succ, List.getElem_cons_zero, List.setIfInBounds_toArray, List.set_cons_zero, List.set_cons_succ]
                refine wpAnyH_take (i := 3) (v := ?_) rfl (by kernel_rfl) (by kernel_rfl) (by kernel_rfl) (fun _ _ _ h => h) (Or.inl ⟨by rfl, ?_⟩) hHeld ?_
                rotate_left
                · intro w' hSw
                  clear hSw
                  go_simp
                  first | done | with_reducible rfl
                simp only [Act.put, List.getElem_toArray, List.getElem_cons_succ, List.getElem_cons_zero, List.setIfInBounds_toArray, List.set_cons_zero, List.set_cons_succ]
                refine wpAnyH_take (i := 4) (v := ?_) rfl (by kernel_rfl) (by kernel_rfl) (by kernel_rfl) (fun _ _ _ h => h) (Or.inl ⟨by rfl, ?_⟩) hHeld ?_
                rotate_left
                · intro w' hSw
                  clear hSw
                  go_simp
                  first | done | with_reducible rfl
                simp only [Act.put, List.getElem_toArray, List.getElem_cons_succ, List.getElem_cons_zero, List.setIfInBounds_toArray, List.set_cons_zero, List.set_cons_succ]
                refine wpAnyH_take (i := 5) (v := ?_) rfl (by kernel_rfl) (by kernel_rfl) (by kernel_rfl) (fun _ _ _ h => h) (Or.inl ⟨by rfl, ?_⟩) hHeld ?_
                rotate_left
                · intro w' hSw
                  clear hSw
                  go_simp
                  first | done | with_reducible rfl
                simp only [Act.put, List.getElem_toArray, List.getElem_cons_succ, List.getElem_cons_zero, List.setIfInBounds_toArray, List.set_cons_zero, List.set_cons_succ]
                refine wpAnyH_take (i := 6) (v := ?_) rfl (by kernel_rfl) (by kernel_rfl) (by kernel_rfl) (fun _ _ _ h => h) (Or.inl ⟨by rfl, ?_⟩) hHeld ?_
                rotate_left
                · intro w' hSw
                  clear hSw
                  go_simp
                  first | done | with_reducible rfl
                simp only [Act.put, List.getElem_toArray, List.getElem_cons_succ, List.getElem_cons_zero, List.setIfInBounds_toArray, List.set_cons_zero, List.set_cons_succ]
                refine ready_st 7 _ (by kernel_rfl) rfl 56 (.tmp 4) (.tmp 85) rfl rfl w.heap.size (wdc wZ) rfl rfl 56 _ HZ.out.drew.b1 (szW _) rfl (wd1a _) ?_
                refine ⟨trivial, ?_⟩
                simp only [Act.put, List.getElem_toArray, List.getElem_cons_succ, List.getElem_cons_zero]
                refine ready_st 8 _ (by kernel_rfl) rfl 37 (.tmp 5) (.tmp 91) rfl rfl (w.heap.size + 1) (dfc 150 a (s.extract a i)) rfl rfl 37 _ (HZ.out.drew.set1 wZ).b2 (szF _ _ _) rfl (df1 _ _ _) ?_
                refine ⟨trivial, ?_⟩
                simp only [Act.put, List.getElem_toArray, List.getElem_cons_succ, List.getElem_cons_zero]
                refine wpAnyH_done (by kernel_rfl) ?_ _
                try simp only [Exit.then]
                go_wp2
                try simp only [Exit.inBlock, Exit.then]
                exact bodyPost_ret (v := dV wZ 150 a (s.extract a i)) (results_cc Tryz.results55 _ ((HZ.out.drew.set1 wZ).set2 150 a (s.extract a i)) rfl rfl) rfl ⟨by rw [HV.out], ((HZ.out.drew.set1 wZ).set2 150 a (s.extract a i)).low⟩
            · have HV : Hid (rv s a R = rv s a (cls s i N)) := by show _ = _; rw [HRe.out, if_neg hbd]
              have g2 : ((i : Int) == (b : Int)) = false := by simp; omega
              have g2n : (i == b) = false := by simp; omega
              have g3 : decide ((b18 : Int) < (i : Int)) = false := by simp; have := HBb.out; omega
              have g3n : decide (b18 < i) = false := by simp; have := HBb.out; omega
              have hai : a ≤ i := by omega
              have HC := hid (fun W => closed_any s a i N hai hle hs W)
              clear HRe hbd hb18 HEX
              obtain ⟨x, c, a', t, hrv⟩ := rv_form s a (cls s i N)
              rw [hrv] at HC HV
              clear hrv
              go_wp2_with (first
                | (go_at_call 80; refine (HC.out _).mono ?_; rintro r W2 ⟨rfl, hb2⟩; have HZ2 := hid (HZ.out.on hb2); clear hb2)
                | (refine stRow 56 (.tmp 4) (.tmp 101) rfl rfl w.heap.size (wdc x) rfl rfl 56 _ HZ2.out.b1 (szW _) rfl (wd1a _) ?_)
                | (refine stRow 37 (.tmp 5) (.tmp 102) rfl rfl (w.heap.size + 1) (dfc c a' t) rfl rfl 37 _ (HZ2.out.set1 x).b2 (szF _ _ _) rfl (df1 _ _ _) ?_))
              try simp only [Exit.inBlock, Exit.then]
              exact bodyPost_ret (v := dV x c a' t) (results_cc Tryz.results55 _ ((HZ2.out.set1 x).set2 c a' t) rfl rfl) rfl ⟨by rw [HV.out], ((HZ2.out.set1 x).set2 c a' t).low⟩
    · by_cases hb0 : bt s a = 48
      · have hn120 : bt s (a + 1) ≠ 120 := fun h => hx0 ⟨hb0, h⟩
        have hge := rE_ge isD s a
        have hle := rE_le (p := isD) (Nat.le_of_lt ha)
        have hal : ∀ j, a ≤ j → j < rE isD s a → isD (bt s j) = true := fun j h1 h2 => rE_all h1 h2
        have HRun := hid (fun W => run_any s a (Nat.le_of_lt ha) hs W)
        have HDec := hid (fun W => ddecimal_any s a (rE isD s a) hge hle hal hs W)
        have hsz := size_ext (s := s) (a := a) hle
        have HIX := hid (fun (h : 0 < rE isD s a - a) W => run_ext s a (rE isD s a) 0 hle h W)
        obtain ⟨N, hN⟩ : ∃ N, N = dn s (rE isD s a - a) a 0 := ⟨_, rfl⟩
        rw [← hN] at HDec
        have HDE : Hid (dec s a = if 18446744073709551615 < N then ⟨0, rE isD s a, 0, 3⟩ else if 1 < rE isD s a - a ∧ bt s a = 48 then ⟨0, rE isD s a, 0, 150⟩ else cls s (rE isD s a) N) := by rw [hN]; rfl
        have HNm : Hid (R = if bt s (rE isD s a) = 46 then dot s 4 a 0 else dec s a) := by
          show _ = _; rw [HR0.out]; unfold num; rw [hp]; show (if _ then _ else _) = _; rw [if_neg hx0]
        clear hN
        obtain ⟨e, he⟩ : ∃ e, e = rE isD s a := ⟨_, rfl⟩
        rw [← he] at hge hle HRun HDec hsz HIX HDE HNm
        obtain ⟨D, hD⟩ : ∃ D, D = s.extract a e := ⟨_, rfl⟩
        rw [← hD] at HRun HDec hsz HIX
        have HDx := hid hD
        obtain ⟨m, hm⟩ : ∃ m, m = e - a := ⟨_, rfl⟩
        rw [← hm] at hsz HIX HDE
        have hwe : IntKind.i64.wrap ((a : Int) + (m : Int)) = (e : Int) := by rw [IntKind.wrap_i64]; omega
        clear hal he hD hm
        have hix1 := hix
        rw [hb0, show ((48 : Nat) : Int) = 48 from rfl] at hix1
        have HB48 := hid hb0
        clear hix hx0
        by_cases hin1 : a + 1 < s.size
        · have g1 : decide ((a : Int) + 1 < (s.size : Int)) = true := by simp; omega
          have hixb : (Instr.index 9 (.string s) (.int .i64 ((a : Int) + 1))).run Tryz.prog W0 = .ok (.int .u8 ((bt s (a + 1) : Nat) : Int)) W0 := run_bt s (a + 1) hin1 W0
          have g120 : (((bt s (a + 1) : Nat) : Int) == 120) = false := by simp; omega
          clear hb0 hn120
          go_upto_region 13 with fail
          clear g120 hixb g1 hix1
          go_upto_region 15 with (go_at_call 81; refine (HRun.out _).mono ?_; rintro r w5 ⟨rfl, hw⟩; obtain rfl := hw.symm)
          by_cases hc : bt s e = 46
          · have hin : e < s.size := in_of_bt (by rw [hc]; decide)
            have g4 : decide ((e : Int) < (s.size : Int)) = true := by simp; omega
            have hixe := run_bt s e hin W0
            rw [hc, show ((46 : Nat) : Int) = 46 from rfl] at hixe
            have HV : Hid (rv s a R = rv s a (dot s 4 a 0)) := by show _ = _; rw [HNm.out, if_pos hc]
            have HC := hid (fun W => dotted_any s a (Nat.le_of_lt ha) hs W)
            clear hc
            obtain ⟨x, c, a', t, hrv⟩ := rv_form s a (dot s 4 a 0)
            rw [hrv] at HC HV
            clear hrv
            go_wp2_with (first
              | (go_at_call 82; refine (HC.out _).mono ?_; rintro r W2 ⟨rfl, hb2⟩; have HZ2 := hid (HZ.out.on hb2); clear hb2)
              | (refine stRow 56 (.tmp 4) (.tmp 123) rfl rfl w.heap.size (wdc x) rfl rfl 56 _ HZ2.out.b1 (szW _) rfl (wd1a _) ?_)
              | (refine stRow 37 (.tmp 5) (.tmp 124) rfl rfl (w.heap.size + 1) (dfc c a' t) rfl rfl 37 _ (HZ2.out.set1 x).b2 (szF _ _ _) rfl (df1 _ _ _) ?_))
            try simp only [Exit.inBlock, Exit.then]
            exact bodyPost_ret (v := dV x c a' t) (results_cc Tryz.results55 _ ((HZ2.out.set1 x).set2 c a' t) rfl rfl) rfl ⟨by rw [HV.out], ((HZ2.out.set1 x).set2 c a' t).low⟩
          · have HR : Hid (R = dec s a) := by show _ = _; rw [HNm.out, if_neg hc]
            have HC := hid (fun W => closed_any s a e N hge hle hs W)
            rw [← HDx.out] at HC
            by_cases hin : e < s.size
            · have g4 : decide ((e : Int) < (s.size : Int)) = true := by simp; omega
              have hixe := run_bt s e hin W0
              have g46 : (((bt s e : Nat) : Int) == 46) = false := by simp; omega
              clear hc HNm
              go_upto_region 17 with fail
              clear g46 hixe g4
              by_cases hN1 : N ≤ 18446744073709551615
              · have hdc : dcV N = .tuple #[.int .u64 (N : Int), .bool true] := by unfold dcV; rw [if_pos hN1]
                rw [hdc] at HDec
                have HDF : Hid (R = if 1 < m ∧ bt s a = 48 then ⟨0, e, 0, 150⟩ else cls s e N) := by show _ = _; rw [HR.out, HDE.out, if_neg (by omega)]
                clear hdc HR
                by_cases hm1 : 1 < m
                · have g5 : decide ((1 : Int) < (m : Int)) = true := by simp; omega
                  have g5n : decide (1 < m) = true := by simp; omega
                  have hix2 : (Instr.index 9 (.string D) (.int .i64 0)).run Tryz.prog W0 = .ok (.int .u8 ((bt s a : Nat) : Int)) W0 := HIX.out (by omega) W0
                  by_cases hb : bt s a = 48
                  · have HV : Hid (rv s a R = dV wZ 150 a D) := by show _ = _; rw [HDF.out, if_pos ⟨hm1, hb⟩, rv_bad _ _ _ _ (by decide), HDx.out]
                    rw [hb] at hix2
                    clear HDF hb hm1
                    go_wp2_with (first
                      | (go_at_call 83; refine (HDec.out _).mono ?_; rintro r w5 ⟨rfl, hw⟩; obtain rfl := hw.symm)
                      | (show wpList _ _ _ ({ dst := some 144, op := _, type := _, pos := _, after := _, guard := _ } :: _) _ _; refine stepVal (.agg (wdc wZ)) rfl (by kernel_rfl) ?_)
                      | (show wpList _ _ _ ({ dst := some 147, op := _, type := _, pos := _, after := _, guard := _ } :: _) _ _; refine stepVal (.agg (dfc 150 a D)) rfl (by kernel_rfl) ?_)
                      | (refine stRow 56 (.tmp 4) (.tmp 144) rfl rfl w.heap.size (wdc wZ) rfl rfl 56 _ HZ.out.b1 (szW _) rfl (wd1a _) ?_)
                      | (refine stRow 37 (.tmp 5) (.tmp 147) rfl rfl (w.heap.size + 1) (dfc 150 a D) rfl rfl 37 _ (HZ.out.set1 wZ).b2 (szF _ _ _) rfl (df1 _ _ _) ?_))
                    try simp only [Exit.inBlock, Exit.then]
                    exact bodyPost_ret (v := dV wZ 150 a D) (results_cc Tryz.results55 _ ((HZ.out.set1 wZ).set2 150 a D) rfl rfl) rfl ⟨by rw [HV.out], ((HZ.out.set1 wZ).set2 150 a D).low⟩
                  · have HV : Hid (rv s a R = rv s a (cls s e N)) := by show _ = _; rw [HDF.out, if_neg (fun h => hb h.2)]
                    have g6 : (((bt s a : Nat) : Int) == 48) = false := by simp; omega
                    clear HDF hb hm1
                    obtain ⟨x, c, a', t, hrv⟩ := rv_form s a (cls s e N)
                    rw [hrv] at HC HV
                    clear hrv
                    go_wp2_with (first
                      | (go_at_call 80; refine (HC.out _).mono ?_; rintro r W2 ⟨rfl, hb2⟩; have HZ2 := hid (HZ.out.on hb2); clear hb2)
                      | (go_at_call 83; refine (HDec.out _).mono ?_; rintro r w5 ⟨rfl, hw⟩; obtain rfl := hw.symm)
                      | (refine stRow 56 (.tmp 4) (.tmp 154) rfl rfl w.heap.size (wdc x) rfl rfl 56 _ HZ2.out.b1 (szW _) rfl (wd1a _) ?_)
                      | (refine stRow 37 (.tmp 5) (.tmp 155) rfl rfl (w.heap.size + 1) (dfc c a' t) rfl rfl 37 _ (HZ2.out.set1 x).b2 (szF _ _ _) rfl (df1 _ _ _) ?_))
                    try simp only [Exit.inBlock, Exit.then]
                    exact bodyPost_ret (v := dV x c a' t) (results_cc Tryz.results55 _ ((HZ2.out.set1 x).set2 c a' t) rfl rfl) rfl ⟨by rw [HV.out], ((HZ2.out.set1 x).set2 c a' t).low⟩
                · have g5 : decide ((1 : Int) < (m : Int)) = false := by simp; omega
                  have g5n : decide (1 < m) = false := by simp; omega
                  have HV : Hid (rv s a R = rv s a (cls s e N)) := by show _ = _; rw [HDF.out, if_neg (fun h => hm1 h.1)]
                  clear HDF hm1
                  obtain ⟨x, c, a', t, hrv⟩ := rv_form s a (cls s e N)
                  rw [hrv] at HC HV
                  clear hrv
                  go_wp2_with (first
                    | (go_at_call 80; refine (HC.out _).mono ?_; rintro r W2 ⟨rfl, hb2⟩; have HZ2 := hid (HZ.out.on hb2); clear hb2)
                    | (go_at_call 83; refine (HDec.out _).mono ?_; rintro r w5 ⟨rfl, hw⟩; obtain rfl := hw.symm)
                    | (refine stRow 56 (.tmp 4) (.tmp 154) rfl rfl w.heap.size (wdc x) rfl rfl 56 _ HZ2.out.b1 (szW _) rfl (wd1a _) ?_)
                    | (refine stRow 37 (.tmp 5) (.tmp 155) rfl rfl (w.heap.size + 1) (dfc c a' t) rfl rfl 37 _ (HZ2.out.set1 x).b2 (szF _ _ _) rfl (df1 _ _ _) ?_))
                  try simp only [Exit.inBlock, Exit.then]
                  exact bodyPost_ret (v := dV x c a' t) (results_cc Tryz.results55 _ ((HZ2.out.set1 x).set2 c a' t) rfl rfl) rfl ⟨by rw [HV.out], ((HZ2.out.set1 x).set2 c a' t).low⟩
              · have hdc : dcV N = .tuple #[.int .u64 0, .bool false] := by unfold dcV; rw [if_neg hN1]
                rw [hdc] at HDec
                have HV : Hid (rv s a R = dV wZ 3 a D) := by show _ = _; rw [HR.out, HDE.out, if_pos (by omega), rv_bad _ _ _ _ (by decide), HDx.out]
                clear hdc HR hN1
                go_wp2_with (first
                  | (go_at_call 83; refine (HDec.out _).mono ?_; rintro r w5 ⟨rfl, hw⟩; obtain rfl := hw.symm)
                  | (show wpList _ _ _ ({ dst := some 132, op := _, type := _, pos := _, after := _, guard := _ } :: _) _ _; refine stepVal (.agg (wdc wZ)) rfl (by kernel_rfl) ?_)
                  | (show wpList _ _ _ ({ dst := some 135, op := _, type := _, pos := _, after := _, guard := _ } :: _) _ _; refine stepVal (.agg (dfc 3 a D)) rfl (by kernel_rfl) ?_)
                  | (refine stRow 56 (.tmp 4) (.tmp 132) rfl rfl w.heap.size (wdc wZ) rfl rfl 56 _ HZ.out.b1 (szW _) rfl (wd1a _) ?_)
                  | (refine stRow 37 (.tmp 5) (.tmp 135) rfl rfl (w.heap.size + 1) (dfc 3 a D) rfl rfl 37 _ (HZ.out.set1 wZ).b2 (szF _ _ _) rfl (df1 _ _ _) ?_))
                try simp only [Exit.inBlock, Exit.then]
                exact bodyPost_ret (v := dV wZ 3 a D) (results_cc Tryz.results55 _ ((HZ.out.set1 wZ).set2 3 a D) rfl rfl) rfl ⟨by rw [HV.out], ((HZ.out.set1 wZ).set2 3 a D).low⟩
            · have g4 : decide ((e : Int) < (s.size : Int)) = false := by simp; omega
              clear hc HNm
              go_upto_region 17 with fail
              clear g4
              by_cases hN1 : N ≤ 18446744073709551615
              · have hdc : dcV N = .tuple #[.int .u64 (N : Int), .bool true] := by unfold dcV; rw [if_pos hN1]
                rw [hdc] at HDec
                have HDF : Hid (R = if 1 < m ∧ bt s a = 48 then ⟨0, e, 0, 150⟩ else cls s e N) := by show _ = _; rw [HR.out, HDE.out, if_neg (by omega)]
                clear hdc HR
                by_cases hm1 : 1 < m
                · have g5 : decide ((1 : Int) < (m : Int)) = true := by simp; omega
                  have g5n : decide (1 < m) = true := by simp; omega
                  have hix2 : (Instr.index 9 (.string D) (.int .i64 0)).run Tryz.prog W0 = .ok (.int .u8 ((bt s a : Nat) : Int)) W0 := HIX.out (by omega) W0
                  by_cases hb : bt s a = 48
                  · have HV : Hid (rv s a R = dV wZ 150 a D) := by show _ = _; rw [HDF.out, if_pos ⟨hm1, hb⟩, rv_bad _ _ _ _ (by decide), HDx.out]
                    rw [hb] at hix2
                    clear HDF hb hm1
                    go_wp2_with (first
                      | (go_at_call 83; refine (HDec.out _).mono ?_; rintro r w5 ⟨rfl, hw⟩; obtain rfl := hw.symm)
                      | (show wpList _ _ _ ({ dst := some 144, op := _, type := _, pos := _, after := _, guard := _ } :: _) _ _; refine stepVal (.agg (wdc wZ)) rfl (by kernel_rfl) ?_)
                      | (show wpList _ _ _ ({ dst := some 147, op := _, type := _, pos := _, after := _, guard := _ } :: _) _ _; refine stepVal (.agg (dfc 150 a D)) rfl (by kernel_rfl) ?_)
                      | (refine stRow 56 (.tmp 4) (.tmp 144) rfl rfl w.heap.size (wdc wZ) rfl rfl 56 _ HZ.out.b1 (szW _) rfl (wd1a _) ?_)
                      | (refine stRow 37 (.tmp 5) (.tmp 147) rfl rfl (w.heap.size + 1) (dfc 150 a D) rfl rfl 37 _ (HZ.out.set1 wZ).b2 (szF _ _ _) rfl (df1 _ _ _) ?_))
                    try simp only [Exit.inBlock, Exit.then]
                    exact bodyPost_ret (v := dV wZ 150 a D) (results_cc Tryz.results55 _ ((HZ.out.set1 wZ).set2 150 a D) rfl rfl) rfl ⟨by rw [HV.out], ((HZ.out.set1 wZ).set2 150 a D).low⟩
                  · have HV : Hid (rv s a R = rv s a (cls s e N)) := by show _ = _; rw [HDF.out, if_neg (fun h => hb h.2)]
                    have g6 : (((bt s a : Nat) : Int) == 48) = false := by simp; omega
                    clear HDF hb hm1
                    obtain ⟨x, c, a', t, hrv⟩ := rv_form s a (cls s e N)
                    rw [hrv] at HC HV
                    clear hrv
                    go_wp2_with (first
                      | (go_at_call 80; refine (HC.out _).mono ?_; rintro r W2 ⟨rfl, hb2⟩; have HZ2 := hid (HZ.out.on hb2); clear hb2)
                      | (go_at_call 83; refine (HDec.out _).mono ?_; rintro r w5 ⟨rfl, hw⟩; obtain rfl := hw.symm)
                      | (refine stRow 56 (.tmp 4) (.tmp 154) rfl rfl w.heap.size (wdc x) rfl rfl 56 _ HZ2.out.b1 (szW _) rfl (wd1a _) ?_)
                      | (refine stRow 37 (.tmp 5) (.tmp 155) rfl rfl (w.heap.size + 1) (dfc c a' t) rfl rfl 37 _ (HZ2.out.set1 x).b2 (szF _ _ _) rfl (df1 _ _ _) ?_))
                    try simp only [Exit.inBlock, Exit.then]
                    exact bodyPost_ret (v := dV x c a' t) (results_cc Tryz.results55 _ ((HZ2.out.set1 x).set2 c a' t) rfl rfl) rfl ⟨by rw [HV.out], ((HZ2.out.set1 x).set2 c a' t).low⟩
                · have g5 : decide ((1 : Int) < (m : Int)) = false := by simp; omega
                  have g5n : decide (1 < m) = false := by simp; omega
                  have HV : Hid (rv s a R = rv s a (cls s e N)) := by show _ = _; rw [HDF.out, if_neg (fun h => hm1 h.1)]
                  clear HDF hm1
                  obtain ⟨x, c, a', t, hrv⟩ := rv_form s a (cls s e N)
                  rw [hrv] at HC HV
                  clear hrv
                  go_wp2_with (first
                    | (go_at_call 80; refine (HC.out _).mono ?_; rintro r W2 ⟨rfl, hb2⟩; have HZ2 := hid (HZ.out.on hb2); clear hb2)
                    | (go_at_call 83; refine (HDec.out _).mono ?_; rintro r w5 ⟨rfl, hw⟩; obtain rfl := hw.symm)
                    | (refine stRow 56 (.tmp 4) (.tmp 154) rfl rfl w.heap.size (wdc x) rfl rfl 56 _ HZ2.out.b1 (szW _) rfl (wd1a _) ?_)
                    | (refine stRow 37 (.tmp 5) (.tmp 155) rfl rfl (w.heap.size + 1) (dfc c a' t) rfl rfl 37 _ (HZ2.out.set1 x).b2 (szF _ _ _) rfl (df1 _ _ _) ?_))
                  try simp only [Exit.inBlock, Exit.then]
                  exact bodyPost_ret (v := dV x c a' t) (results_cc Tryz.results55 _ ((HZ2.out.set1 x).set2 c a' t) rfl rfl) rfl ⟨by rw [HV.out], ((HZ2.out.set1 x).set2 c a' t).low⟩
              · have hdc : dcV N = .tuple #[.int .u64 0, .bool false] := by unfold dcV; rw [if_neg hN1]
                rw [hdc] at HDec
                have HV : Hid (rv s a R = dV wZ 3 a D) := by show _ = _; rw [HR.out, HDE.out, if_pos (by omega), rv_bad _ _ _ _ (by decide), HDx.out]
                clear hdc HR hN1
                go_wp2_with (first
                  | (go_at_call 83; refine (HDec.out _).mono ?_; rintro r w5 ⟨rfl, hw⟩; obtain rfl := hw.symm)
                  | (show wpList _ _ _ ({ dst := some 132, op := _, type := _, pos := _, after := _, guard := _ } :: _) _ _; refine stepVal (.agg (wdc wZ)) rfl (by kernel_rfl) ?_)
                  | (show wpList _ _ _ ({ dst := some 135, op := _, type := _, pos := _, after := _, guard := _ } :: _) _ _; refine stepVal (.agg (dfc 3 a D)) rfl (by kernel_rfl) ?_)
                  | (refine stRow 56 (.tmp 4) (.tmp 132) rfl rfl w.heap.size (wdc wZ) rfl rfl 56 _ HZ.out.b1 (szW _) rfl (wd1a _) ?_)
                  | (refine stRow 37 (.tmp 5) (.tmp 135) rfl rfl (w.heap.size + 1) (dfc 3 a D) rfl rfl 37 _ (HZ.out.set1 wZ).b2 (szF _ _ _) rfl (df1 _ _ _) ?_))
                try simp only [Exit.inBlock, Exit.then]
                exact bodyPost_ret (v := dV wZ 3 a D) (results_cc Tryz.results55 _ ((HZ.out.set1 wZ).set2 3 a D) rfl rfl) rfl ⟨by rw [HV.out], ((HZ.out.set1 wZ).set2 3 a D).low⟩
        · have g1 : decide ((a : Int) + 1 < (s.size : Int)) = false := by simp; omega
          clear hb0 hn120
          go_upto_region 13 with fail
          clear g1 hix1
          go_upto_region 15 with (go_at_call 81; refine (HRun.out _).mono ?_; rintro r w5 ⟨rfl, hw⟩; obtain rfl := hw.symm)
          by_cases hc : bt s e = 46
          · have hin : e < s.size := in_of_bt (by rw [hc]; decide)
            have g4 : decide ((e : Int) < (s.size : Int)) = true := by simp; omega
            have hixe := run_bt s e hin W0
            rw [hc, show ((46 : Nat) : Int) = 46 from rfl] at hixe
            have HV : Hid (rv s a R = rv s a (dot s 4 a 0)) := by show _ = _; rw [HNm.out, if_pos hc]
            have HC := hid (fun W => dotted_any s a (Nat.le_of_lt ha) hs W)
            clear hc
            obtain ⟨x, c, a', t, hrv⟩ := rv_form s a (dot s 4 a 0)
            rw [hrv] at HC HV
            clear hrv
            go_wp2_with (first
              | (go_at_call 82; refine (HC.out _).mono ?_; rintro r W2 ⟨rfl, hb2⟩; have HZ2 := hid (HZ.out.on hb2); clear hb2)
              | (refine stRow 56 (.tmp 4) (.tmp 123) rfl rfl w.heap.size (wdc x) rfl rfl 56 _ HZ2.out.b1 (szW _) rfl (wd1a _) ?_)
              | (refine stRow 37 (.tmp 5) (.tmp 124) rfl rfl (w.heap.size + 1) (dfc c a' t) rfl rfl 37 _ (HZ2.out.set1 x).b2 (szF _ _ _) rfl (df1 _ _ _) ?_))
            try simp only [Exit.inBlock, Exit.then]
            exact bodyPost_ret (v := dV x c a' t) (results_cc Tryz.results55 _ ((HZ2.out.set1 x).set2 c a' t) rfl rfl) rfl ⟨by rw [HV.out], ((HZ2.out.set1 x).set2 c a' t).low⟩
          · have HR : Hid (R = dec s a) := by show _ = _; rw [HNm.out, if_neg hc]
            have HC := hid (fun W => closed_any s a e N hge hle hs W)
            rw [← HDx.out] at HC
            by_cases hin : e < s.size
            · have g4 : decide ((e : Int) < (s.size : Int)) = true := by simp; omega
              have hixe := run_bt s e hin W0
              have g46 : (((bt s e : Nat) : Int) == 46) = false := by simp; omega
              clear hc HNm
              go_upto_region 17 with fail
              clear g46 hixe g4
              by_cases hN1 : N ≤ 18446744073709551615
              · have hdc : dcV N = .tuple #[.int .u64 (N : Int), .bool true] := by unfold dcV; rw [if_pos hN1]
                rw [hdc] at HDec
                have HDF : Hid (R = if 1 < m ∧ bt s a = 48 then ⟨0, e, 0, 150⟩ else cls s e N) := by show _ = _; rw [HR.out, HDE.out, if_neg (by omega)]
                clear hdc HR
                by_cases hm1 : 1 < m
                · have g5 : decide ((1 : Int) < (m : Int)) = true := by simp; omega
                  have g5n : decide (1 < m) = true := by simp; omega
                  have hix2 : (Instr.index 9 (.string D) (.int .i64 0)).run Tryz.prog W0 = .ok (.int .u8 ((bt s a : Nat) : Int)) W0 := HIX.out (by omega) W0
                  by_cases hb : bt s a = 48
                  · have HV : Hid (rv s a R = dV wZ 150 a D) := by show _ = _; rw [HDF.out, if_pos ⟨hm1, hb⟩, rv_bad _ _ _ _ (by decide), HDx.out]
                    rw [hb] at hix2
                    clear HDF hb hm1
                    go_wp2_with (first
                      | (go_at_call 83; refine (HDec.out _).mono ?_; rintro r w5 ⟨rfl, hw⟩; obtain rfl := hw.symm)
                      | (show wpList _ _ _ ({ dst := some 144, op := _, type := _, pos := _, after := _, guard := _ } :: _) _ _; refine stepVal (.agg (wdc wZ)) rfl (by kernel_rfl) ?_)
                      | (show wpList _ _ _ ({ dst := some 147, op := _, type := _, pos := _, after := _, guard := _ } :: _) _ _; refine stepVal (.agg (dfc 150 a D)) rfl (by kernel_rfl) ?_)
                      | (refine stRow 56 (.tmp 4) (.tmp 144) rfl rfl w.heap.size (wdc wZ) rfl rfl 56 _ HZ.out.b1 (szW _) rfl (wd1a _) ?_)
                      | (refine stRow 37 (.tmp 5) (.tmp 147) rfl rfl (w.heap.size + 1) (dfc 150 a D) rfl rfl 37 _ (HZ.out.set1 wZ).b2 (szF _ _ _) rfl (df1 _ _ _) ?_))
                    try simp only [Exit.inBlock, Exit.then]
                    exact bodyPost_ret (v := dV wZ 150 a D) (results_cc Tryz.results55 _ ((HZ.out.set1 wZ).set2 150 a D) rfl rfl) rfl ⟨by rw [HV.out], ((HZ.out.set1 wZ).set2 150 a D).low⟩
                  · have HV : Hid (rv s a R = rv s a (cls s e N)) := by show _ = _; rw [HDF.out, if_neg (fun h => hb h.2)]
                    have g6 : (((bt s a : Nat) : Int) == 48) = false := by simp; omega
                    clear HDF hb hm1
                    obtain ⟨x, c, a', t, hrv⟩ := rv_form s a (cls s e N)
                    rw [hrv] at HC HV
                    clear hrv
                    go_wp2_with (first
                      | (go_at_call 80; refine (HC.out _).mono ?_; rintro r W2 ⟨rfl, hb2⟩; have HZ2 := hid (HZ.out.on hb2); clear hb2)
                      | (go_at_call 83; refine (HDec.out _).mono ?_; rintro r w5 ⟨rfl, hw⟩; obtain rfl := hw.symm)
                      | (refine stRow 56 (.tmp 4) (.tmp 154) rfl rfl w.heap.size (wdc x) rfl rfl 56 _ HZ2.out.b1 (szW _) rfl (wd1a _) ?_)
                      | (refine stRow 37 (.tmp 5) (.tmp 155) rfl rfl (w.heap.size + 1) (dfc c a' t) rfl rfl 37 _ (HZ2.out.set1 x).b2 (szF _ _ _) rfl (df1 _ _ _) ?_))
                    try simp only [Exit.inBlock, Exit.then]
                    exact bodyPost_ret (v := dV x c a' t) (results_cc Tryz.results55 _ ((HZ2.out.set1 x).set2 c a' t) rfl rfl) rfl ⟨by rw [HV.out], ((HZ2.out.set1 x).set2 c a' t).low⟩
                · have g5 : decide ((1 : Int) < (m : Int)) = false := by simp; omega
                  have g5n : decide (1 < m) = false := by simp; omega
                  have HV : Hid (rv s a R = rv s a (cls s e N)) := by show _ = _; rw [HDF.out, if_neg (fun h => hm1 h.1)]
                  clear HDF hm1
                  obtain ⟨x, c, a', t, hrv⟩ := rv_form s a (cls s e N)
                  rw [hrv] at HC HV
                  clear hrv
                  go_wp2_with (first
                    | (go_at_call 80; refine (HC.out _).mono ?_; rintro r W2 ⟨rfl, hb2⟩; have HZ2 := hid (HZ.out.on hb2); clear hb2)
                    | (go_at_call 83; refine (HDec.out _).mono ?_; rintro r w5 ⟨rfl, hw⟩; obtain rfl := hw.symm)
                    | (refine stRow 56 (.tmp 4) (.tmp 154) rfl rfl w.heap.size (wdc x) rfl rfl 56 _ HZ2.out.b1 (szW _) rfl (wd1a _) ?_)
                    | (refine stRow 37 (.tmp 5) (.tmp 155) rfl rfl (w.heap.size + 1) (dfc c a' t) rfl rfl 37 _ (HZ2.out.set1 x).b2 (szF _ _ _) rfl (df1 _ _ _) ?_))
                  try simp only [Exit.inBlock, Exit.then]
                  exact bodyPost_ret (v := dV x c a' t) (results_cc Tryz.results55 _ ((HZ2.out.set1 x).set2 c a' t) rfl rfl) rfl ⟨by rw [HV.out], ((HZ2.out.set1 x).set2 c a' t).low⟩
              · have hdc : dcV N = .tuple #[.int .u64 0, .bool false] := by unfold dcV; rw [if_neg hN1]
                rw [hdc] at HDec
                have HV : Hid (rv s a R = dV wZ 3 a D) := by show _ = _; rw [HR.out, HDE.out, if_pos (by omega), rv_bad _ _ _ _ (by decide), HDx.out]
                clear hdc HR hN1
                go_wp2_with (first
                  | (go_at_call 83; refine (HDec.out _).mono ?_; rintro r w5 ⟨rfl, hw⟩; obtain rfl := hw.symm)
                  | (show wpList _ _ _ ({ dst := some 132, op := _, type := _, pos := _, after := _, guard := _ } :: _) _ _; refine stepVal (.agg (wdc wZ)) rfl (by kernel_rfl) ?_)
                  | (show wpList _ _ _ ({ dst := some 135, op := _, type := _, pos := _, after := _, guard := _ } :: _) _ _; refine stepVal (.agg (dfc 3 a D)) rfl (by kernel_rfl) ?_)
                  | (refine stRow 56 (.tmp 4) (.tmp 132) rfl rfl w.heap.size (wdc wZ) rfl rfl 56 _ HZ.out.b1 (szW _) rfl (wd1a _) ?_)
                  | (refine stRow 37 (.tmp 5) (.tmp 135) rfl rfl (w.heap.size + 1) (dfc 3 a D) rfl rfl 37 _ (HZ.out.set1 wZ).b2 (szF _ _ _) rfl (df1 _ _ _) ?_))
                try simp only [Exit.inBlock, Exit.then]
                exact bodyPost_ret (v := dV wZ 3 a D) (results_cc Tryz.results55 _ ((HZ.out.set1 wZ).set2 3 a D) rfl rfl) rfl ⟨by rw [HV.out], ((HZ.out.set1 wZ).set2 3 a D).low⟩
            · have g4 : decide ((e : Int) < (s.size : Int)) = false := by simp; omega
              clear hc HNm
              go_upto_region 17 with fail
              clear g4
              by_cases hN1 : N ≤ 18446744073709551615
              · have hdc : dcV N = .tuple #[.int .u64 (N : Int), .bool true] := by unfold dcV; rw [if_pos hN1]
                rw [hdc] at HDec
                have HDF : Hid (R = if 1 < m ∧ bt s a = 48 then ⟨0, e, 0, 150⟩ else cls s e N) := by show _ = _; rw [HR.out, HDE.out, if_neg (by omega)]
                clear hdc HR
                by_cases hm1 : 1 < m
                · have g5 : decide ((1 : Int) < (m : Int)) = true := by simp; omega
                  have g5n : decide (1 < m) = true := by simp; omega
                  have hix2 : (Instr.index 9 (.string D) (.int .i64 0)).run Tryz.prog W0 = .ok (.int .u8 ((bt s a : Nat) : Int)) W0 := HIX.out (by omega) W0
                  by_cases hb : bt s a = 48
                  · have HV : Hid (rv s a R = dV wZ 150 a D) := by show _ = _; rw [HDF.out, if_pos ⟨hm1, hb⟩, rv_bad _ _ _ _ (by decide), HDx.out]
                    rw [hb] at hix2
                    clear HDF hb hm1
                    go_wp2_with (first
                      | (go_at_call 83; refine (HDec.out _).mono ?_; rintro r w5 ⟨rfl, hw⟩; obtain rfl := hw.symm)
                      | (show wpList _ _ _ ({ dst := some 144, op := _, type := _, pos := _, after := _, guard := _ } :: _) _ _; refine stepVal (.agg (wdc wZ)) rfl (by kernel_rfl) ?_)
                      | (show wpList _ _ _ ({ dst := some 147, op := _, type := _, pos := _, after := _, guard := _ } :: _) _ _; refine stepVal (.agg (dfc 150 a D)) rfl (by kernel_rfl) ?_)
                      | (refine stRow 56 (.tmp 4) (.tmp 144) rfl rfl w.heap.size (wdc wZ) rfl rfl 56 _ HZ.out.b1 (szW _) rfl (wd1a _) ?_)
                      | (refine stRow 37 (.tmp 5) (.tmp 147) rfl rfl (w.heap.size + 1) (dfc 150 a D) rfl rfl 37 _ (HZ.out.set1 wZ).b2 (szF _ _ _) rfl (df1 _ _ _) ?_))
                    try simp only [Exit.inBlock, Exit.then]
                    exact bodyPost_ret (v := dV wZ 150 a D) (results_cc Tryz.results55 _ ((HZ.out.set1 wZ).set2 150 a D) rfl rfl) rfl ⟨by rw [HV.out], ((HZ.out.set1 wZ).set2 150 a D).low⟩
                  · have HV : Hid (rv s a R = rv s a (cls s e N)) := by show _ = _; rw [HDF.out, if_neg (fun h => hb h.2)]
                    have g6 : (((bt s a : Nat) : Int) == 48) = false := by simp; omega
                    clear HDF hb hm1
                    obtain ⟨x, c, a', t, hrv⟩ := rv_form s a (cls s e N)
                    rw [hrv] at HC HV
                    clear hrv
                    go_wp2_with (first
                      | (go_at_call 80; refine (HC.out _).mono ?_; rintro r W2 ⟨rfl, hb2⟩; have HZ2 := hid (HZ.out.on hb2); clear hb2)
                      | (go_at_call 83; refine (HDec.out _).mono ?_; rintro r w5 ⟨rfl, hw⟩; obtain rfl := hw.symm)
                      | (refine stRow 56 (.tmp 4) (.tmp 154) rfl rfl w.heap.size (wdc x) rfl rfl 56 _ HZ2.out.b1 (szW _) rfl (wd1a _) ?_)
                      | (refine stRow 37 (.tmp 5) (.tmp 155) rfl rfl (w.heap.size + 1) (dfc c a' t) rfl rfl 37 _ (HZ2.out.set1 x).b2 (szF _ _ _) rfl (df1 _ _ _) ?_))
                    try simp only [Exit.inBlock, Exit.then]
                    exact bodyPost_ret (v := dV x c a' t) (results_cc Tryz.results55 _ ((HZ2.out.set1 x).set2 c a' t) rfl rfl) rfl ⟨by rw [HV.out], ((HZ2.out.set1 x).set2 c a' t).low⟩
                · have g5 : decide ((1 : Int) < (m : Int)) = false := by simp; omega
                  have g5n : decide (1 < m) = false := by simp; omega
                  have HV : Hid (rv s a R = rv s a (cls s e N)) := by show _ = _; rw [HDF.out, if_neg (fun h => hm1 h.1)]
                  clear HDF hm1
                  obtain ⟨x, c, a', t, hrv⟩ := rv_form s a (cls s e N)
                  rw [hrv] at HC HV
                  clear hrv
                  go_wp2_with (first
                    | (go_at_call 80; refine (HC.out _).mono ?_; rintro r W2 ⟨rfl, hb2⟩; have HZ2 := hid (HZ.out.on hb2); clear hb2)
                    | (go_at_call 83; refine (HDec.out _).mono ?_; rintro r w5 ⟨rfl, hw⟩; obtain rfl := hw.symm)
                    | (refine stRow 56 (.tmp 4) (.tmp 154) rfl rfl w.heap.size (wdc x) rfl rfl 56 _ HZ2.out.b1 (szW _) rfl (wd1a _) ?_)
                    | (refine stRow 37 (.tmp 5) (.tmp 155) rfl rfl (w.heap.size + 1) (dfc c a' t) rfl rfl 37 _ (HZ2.out.set1 x).b2 (szF _ _ _) rfl (df1 _ _ _) ?_))
                  try simp only [Exit.inBlock, Exit.then]
                  exact bodyPost_ret (v := dV x c a' t) (results_cc Tryz.results55 _ ((HZ2.out.set1 x).set2 c a' t) rfl rfl) rfl ⟨by rw [HV.out], ((HZ2.out.set1 x).set2 c a' t).low⟩
              · have hdc : dcV N = .tuple #[.int .u64 0, .bool false] := by unfold dcV; rw [if_neg hN1]
                rw [hdc] at HDec
                have HV : Hid (rv s a R = dV wZ 3 a D) := by show _ = _; rw [HR.out, HDE.out, if_pos (by omega), rv_bad _ _ _ _ (by decide), HDx.out]
                clear hdc HR hN1
                go_wp2_with (first
                  | (go_at_call 83; refine (HDec.out _).mono ?_; rintro r w5 ⟨rfl, hw⟩; obtain rfl := hw.symm)
                  | (show wpList _ _ _ ({ dst := some 132, op := _, type := _, pos := _, after := _, guard := _ } :: _) _ _; refine stepVal (.agg (wdc wZ)) rfl (by kernel_rfl) ?_)
                  | (show wpList _ _ _ ({ dst := some 135, op := _, type := _, pos := _, after := _, guard := _ } :: _) _ _; refine stepVal (.agg (dfc 3 a D)) rfl (by kernel_rfl) ?_)
                  | (refine stRow 56 (.tmp 4) (.tmp 132) rfl rfl w.heap.size (wdc wZ) rfl rfl 56 _ HZ.out.b1 (szW _) rfl (wd1a _) ?_)
                  | (refine stRow 37 (.tmp 5) (.tmp 135) rfl rfl (w.heap.size + 1) (dfc 3 a D) rfl rfl 37 _ (HZ.out.set1 wZ).b2 (szF _ _ _) rfl (df1 _ _ _) ?_))
                try simp only [Exit.inBlock, Exit.then]
                exact bodyPost_ret (v := dV wZ 3 a D) (results_cc Tryz.results55 _ ((HZ.out.set1 wZ).set2 3 a D) rfl rfl) rfl ⟨by rw [HV.out], ((HZ.out.set1 wZ).set2 3 a D).low⟩
      · have g48 : (((bt s a : Nat) : Int) == 48) = false := by simp; omega
        have hge := rE_ge isD s a
        have hle := rE_le (p := isD) (Nat.le_of_lt ha)
        have hal : ∀ j, a ≤ j → j < rE isD s a → isD (bt s j) = true := fun j h1 h2 => rE_all h1 h2
        have HRun := hid (fun W => run_any s a (Nat.le_of_lt ha) hs W)
        have HDec := hid (fun W => ddecimal_any s a (rE isD s a) hge hle hal hs W)
        have hsz := size_ext (s := s) (a := a) hle
        have HIX := hid (fun (h : 0 < rE isD s a - a) W => run_ext s a (rE isD s a) 0 hle h W)
        obtain ⟨N, hN⟩ : ∃ N, N = dn s (rE isD s a - a) a 0 := ⟨_, rfl⟩
        rw [← hN] at HDec
        have HDE : Hid (dec s a = if 18446744073709551615 < N then ⟨0, rE isD s a, 0, 3⟩ else if 1 < rE isD s a - a ∧ bt s a = 48 then ⟨0, rE isD s a, 0, 150⟩ else cls s (rE isD s a) N) := by rw [hN]; rfl
        have HNm : Hid (R = if bt s (rE isD s a) = 46 then dot s 4 a 0 else dec s a) := by
          show _ = _; rw [HR0.out]; unfold num; rw [hp]; show (if _ then _ else _) = _; rw [if_neg hx0]
        clear hN
        obtain ⟨e, he⟩ : ∃ e, e = rE isD s a := ⟨_, rfl⟩
        rw [← he] at hge hle HRun HDec hsz HIX HDE HNm
        obtain ⟨D, hD⟩ : ∃ D, D = s.extract a e := ⟨_, rfl⟩
        rw [← hD] at HRun HDec hsz HIX
        have HDx := hid hD
        obtain ⟨m, hm⟩ : ∃ m, m = e - a := ⟨_, rfl⟩
        rw [← hm] at hsz HIX HDE
        have hwe : IntKind.i64.wrap ((a : Int) + (m : Int)) = (e : Int) := by rw [IntKind.wrap_i64]; omega
        clear hal he hD hm
        go_upto_region 13 with fail
        clear g48 hix
        go_upto_region 15 with (go_at_call 81; refine (HRun.out _).mono ?_; rintro r w5 ⟨rfl, hw⟩; obtain rfl := hw.symm)
        by_cases hc : bt s e = 46
        · have hin : e < s.size := in_of_bt (by rw [hc]; decide)
          have g4 : decide ((e : Int) < (s.size : Int)) = true := by simp; omega
          have hixe := run_bt s e hin W0
          rw [hc, show ((46 : Nat) : Int) = 46 from rfl] at hixe
          have HV : Hid (rv s a R = rv s a (dot s 4 a 0)) := by show _ = _; rw [HNm.out, if_pos hc]
          have HC := hid (fun W => dotted_any s a (Nat.le_of_lt ha) hs W)
          clear hc
          obtain ⟨x, c, a', t, hrv⟩ := rv_form s a (dot s 4 a 0)
          rw [hrv] at HC HV
          clear hrv
          go_wp2_with (first
            | (go_at_call 82; refine (HC.out _).mono ?_; rintro r W2 ⟨rfl, hb2⟩; have HZ2 := hid (HZ.out.on hb2); clear hb2)
            | (refine stRow 56 (.tmp 4) (.tmp 123) rfl rfl w.heap.size (wdc x) rfl rfl 56 _ HZ2.out.b1 (szW _) rfl (wd1a _) ?_)
            | (refine stRow 37 (.tmp 5) (.tmp 124) rfl rfl (w.heap.size + 1) (dfc c a' t) rfl rfl 37 _ (HZ2.out.set1 x).b2 (szF _ _ _) rfl (df1 _ _ _) ?_))
          try simp only [Exit.inBlock, Exit.then]
          exact bodyPost_ret (v := dV x c a' t) (results_cc Tryz.results55 _ ((HZ2.out.set1 x).set2 c a' t) rfl rfl) rfl ⟨by rw [HV.out], ((HZ2.out.set1 x).set2 c a' t).low⟩
        · have HR : Hid (R = dec s a) := by show _ = _; rw [HNm.out, if_neg hc]
          have HC := hid (fun W => closed_any s a e N hge hle hs W)
          rw [← HDx.out] at HC
          by_cases hin : e < s.size
          · have g4 : decide ((e : Int) < (s.size : Int)) = true := by simp; omega
            have hixe := run_bt s e hin W0
            have g46 : (((bt s e : Nat) : Int) == 46) = false := by simp; omega
            clear hc HNm
            go_upto_region 17 with fail
            clear g46 hixe g4
            by_cases hN1 : N ≤ 18446744073709551615
            · have hdc : dcV N = .tuple #[.int .u64 (N : Int), .bool true] := by unfold dcV; rw [if_pos hN1]
              rw [hdc] at HDec
              have HDF : Hid (R = if 1 < m ∧ bt s a = 48 then ⟨0, e, 0, 150⟩ else cls s e N) := by show _ = _; rw [HR.out, HDE.out, if_neg (by omega)]
              clear hdc HR
              by_cases hm1 : 1 < m
              · have g5 : decide ((1 : Int) < (m : Int)) = true := by simp; omega
                have g5n : decide (1 < m) = true := by simp; omega
                have hix2 : (Instr.index 9 (.string D) (.int .i64 0)).run Tryz.prog W0 = .ok (.int .u8 ((bt s a : Nat) : Int)) W0 := HIX.out (by omega) W0
                by_cases hb : bt s a = 48
                · have HV : Hid (rv s a R = dV wZ 150 a D) := by show _ = _; rw [HDF.out, if_pos ⟨hm1, hb⟩, rv_bad _ _ _ _ (by decide), HDx.out]
                  rw [hb] at hix2
                  clear HDF hb hm1
                  go_wp2_with (first
                    | (go_at_call 83; refine (HDec.out _).mono ?_; rintro r w5 ⟨rfl, hw⟩; obtain rfl := hw.symm)
                    | (show wpList _ _ _ ({ dst := some 144, op := _, type := _, pos := _, after := _, guard := _ } :: _) _ _; refine stepVal (.agg (wdc wZ)) rfl (by kernel_rfl) ?_)
                    | (show wpList _ _ _ ({ dst := some 147, op := _, type := _, pos := _, after := _, guard := _ } :: _) _ _; refine stepVal (.agg (dfc 150 a D)) rfl (by kernel_rfl) ?_)
                    | (refine stRow 56 (.tmp 4) (.tmp 144) rfl rfl w.heap.size (wdc wZ) rfl rfl 56 _ HZ.out.b1 (szW _) rfl (wd1a _) ?_)
                    | (refine stRow 37 (.tmp 5) (.tmp 147) rfl rfl (w.heap.size + 1) (dfc 150 a D) rfl rfl 37 _ (HZ.out.set1 wZ).b2 (szF _ _ _) rfl (df1 _ _ _) ?_))
                  try simp only [Exit.inBlock, Exit.then]
                  exact bodyPost_ret (v := dV wZ 150 a D) (results_cc Tryz.results55 _ ((HZ.out.set1 wZ).set2 150 a D) rfl rfl) rfl ⟨by rw [HV.out], ((HZ.out.set1 wZ).set2 150 a D).low⟩
                · have HV : Hid (rv s a R = rv s a (cls s e N)) := by show _ = _; rw [HDF.out, if_neg (fun h => hb h.2)]
                  have g6 : (((bt s a : Nat) : Int) == 48) = false := by simp; omega
                  clear HDF hb hm1
                  obtain ⟨x, c, a', t, hrv⟩ := rv_form s a (cls s e N)
                  rw [hrv] at HC HV
                  clear hrv
                  go_wp2_with (first
                    | (go_at_call 80; refine (HC.out _).mono ?_; rintro r W2 ⟨rfl, hb2⟩; have HZ2 := hid (HZ.out.on hb2); clear hb2)
                    | (go_at_call 83; refine (HDec.out _).mono ?_; rintro r w5 ⟨rfl, hw⟩; obtain rfl := hw.symm)
                    | (refine stRow 56 (.tmp 4) (.tmp 154) rfl rfl w.heap.size (wdc x) rfl rfl 56 _ HZ2.out.b1 (szW _) rfl (wd1a _) ?_)
                    | (refine stRow 37 (.tmp 5) (.tmp 155) rfl rfl (w.heap.size + 1) (dfc c a' t) rfl rfl 37 _ (HZ2.out.set1 x).b2 (szF _ _ _) rfl (df1 _ _ _) ?_))
                  try simp only [Exit.inBlock, Exit.then]
                  exact bodyPost_ret (v := dV x c a' t) (results_cc Tryz.results55 _ ((HZ2.out.set1 x).set2 c a' t) rfl rfl) rfl ⟨by rw [HV.out], ((HZ2.out.set1 x).set2 c a' t).low⟩
              · have g5 : decide ((1 : Int) < (m : Int)) = false := by simp; omega
                have g5n : decide (1 < m) = false := by simp; omega
                have HV : Hid (rv s a R = rv s a (cls s e N)) := by show _ = _; rw [HDF.out, if_neg (fun h => hm1 h.1)]
                clear HDF hm1
                obtain ⟨x, c, a', t, hrv⟩ := rv_form s a (cls s e N)
                rw [hrv] at HC HV
                clear hrv
                go_wp2_with (first
                  | (go_at_call 80; refine (HC.out _).mono ?_; rintro r W2 ⟨rfl, hb2⟩; have HZ2 := hid (HZ.out.on hb2); clear hb2)
                  | (go_at_call 83; refine (HDec.out _).mono ?_; rintro r w5 ⟨rfl, hw⟩; obtain rfl := hw.symm)
                  | (refine stRow 56 (.tmp 4) (.tmp 154) rfl rfl w.heap.size (wdc x) rfl rfl 56 _ HZ2.out.b1 (szW _) rfl (wd1a _) ?_)
                  | (refine stRow 37 (.tmp 5) (.tmp 155) rfl rfl (w.heap.size + 1) (dfc c a' t) rfl rfl 37 _ (HZ2.out.set1 x).b2 (szF _ _ _) rfl (df1 _ _ _) ?_))
                try simp only [Exit.inBlock, Exit.then]
                exact bodyPost_ret (v := dV x c a' t) (results_cc Tryz.results55 _ ((HZ2.out.set1 x).set2 c a' t) rfl rfl) rfl ⟨by rw [HV.out], ((HZ2.out.set1 x).set2 c a' t).low⟩
            · have hdc : dcV N = .tuple #[.int .u64 0, .bool false] := by unfold dcV; rw [if_neg hN1]
              rw [hdc] at HDec
              have HV : Hid (rv s a R = dV wZ 3 a D) := by show _ = _; rw [HR.out, HDE.out, if_pos (by omega), rv_bad _ _ _ _ (by decide), HDx.out]
              clear hdc HR hN1
              go_wp2_with (first
                | (go_at_call 83; refine (HDec.out _).mono ?_; rintro r w5 ⟨rfl, hw⟩; obtain rfl := hw.symm)
                | (show wpList _ _ _ ({ dst := some 132, op := _, type := _, pos := _, after := _, guard := _ } :: _) _ _; refine stepVal (.agg (wdc wZ)) rfl (by kernel_rfl) ?_)
                | (show wpList _ _ _ ({ dst := some 135, op := _, type := _, pos := _, after := _, guard := _ } :: _) _ _; refine stepVal (.agg (dfc 3 a D)) rfl (by kernel_rfl) ?_)
                | (refine stRow 56 (.tmp 4) (.tmp 132) rfl rfl w.heap.size (wdc wZ) rfl rfl 56 _ HZ.out.b1 (szW _) rfl (wd1a _) ?_)
                | (refine stRow 37 (.tmp 5) (.tmp 135) rfl rfl (w.heap.size + 1) (dfc 3 a D) rfl rfl 37 _ (HZ.out.set1 wZ).b2 (szF _ _ _) rfl (df1 _ _ _) ?_))
              try simp only [Exit.inBlock, Exit.then]
              exact bodyPost_ret (v := dV wZ 3 a D) (results_cc Tryz.results55 _ ((HZ.out.set1 wZ).set2 3 a D) rfl rfl) rfl ⟨by rw [HV.out], ((HZ.out.set1 wZ).set2 3 a D).low⟩
          · have g4 : decide ((e : Int) < (s.size : Int)) = false := by simp; omega
            clear hc HNm
            go_upto_region 17 with fail
            clear g4
            by_cases hN1 : N ≤ 18446744073709551615
            · have hdc : dcV N = .tuple #[.int .u64 (N : Int), .bool true] := by unfold dcV; rw [if_pos hN1]
              rw [hdc] at HDec
              have HDF : Hid (R = if 1 < m ∧ bt s a = 48 then ⟨0, e, 0, 150⟩ else cls s e N) := by show _ = _; rw [HR.out, HDE.out, if_neg (by omega)]
              clear hdc HR
              by_cases hm1 : 1 < m
              · have g5 : decide ((1 : Int) < (m : Int)) = true := by simp; omega
                have g5n : decide (1 < m) = true := by simp; omega
                have hix2 : (Instr.index 9 (.string D) (.int .i64 0)).run Tryz.prog W0 = .ok (.int .u8 ((bt s a : Nat) : Int)) W0 := HIX.out (by omega) W0
                by_cases hb : bt s a = 48
                · have HV : Hid (rv s a R = dV wZ 150 a D) := by show _ = _; rw [HDF.out, if_pos ⟨hm1, hb⟩, rv_bad _ _ _ _ (by decide), HDx.out]
                  rw [hb] at hix2
                  clear HDF hb hm1
                  go_wp2_with (first
                    | (go_at_call 83; refine (HDec.out _).mono ?_; rintro r w5 ⟨rfl, hw⟩; obtain rfl := hw.symm)
                    | (show wpList _ _ _ ({ dst := some 144, op := _, type := _, pos := _, after := _, guard := _ } :: _) _ _; refine stepVal (.agg (wdc wZ)) rfl (by kernel_rfl) ?_)
                    | (show wpList _ _ _ ({ dst := some 147, op := _, type := _, pos := _, after := _, guard := _ } :: _) _ _; refine stepVal (.agg (dfc 150 a D)) rfl (by kernel_rfl) ?_)
                    | (refine stRow 56 (.tmp 4) (.tmp 144) rfl rfl w.heap.size (wdc wZ) rfl rfl 56 _ HZ.out.b1 (szW _) rfl (wd1a _) ?_)
                    | (refine stRow 37 (.tmp 5) (.tmp 147) rfl rfl (w.heap.size + 1) (dfc 150 a D) rfl rfl 37 _ (HZ.out.set1 wZ).b2 (szF _ _ _) rfl (df1 _ _ _) ?_))
                  try simp only [Exit.inBlock, Exit.then]
                  exact bodyPost_ret (v := dV wZ 150 a D) (results_cc Tryz.results55 _ ((HZ.out.set1 wZ).set2 150 a D) rfl rfl) rfl ⟨by rw [HV.out], ((HZ.out.set1 wZ).set2 150 a D).low⟩
                · have HV : Hid (rv s a R = rv s a (cls s e N)) := by show _ = _; rw [HDF.out, if_neg (fun h => hb h.2)]
                  have g6 : (((bt s a : Nat) : Int) == 48) = false := by simp; omega
                  clear HDF hb hm1
                  obtain ⟨x, c, a', t, hrv⟩ := rv_form s a (cls s e N)
                  rw [hrv] at HC HV
                  clear hrv
                  go_wp2_with (first
                    | (go_at_call 80; refine (HC.out _).mono ?_; rintro r W2 ⟨rfl, hb2⟩; have HZ2 := hid (HZ.out.on hb2); clear hb2)
                    | (go_at_call 83; refine (HDec.out _).mono ?_; rintro r w5 ⟨rfl, hw⟩; obtain rfl := hw.symm)
                    | (refine stRow 56 (.tmp 4) (.tmp 154) rfl rfl w.heap.size (wdc x) rfl rfl 56 _ HZ2.out.b1 (szW _) rfl (wd1a _) ?_)
                    | (refine stRow 37 (.tmp 5) (.tmp 155) rfl rfl (w.heap.size + 1) (dfc c a' t) rfl rfl 37 _ (HZ2.out.set1 x).b2 (szF _ _ _) rfl (df1 _ _ _) ?_))
                  try simp only [Exit.inBlock, Exit.then]
                  exact bodyPost_ret (v := dV x c a' t) (results_cc Tryz.results55 _ ((HZ2.out.set1 x).set2 c a' t) rfl rfl) rfl ⟨by rw [HV.out], ((HZ2.out.set1 x).set2 c a' t).low⟩
              · have g5 : decide ((1 : Int) < (m : Int)) = false := by simp; omega
                have g5n : decide (1 < m) = false := by simp; omega
                have HV : Hid (rv s a R = rv s a (cls s e N)) := by show _ = _; rw [HDF.out, if_neg (fun h => hm1 h.1)]
                clear HDF hm1
                obtain ⟨x, c, a', t, hrv⟩ := rv_form s a (cls s e N)
                rw [hrv] at HC HV
                clear hrv
                go_wp2_with (first
                  | (go_at_call 80; refine (HC.out _).mono ?_; rintro r W2 ⟨rfl, hb2⟩; have HZ2 := hid (HZ.out.on hb2); clear hb2)
                  | (go_at_call 83; refine (HDec.out _).mono ?_; rintro r w5 ⟨rfl, hw⟩; obtain rfl := hw.symm)
                  | (refine stRow 56 (.tmp 4) (.tmp 154) rfl rfl w.heap.size (wdc x) rfl rfl 56 _ HZ2.out.b1 (szW _) rfl (wd1a _) ?_)
                  | (refine stRow 37 (.tmp 5) (.tmp 155) rfl rfl (w.heap.size + 1) (dfc c a' t) rfl rfl 37 _ (HZ2.out.set1 x).b2 (szF _ _ _) rfl (df1 _ _ _) ?_))
                try simp only [Exit.inBlock, Exit.then]
                exact bodyPost_ret (v := dV x c a' t) (results_cc Tryz.results55 _ ((HZ2.out.set1 x).set2 c a' t) rfl rfl) rfl ⟨by rw [HV.out], ((HZ2.out.set1 x).set2 c a' t).low⟩
            · have hdc : dcV N = .tuple #[.int .u64 0, .bool false] := by unfold dcV; rw [if_neg hN1]
              rw [hdc] at HDec
              have HV : Hid (rv s a R = dV wZ 3 a D) := by show _ = _; rw [HR.out, HDE.out, if_pos (by omega), rv_bad _ _ _ _ (by decide), HDx.out]
              clear hdc HR hN1
              go_wp2_with (first
                | (go_at_call 83; refine (HDec.out _).mono ?_; rintro r w5 ⟨rfl, hw⟩; obtain rfl := hw.symm)
                | (show wpList _ _ _ ({ dst := some 132, op := _, type := _, pos := _, after := _, guard := _ } :: _) _ _; refine stepVal (.agg (wdc wZ)) rfl (by kernel_rfl) ?_)
                | (show wpList _ _ _ ({ dst := some 135, op := _, type := _, pos := _, after := _, guard := _ } :: _) _ _; refine stepVal (.agg (dfc 3 a D)) rfl (by kernel_rfl) ?_)
                | (refine stRow 56 (.tmp 4) (.tmp 132) rfl rfl w.heap.size (wdc wZ) rfl rfl 56 _ HZ.out.b1 (szW _) rfl (wd1a _) ?_)
                | (refine stRow 37 (.tmp 5) (.tmp 135) rfl rfl (w.heap.size + 1) (dfc 3 a D) rfl rfl 37 _ (HZ.out.set1 wZ).b2 (szF _ _ _) rfl (df1 _ _ _) ?_))
              try simp only [Exit.inBlock, Exit.then]
              exact bodyPost_ret (v := dV wZ 3 a D) (results_cc Tryz.results55 _ ((HZ.out.set1 wZ).set2 3 a D) rfl rfl) rfl ⟨by rw [HV.out], ((HZ.out.set1 wZ).set2 3 a D).low⟩
end Go.Proofs.YtdpmllfapjjihaaGreatDoor
