/-
  Proved here: wordAt of package scan finds the word at a place as the document says. No old memory turns. Conditions: strconv's errors are some; the kinds of numbers lie in their block; the place is within the text.
-/
import Derived.Test.YtbbankcmeanjaaaGreatDoorQ8
namespace Go.Proofs.YtbbankcmeanjaaaGreatDoor
set_option maxRecDepth 100000
open Go.RowKit
set_option maxRecDepth 100000

theorem fin_flt {s : ByteArray} {f : Fd} (h : f.c ≠ 0) : fin s f = f := by unfold fin; rw [if_neg (fun h' => h h'.1)]
theorem fin_num {s : ByteArray} {e n : Nat} : fin s ⟨2, e, n, 0⟩ = cls s e n := by
  unfold fin cls
  by_cases h : isN (bt s e) = true
  · rw [if_pos ⟨rfl, h⟩, if_pos h]
  · rw [if_neg (fun h' => h h'.2), if_neg h]
theorem fin_dot {s : ByteArray} : ∀ f k n, fin s (dotR s f k n) = dot s f k n
  | 0, k, n => by rw [dotR, dot, fin_num]
  | f + 1, k, n => by
    rw [dotR, dot]
    split
    · split
      · exact fin_flt (by simp)
      · exact fin_dot f _ _
    · split
      · split
        · exact fin_flt (by simp)
        · exact fin_dot f _ _
      · exact fin_flt (by simp)
theorem na_num {s : ByteArray} {a : Nat} (hH : isH (bt s a) = true) : na s a = if (pr s a).isSome = true ∨ isD (bt s a) = true then some (num s a) else none := by
  unfold na num
  cases hp : pr s a with
  | some n =>
    rw [show k6 s a = some ⟨2, a + 17, n, 0⟩ by unfold k6; rw [hp]; rfl, if_pos (.inl rfl)]
    show some (fin s ⟨2, a + 17, n, 0⟩) = _
    rw [fin_num]
  | none =>
    rw [show k6 s a = none by unfold k6; rw [hp]; rfl]
    show ((kx s a).orElse fun _ => (k4 s a).orElse fun _ => kd s a).map (fin s) = _
    by_cases hx0 : bt s a = 48 ∧ bt s (a + 1) = 120
    · rw [if_pos (.inr (by rw [hx0.1]; decide))]
      show _ = some (if bt s a = 48 ∧ bt s (a + 1) = 120 then hex s a else if bt s (rE isD s a) = 46 then dot s 4 a 0 else dec s a)
      rw [if_pos hx0]
      unfold kx hex
      rw [if_pos hx0]
      split
      · show some (fin s _) = _; rw [fin_flt (by simp)]
      · show some (fin s _) = _; rw [fin_num]
    · rw [show kx s a = none by unfold kx; rw [if_neg hx0]]
      show ((k4 s a).orElse fun _ => kd s a).map (fin s) = _
      by_cases hD : isD (bt s a) = true
      · rw [if_pos (.inr hD)]
        show _ = some (if bt s a = 48 ∧ bt s (a + 1) = 120 then hex s a else if bt s (rE isD s a) = 46 then dot s 4 a 0 else dec s a)
        rw [if_neg hx0]
        by_cases h4 : bt s (rE isD s a) = 46
        · rw [if_pos h4, show k4 s a = some (dotR s 4 a 0) by unfold k4; rw [if_pos h4]]
          show some (fin s _) = _; rw [fin_dot]
        · rw [if_neg h4, show k4 s a = none by unfold k4; rw [if_neg h4]]
          show (kd s a).map (fin s) = _
          have := rE_D hD
          unfold kd dec
          rw [if_neg (by omega)]
          split
          · show some (fin s _) = _; rw [fin_flt (by simp)]
          · split
            · show some (fin s _) = _; rw [fin_flt (by simp)]
            · show some (fin s _) = _; rw [fin_num]
      · have hDf : isD (bt s a) = false := by simpa using hD
        have he : rE isD s a = a := rE_end hDf
        rw [if_neg (by rintro (h | h); exact absurd h (by decide); exact hD h)]
        rw [show k4 s a = none by
          unfold k4; rw [he, if_neg]
          intro h; rw [h] at hH; exact absurd hH (by decide)]
        rw [show kd s a = none by unfold kd; rw [if_pos he]]
        rfl
theorem one_H {s : ByteArray} {a : Nat} (hH : isH (bt s a) = true) : one s a = (na s a).getD (nam s a) := by
  rw [na_num hH]; unfold one
  split
  · rfl
  · rename_i h
    rw [if_pos]
    · rfl
    · have hD : isD (bt s a) = false := by
        cases h' : isD (bt s a)
        · rfl
        · exact absurd (.inr h') h
      rw [isH_iff] at hH
      rw [isL_iff]
      have : ¬ (48 ≤ bt s a ∧ bt s a ≤ 57) := fun h => by rw [(isD_iff _).2 h] at hD; exact absurd hD (by decide)
      omega
theorem not_pr {s : ByteArray} {a : Nat} (hH : isH (bt s a) = false) : ¬ ((pr s a).isSome = true ∨ isD (bt s a) = true) := by
  rintro (h | h)
  · cases hp : pr s a with
    | none => rw [hp] at h; exact absurd h (by decide)
    | some n => rw [pr_H hp] at hH; exact absurd hH (by decide)
  · rw [isD_iff] at h
    have : isH (bt s a) = true := by rw [isH_iff]; exact .inl h
    rw [this] at hH; exact absurd hH (by decide)
theorem one_N {s : ByteArray} {a : Nat} (hH : isH (bt s a) = false) (hN : isN (bt s a) = true) : one s a = nam s a := by
  unfold one
  rw [if_neg (not_pr hH), if_pos]
  have h0 : ¬ (48 ≤ bt s a ∧ bt s a ≤ 57) := fun h => not_pr hH (.inr ((isD_iff _).2 h))
  rw [isN_iff] at hN
  rw [isL_iff]; omega
theorem one_S {s : ByteArray} {a : Nat} (hH : isH (bt s a) = false) (hN : isN (bt s a) = false) : one s a = if bt s a = 58 ∧ bt s (a + 1) = 61 then ⟨3, a + 2, 0, 0⟩ else if bt s a ∈ sgn then ⟨3, a + 1, 0, 0⟩ else ⟨0, a + 1, 0, 150⟩ := by
  unfold one
  rw [if_neg (not_pr hH), if_neg]
  intro h
  unfold isN at hN; rw [h] at hN; exact absurd hN (by simp)
set_option maxHeartbeats 3200000 in
theorem wordAt_any (s : ByteArray) (a kb b0 b1 b2 bc b3 cp : Nat) (w : World) (hk : Kn s kb b0 b1 b2 bc b3 w) (ht : Tab w) (ha : a < s.size) (hs : s.size ≤ 65536) :
    Calls Tryz.prog 11 #[.string s, .int .i64 a, .slice (some ⟨kb, 0, none⟩) 4 cp] w fun e w' => e = .returned (.agg (fdc (one s a))) ∧ Below w.heap.size w w' := by
  have HZ := hid (Rz.new w)
  have HKn := hid (hk.on HZ.out.low)
  have HT := hid (ht.on HZ.out.low)
  obtain ⟨W0, hW0⟩ : ∃ W0, W0 = w.alloc (.cells (fdc ⟨0, 0, 0, 0⟩) 45) := ⟨_, rfl⟩
  have HW0 : Hid (w.alloc (.cells #[.int .i8 0, .int .i64 0, .int .u64 0, .int .i64 0] 45) = W0) := hW0.symm
  rw [← hW0] at HZ HKn HT
  clear hW0 hk ht
  have hix := run_bt s a ha W0
  have HH := hid (isHexDigit_any (bt s a) W0)
  cases hH : isH (bt s a) with
  | true =>
    have H1 := hid (one_H hH)
    rw [hH] at HH
    have HNa := hid (numberAt_any s a kb b0 b1 b2 bc b3 cp W0 HKn.out HT.out (by omega) hs)
    have HNm := hid (fun W => nameAt_any s a W (by omega) hs)
    generalize bt s a = c at hix HH
    clear hH HKn HT
    cases hn : na s a with
    | some f =>
      obtain ⟨k, e, n, cc⟩ := f
      have H2 : Hid (one s a = ⟨k, e, n, cc⟩) := by show _ = _; rw [H1.out, hn]; rfl
      rw [hn] at HNa
      clear hn H1 HNm
      go_enter Tryz.func11, Tryz.ntmps11
      go_upto_region 1 with fail
      rw [HW0.out]
      clear HW0
      go_wp2_with (first
        | (go_at_call 19; refine (HH.out).mono ?_; rintro r w' ⟨rfl, hw⟩; obtain rfl := hw.symm)
        | (go_at_call 20; refine (HNa.out).mono ?_; rintro r W2 ⟨rfl, hb2⟩; have HZ2 := hid ((HZ.out.on hb2).on ((Below.refl _ _).alloc (Nat.le_refl _) (.cells (fdc ⟨k, e, n, cc⟩) 45))); clear hb2 HNa)
        | (refine stRow 45 (.tmp 6) (.tmp 36) rfl rfl w.heap.size (fdc ⟨k, e, n, cc⟩) rfl rfl 45 _ HZ2.out.blk (fd4 _) rfl (fd1 _) ?_))
      try simp only [Exit.inBlock, Exit.then]
      refine bodyPost_ret (v := .agg (fdc ⟨k, e, n, cc⟩)) (results_c Tryz.results11 _ _ w.heap.size ⟨k, e, n, cc⟩ rfl ?_) rfl ?_
      · exact (HZ2.out.set _).blk
      · exact ⟨by rw [H2.out], (HZ2.out.set _).low⟩
    | none =>
      have H2 : Hid (one s a = nam s a) := by show _ = _; rw [H1.out, hn]; rfl
      rw [hn] at HNa
      generalize nam s a = fd at HNm H2
      obtain ⟨k, e, n, cc⟩ := fd
      clear hn H1
      go_enter Tryz.func11, Tryz.ntmps11
      go_upto_region 1 with fail
      rw [HW0.out]
      clear HW0
      go_wp2_with (first
        | (go_at_call 19; refine (HH.out).mono ?_; rintro r w' ⟨rfl, hw⟩; obtain rfl := hw.symm)
        | (go_at_call 20; refine (HNa.out).mono ?_; rintro r W2 ⟨rfl, hb2⟩; have HZ2 := hid ((HZ.out.on hb2).on ((Below.refl _ _).alloc (Nat.le_refl _) (.cells (fdc ⟨0, 0, 0, 0⟩) 45))); clear hb2 HNa)
        | (go_at_call 22; refine (HNm.out _).mono ?_; rintro r W3 ⟨rfl, hb3⟩; have HZ3 := hid (HZ2.out.on hb3); clear hb3 HNm)
        | (refine stRow 45 (.tmp 6) (.tmp 39) rfl rfl w.heap.size (fdc ⟨k, e, n, cc⟩) rfl rfl 45 _ HZ3.out.blk (fd4 _) rfl (fd1 _) ?_))
      try simp only [Exit.inBlock, Exit.then]
      refine bodyPost_ret (v := .agg (fdc ⟨k, e, n, cc⟩)) (results_c Tryz.results11 _ _ w.heap.size ⟨k, e, n, cc⟩ rfl ?_) rfl ?_
      · exact (HZ3.out.set _).blk
      · exact ⟨by rw [H2.out], (HZ3.out.set _).low⟩
  | false =>
    rw [hH] at HH
    have HN := hid (isNameByte_any (bt s a) W0)
    cases hN : isN (bt s a) with
    | true =>
      have H2 := hid (one_N hH hN)
      rw [hN] at HN
      have HNm := hid (fun W => nameAt_any s a W (by omega) hs)
      generalize nam s a = fd at HNm H2
      obtain ⟨k, e, n, cc⟩ := fd
      generalize bt s a = c at hix HH HN
      clear hH hN HKn HT
      go_enter Tryz.func11, Tryz.ntmps11
      go_upto_region 1 with fail
      rw [HW0.out]
      clear HW0
      go_wp2_with (first
        | (go_at_call 19; refine (HH.out).mono ?_; rintro r w' ⟨rfl, hw⟩; obtain rfl := hw.symm)
        | (go_at_call 21; refine (HN.out).mono ?_; rintro r w' ⟨rfl, hw⟩; obtain rfl := hw.symm)
        | (go_at_call 22; refine (HNm.out _).mono ?_; rintro r W3 ⟨rfl, hb3⟩; have HZ3 := hid (HZ.out.on hb3); clear hb3 HNm)
        | (refine stRow 45 (.tmp 6) (.tmp 39) rfl rfl w.heap.size (fdc ⟨k, e, n, cc⟩) rfl rfl 45 _ HZ3.out.blk (fd4 _) rfl (fd1 _) ?_))
      try simp only [Exit.inBlock, Exit.then]
      refine bodyPost_ret (v := .agg (fdc ⟨k, e, n, cc⟩)) (results_c Tryz.results11 _ _ w.heap.size ⟨k, e, n, cc⟩ rfl ?_) rfl ?_
      · exact (HZ3.out.set _).blk
      · exact ⟨by rw [H2.out], (HZ3.out.set _).low⟩
    | false =>
      have H1 := hid (one_S hH hN)
      rw [hN] at HN
      have HP := hid (hasPrefix_any (s.extract a s.size) 58 61 (by rw [size_ext (Nat.le_refl _)]; omega) W0)
      rw [ext_from 0 (by omega), ext_from 1 (by omega), Nat.add_zero, show (58 : UInt8).toNat = 58 from rfl, show (61 : UInt8).toNat = 61 from rfl] at HP
      have HI := hid (idx_any (bt s a) (bt_lt ha) W0)
      clear hH hN HKn HT
      have g1 : IntKind.i64.wrap ((a : Int) + 1) = (a : Int) + 1 := by rw [IntKind.wrap_i64]; omega
      have g2 : IntKind.i64.wrap ((a : Int) + 2) = (a : Int) + 2 := by rw [IntKind.wrap_i64]; omega
      by_cases hc : bt s a = 58 ∧ bt s (a + 1) = 61
      · have H2 : Hid (one s a = ⟨3, a + 2, 0, 0⟩) := by show _ = _; rw [H1.out, if_pos hc]
        rw [decide_eq_true hc] at HP
        clear H1 HI hc
        generalize bt s a = c at hix HH HN
        go_enter Tryz.func11, Tryz.ntmps11
        go_upto_region 1 with fail
        rw [HW0.out]
        clear HW0
        go_wp2_with (first
          | (go_at_call 19; refine (HH.out).mono ?_; rintro r w' ⟨rfl, hw⟩; obtain rfl := hw.symm)
          | (go_at_call 21; refine (HN.out).mono ?_; rintro r w' ⟨rfl, hw⟩; obtain rfl := hw.symm)
          | (go_at_call 23; refine (HP.out).mono ?_; rintro r w' ⟨rfl, hw⟩; obtain rfl := hw.symm)
          | (refine stRow 45 (.tmp 6) (.tmp 42) rfl rfl w.heap.size (fdc ⟨3, a + 2, 0, 0⟩) rfl rfl 45 _ HZ.out.blk (fd4 _) rfl (fd1 _) ?_))
        try simp only [Exit.inBlock, Exit.then]
        refine bodyPost_ret (v := .agg (fdc ⟨3, a + 2, 0, 0⟩)) (results_c Tryz.results11 _ _ w.heap.size ⟨3, a + 2, 0, 0⟩ rfl ?_) rfl ?_
        · exact (HZ.out.set _).blk
        · exact ⟨by rw [H2.out], (HZ.out.set _).low⟩
      · rw [decide_eq_false hc] at HP
        by_cases hg : bt s a ∈ sgn
        · have H2 : Hid (one s a = ⟨3, a + 1, 0, 0⟩) := by show _ = _; rw [H1.out, if_neg hc, if_pos hg]
          rw [decide_eq_true hg] at HI
          clear H1 hc hg
          generalize bt s a = c at hix HH HN HI
          go_enter Tryz.func11, Tryz.ntmps11
          go_upto_region 1 with fail
          rw [HW0.out]
          clear HW0
          go_wp2_with (first
            | (go_at_call 19; refine (HH.out).mono ?_; rintro r w' ⟨rfl, hw⟩; obtain rfl := hw.symm)
            | (go_at_call 21; refine (HN.out).mono ?_; rintro r w' ⟨rfl, hw⟩; obtain rfl := hw.symm)
            | (go_at_call 23; refine (HP.out).mono ?_; rintro r w' ⟨rfl, hw⟩; obtain rfl := hw.symm)
            | (go_at_call 24; refine (HI.out).mono ?_; rintro r w' ⟨⟨q, rfl, hq⟩, hw⟩; obtain rfl := hw.symm)
            | (refine stRow 45 (.tmp 6) (.tmp 45) rfl rfl w.heap.size (fdc ⟨3, a + 1, 0, 0⟩) rfl rfl 45 _ HZ.out.blk (fd4 _) rfl (fd1 _) ?_))
          try simp only [Exit.inBlock, Exit.then]
          refine bodyPost_ret (v := .agg (fdc ⟨3, a + 1, 0, 0⟩)) (results_c Tryz.results11 _ _ w.heap.size ⟨3, a + 1, 0, 0⟩ rfl ?_) rfl ?_
          · exact (HZ.out.set _).blk
          · exact ⟨by rw [H2.out], (HZ.out.set _).low⟩
        · have H2 : Hid (one s a = ⟨0, a + 1, 0, 150⟩) := by show _ = _; rw [H1.out, if_neg hc, if_neg hg]
          rw [decide_eq_false hg] at HI
          clear H1 hc hg
          generalize bt s a = c at hix HH HN HI
          go_enter Tryz.func11, Tryz.ntmps11
          go_upto_region 1 with fail
          rw [HW0.out]
          clear HW0
          go_wp2_with (first
            | (go_at_call 19; refine (HH.out).mono ?_; rintro r w' ⟨rfl, hw⟩; obtain rfl := hw.symm)
            | (go_at_call 21; refine (HN.out).mono ?_; rintro r w' ⟨rfl, hw⟩; obtain rfl := hw.symm)
            | (go_at_call 23; refine (HP.out).mono ?_; rintro r w' ⟨rfl, hw⟩; obtain rfl := hw.symm)
            | (go_at_call 24; refine (HI.out).mono ?_; rintro r w' ⟨⟨q, rfl, hq⟩, hw⟩; obtain rfl := hw.symm)
            | (refine stRow 45 (.tmp 6) (.tmp 48) rfl rfl w.heap.size (fdc ⟨0, a + 1, 0, 150⟩) rfl rfl 45 _ HZ.out.blk (fd4 _) rfl (fd1 _) ?_))
          try simp only [Exit.inBlock, Exit.then]
          refine bodyPost_ret (v := .agg (fdc ⟨0, a + 1, 0, 150⟩)) (results_c Tryz.results11 _ _ w.heap.size ⟨0, a + 1, 0, 150⟩ rfl ?_) rfl ?_
          · exact (HZ.out.set _).blk
          · exact ⟨by rw [H2.out], (HZ.out.set _).low⟩
end Go.Proofs.YtbbankcmeanjaaaGreatDoor
