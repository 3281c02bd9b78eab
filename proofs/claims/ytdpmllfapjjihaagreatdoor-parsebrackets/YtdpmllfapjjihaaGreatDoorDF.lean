/-
  Proved here: one of the document's answers: the word that begins at a place. Conditions: the place is within the text.
-/
import Derived.Test.YtdpmllfapjjihaaGreatDoorDE
namespace Go.Proofs.YtdpmllfapjjihaaGreatDoor
open Go.RowKit
set_option maxRecDepth 100000

abbrev sgL : ByteArray := ⟨#[43, 59, 42, 61, 33, 38, 124, 40, 41, 123, 125]⟩
theorem sg_in : ∀ i, i < 11 → bt sgL i ∈ sgn := by decide
theorem sg_all : ∀ x ∈ sgn, (List.range 11).any (fun j => bt sgL j == x) = true := by decide
theorem sg_no {c : Nat} (h : ∀ j, j < 11 → bt sgL j ≠ c) : c ∉ sgn := fun hc => by
  have := sg_all c hc
  rw [List.any_eq_true] at this
  obtain ⟨j, h1, h2⟩ := this
  exact h j (List.mem_range.1 h1) (eq_of_beq h2)
theorem ext_two {s : ByteArray} {a : Nat} (h1 : bt s a = 58) (h2 : bt s (a + 1) = 61) : s.extract a (a + 2) = ⟨#[58, 61]⟩ := by
  have hin : a + 1 < s.size := in_of_bt (by rw [h2]; decide)
  have hz : (s.extract a (a + 2)).size = 2 := by rw [size_ext (by omega)]; omega
  have hl : (s.extract a (a + 2)).data.toList.length = 2 := by rw [Array.length_toList]; exact hz
  have b0 := ext_bt (s := s) (a := a) (e := a + 2) (j := 0) (by omega) (by omega) |>.trans (show bt s (a + 0) = 58 from h1)
  have b1 := ext_bt (s := s) (a := a) (e := a + 2) (j := 1) (by omega) (by omega) |>.trans h2
  have hL : (s.extract a (a + 2)).data.toList = [58, 61] := by
    generalize (s.extract a (a + 2)).data.toList = l at hl b0 b1
    match l, hl with
    | [x, y], _ =>
      have e1 : x = 58 := UInt8.toNat_inj.1 b0
      have e2 : y = 61 := UInt8.toNat_inj.1 b1
      rw [e1, e2]
  exact ByteArray.ext (Array.ext' hL)
set_option maxHeartbeats 12800000 in
theorem one_any15 (s : ByteArray) (a : Nat) (ha : a < s.size) (hs : s.size ≤ 65536) (w : World) :
    Calls Tryz.prog 29 #[.string s, .int .i64 a] w fun r w' => r = .returned (rv s a (one s a)) ∧ Below w.heap.size w w' := by
  have HZ := hid (Rc.new w)
  obtain ⟨W0, hW0⟩ : ∃ W0, W0 = (w.alloc (.cells (wdc wZ) 56)).alloc (.cells (dfc 0 0 ⟨#[]⟩) 37) := ⟨_, rfl⟩
  have HE : Hid ((w.alloc (.cells #[.int .i8 0, .string ⟨#[]⟩, .int .u64 0, .int .i64 0] 56)).alloc (.cells #[.int .i64 0, .int .i64 0, .string ⟨#[]⟩] 37) = W0) := hW0.symm
  rw [← hW0] at HZ
  clear hW0
  obtain ⟨R, hR⟩ : ∃ R, R = one s a := ⟨_, rfl⟩
  have HR0 := hid hR
  rw [← hR]
  clear hR
  have HPr := hid (fun W => pairs_any s a (Nat.le_of_lt ha) hs W)
  have HL := hid (fun W => letter_any (bt s a) W)
  have HG := hid (fun W => digit_any (bt s a) W)
  have HEn := hid (fun W => end_any s a (Nat.le_of_lt ha) hs W)
  have hix := run_bt s a ha W0
  go_enter Tryz.func29, Tryz.ntmps29
  go_upto_region 1 with fail
  rw [HE.out]
  clear HE
  have HNum := hid (fun W => number_any15 s a ha hs W)
  by_cases hnu : (pr s a).isSome = true ∨ isD (bt s a) = true
  · have HV : Hid (rv s a R = rv s a (num s a)) := by show _ = _; rw [HR0.out]; unfold one; rw [if_pos hnu]
    obtain ⟨x, c, a', t, hrv⟩ := rv_form s a (num s a)
    rw [hrv] at HNum HV
    clear hrv
    cases hp : pr s a with
    | some n =>
      rw [hp] at HPr
      have hpv : prV a (some n) = .tuple #[.int .u64 (n : Int), .int .i64 ((a : Int) + 17), .bool true] := rfl
      rw [hpv] at HPr
      clear hpv hp hnu HR0 HL HG HEn
      go_upto_region 4 with (go_at_call 53; refine (HPr.out _).mono ?_; rintro r w5 ⟨rfl, hw⟩; obtain rfl := hw.symm)
      go_wp2_with (first
        | (go_at_call 55; refine (HNum.out _).mono ?_; rintro r W2 ⟨rfl, hb2⟩; have HZ2 := hid (HZ.out.on hb2); clear hb2)
        | (refine stRow 56 (.tmp 4) (.tmp 30) rfl rfl w.heap.size (wdc x) rfl rfl 56 _ HZ2.out.b1 (szW _) rfl (wd1a _) ?_)
        | (refine stRow 37 (.tmp 5) (.tmp 31) rfl rfl (w.heap.size + 1) (dfc c a' t) rfl rfl 37 _ (HZ2.out.set1 x).b2 (szF _ _ _) rfl (df1 _ _ _) ?_))
      try simp only [Exit.inBlock, Exit.then]
      exact bodyPost_ret (v := dV x c a' t) (results_cc Tryz.results29 _ ((HZ2.out.set1 x).set2 c a' t) rfl rfl) rfl ⟨by rw [HV.out], ((HZ2.out.set1 x).set2 c a' t).low⟩
    | none =>
      have hd : isD (bt s a) = true := by rcases hnu with h | h; (rw [hp] at h; exact absurd h (by decide)); exact h
      rw [hp] at HPr
      have hpv : prV a none = .tuple #[.int .u64 0, .int .i64 0, .bool false] := rfl
      rw [hpv] at HPr
      rw [hd] at HG
      clear hpv hp hnu HR0 HL HEn hd
      go_upto_region 4 with (first
        | (go_at_call 53; refine (HPr.out _).mono ?_; rintro r w5 ⟨rfl, hw⟩; obtain rfl := hw.symm)
        | (go_at_call 54; refine (HG.out _).mono ?_; rintro r w5 ⟨rfl, hw⟩; obtain rfl := hw.symm))
      go_wp2_with (first
        | (go_at_call 55; refine (HNum.out _).mono ?_; rintro r W2 ⟨rfl, hb2⟩; have HZ2 := hid (HZ.out.on hb2); clear hb2)
        | (refine stRow 56 (.tmp 4) (.tmp 30) rfl rfl w.heap.size (wdc x) rfl rfl 56 _ HZ2.out.b1 (szW _) rfl (wd1a _) ?_)
        | (refine stRow 37 (.tmp 5) (.tmp 31) rfl rfl (w.heap.size + 1) (dfc c a' t) rfl rfl 37 _ (HZ2.out.set1 x).b2 (szF _ _ _) rfl (df1 _ _ _) ?_))
      try simp only [Exit.inBlock, Exit.then]
      exact bodyPost_ret (v := dV x c a' t) (results_cc Tryz.results29 _ ((HZ2.out.set1 x).set2 c a' t) rfl rfl) rfl ⟨by rw [HV.out], ((HZ2.out.set1 x).set2 c a' t).low⟩
  · have hp : pr s a = none := by cases h : pr s a with | none => rfl | some n => exact absurd (.inl (by rw [h]; rfl)) hnu
    have hd : isD (bt s a) = false := by cases h : isD (bt s a) with | false => rfl | true => exact absurd (.inr h) hnu
    rw [hp] at HPr
    have hpv : prV a none = .tuple #[.int .u64 0, .int .i64 0, .bool false] := rfl
    rw [hpv] at HPr
    rw [hd] at HG
    have HO1 : Hid (R = if isL (bt s a) = true then nam s a else if bt s a = 58 ∧ bt s (a + 1) = 61 then ⟨3, a + 2, 0, 0⟩ else if bt s a ∈ sgn then ⟨3, a + 1, 0, 0⟩ else ⟨0, a + 1, 0, 150⟩) := by show _ = _; rw [HR0.out]; unfold one; rw [if_neg hnu]
    clear hpv hp hd hnu HR0 HNum
    cases hb : isL (bt s a) with
    | true =>
      rw [hb] at HL
      have hge := rE_ge isN s a
      have hle := rE_le (p := isN) (Nat.le_of_lt ha)
      have HNa : Hid (R = if 32 < rE isN s a - a then ⟨0, rE isN s a, 0, 3⟩ else ⟨1, rE isN s a, 0, 0⟩) := by show _ = _; rw [HO1.out, if_pos hb]; rfl
      generalize rE isN s a = e at *
      have g1 : IntKind.i64.wrap ((e : Int) - (a : Int)) = (e : Int) - (a : Int) := by rw [IntKind.wrap_i64]; omega
      by_cases h32 : 32 < e - a
      · have g2 : decide ((32 : Int) < (e : Int) - (a : Int)) = true := by simp; omega
        have HV : Hid (rv s a R = dV wZ 3 a (s.extract a e)) := by show _ = _; rw [HNa.out, if_pos h32]; exact rv_bad _ _ _ _ (by decide)
        clear HNa HO1 hb h32
        go_upto_region 8 with (first
          | (go_at_call 56; refine (HL.out _).mono ?_; rintro r w5 ⟨rfl, hw⟩; obtain rfl := hw.symm)
          | (go_at_call 54; refine (HG.out _).mono ?_; rintro r w5 ⟨rfl, hw⟩; obtain rfl := hw.symm)
          | (go_at_call 53; refine (HPr.out _).mono ?_; rintro r w5 ⟨rfl, hw⟩; obtain rfl := hw.symm)
          | (go_at_call 57; refine (HEn.out _).mono ?_; rintro r w5 ⟨rfl, hw⟩; obtain rfl := hw.symm))
        have hak1 : decide ((a : Int) ≤ ((e : Nat) : Int)) = true := by simp; omega
        refine wp_region_held_drew (S := (fun _ => True)) (by kernel_rfl) trivial (fun hHeld => ?_)
        refine wpAnyH_take (i := 0) (v := ?_) rfl (by kernel_rfl) (by kernel_rfl) (by kernel_rfl) (fun _ _ _ h => h) (Or.inl ⟨by rfl, ?_⟩) hHeld ?_
        rotate_left
        · intro w' hSw
          clear hSw
          go_simp
          first | done | with_reducible rfl
        simp only [Act.put, List.getElem_toArray, List.getElem_cons_zero, List.setIfInBounds_toArray, List.set_cons_zero, List.set_cons_succ]
        refine wpAnyH_take (i := 1) (v := ?_) rfl (by kernel_rfl) (by kernel_rfl) (by kernel_rfl) (fun _ _ _ h => h) (Or.inl ⟨by rfl, ?_⟩) hHeld ?_
        rotate_left
        · intro w' hSw
          clear hSw
          go_simp
          first | done | with_reducible rfl
        simp only [Act.put, List.getElem_toArray, List.getElem_cons_succ, List.getElem_cons_zero, List.setIfInBounds_toArray, List.set_cons_zero, List.set_cons_succ]
        refine wpAnyH_take (i := 2) (v := ?_) rfl (by kernel_rfl) (by kernel_rfl) (by kernel_rfl) (fun _ _ _ h => h) (Or.inl ⟨by rfl, ?_⟩) hHeld ?_
        rotate_left
        · intro w' hSw
          clear hSw
          go_simp
          first | done | with_reducible rfl
        simp only [Act.put, List.getElem_toArray, List.getElem_cons_succ, List.getElem_cons_zero, List.setIfInBounds_toArray, List.set_cons_zero, List.set_cons_succ]
        refine wpAnyH_take (i := 3) (v := ?_) rfl (by kernel_rfl) (by kernel_rfl) (by kernel_rfl) (fun _ _ _ h => h) (Or.inl ⟨by rfl, ?_⟩) hHeld ?_
        rotate_left
        · intro w' hSw
          clear hSw
          go_simp
          first | done | with_reducible rfl
        simp only [Act.put, List.getElem_toArray, List.getElem_cons_succ, List.getElem_cons_zero, List.setIfInBounds_toArray, List.set_cons_zero, List.set_cons_succ]
        refine wpAnyH_take (i := 4) (v := ?_) rfl (by kernel_rfl) (by kernel_rfl) (by kernel_rfl) (fun _ _ _ h => h) (Or.inl ⟨by rfl, ?_⟩) hHeld ?_
        rotate_left
        · intro w' hSw
          clear hSw
          go_simp
          first | done | with_reducible rfl
        simp only [Act.put, List.getElem_toArray, List.getElem_cons_succ, List.getElem_cons_zero, List.setIfInBounds_toArray, List.set_cons_zero, List.set_cons_succ]
        refine wpAnyH_take (i := 5) (v := ?_) rfl (by kernel_rfl) (by kernel_rfl) (by kernel_rfl) (fun _ _ _ h => h) (Or.inl ⟨by rfl, ?_⟩) hHeld ?_
        rotate_left
        · intro w' hSw
          clear hSw
          go_simp
          first | done | with_reducible rfl
        simp only [Act.put, List.getElem_toArray, List.getElem_cons_succ, List.getElem_cons_zero, List.setIfInBounds_toArray, List.set_cons_zero, List.set_cons_succ]
        refine wpAnyH_take (i := 6) (v := ?_) rfl (by kernel_rfl) (by kernel_rfl) (by kernel_rfl) (fun _ _ _ h => h) (Or.inl ⟨by rfl, ?_⟩) hHeld ?_
        rotate_left
        · intro w' hSw
          clear hSw
          go_simp
          first | done | with_reducible rfl
        simp only [Act.put, List.getElem_toArray, List.getElem_cons_succ, List.getElem_cons_zero, List.setIfInBounds_toArray, List.set_cons_zero, List.set_cons_succ]
        refine ready_st 7 _ (by kernel_rfl) rfl 56 (.tmp 4) (.tmp 41) rfl rfl w.heap.size (wdc wZ) rfl rfl 56 _ HZ.out.drew.b1 (szW _) rfl (wd1a _) ?_
        refine ⟨trivial, ?_⟩
        simp only [Act.put, List.getElem_toArray, List.getElem_cons_succ, List.getElem_cons_zero]
        refine ready_st 8 _ (by kernel_rfl) rfl 37 (.tmp 5) (.tmp 47) rfl rfl (w.heap.size + 1) (dfc 3 a (s.extract a e)) rfl rfl 37 _ (HZ.out.drew.set1 wZ).b2 (szF _ _ _) rfl (df1 _ _ _) ?_
        refine ⟨trivial, ?_⟩
        simp only [Act.put, List.getElem_toArray, List.getElem_cons_succ, List.getElem_cons_zero]
        refine wpAnyH_done (by kernel_rfl) ?_ _
        try simp only [Exit.then]
        go_wp2
        try simp only [Exit.inBlock, Exit.then]
        exact bodyPost_ret (v := dV wZ 3 a (s.extract a e)) (results_cc Tryz.results29 _ ((HZ.out.drew.set1 wZ).set2 3 a (s.extract a e)) rfl rfl) rfl ⟨by rw [HV.out], ((HZ.out.drew.set1 wZ).set2 3 a (s.extract a e)).low⟩
      · have g2 : decide ((32 : Int) < (e : Int) - (a : Int)) = false := by simp; omega
        have HV : Hid (rv s a R = dV ⟨1, s.extract a e, 0, a⟩ 0 0 ⟨#[]⟩) := by show _ = _; rw [HNa.out, if_neg h32]; unfold rv; rw [if_pos rfl]; rfl
        clear HNa HO1 hb h32
        go_upto_region 9 with (first
          | (go_at_call 56; refine (HL.out _).mono ?_; rintro r w5 ⟨rfl, hw⟩; obtain rfl := hw.symm)
          | (go_at_call 54; refine (HG.out _).mono ?_; rintro r w5 ⟨rfl, hw⟩; obtain rfl := hw.symm)
          | (go_at_call 53; refine (HPr.out _).mono ?_; rintro r w5 ⟨rfl, hw⟩; obtain rfl := hw.symm)
          | (go_at_call 57; refine (HEn.out _).mono ?_; rintro r w5 ⟨rfl, hw⟩; obtain rfl := hw.symm))
        go_wp2_with (first
          | (show wpList _ _ _ ({ dst := some 53, op := _, type := _, pos := _, after := _, guard := _ } :: _) _ _; refine stepVal (.agg (wdc ⟨1, s.extract a e, 0, a⟩)) rfl (by kernel_rfl) ?_)
          | (show wpList _ _ _ ({ dst := some 54, op := _, type := _, pos := _, after := _, guard := _ } :: _) _ _; refine stepVal (.agg (dfc 0 0 ⟨#[]⟩)) rfl (by kernel_rfl) ?_)
          | (refine stRow 56 (.tmp 4) (.tmp 53) rfl rfl w.heap.size (wdc ⟨1, s.extract a e, 0, a⟩) rfl rfl 56 _ HZ.out.b1 (szW _) rfl (wd1a _) ?_)
          | (refine stRow 37 (.tmp 5) (.tmp 54) rfl rfl (w.heap.size + 1) (dfc 0 0 ⟨#[]⟩) rfl rfl 37 _ (HZ.out.set1 ⟨1, s.extract a e, 0, a⟩).b2 (szF _ _ _) rfl (df1 _ _ _) ?_))
        try simp only [Exit.inBlock, Exit.then]
        exact bodyPost_ret (v := dV ⟨1, s.extract a e, 0, a⟩ 0 0 ⟨#[]⟩) (results_cc Tryz.results29 _ ((HZ.out.set1 ⟨1, s.extract a e, 0, a⟩).set2 0 0 ⟨#[]⟩) rfl rfl) rfl ⟨by rw [HV.out], ((HZ.out.set1 ⟨1, s.extract a e, 0, a⟩).set2 0 0 ⟨#[]⟩).low⟩
    | false =>
      rw [hb] at HL
      have HO2 : Hid (R = if bt s a = 58 ∧ bt s (a + 1) = 61 then ⟨3, a + 2, 0, 0⟩ else if bt s a ∈ sgn then ⟨3, a + 1, 0, 0⟩ else ⟨0, a + 1, 0, 150⟩) := by show _ = _; rw [HO1.out, if_neg (by rw [hb]; decide)]
      clear HO1 hb
      obtain ⟨q, hq⟩ : ∃ q, q = a + 1 := ⟨_, rfl⟩
      have hwq : IntKind.i64.wrap ((a : Int) + 1) = (q : Int) := by rw [IntKind.wrap_i64]; omega
      have hqs : q ≤ s.size := by omega
      have haq : a ≤ q := by omega
      have HQ := hid hq
      go_upto_region 10 with (first
        | (go_at_call 56; refine (HL.out _).mono ?_; rintro r w5 ⟨rfl, hw⟩; obtain rfl := hw.symm)
        | (go_at_call 54; refine (HG.out _).mono ?_; rintro r w5 ⟨rfl, hw⟩; obtain rfl := hw.symm)
        | (go_at_call 53; refine (HPr.out _).mono ?_; rintro r w5 ⟨rfl, hw⟩; obtain rfl := hw.symm)
        | (go_at_call 57; refine (HEn.out _).mono ?_; rintro r w5 ⟨rfl, hw⟩; obtain rfl := hw.symm))
      clear HL HG HPr HEn
      by_cases hc : bt s a = 58
      · have g58 : (((bt s a : Nat) : Int) == 58) = true := by simp; omega
        have HC58 := hid hc
        by_cases hin : q < s.size
        · have g1 : decide ((q : Int) < (s.size : Int)) = true := by simp; omega
          have hixq := run_bt s q hin W0
          by_cases h61 : bt s q = 61
          · have HV : Hid (rv s a R = dV ⟨3, ⟨#[58, 61]⟩, 0, a⟩ 0 0 ⟨#[]⟩) := by
              show _ = _
              rw [HO2.out, if_pos ⟨hc, by rw [← hq]; exact h61⟩]; unfold rv; rw [if_pos rfl]
              show dV (wdOf s a ⟨3, a + 2, 0, 0⟩) 0 0 _ = _
              unfold wdOf
              rw [ext_two hc (by rw [← hq]; exact h61)]
            have g61 : (((bt s q : Nat) : Int) == 61) = true := by simp; omega
            rw [h61, show ((61 : Nat) : Int) = 61 from rfl] at hixq
            clear HO2 hc h61 hq
            go_wp2_with (first
              | (show wpList _ _ _ ({ dst := some 72, op := _, type := _, pos := _, after := _, guard := _ } :: _) _ _; refine stepVal (.agg (wdc ⟨3, ⟨#[58, 61]⟩, 0, a⟩)) rfl (by kernel_rfl) ?_)
              | (show wpList _ _ _ ({ dst := some 73, op := _, type := _, pos := _, after := _, guard := _ } :: _) _ _; refine stepVal (.agg (dfc 0 0 ⟨#[]⟩)) rfl (by kernel_rfl) ?_)
              | (refine stRow 56 (.tmp 4) (.tmp 72) rfl rfl w.heap.size (wdc ⟨3, ⟨#[58, 61]⟩, 0, a⟩) rfl rfl 56 _ HZ.out.b1 (szW _) rfl (wd1a _) ?_)
              | (refine stRow 37 (.tmp 5) (.tmp 73) rfl rfl (w.heap.size + 1) (dfc 0 0 ⟨#[]⟩) rfl rfl 37 _ (HZ.out.set1 ⟨3, ⟨#[58, 61]⟩, 0, a⟩).b2 (szF _ _ _) rfl (df1 _ _ _) ?_))
            try simp only [Exit.inBlock, Exit.then]
            exact bodyPost_ret (v := dV ⟨3, ⟨#[58, 61]⟩, 0, a⟩ 0 0 ⟨#[]⟩) (results_cc Tryz.results29 _ ((HZ.out.set1 ⟨3, ⟨#[58, 61]⟩, 0, a⟩).set2 0 0 ⟨#[]⟩) rfl rfl) rfl ⟨by rw [HV.out], ((HZ.out.set1 ⟨3, ⟨#[58, 61]⟩, 0, a⟩).set2 0 0 ⟨#[]⟩).low⟩
          · have HON : Hid (R = if bt s a ∈ sgn then ⟨3, a + 1, 0, 0⟩ else ⟨0, a + 1, 0, 150⟩) := by show _ = _; rw [HO2.out, if_neg (fun h => h61 (by rw [hq]; exact h.2))]
            have g61 : (((bt s q : Nat) : Int) == 61) = false := by simp; omega
            clear HO2 hc h61 hq
            go_upto_region 13 with fail
            clear g61 g58 hixq g1
            go_loop [11] (fun v => ∃ i : Nat, v = .int .i64 i ∧ i ≤ 11 ∧ Hid (∀ j, j < i → bt sgL j ≠ bt s a)) (fun v => 11 - (intOf v).toNat)
            case atStart => exact ⟨0, rfl, by omega, fun j hj => absurd hj (by omega)⟩
            case round =>
              obtain ⟨i, rfl, hi, HJ⟩ := hrel
              by_cases hl : i < 11
              · have g1 : decide ((i : Int) < 11) = true := by simp; omega
                have hixs : (Instr.index 9 (.string ⟨#[43, 59, 42, 61, 33, 38, 124, 40, 41, 123, 125]⟩) (.int .i64 (i : Int))).run Tryz.prog W0 = .ok (.int .u8 ((bt sgL i : Nat) : Int)) W0 := run_bt sgL i hl W0
                have hwi : IntKind.i64.wrap ((i : Int) + 1) = (i : Int) + 1 := by rw [IntKind.wrap_i64]; omega
                by_cases hc : bt sgL i = bt s a
                · have hm : bt s a ∈ sgn := by rw [← hc]; exact sg_in i hl
                  have HV : Hid (rv s a R = dV ⟨3, s.extract a q, 0, a⟩ 0 0 ⟨#[]⟩) := by show _ = _; rw [HON.out, if_pos hm]; unfold rv; rw [if_pos rfl, HQ.out]; rfl
                  have g2 : (((bt sgL i : Nat) : Int) == ((bt s a : Nat) : Int)) = true := by simp; omega
                  have g2n : (bt sgL i == bt s a) = true := by simp; omega
                  generalize bt sgL i = c1 at *
                  generalize bt s a = c at *
                  clear hm HON HJ hc
                  go_wp2_with (first
                    | (show wpList _ _ _ ({ dst := some 88, op := _, type := _, pos := _, after := _, guard := _ } :: _) _ _; refine stepVal (.agg (wdc ⟨3, s.extract a q, 0, a⟩)) rfl (by kernel_rfl) ?_)
                    | (show wpList _ _ _ ({ dst := some 89, op := _, type := _, pos := _, after := _, guard := _ } :: _) _ _; refine stepVal (.agg (dfc 0 0 ⟨#[]⟩)) rfl (by kernel_rfl) ?_)
                    | (refine stRow 56 (.tmp 4) (.tmp 88) rfl rfl w.heap.size (wdc ⟨3, s.extract a q, 0, a⟩) rfl rfl 56 _ HZ.out.b1 (szW _) rfl (wd1a _) ?_)
                    | (refine stRow 37 (.tmp 5) (.tmp 89) rfl rfl (w.heap.size + 1) (dfc 0 0 ⟨#[]⟩) rfl rfl 37 _ (HZ.out.set1 ⟨3, s.extract a q, 0, a⟩).b2 (szF _ _ _) rfl (df1 _ _ _) ?_))
                  try simp only [Exit.inBlock, Exit.then]
                  exact bodyPost_ret (v := dV ⟨3, s.extract a q, 0, a⟩ 0 0 ⟨#[]⟩) (results_cc Tryz.results29 _ ((HZ.out.set1 ⟨3, s.extract a q, 0, a⟩).set2 0 0 ⟨#[]⟩) rfl rfl) rfl ⟨by rw [HV.out], ((HZ.out.set1 ⟨3, s.extract a q, 0, a⟩).set2 0 0 ⟨#[]⟩).low⟩
                · have g2 : (((bt sgL i : Nat) : Int) == ((bt s a : Nat) : Int)) = false := by simp; omega
                  have g2n : (bt sgL i == bt s a) = false := by simp; omega
                  have HJ2 : Hid (∀ j, j < i + 1 → bt sgL j ≠ bt s a) := fun j hj => by
                    rcases (show j < i ∨ j = i by omega) with h | rfl
                    · exact HJ.out j h
                    · exact hc
                  generalize bt sgL i = c1 at hixs g2 g2n
                  clear HON HJ hc
                  go_wp2
                  go_round
                  case rel => exact ⟨i + 1, by go_num, by omega, HJ2⟩
                  case measure => simp [intOf]; omega
              · obtain rfl : i = 11 := by omega
                have g1 : decide (((11 : Nat) : Int) < 11) = false := by decide
                have HV : Hid (rv s a R = dV wZ 150 a (s.extract a q)) := by show _ = _; rw [HON.out, if_neg (sg_no HJ.out)]; rw [HQ.out]; exact rv_bad _ _ _ _ (by decide)
                clear HON HJ hl
                go_upto_region 17 with fail
                have hak1 : decide ((a : Int) ≤ ((q : Nat) : Int)) = true := by simp; omega
                refine wp_region_held_drew (S := (fun _ => True)) (by kernel_rfl) trivial (fun hHeld => ?_)
                refine wpAnyH_take (i := 0) (v := ?_) rfl (by kernel_rfl) (by kernel_rfl) (by kernel_rfl) (fun _ _ _ h => h) (Or.inl ⟨by rfl, ?_⟩) hHeld ?_
                rotate_left
                · intro w' hSw
                  clear hSw
                  go_simp
                  first | done | with_reducible rfl
                simp only [Act.put, List.getElem_toArray, List.getElem_cons_zero, List.setIfInBounds_toArray, List.set_cons_zero, List.set_cons_succ]
                refine wpAnyH_take (i := 1) (v := ?_) rfl (by kernel_rfl) (by kernel_rfl) (by kernel_rfl) (fun _ _ _ h => h) (Or.inl ⟨by rfl, ?_⟩) hHeld ?_
                rotate_left
                · intro w' hSw
                  clear hSw
                  go_simp
                  first | done | with_reducible rfl
                simp only [Act.put, List.getElem_toArray, List.getElem_cons_succ, List.getElem_cons_zero, List.setIfInBounds_toArray, List.set_cons_zero, List.set_cons_succ]
                refine wpAnyH_take (i := 2) (v := ?_) rfl (by kernel_rfl) (by kernel_rfl) (by kernel_rfl) (fun _ _ _ h => h) (Or.inl ⟨by rfl, ?_⟩) hHeld ?_
                rotate_left
                · intro w' hSw
                  clear hSw
                  go_simp
                  first | done | with_reducible rfl
                simp only [Act.put, List.getElem_toArray, List.getElem_cons_succ, List.getElem_cons_zero, List.setIfInBounds_toArray, List.set_cons_zero, List.set_cons_succ]
                refine wpAnyH_take (i := 3) (v := ?_) rfl (by kernel_rfl) (by kernel_rfl) (by kernel_rfl) (fun _ _ _ h => h) (Or.inl ⟨by rfl, ?_⟩) hHeld ?_
                rotate_left
                · intro w' hSw
                  clear hSw
                  go_simp
                  first | done | with_reducible rfl
                simp only [Act.put, List.getElem_toArray, List.getElem_cons_succ, List.getElem_cons_zero, List.setIfInBounds_toArray, List.set_cons_zero, List.set_cons_succ]
                refine wpAnyH_take (i := 4) (v := ?_) rfl (by kernel_rfl) (by kernel_rfl) (by kernel_rfl) (fun _ _ _ h => h) (Or.inl ⟨by rfl, ?_⟩) hHeld ?_
                rotate_left
                · intro w' hSw
                  clear hSw
                  go_simp
                  first | done | with_reducible rfl
                simp only [Act.put, List.getElem_toArray, List.getElem_cons_succ, List.getElem_cons_zero, List.setIfInBounds_toArray, List.set_cons_zero, List.set_cons_succ]
                refine wpAnyH_take (i := 5) (v := ?_) rfl (by kernel_rfl) (by kernel_rfl) (by kernel_rfl) (fun _ _ _ h => h) (Or.inl ⟨by rfl, ?_⟩) hHeld ?_
                rotate_left
                · intro w' hSw
                  clear hSw
                  go_simp
                  first | done | with_reducible rfl
                simp only [Act.put, List.getElem_toArray, List.getElem_cons_succ, List.getElem_cons_zero, List.setIfInBounds_toArray, List.set_cons_zero, List.set_cons_succ]
                refine wpAnyH_take (i := 6) (v := ?_) rfl (by kernel_rfl) (by kernel_rfl) (by kernel_rfl) (fun _ _ _ h => h) (Or.inl ⟨by rfl, ?_⟩) hHeld ?_
                rotate_left
                · intro w' hSw
                  clear hSw
                  go_simp
                  first | done | with_reducible rfl
                simp only [Act.put, List.getElem_toArray, List.getElem_cons_succ, List.getElem_cons_zero, List.setIfInBounds_toArray, List.set_cons_zero, List.set_cons_succ]
                refine wpAnyH_take (i := 7) (v := ?_) rfl (by kernel_rfl) (by kernel_rfl) (by kernel_rfl) (fun _ _ _ h => h) (Or.inl ⟨by rfl, ?_⟩) hHeld ?_
                rotate_left
                · intro w' hSw
                  clear hSw
                  go_simp
                  first | done | with_reducible rfl
                simp only [Act.put, List.getElem_toArray, List.getElem_cons_succ, List.getElem_cons_zero, List.setIfInBounds_toArray, List.set_cons_zero, List.set_cons_succ]
                refine ready_st 8 _ (by kernel_rfl) rfl 56 (.tmp 4) (.tmp 90) rfl rfl w.heap.size (wdc wZ) rfl rfl 56 _ HZ.out.drew.b1 (szW _) rfl (wd1a _) ?_
                refine ⟨trivial, ?_⟩
                simp only [Act.put, List.getElem_toArray, List.getElem_cons_succ, List.getElem_cons_zero]
                refine ready_st 9 _ (by kernel_rfl) rfl 37 (.tmp 5) (.tmp 97) rfl rfl (w.heap.size + 1) (dfc 150 a (s.extract a q)) rfl rfl 37 _ (HZ.out.drew.set1 wZ).b2 (szF _ _ _) rfl (df1 _ _ _) ?_
                refine ⟨trivial, ?_⟩
                simp only [Act.put, List.getElem_toArray, List.getElem_cons_succ, List.getElem_cons_zero]
                refine wpAnyH_done (by kernel_rfl) ?_ _
                try simp only [Exit.then]
                go_wp2
                try simp only [Exit.inBlock, Exit.then]
                exact bodyPost_ret (v := dV wZ 150 a (s.extract a q)) (results_cc Tryz.results29 _ ((HZ.out.drew.set1 wZ).set2 150 a (s.extract a q)) rfl rfl) rfl ⟨by rw [HV.out], ((HZ.out.drew.set1 wZ).set2 150 a (s.extract a q)).low⟩
        · have g1 : decide ((q : Int) < (s.size : Int)) = false := by simp; omega
          have HON : Hid (R = if bt s a ∈ sgn then ⟨3, a + 1, 0, 0⟩ else ⟨0, a + 1, 0, 150⟩) := by show _ = _; rw [HO2.out, if_neg (fun h => hin (by have := in_of_bt (s := s) (i := a + 1) (by rw [h.2]; decide); omega))]
          clear HO2 hc hq
          go_upto_region 13 with fail
          clear g58 g1
          go_loop [11] (fun v => ∃ i : Nat, v = .int .i64 i ∧ i ≤ 11 ∧ Hid (∀ j, j < i → bt sgL j ≠ bt s a)) (fun v => 11 - (intOf v).toNat)
          case atStart => exact ⟨0, rfl, by omega, fun j hj => absurd hj (by omega)⟩
          case round =>
            obtain ⟨i, rfl, hi, HJ⟩ := hrel
            by_cases hl : i < 11
            · have g1 : decide ((i : Int) < 11) = true := by simp; omega
              have hixs : (Instr.index 9 (.string ⟨#[43, 59, 42, 61, 33, 38, 124, 40, 41, 123, 125]⟩) (.int .i64 (i : Int))).run Tryz.prog W0 = .ok (.int .u8 ((bt sgL i : Nat) : Int)) W0 := run_bt sgL i hl W0
              have hwi : IntKind.i64.wrap ((i : Int) + 1) = (i : Int) + 1 := by rw [IntKind.wrap_i64]; omega
              by_cases hc : bt sgL i = bt s a
              · have hm : bt s a ∈ sgn := by rw [← hc]; exact sg_in i hl
                have HV : Hid (rv s a R = dV ⟨3, s.extract a q, 0, a⟩ 0 0 ⟨#[]⟩) := by show _ = _; rw [HON.out, if_pos hm]; unfold rv; rw [if_pos rfl, HQ.out]; rfl
                have g2 : (((bt sgL i : Nat) : Int) == ((bt s a : Nat) : Int)) = true := by simp; omega
                have g2n : (bt sgL i == bt s a) = true := by simp; omega
                generalize bt sgL i = c1 at *
                generalize bt s a = c at *
                clear hm HON HJ hc
                go_wp2_with (first
                  | (show wpList _ _ _ ({ dst := some 88, op := _, type := _, pos := _, after := _, guard := _ } :: _) _ _; refine stepVal (.agg (wdc ⟨3, s.extract a q, 0, a⟩)) rfl (by kernel_rfl) ?_)
                  | (show wpList _ _ _ ({ dst := some 89, op := _, type := _, pos := _, after := _, guard := _ } :: _) _ _; refine stepVal (.agg (dfc 0 0 ⟨#[]⟩)) rfl (by kernel_rfl) ?_)
                  | (refine stRow 56 (.tmp 4) (.tmp 88) rfl rfl w.heap.size (wdc ⟨3, s.extract a q, 0, a⟩) rfl rfl 56 _ HZ.out.b1 (szW _) rfl (wd1a _) ?_)
                  | (refine stRow 37 (.tmp 5) (.tmp 89) rfl rfl (w.heap.size + 1) (dfc 0 0 ⟨#[]⟩) rfl rfl 37 _ (HZ.out.set1 ⟨3, s.extract a q, 0, a⟩).b2 (szF _ _ _) rfl (df1 _ _ _) ?_))
                try simp only [Exit.inBlock, Exit.then]
                exact bodyPost_ret (v := dV ⟨3, s.extract a q, 0, a⟩ 0 0 ⟨#[]⟩) (results_cc Tryz.results29 _ ((HZ.out.set1 ⟨3, s.extract a q, 0, a⟩).set2 0 0 ⟨#[]⟩) rfl rfl) rfl ⟨by rw [HV.out], ((HZ.out.set1 ⟨3, s.extract a q, 0, a⟩).set2 0 0 ⟨#[]⟩).low⟩
              · have g2 : (((bt sgL i : Nat) : Int) == ((bt s a : Nat) : Int)) = false := by simp; omega
                have g2n : (bt sgL i == bt s a) = false := by simp; omega
                have HJ2 : Hid (∀ j, j < i + 1 → bt sgL j ≠ bt s a) := fun j hj => by
                  rcases (show j < i ∨ j = i by omega) with h | rfl
                  · exact HJ.out j h
                  · exact hc
                generalize bt sgL i = c1 at hixs g2 g2n
                clear HON HJ hc
                go_wp2
                go_round
                case rel => exact ⟨i + 1, by go_num, by omega, HJ2⟩
                case measure => simp [intOf]; omega
            · obtain rfl : i = 11 := by omega
              have g1 : decide (((11 : Nat) : Int) < 11) = false := by decide
              have HV : Hid (rv s a R = dV wZ 150 a (s.extract a q)) := by show _ = _; rw [HON.out, if_neg (sg_no HJ.out)]; rw [HQ.out]; exact rv_bad _ _ _ _ (by decide)
              clear HON HJ hl
              go_upto_region 17 with fail
              have hak1 : decide ((a : Int) ≤ ((q : Nat) : Int)) = true := by simp; omega
              refine wp_region_held_drew (S := (fun _ => True)) (by kernel_rfl) trivial (fun hHeld => ?_)
              refine wpAnyH_take (i := 0) (v := ?_) rfl (by kernel_rfl) (by kernel_rfl) (by kernel_rfl) (fun _ _ _ h => h) (Or.inl ⟨by rfl, ?_⟩) hHeld ?_
              rotate_left
              · intro w' hSw
                clear hSw
                go_simp
                first | done | with_reducible rfl
              simp only [Act.put, List.getElem_toArray, List.getElem_cons_zero, List.setIfInBounds_toArray, List.set_cons_zero, List.set_cons_succ]
              refine wpAnyH_take (i := 1) (v := ?_) rfl (by kernel_rfl) (by kernel_rfl) (by kernel_rfl) (fun _ _ _ h => h) (Or.inl ⟨by rfl, ?_⟩) hHeld ?_
              rotate_left
              · intro w' hSw
                clear hSw
                go_simp
                first | done | with_reducible rfl
              simp only [Act.put, List.getElem_toArray, List.getElem_cons_succ, List.getElem_cons_zero, List.setIfInBounds_toArray, List.set_cons_zero, List.set_cons_succ]
              refine wpAnyH_take (i := 2) (v := ?_) rfl (by kernel_rfl) (by kernel_rfl) (by kernel_rfl) (fun _ _ _ h => h) (Or.inl ⟨by rfl, ?_⟩) hHeld ?_
              rotate_left
              · intro w' hSw
                clear hSw
                go_simp
                first | done | with_reducible rfl
              simp only [Act.put, List.getElem_toArray, List.getElem_cons_succ, List.getElem_cons_zero, List.setIfInBounds_toArray, List.set_cons_zero, List.set_cons_succ]
              refine wpAnyH_take (i := 3) (v := ?_) rfl (by kernel_rfl) (by kernel_rfl) (by kernel_rfl) (fun _ _ _ h => h) (Or.inl ⟨by rfl, ?_⟩) hHeld ?_
              rotate_left
              · intro w' hSw
                clear hSw
                go_simp
                first | done | with_reducible rfl
              simp only [Act.put, List.getElem_toArray, List.getElem_cons_succ, List.getElem_cons_zero, List.setIfInBounds_toArray, List.set_cons_zero, List.set_cons_succ]
              refine wpAnyH_take (i := 4) (v := ?_) rfl (by kernel_rfl) (by kernel_rfl) (by kernel_rfl) (fun _ _ _ h => h) (Or.inl ⟨by rfl, ?_⟩) hHeld ?_
              rotate_left
              · intro w' hSw
                clear hSw
                go_simp
                first | done | with_reducible rfl
              simp only [Act.put, List.getElem_toArray, List.getElem_cons_succ, List.getElem_cons_zero, List.setIfInBounds_toArray, List.set_cons_zero, List.set_cons_succ]
              refine wpAnyH_take (i := 5) (v := ?_) rfl (by kernel_rfl) (by kernel_rfl) (by kernel_rfl) (fun _ _ _ h => h) (Or.inl ⟨by rfl, ?_⟩) hHeld ?_
              rotate_left
              · intro w' hSw
                clear hSw
                go_simp
                first | done | with_reducible rfl
              simp only [Act.put, List.getElem_toArray, List.getElem_cons_succ, List.getElem_cons_zero, List.setIfInBounds_toArray, List.set_cons_zero, List.set_cons_succ]
              refine wpAnyH_take (i := 6) (v := ?_) rfl (by kernel_rfl) (by kernel_rfl) (by kernel_rfl) (fun _ _ _ h => h) (Or.inl ⟨by rfl, ?_⟩) hHeld ?_
              rotate_left
              · intro w' hSw
                clear hSw
                go_simp
                first | done | with_reducible rfl
              simp only [Act.put, List.getElem_toArray, List.getElem_cons_succ, List.getElem_cons_zero, List.setIfInBounds_toArray, List.set_cons_zero, List.set_cons_succ]
              refine wpAnyH_take (i := 7) (v := ?_) rfl (by kernel_rfl) (by kernel_rfl) (by kernel_rfl) (fun _ _ _ h => h) (Or.inl ⟨by rfl, ?_⟩) hHeld ?_
              rotate_left
              · intro w' hSw
                clear hSw
                go_simp
                first | done | with_reducible rfl
              simp only [Act.put, List.getElem_toArray, List.getElem_cons_succ, List.getElem_cons_zero, List.setIfInBounds_toArray, List.set_cons_zero, List.set_cons_succ]
              refine ready_st 8 _ (by kernel_rfl) rfl 56 (.tmp 4) (.tmp 90) rfl rfl w.heap.size (wdc wZ) rfl rfl 56 _ HZ.out.drew.b1 (szW _) rfl (wd1a _) ?_
              refine ⟨trivial, ?_⟩
              simp only [Act.put, List.getElem_toArray, List.getElem_cons_succ, List.getElem_cons_zero]
              refine ready_st 9 _ (by kernel_rfl) rfl 37 (.tmp 5) (.tmp 97) rfl rfl (w.heap.size + 1) (dfc 150 a (s.extract a q)) rfl rfl 37 _ (HZ.out.drew.set1 wZ).b2 (szF _ _ _) rfl (df1 _ _ _) ?_
              refine ⟨trivial, ?_⟩
              simp only [Act.put, List.getElem_toArray, List.getElem_cons_succ, List.getElem_cons_zero]
              refine wpAnyH_done (by kernel_rfl) ?_ _
              try simp only [Exit.then]
              go_wp2
              try simp only [Exit.inBlock, Exit.then]
              exact bodyPost_ret (v := dV wZ 150 a (s.extract a q)) (results_cc Tryz.results29 _ ((HZ.out.drew.set1 wZ).set2 150 a (s.extract a q)) rfl rfl) rfl ⟨by rw [HV.out], ((HZ.out.drew.set1 wZ).set2 150 a (s.extract a q)).low⟩
      · have g58 : (((bt s a : Nat) : Int) == 58) = false := by simp; omega
        have HON : Hid (R = if bt s a ∈ sgn then ⟨3, a + 1, 0, 0⟩ else ⟨0, a + 1, 0, 150⟩) := by show _ = _; rw [HO2.out, if_neg (fun h => hc h.1)]
        clear HO2 hc hq
        go_upto_region 13 with fail
        clear g58
        go_loop [11] (fun v => ∃ i : Nat, v = .int .i64 i ∧ i ≤ 11 ∧ Hid (∀ j, j < i → bt sgL j ≠ bt s a)) (fun v => 11 - (intOf v).toNat)
        case atStart => exact ⟨0, rfl, by omega, fun j hj => absurd hj (by omega)⟩
        case round =>
          obtain ⟨i, rfl, hi, HJ⟩ := hrel
          by_cases hl : i < 11
          · have g1 : decide ((i : Int) < 11) = true := by simp; omega
            have hixs : (Instr.index 9 (.string ⟨#[43, 59, 42, 61, 33, 38, 124, 40, 41, 123, 125]⟩) (.int .i64 (i : Int))).run Tryz.prog W0 = .ok (.int .u8 ((bt sgL i : Nat) : Int)) W0 := run_bt sgL i hl W0
            have hwi : IntKind.i64.wrap ((i : Int) + 1) = (i : Int) + 1 := by rw [IntKind.wrap_i64]; omega
            by_cases hc : bt sgL i = bt s a
            · have hm : bt s a ∈ sgn := by rw [← hc]; exact sg_in i hl
              have HV : Hid (rv s a R = dV ⟨3, s.extract a q, 0, a⟩ 0 0 ⟨#[]⟩) := by show _ = _; rw [HON.out, if_pos hm]; unfold rv; rw [if_pos rfl, HQ.out]; rfl
              have g2 : (((bt sgL i : Nat) : Int) == ((bt s a : Nat) : Int)) = true := by simp; omega
              have g2n : (bt sgL i == bt s a) = true := by simp; omega
              generalize bt sgL i = c1 at *
              generalize bt s a = c at *
              clear hm HON HJ hc
              go_wp2_with (first
                | (show wpList _ _ _ ({ dst := some 88, op := _, type := _, pos := _, after := _, guard := _ } :: _) _ _; refine stepVal (.agg (wdc ⟨3, s.extract a q, 0, a⟩)) rfl (by kernel_rfl) ?_)
                | (show wpList _ _ _ ({ dst := some 89, op := _, type := _, pos := _, after := _, guard := _ } :: _) _ _; refine stepVal (.agg (dfc 0 0 ⟨#[]⟩)) rfl (by kernel_rfl) ?_)
                | (refine stRow 56 (.tmp 4) (.tmp 88) rfl rfl w.heap.size (wdc ⟨3, s.extract a q, 0, a⟩) rfl rfl 56 _ HZ.out.b1 (szW _) rfl (wd1a _) ?_)
                | (refine stRow 37 (.tmp 5) (.tmp 89) rfl rfl (w.heap.size + 1) (dfc 0 0 ⟨#[]⟩) rfl rfl 37 _ (HZ.out.set1 ⟨3, s.extract a q, 0, a⟩).b2 (szF _ _ _) rfl (df1 _ _ _) ?_))
              try simp only [Exit.inBlock, Exit.then]
              exact bodyPost_ret (v := dV ⟨3, s.extract a q, 0, a⟩ 0 0 ⟨#[]⟩) (results_cc Tryz.results29 _ ((HZ.out.set1 ⟨3, s.extract a q, 0, a⟩).set2 0 0 ⟨#[]⟩) rfl rfl) rfl ⟨by rw [HV.out], ((HZ.out.set1 ⟨3, s.extract a q, 0, a⟩).set2 0 0 ⟨#[]⟩).low⟩
            · have g2 : (((bt sgL i : Nat) : Int) == ((bt s a : Nat) : Int)) = false := by simp; omega
              have g2n : (bt sgL i == bt s a) = false := by simp; omega
              have HJ2 : Hid (∀ j, j < i + 1 → bt sgL j ≠ bt s a) := fun j hj => by
                rcases (show j < i ∨ j = i by omega) with h | rfl
                · exact HJ.out j h
                · exact hc
              generalize bt sgL i = c1 at hixs g2 g2n
              clear HON HJ hc
              go_wp2
              go_round
              case rel => exact ⟨i + 1, by go_num, by omega, HJ2⟩
              case measure => simp [intOf]; omega
          · obtain rfl : i = 11 := by omega
            have g1 : decide (((11 : Nat) : Int) < 11) = false := by decide
            have HV : Hid (rv s a R = dV wZ 150 a (s.extract a q)) := by show _ = _; rw [HON.out, if_neg (sg_no HJ.out)]; rw [HQ.out]; exact rv_bad _ _ _ _ (by decide)
            clear HON HJ hl
            go_upto_region 17 with fail
            have hak1 : decide ((a : Int) ≤ ((q : Nat) : Int)) = true := by simp; omega
            refine wp_region_held_drew (S := (fun _ => True)) (by kernel_rfl) trivial (fun hHeld => ?_)
            refine wpAnyH_take (i := 0) (v := ?_) rfl (by kernel_rfl) (by kernel_rfl) (by kernel_rfl) (fun _ _ _ h => h) (Or.inl ⟨by rfl, ?_⟩) hHeld ?_
            rotate_left
            · intro w' hSw
              clear hSw
              go_simp
              first | done | with_reducible rfl
            simp only [Act.put, List.getElem_toArray, List.getElem_cons_zero, List.setIfInBounds_toArray, List.set_cons_zero, List.set_cons_succ]
            refine wpAnyH_take (i := 1) (v := ?_) rfl (by kernel_rfl) (by kernel_rfl) (by kernel_rfl) (fun _ _ _ h => h) (Or.inl ⟨by rfl, ?_⟩) hHeld ?_
            rotate_left
            · intro w' hSw
              clear hSw
              go_simp
              first | done | with_reducible rfl
            simp only [Act.put, List.getElem_toArray, List.getElem_cons_succ, List.getElem_cons_zero, List.setIfInBounds_toArray, List.set_cons_zero, List.set_cons_succ]
            refine wpAnyH_take (i := 2) (v := ?_) rfl (by kernel_rfl) (by kernel_rfl) (by kernel_rfl) (fun _ _ _ h => h) (Or.inl ⟨by rfl, ?_⟩) hHeld ?_
            rotate_left
            · intro w' hSw
              clear hSw
              go_simp
              first | done | with_reducible rfl
            simp only [Act.put, List.getElem_toArray, List.getElem_cons_succ, List.getElem_cons_zero, List.setIfInBounds_toArray, List.set_cons_zero, List.set_cons_succ]
            refine wpAnyH_take (i := 3) (v := ?_) rfl (by kernel_rfl) (by kernel_rfl) (by kernel_rfl) (fun _ _ _ h => h) (Or.inl ⟨by rfl, ?_⟩) hHeld ?_
            rotate_left
            · intro w' hSw
              clear hSw
              go_simp
              first | done | with_reducible rfl
            simp only [Act.put, List.getElem_toArray, List.getElem_cons_succ, List.getElem_cons_zero, List.setIfInBounds_toArray, List.set_cons_zero, List.set_cons_succ]
            refine wpAnyH_take (i := 4) (v := ?_) rfl (by kernel_rfl) (by kernel_rfl) (by kernel_rfl) (fun _ _ _ h => h) (Or.inl ⟨by rfl, ?_⟩) hHeld ?_
            rotate_left
            · intro w' hSw
              clear hSw
              go_simp
              first | done | with_reducible rfl
            simp only [Act.put, List.getElem_toArray, List.getElem_cons_succ, List.getElem_cons_zero, List.setIfInBounds_toArray, List.set_cons_zero, List.set_cons_succ]
            refine wpAnyH_take (i := 5) (v := ?_) rfl (by kernel_rfl) (by kernel_rfl) (by kernel_rfl) (fun _ _ _ h => h) (Or.inl ⟨by rfl, ?_⟩) hHeld ?_
            rotate_left
            · intro w' hSw
              clear hSw
              go_simp
              first | done | with_reducible rfl
            simp only [Act.put, List.getElem_toArray, List.getElem_cons_succ, List.getElem_cons_zero, List.setIfInBounds_toArray, List.set_cons_zero, List.set_cons_succ]
            refine wpAnyH_take (i := 6) (v := ?_) rfl (by kernel_rfl) (by kernel_rfl) (by kernel_rfl) (fun _ _ _ h => h) (Or.inl ⟨by rfl, ?_⟩) hHeld ?_
            rotate_left
            · intro w' hSw
              clear hSw
              go_simp
              first | done | with_reducible rfl
            simp only [Act.put, List.getElem_toArray, List.getElem_cons_succ, List.getElem_cons_zero, List.setIfInBounds_toArray, List.set_cons_zero, List.set_cons_succ]
            refine wpAnyH_take (i := 7) (v := ?_) rfl (by kernel_rfl) (by kernel_rfl) (by kernel_rfl) (fun _ _ _ h => h) (Or.inl ⟨by rfl, ?_⟩) hHeld ?_
            rotate_left
            · intro w' hSw
              clear hSw
              go_simp
              first | done | with_reducible rfl
            simp only [Act.put, List.getElem_toArray, List.getElem_cons_succ, List.getElem_cons_zero, List.setIfInBounds_toArray, List.set_cons_zero, List.set_cons_succ]
            refine ready_st 8 _ (by kernel_rfl) rfl 56 (.tmp 4) (.tmp 90) rfl rfl w.heap.size (wdc wZ) rfl rfl 56 _ HZ.out.drew.b1 (szW _) rfl (wd1a _) ?_
            refine ⟨trivial, ?_⟩
            simp only [Act.put, List.getElem_toArray, List.getElem_cons_succ, List.getElem_cons_zero]
            refine ready_st 9 _ (by kernel_rfl) rfl 37 (.tmp 5) (.tmp 97) rfl rfl (w.heap.size + 1) (dfc 150 a (s.extract a q)) rfl rfl 37 _ (HZ.out.drew.set1 wZ).b2 (szF _ _ _) rfl (df1 _ _ _) ?_
            refine ⟨trivial, ?_⟩
            simp only [Act.put, List.getElem_toArray, List.getElem_cons_succ, List.getElem_cons_zero]
            refine wpAnyH_done (by kernel_rfl) ?_ _
            try simp only [Exit.then]
            go_wp2
            try simp only [Exit.inBlock, Exit.then]
            exact bodyPost_ret (v := dV wZ 150 a (s.extract a q)) (results_cc Tryz.results29 _ ((HZ.out.drew.set1 wZ).set2 150 a (s.extract a q)) rfl rfl) rfl ⟨by rw [HV.out], ((HZ.out.drew.set1 wZ).set2 150 a (s.extract a q)).low⟩
end Go.Proofs.YtdpmllfapjjihaaGreatDoor
