/-
  Proved here: the statement ScanBlank says true of every text. Condition: the laid variables; a text is no longer than there can be.
-/
import Derived.Test.YtbbankcmeanjaaaDoorL2
import Derived.Test.YtbbankcmeanjaaaDoorJ4
namespace Go.Proofs.YtbbankcmeanjaaaDoor
open Go.RowKit
set_option maxRecDepth 100000

theorem bldL_snoc (l : List Wd) (x : Wd) : bldL (l ++ [x]) = bldL l ++ (x.t.data.toList ++ sepB.data.toList) := by
  induction l with
  | nil => simp [bldL]
  | cons y l ih => simp [bldL, ih]
theorem stand_len {s : ByteArray} : ∀ (l : List Wd) (a : Nat), Stand s a l → a ≤ s.size → l.length + a ≤ s.size ∧ (bldL l).length + a ≤ s.size + 6 * l.length
  | [], a, _, h => by simp [bldL]; omega
  | x :: l, a, h, ha => by
    have ok := one_ok h.2.1
    rw [h.2.2.1] at ok
    have h1 : x.at' < x.at' + x.t.size := ok.gt
    have := stand_len l _ h.2.2.2.2 ok.le
    have := h.1
    have hb : (bldL (x :: l)).length = x.t.size + 6 + (bldL l).length := by
      rw [bldL, List.length_append, List.length_append, ← size_list, ← size_list]; rfl
    rw [List.length_cons, hb]; omega
theorem bldL_le : ∀ (l : List Wd) (i : Nat), (bldL (l.take i)).length ≤ (bldL l).length
  | [], i => by simp
  | x :: l, 0 => by simp [bldL]
  | x :: l, i + 1 => by
    have := bldL_le l i
    simp [bldL]; omega
theorem ap_list (a b : ByteArray) : (a ++ b).data.toList = a.data.toList ++ b.data.toList := by simp [ByteArray.data_append]
theorem ap_size (a b : ByteArray) : (a ++ b).size = a.size + b.size := by rw [size_list, ap_list, List.length_append, ← size_list, ← size_list]
theorem sep_lit : (⟨#[32, 35, 32, 120, 10, 9]⟩ : ByteArray) = sepB := rfl
set_option maxHeartbeats 3200000 in
theorem blank_any (s : ByteArray) (w : World) (hT : Tab w) (hbig : s.size ≤ 9223372036854775806) : Calls Tryd.prog 4 #[.string s] w fun e w' => e = .returned (.bool true) ∧ Below w.heap.size w w' := by
  have H1 := hid (all_any s w hT hbig)
  have HWk : Hid (∀ W, Below w.heap.size w W → Calls Tryd.prog 7 #[] W fun e w' => e = .returned (.bool true) ∧ Below W.heap.size W w') := fun W hb => wakes_any W (hT.on hb)
  cases hr : all s with
  | no c a t =>
    go_enter Tryd.func4, Tryd.ntmps4
    go_wp2_with (first
      | (go_at_call 6; refine (H1.out).mono ?_; rintro e W1 ⟨hb1, hr1⟩; rw [hr] at hr1; obtain ⟨N, rfl, -, -⟩ := hr1; have HB1 := hid hb1; have HWk1 := hid (HWk.out W1 hb1); clear hb1 H1 HWk)
      | (go_at_call 7; refine (HWk1.out).mono ?_; rintro e W2 ⟨rfl, hb2⟩; have HB2 := hid (HB1.out.trans (hb2.mono HB1.out.size)); clear hb2 HWk1))
    go_ret
    exact ⟨rfl, HB2.out⟩
  | ok l =>
    obtain ⟨ws, rfl, hst, hs⟩ := all_stand hr
    have HAl : Hid (∀ (T : ByteArray) W, Below w.heap.size w W → T.size ≤ 9223372036854775806 → Calls Tryd.prog 6 #[.string T] W (AlP T W)) := fun T W hb h => all_any T W (hT.on hb) h
    go_enter Tryd.func4, Tryd.ntmps4
    go_upto_region 2 with (go_at_call 6; refine (H1.out).mono ?_; rintro e W1 ⟨hb1, hr1⟩; rw [hr] at hr1; obtain ⟨v1, rfl, hw1⟩ := hr1; have HB1 := hid hb1; have HW1 := hid hw1; clear hb1 hw1 H1)
    obtain ⟨b, o, cap, rfl, hcap, -, hbl, hcl⟩ := HW1.out.cells (by simp)
    have hln : (ws ++ [wEnd s]).length = ws.length + 1 := by simp
    have HRi : Hid (∀ i, (h : i < ws.length) → W1.rangeAt b (o + i * 4) (wdc ws[i]).toList) := fun i h => by
      have := wd_range hcl (i := i) (by simp; omega)
      rw [List.getElem_append_left h] at this
      exact this
    have HBL := hid hbl
    rw [hln] at hcap
    rw [hln]
    obtain ⟨hl1, hl2⟩ := stand_len ws 0 hst (by omega)
    have HST := hid hst
    have HSL := hid hl2
    clear hcl hbl HW1 hln hst
    obtain ⟨n, hn⟩ : ∃ n, n = ws.length := ⟨_, rfl⟩
    obtain ⟨m, hm⟩ : ∃ m, m = n + 1 := ⟨_, rfl⟩
    have hnl : n ≤ 65536 := by omega
    rw [← hn] at hcap
    rw [← hn, ← hm]
    have g1 : (((m : Nat) : Int) == 0) = false := by simp; omega
    have hw1 : IntKind.i64.wrap ((m : Int) - 1) = ((n : Nat) : Int) := by rw [IntKind.wrap_i64]; omega
    have hnm : n < m := by omega
    have hmc : m ≤ cap := by omega
    have hnc : n ≤ cap := by omega
    have HNM := hid (And.intro hm hn)
    clear hcap hm hn hl1 hl2
    go_upto_region 6 with fail
    go_loopw [5, 33] (fun vs vi wr => ∃ (T : ByteArray) (i : Nat), vs = .string T ∧ vi = .int .i64 i ∧ i ≤ n ∧ Hid (T.data.toList = bldL (ws.take i)) ∧ Hid (Below W1.heap.size W1 wr)) (fun _ vi _ => n - (intOf vi).toNat)
    case atStart => exact ⟨⟨#[]⟩, 0, rfl, rfl, by omega, rfl, Below.refl _ _⟩
    case round =>
      obtain ⟨T, i, rfl, rfl, hi, HT, HB⟩ := hrel
      have hTs : T.size ≤ 458752 := by
        have h1 := bldL_le ws i
        have h2 := HSL.out
        have h3 := HNM.out.2
        rw [size_list, HT.out]; omega
      by_cases hl : i < n
      · have gl : decide ((i : Int) < (n : Int)) = true := by simp; omega
        have hil : i < ws.length := by rw [← HNM.out.2]; exact hl
        have HR : Hid (wr.rangeAt b (o + i * 4) (wdc ws[i]).toList) := fun j v hj => by
          have hc := HRi.out i hil j v hj
          rw [HB.out.cell (p := ⟨b, _, none⟩) HBL.out]; exact hc
        have hwi : IntKind.i64.wrap ((i : Int) + 1) = (i : Int) + 1 := by rw [IntKind.wrap_i64]; omega
        have HT2 : Hid ((T ++ (ws[i].t ++ sepB)).data.toList = bldL (ws.take (i + 1))) := by
          show _ = _
          rw [List.take_succ_eq_append_getElem hil, bldL_snoc, ap_list, ap_list, HT.out]
        have htt : ws[i].t.size ≤ 458752 := by
          have h1 := bldL_le ws (i + 1)
          have h2 := HSL.out
          have h3 := HNM.out.2
          have h4 := congrArg List.length HT2.out
          rw [ap_list, ap_list, List.length_append, List.length_append, ← size_list, ← size_list] at h4
          omega
        generalize ws[i] = x at HR HT2 htt
        obtain ⟨k, t, nn, p⟩ := x
        replace htt : t.size ≤ 458752 := htt
        have ad1 : ∀ W, (Op.stringOp .add t ⟨#[32, 35, 32, 120, 10, 9]⟩).run Tryd.prog W = .ok (.string (t ++ sepB)) W := fun W => run_string_add_sum W t sepB (by rw [show sepB.size = 6 from rfl]; omega)
        have ad2 : ∀ W, (Op.stringOp .add T (t ++ sepB)).run Tryd.prog W = .ok (.string (T ++ (t ++ sepB))) W := fun W => run_string_add_sum W T (t ++ sepB) (by rw [ap_size, show sepB.size = 6 from rfl]; omega)
        have HB3 : Hid (Below W1.heap.size W1 (wr.alloc (.cells (wdc ⟨k, t, nn, p⟩) 31))) := HB.out.alloc HB.out.size _
        generalize hTT : T ++ (t ++ sepB) = T2 at ad2 HT2
        generalize htS : t ++ sepB = ts at ad1 ad2
        clear hTT htS HB HT hil HRi HBL HST HSL HNM
        go_wp2_with (first
          | (show wpList _ _ _ ({ dst := some 36, op := _, type := _, pos := _, after := _, guard := _ } :: _) _ _; refine ldMid 31 (.tmp 35) rfl rfl b (o + i * 4) rfl (wdc ⟨k, t, nn, p⟩) _ Tryd.underlying31 rfl (szW _) HR.out ?_))
        refine ⟨?_, ?_⟩
        · first
            | exact ⟨T2, i + 1, rfl, by go_num, by omega, HT2, HB3⟩
            | ((repeat apply Exists.intro); refine ⟨?_, rfl⟩; exact ⟨T2, i + 1, rfl, by go_num, by omega, HT2, HB3⟩)
        · first | (simp [intOf]; done) | (simp [intOf]; omega)
      · obtain rfl : i = n := by omega
        have gl : decide ((i : Int) < (i : Int)) = false := by simp
        have hTb : T.data.toList = bldL ws := by rw [HT.out, HNM.out.2, List.take_length]
        have HBr := hid (HB1.out.trans (HB.out.mono HB1.out.size))
        have HA2 := hid (HAl.out T wr HBr.out (by omega))
        clear HAl HT
        by_cases hbg : 65536 < T.size
        · have gT : decide ((65536 : Int) < (T.size : Int)) = true := by simp; omega
          have hall : all T = .no 3 0 ByteArray.empty := by unfold all; rw [if_pos hbg]
          clear hTb
          go_wp2_with (first
            | (go_at_call 6; refine (HA2.out).mono ?_; rintro e W2 ⟨hb2, hr2⟩; rw [hall] at hr2; obtain ⟨N, rfl, -, -⟩ := hr2; have HB2 := hid (HBr.out.trans (hb2.mono HBr.out.size)); have HWk2 := hid (HWk.out W2 HB2.out); clear hb2 HA2 HWk)
            | (go_at_call 7; refine (HWk2.out).mono ?_; rintro e W3 ⟨rfl, hb3⟩; have HB3 := hid (HB2.out.trans (hb3.mono HB2.out.size)); clear hb3 HWk2))
          go_ret
          exact ⟨rfl, HB3.out⟩
        · have gT : decide ((65536 : Int) < (T.size : Int)) = false := by simp; omega
          have hall := all_built HST.out hTb (by omega)
          go_upto_region 13 with (go_at_call 6; refine (HA2.out).mono ?_; rintro e W2 ⟨hb2, hr2⟩; rw [hall] at hr2; obtain ⟨v2, rfl, hw2⟩ := hr2; have HBl2 := hid hb2; have HB2 := hid (HBr.out.trans (hb2.mono HBr.out.size)); have HW2 := hid hw2; clear hb2 hw2 HA2)
          obtain ⟨b', o', cap', rfl, hcap', -, hbl', hcl'⟩ := HW2.out.cells (by simp)
          have hln' : (shf 0 ws ++ [wEnd T]).length = m := by
            have h1 := HNM.out
            rw [List.length_append, shf_len]; simp; omega
          rw [hln'] at hcap'
          rw [hln']
          have HP : Hid (∀ q, q < i → ∃ k t nn p p', W2.rangeAt b (o + q * 4) (wdc ⟨k, t, nn, p⟩).toList ∧ W2.rangeAt b' (o' + q * 4) (wdc ⟨k, t, nn, p'⟩).toList) := fun q hq => by
            have hql : q < ws.length := by rw [← HNM.out.2]; exact hq
            obtain ⟨z, hz⟩ := shf_at 0 ws q hql
            have r1 : W2.rangeAt b (o + q * 4) (wdc ws[q]).toList := fun j v hj => by
              have hc := HRi.out q hql j v hj
              rw [(HB.out.trans (HBl2.out.mono HB.out.size)).cell (p := ⟨b, _, none⟩) HBL.out]; exact hc
            have r2 := wd_range hcl' (i := q) (by rw [hln']; omega)
            rw [List.getElem_append_left (by rw [shf_len]; exact hql), hz] at r2
            exact ⟨ws[q].k, ws[q].t, ws[q].n, ws[q].at', z, r1, r2⟩
          have HBL2 : Hid (b < W2.heap.size ∧ b' < W2.heap.size) := ⟨Nat.lt_of_lt_of_le HBL.out (Nat.le_trans HB.out.size HBl2.out.size), hbl'⟩
          have hnc' : i ≤ cap' := by omega
          clear hbl' hcl' hln' HW2 HRi HBL HB HST HSL hTb hall HBr
          go_upto_region 16 with fail
          go_loopw [71] (fun vi wx => ∃ (q : Nat), vi = .int .i64 q ∧ q ≤ i ∧ Hid (Below W2.heap.size W2 wx)) (fun vi _ => i - (intOf vi).toNat)
          case atStart => exact ⟨0, rfl, by omega, Below.refl _ _⟩
          case round =>
            obtain ⟨q, rfl, hq, HBx⟩ := hrel
            by_cases hlq : q < i
            · have gq : decide ((q : Int) < (i : Int)) = true := by simp; omega
              have hwq : IntKind.i64.wrap ((q : Int) + 1) = (q : Int) + 1 := by rw [IntKind.wrap_i64]; omega
              obtain ⟨k, t, nn, p, p', r1, r2⟩ := HP.out q hlq
              have hqm : q < m := by omega
              have x0 : wr.cell? ⟨b, o + q * 4, none⟩ = some (.int .i8 (k : Int)) := by rw [HBx.out.cell (p := ⟨b, _, none⟩) HBL2.out.1]; exact r1 0 _ rfl
              have x1 : wr.cell? ⟨b, o + q * 4 + 1, none⟩ = some (.string t) := by rw [HBx.out.cell (p := ⟨b, _, none⟩) HBL2.out.1]; exact r1 1 _ rfl
              have x2 : wr.cell? ⟨b, o + q * 4 + 2, none⟩ = some (.int .u64 (nn : Int)) := by rw [HBx.out.cell (p := ⟨b, _, none⟩) HBL2.out.1]; exact r1 2 _ rfl
              have y0 : wr.cell? ⟨b', o' + q * 4, none⟩ = some (.int .i8 (k : Int)) := by rw [HBx.out.cell (p := ⟨b', _, none⟩) HBL2.out.2]; exact r2 0 _ rfl
              have y1 : wr.cell? ⟨b', o' + q * 4 + 1, none⟩ = some (.string t) := by rw [HBx.out.cell (p := ⟨b', _, none⟩) HBL2.out.2]; exact r2 1 _ rfl
              have y2 : wr.cell? ⟨b', o' + q * 4 + 2, none⟩ = some (.int .u64 (nn : Int)) := by rw [HBx.out.cell (p := ⟨b', _, none⟩) HBL2.out.2]; exact r2 2 _ rfl
              clear r1 r2 HP HBL2 HNM
              go_upto_region 18 with fail
              go_quiet (fail)
              go_wp2
              refine ⟨?_, ?_⟩
              · first
                  | exact ⟨q + 1, by go_num, by omega, bel_drewN HBx.out _⟩
                  | ((repeat apply Exists.intro); refine ⟨?_, rfl⟩; exact ⟨q + 1, by go_num, by omega, bel_drewN HBx.out _⟩)
              · first | (simp [intOf]; done) | (simp [intOf]; omega)
            · obtain rfl : q = i := by omega
              have gq : decide ((q : Int) < (q : Int)) = false := by simp
              have HBr := hid (HB2.out.trans (HBx.out.mono HB2.out.size))
              have HWk1 := hid (HWk.out wr HBr.out)
              clear HWk HP HBL2 HNM
              go_wp2_with (go_at_call 7; refine (HWk1.out).mono ?_; rintro e W4 ⟨rfl, hb4⟩; have HB4 := hid (HBr.out.trans (hb4.mono HBr.out.size)); clear hb4 HWk1)
              go_ret
              exact ⟨rfl, HB4.out⟩
end Go.Proofs.YtbbankcmeanjaaaDoor
