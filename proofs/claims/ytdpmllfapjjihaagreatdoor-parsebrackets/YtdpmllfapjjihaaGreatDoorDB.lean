/-
  Proved here: digit, letter, value, end, run of the document's answers tell what bytes are and where runs of them end; no memory turns. Conditions: the place is within the text.
-/
/-
  Proved here: decimal and pairs of the document's answers: digits' number, six pairs' number; no memory turns. Conditions: the place is within the text; decimal's text is digits.
-/
import Derived.Test.YtdpmllfapjjihaaGreatDoorL2
namespace Go.Proofs.YtdpmllfapjjihaaGreatDoor
open Go.RowKit
set_option maxRecDepth 100000

theorem digit_any (c : Nat) (w : World) : Calls Tryz.prog 54 #[.int .u8 c] w fun e w' => e = .returned (.bool (isD c)) ∧ w' = w := by
  have hr : isD c = (decide ((48 : Int) ≤ (c : Int)) && decide ((c : Int) ≤ (57 : Int))) := by rw [Bool.eq_iff_iff, isD_iff]; simp; omega
  rw [hr]; clear hr
  cases h1 : decide ((48 : Int) ≤ (c : Int)) <;> cases h2 : decide ((c : Int) ≤ (57 : Int)) <;>
    (go_enter Tryz.func54, Tryz.ntmps54
     go_wp2
     go_ret
     exact ⟨rfl, rfl⟩)
theorem letter_any (c : Nat) (w : World) : Calls Tryz.prog 56 #[.int .u8 c] w fun e w' => e = .returned (.bool (isL c)) ∧ w' = w := by
  have hr : isL c = ((decide ((65 : Int) ≤ (c : Int)) && decide ((c : Int) ≤ (90 : Int))) || (decide ((97 : Int) ≤ (c : Int)) && decide ((c : Int) ≤ (122 : Int))) || ((c : Int) == 95)) := by
    rw [Bool.eq_iff_iff, isL_iff]; simp; omega
  rw [hr]; clear hr
  cases h1 : decide ((65 : Int) ≤ (c : Int)) <;> cases h2 : decide ((c : Int) ≤ (90 : Int)) <;> cases h3 : decide ((97 : Int) ≤ (c : Int)) <;> cases h4 : decide ((c : Int) ≤ (122 : Int)) <;>
    (go_enter Tryz.func56, Tryz.ntmps56
     go_wp2
     go_ret
     exact ⟨rfl, rfl⟩)
def hvI (c : Nat) : Int := if isH c = true then ((hv c : Nat) : Int) else -1
theorem value_any (c : Nat) (w : World) : Calls Tryz.prog 79 #[.int .u8 c] w fun e w' => e = .returned (.int .i64 (hvI c)) ∧ w' = w := by
  have HD := hid (digit_any c w)
  cases h0 : isD c with
  | true =>
    have h0' := (isD_iff c).1 h0
    have g2 : IntKind.u8.wrap ((c : Int) - 48) = (c : Int) - 48 := by rw [IntKind.wrap_u8]; omega
    have g3 : IntKind.i64.wrap ((c : Int) - 48) = (c : Int) - 48 := by rw [IntKind.wrap_i64]; omega
    have hr : hvI c = (c : Int) - 48 := by unfold hvI; rw [if_pos ((isH_iff c).2 (by omega))]; unfold hv; rw [if_neg (by omega), if_neg (by omega)]; omega
    rw [hr]; clear hr h0'
    rw [h0] at HD
    go_enter Tryz.func79, Tryz.ntmps79
    go_wp2_with (go_at_call 54; refine (HD.out).mono ?_; rintro e w' ⟨rfl, rfl⟩)
    go_ret
    exact ⟨rfl, rfl⟩
  | false =>
    have h0' : ¬ (48 ≤ c ∧ c ≤ 57) := fun h => by rw [(isD_iff c).2 h] at h0; exact absurd h0 (by decide)
    rw [h0] at HD
    by_cases h1 : 97 ≤ c ∧ c ≤ 102
    · have g1 : decide ((97 : Int) ≤ (c : Int)) = true := by simp; omega
      have g5 : decide ((c : Int) ≤ (102 : Int)) = true := by simp; omega
      have g2 : IntKind.u8.wrap ((c : Int) - 97) = (c : Int) - 97 := by rw [IntKind.wrap_u8]; omega
      have g3 : IntKind.i64.wrap ((c : Int) - 97) = (c : Int) - 97 := by rw [IntKind.wrap_i64]; omega
      have g4 : IntKind.i64.wrap ((c : Int) - 97 + 10) = (c : Int) - 97 + 10 := by rw [IntKind.wrap_i64]; omega
      have hr : hvI c = (c : Int) - 97 + 10 := by unfold hvI; rw [if_pos ((isH_iff c).2 (by omega))]; unfold hv; rw [if_pos (by omega)]; omega
      rw [hr]; clear hr h0' h1
      go_enter Tryz.func79, Tryz.ntmps79
      go_wp2_with (go_at_call 54; refine (HD.out).mono ?_; rintro e w' ⟨rfl, rfl⟩)
      go_ret
      exact ⟨rfl, rfl⟩
    · by_cases h2 : 65 ≤ c ∧ c ≤ 70
      · have g1 : decide ((97 : Int) ≤ (c : Int)) = false := by simp; omega
        have g6 : decide ((65 : Int) ≤ (c : Int)) = true := by simp; omega
        have g5 : decide ((c : Int) ≤ (70 : Int)) = true := by simp; omega
        have g2 : IntKind.u8.wrap ((c : Int) - 65) = (c : Int) - 65 := by rw [IntKind.wrap_u8]; omega
        have g3 : IntKind.i64.wrap ((c : Int) - 65) = (c : Int) - 65 := by rw [IntKind.wrap_i64]; omega
        have g4 : IntKind.i64.wrap ((c : Int) - 65 + 10) = (c : Int) - 65 + 10 := by rw [IntKind.wrap_i64]; omega
        have hr : hvI c = (c : Int) - 65 + 10 := by unfold hvI; rw [if_pos ((isH_iff c).2 (by omega))]; unfold hv; rw [if_neg (by omega), if_pos (by omega)]; omega
        rw [hr]; clear hr h0' h1 h2
        go_enter Tryz.func79, Tryz.ntmps79
        go_wp2_with (go_at_call 54; refine (HD.out).mono ?_; rintro e w' ⟨rfl, rfl⟩)
        go_ret
        exact ⟨rfl, rfl⟩
      · have hr : hvI c = -1 := by unfold hvI; rw [if_neg (fun h => by rw [isH_iff] at h; omega)]
        rw [hr]; clear hr h0'
        have h1' : (decide ((97 : Int) ≤ (c : Int)) && decide ((c : Int) ≤ (102 : Int))) = false := by rw [Bool.eq_false_iff]; simp; omega
        have h2' : (decide ((65 : Int) ≤ (c : Int)) && decide ((c : Int) ≤ (70 : Int))) = false := by rw [Bool.eq_false_iff]; simp; omega
        clear h1 h2
        cases g1 : decide ((97 : Int) ≤ (c : Int)) <;> cases g2 : decide ((c : Int) ≤ (102 : Int)) <;> cases g3 : decide ((65 : Int) ≤ (c : Int)) <;> cases g4 : decide ((c : Int) ≤ (70 : Int)) <;>
          (rw [g1, g2] at h1'; rw [g3, g4] at h2'
           first
           | exact absurd h1' (by decide)
           | exact absurd h2' (by decide)
           | (clear h1' h2'
              go_enter Tryz.func79, Tryz.ntmps79
              go_wp2_with (go_at_call 54; refine (HD.out).mono ?_; rintro e w' ⟨rfl, rfl⟩)
              go_ret
              exact ⟨rfl, rfl⟩))
set_option maxHeartbeats 1600000 in
theorem end_any (s : ByteArray) (k : Nat) (hk : k ≤ s.size) (hs : s.size ≤ 65536) (w : World) : Calls Tryz.prog 57 #[.string s, .int .i64 k] w fun e w' => e = .returned (.int .i64 ((rE isN s k : Nat) : Int)) ∧ w' = w := by
  go_enter Tryz.func57, Tryz.ntmps57
  go_upto_region 1 with fail
  go_loop [1] (fun v => ∃ j : Nat, v = .int .i64 j ∧ j ≤ s.size ∧ Hid (rE isN s j = rE isN s k)) (fun v => s.size - (intOf v).toNat)
  case atStart => exact ⟨k, rfl, hk, rfl⟩
  case round =>
    obtain ⟨j, rfl, hj, HR⟩ := hrel
    by_cases hl : j < s.size
    · have g1 : decide ((j : Int) < (s.size : Int)) = true := by simp; omega
      have hix := run_bt s j hl w
      have HC := hid (letter_any (bt s j) w)
      have HC2 := hid (digit_any (bt s j) w)
      have hw1 : IntKind.i64.wrap ((j : Int) + 1) = (j : Int) + 1 := by rw [IntKind.wrap_i64]; omega
      have hNN : isN (bt s j) = (isL (bt s j) || isD (bt s j)) := rfl
      have HL := hid hl
      cases hb : isL (bt s j) with
      | true =>
        have HR2 : Hid (rE isN s (j + 1) = rE isN s k) := by rw [← HR.out]; exact (rE_on isN256 (by rw [hNN, hb]; rfl)).symm
        rw [hb] at HC
        clear HR hb hl hk HC2 hNN
        go_wp2_with (go_at_call 56; refine (HC.out).mono ?_; rintro e w5 ⟨rfl, rfl⟩)
        go_round
        case rel => exact ⟨j + 1, by go_num, by have := HL.out; omega, HR2⟩
        case measure => have := HL.out; simp [intOf]; omega
      | false =>
        rw [hb] at HC
        cases hd : isD (bt s j) with
        | true =>
          have HR2 : Hid (rE isN s (j + 1) = rE isN s k) := by rw [← HR.out]; exact (rE_on isN256 (by rw [hNN, hd, Bool.or_true])).symm
          rw [hd] at HC2
          clear HR hb hd hl hk hNN
          go_wp2_with (first | (go_at_call 56; refine (HC.out).mono ?_; rintro e w5 ⟨rfl, rfl⟩) | (go_at_call 54; refine (HC2.out).mono ?_; rintro e w5 ⟨rfl, rfl⟩))
          go_round
          case rel => exact ⟨j + 1, by go_num, by have := HL.out; omega, HR2⟩
          case measure => have := HL.out; simp [intOf]; omega
        | false =>
          have HR2 : Hid (rE isN s k = j) := by rw [← HR.out]; exact rE_end (by rw [hNN, hb, hd]; rfl)
          rw [hd] at HC2
          clear HR hb hd hk hNN
          go_wp2_with (first | (go_at_call 56; refine (HC.out).mono ?_; rintro e w5 ⟨rfl, rfl⟩) | (go_at_call 54; refine (HC2.out).mono ?_; rintro e w5 ⟨rfl, rfl⟩))
          go_ret
          exact ⟨by rw [HR2.out]; rfl, rfl⟩
    · have g1 : decide ((j : Int) < (s.size : Int)) = false := by simp; omega
      have HR2 : Hid (rE isN s k = j) := by rw [← HR.out]; exact rE_end (by rw [bt_out hl, isN256])
      clear HR hk
      go_wp2
      go_ret
      exact ⟨by rw [HR2.out]; rfl, rfl⟩
set_option maxHeartbeats 1600000 in
theorem run_any (s : ByteArray) (k : Nat) (hk : k ≤ s.size) (hs : s.size ≤ 65536) (w : World) : Calls Tryz.prog 81 #[.string s, .int .i64 k] w fun e w' => e = .returned (.string (s.extract k (rE isD s k))) ∧ w' = w := by
  have h1 := rE_ge isD s k
  have h2 := rE_le (p := isD) hk
  go_enter Tryz.func81, Tryz.ntmps81
  go_upto_region 2 with fail
  go_loop [5] (fun v => ∃ j : Nat, v = .int .i64 j ∧ k ≤ j ∧ j ≤ s.size ∧ Hid (rE isD s j = rE isD s k)) (fun v => s.size - (intOf v).toNat)
  case atStart => exact ⟨k, rfl, Nat.le_refl _, hk, rfl⟩
  case round =>
    obtain ⟨j, rfl, hkj, hj, HR⟩ := hrel
    by_cases hl : j < s.size
    · have g1 : decide ((j : Int) < (s.size : Int)) = true := by simp; omega
      have hix := run_bt s j hl w
      have HC2 := hid (digit_any (bt s j) w)
      have hw1 : IntKind.i64.wrap ((j : Int) + 1) = (j : Int) + 1 := by rw [IntKind.wrap_i64]; omega
      have HL := hid hl
      cases hd : isD (bt s j) with
      | true =>
        have HR2 : Hid (rE isD s (j + 1) = rE isD s k) := by rw [← HR.out]; exact (rE_on isD256 hd).symm
        rw [hd] at HC2
        clear HR hd hl hk h1 h2
        go_wp2_with (go_at_call 54; refine (HC2.out).mono ?_; rintro e w5 ⟨rfl, rfl⟩)
        go_round
        case rel => exact ⟨j + 1, by go_num, by omega, by have := HL.out; omega, HR2⟩
        case measure => have := HL.out; simp [intOf]; omega
      | false =>
        have HR2 : Hid (rE isD s k = j) := by rw [← HR.out]; exact rE_end hd
        rw [hd] at HC2
        clear HR hd h1 h2
        go_wp2_with (go_at_call 54; refine (HC2.out).mono ?_; rintro e w5 ⟨rfl, rfl⟩)
        go_ret
        exact ⟨by rw [HR2.out]; rfl, rfl⟩
    · have g1 : decide ((j : Int) < (s.size : Int)) = false := by simp; omega
      have HR2 : Hid (rE isD s k = j) := by rw [← HR.out]; exact rE_end (by rw [bt_out hl, isD256])
      clear HR h1 h2
      go_wp2
      go_ret
      exact ⟨by rw [HR2.out]; rfl, rfl⟩
end Go.Proofs.YtdpmllfapjjihaaGreatDoor
namespace Go.Proofs.YtdpmllfapjjihaaGreatDoor
open Go.RowKit
set_option maxRecDepth 100000

theorem dn_up (s : ByteArray) : ∀ f k n, n ≤ dn s f k n
  | 0, _, _ => Nat.le_refl _
  | f + 1, k, n => by rw [dn]; have := dn_up s f (k + 1) (n * 10 + (bt s k - 48)); omega
theorem dn_go {s : ByteArray} {f k n : Nat} (h : 0 < f) : dn s f k n = dn s (f - 1) (k + 1) (n * 10 + (bt s k - 48)) := by
  obtain ⟨g, rfl⟩ : ∃ g, f = g + 1 := ⟨f - 1, by omega⟩
  rfl
theorem run_ext (s : ByteArray) (a e j : Nat) (he : e ≤ s.size) (hj : j < e - a) (W : World) : (Instr.index 9 (.string (s.extract a e)) (.int .i64 (j : Int))).run Tryz.prog W = .ok (.int .u8 ((bt s (a + j) : Nat) : Int)) W := by
  have hz := size_ext (s := s) (a := a) he
  rw [run_index_string W 9 (s.extract a e) .i64 j Tryz.underlying9, dif_pos (by omega)]
  have := ext_bt (s := s) (a := a) he hj
  rw [← this]
  congr 3
  have h2 : j < (s.extract a e).data.toList.length := by rw [Array.length_toList]; have : (s.extract a e).data.size = (s.extract a e).size := rfl; omega
  rw [List.getD_eq_getElem?_getD, List.getElem?_eq_getElem h2]
  rfl
def dcV (N : Nat) : Value := if N ≤ 18446744073709551615 then .tuple #[.int .u64 (N : Int), .bool true] else .tuple #[.int .u64 0, .bool false]
set_option maxHeartbeats 1600000 in
theorem ddecimal_any (s : ByteArray) (a e : Nat) (hae : a ≤ e) (he : e ≤ s.size) (hd : ∀ j, a ≤ j → j < e → isD (bt s j) = true) (hs : s.size ≤ 65536) (w : World) :
    Calls Tryz.prog 83 #[.string (s.extract a e)] w fun r w' => r = .returned (dcV (dn s (e - a) a 0)) ∧ w' = w := by
  have hz := size_ext (s := s) (a := a) he
  have HD := hid hd
  have HIX := hid (run_ext s a e)
  obtain ⟨D, hD⟩ : ∃ D, D = s.extract a e := ⟨_, rfl⟩
  rw [← hD] at hz HIX
  rw [← hD]
  obtain ⟨m, hm⟩ : ∃ m, m = e - a := ⟨_, rfl⟩
  rw [← hm] at hz ⊢
  rw [← hm] at HIX
  have HM := hid hm
  clear hd hD hm
  go_enter Tryz.func83, Tryz.ntmps83
  go_upto_region 3 with fail
  go_loop [4, 5] (fun vn vi => ∃ n i : Nat, vn = .int .u64 n ∧ vi = .int .i64 i ∧ i ≤ m ∧ n ≤ 18446744073709551615 ∧ Hid (dn s (m - i) (a + i) n = dn s m a 0)) (fun _ vi => m - (intOf vi).toNat)
  case atStart => exact ⟨0, 0, rfl, rfl, by omega, by omega, rfl⟩
  case round =>
    obtain ⟨n, i, rfl, rfl, hi, hn, HR⟩ := hrel
    have hmB : m ≤ 65536 := by have := HM.out; omega
    by_cases hl : i < m
    · have g1 : decide ((i : Int) < (D.size : Int)) = true := by rw [hz]; simp; omega
      have hix := HIX.out i he hl w
      have hdg := (isD_iff _).1 (HD.out (a + i) (by omega) (by have := HM.out; omega))
      have hw1 : IntKind.i64.wrap ((i : Int) + 1) = (i : Int) + 1 := by rw [IntKind.wrap_i64]; omega
      have hst := dn_go (s := s) (k := a + i) (n := n) (f := m - i) (by omega)
      rw [HR.out] at hst
      generalize bt s (a + i) = c at hix hdg hst
      obtain ⟨d, rfl⟩ : ∃ d, c = d + 48 := ⟨c - 48, by omega⟩
      rw [show d + 48 - 48 = d by omega] at hst
      have hd9 : d ≤ 9 := by omega
      have g2 : IntKind.u8.wrap (((d + 48 : Nat) : Int) - 48) = (d : Int) := by rw [IntKind.wrap_u8]; omega
      have g3 : IntKind.u64.wrap (d : Int) = (d : Int) := by rw [IntKind.wrap_u64]; omega
      have g4 : IntKind.u64.wrap (18446744073709551615 - (d : Int)) = 18446744073709551615 - (d : Int) := by rw [IntKind.wrap_u64]; omega
      have g5 : (18446744073709551615 - (d : Int)).tdiv 10 = (18446744073709551615 - (d : Int)) / 10 := by rw [Int.tdiv_eq_ediv_of_nonneg (by omega)]
      have g6 : IntKind.u64.wrap ((18446744073709551615 - (d : Int)) / 10) = (18446744073709551615 - (d : Int)) / 10 := by rw [IntKind.wrap_u64]; omega
      by_cases ho : n * 10 + d ≤ 18446744073709551615
      · have g7 : decide ((18446744073709551615 - (d : Int)) / 10 < (n : Int)) = false := by simp; omega
        have g8 : IntKind.u64.wrap ((n : Int) * 10) = (n : Int) * 10 := by rw [IntKind.wrap_u64]; omega
        have g9 : IntKind.u64.wrap ((n : Int) * 10 + (d : Int)) = (n : Int) * 10 + (d : Int) := by rw [IntKind.wrap_u64]; omega
        have HN : Hid (dn s (m - (i + 1)) (a + (i + 1)) (n * 10 + d) = dn s m a 0) := hst.symm
        clear hst HR HIX HD hdg
        go_wp2
        go_round
        case rel => exact ⟨n * 10 + d, i + 1, by go_num, by go_num, by omega, by omega, HN⟩
        case measure => simp [intOf]; omega
      · have g7 : decide ((18446744073709551615 - (d : Int)) / 10 < (n : Int)) = true := by simp; omega
        have HN : Hid (dcV (dn s m a 0) = .tuple #[.int .u64 0, .bool false]) := by
          have := dn_up s (m - i - 1) (a + i + 1) (n * 10 + d)
          show dcV _ = _
          unfold dcV; rw [if_neg (by omega)]
        clear hst HR HIX HD hdg
        go_wp2
        go_ret2
        exact ⟨by rw [HN.out]; rfl, rfl⟩
    · obtain rfl : i = m := by omega
      have g1 : decide ((i : Int) < (D.size : Int)) = false := by rw [hz]; simp
      have HN : Hid (dcV (dn s i a 0) = .tuple #[.int .u64 (n : Int), .bool true]) := by
        have h := HR.out
        rw [Nat.sub_self] at h
        show dcV _ = _
        rw [← h]
        show dcV n = _
        unfold dcV; rw [if_pos hn]
      clear HR HIX HD
      go_wp2
      go_ret2
      exact ⟨by rw [HN.out]; rfl, rfl⟩
/-- six pairs, as the document's answer -/
def prV (a : Nat) : Option Nat → Value
  | none => .tuple #[.int .u64 0, .int .i64 0, .bool false]
  | some n => .tuple #[.int .u64 (n : Int), .int .i64 ((a : Int) + 17), .bool true]
/-- where a pair begins -/
def pp (i : Nat) : Nat := if i = 0 then 0 else 3 * i - 1
set_option maxHeartbeats 3200000 in
theorem pairs_any (s : ByteArray) (a : Nat) (ha : a ≤ s.size) (hs : s.size ≤ 65536) (w : World) : Calls Tryz.prog 53 #[.string s, .int .i64 a] w fun r w' => r = .returned (prV a (pr s a)) ∧ w' = w := by
  go_enter Tryz.func53, Tryz.ntmps53
  go_upto_region 3 with fail
  go_loop [1, 7, 8] (fun va vn vi => ∃ at' n i : Nat, va = .int .i64 at' ∧ vn = .int .u64 n ∧ vi = .int .i64 i ∧ i ≤ 6 ∧ at' = a + pp i ∧ Hid (n < 18446744073709551616 ∧ prF s a (17 - pp i) (pp i) n = pr s a)) (fun _ _ vi => 6 - (intOf vi).toNat)
  case atStart => exact ⟨a, 0, 0, rfl, rfl, rfl, by omega, rfl, by decide, rfl⟩
  case round =>
    obtain ⟨at', n, i, rfl, rfl, rfl, hi, hat, HR⟩ := hrel
    by_cases hl : i < 6
    · have g1 : decide ((i : Int) < 6) = true := by simp; omega
      have hwi : IntKind.i64.wrap ((i : Int) + 1) = (i : Int) + 1 := by rw [IntKind.wrap_i64]; omega
      have hpq : i = 0 ∨ (0 < i ∧ pp i = 3 * i - 1) := by unfold pp; by_cases h : i = 0 <;> simp [h]; omega
      rcases hpq with h0 | ⟨h0, hpi⟩
      · have g2 : decide ((0 : Int) < (i : Int)) = false := by simp; omega
        have g2n : decide (0 < i) = false := by simp; omega
        have hat0 : at' = a + (3 * i + 0) := by rw [hat, h0]; rfl
        have HS : Hid (n < 18446744073709551616 ∧ prF s a (17 - (3 * i + 0)) (3 * i + 0) n = pr s a) := by
          have h := HR.out
          rw [h0] at h ⊢
          exact h
        have HA := hid (And.intro h0 hat0)
        clear h0 hat hat0 HR
        go_upto_region 10 with fail
        go_loop [1, 7, 9] (fun va vn vk => ∃ q m k : Nat, va = .int .i64 q ∧ vn = .int .u64 m ∧ vk = .int .i64 k ∧ k ≤ 2 ∧ q = a + (3 * i + k) ∧ Hid (m < 18446744073709551616 ∧ prF s a (17 - (3 * i + k)) (3 * i + k) m = pr s a)) (fun _ _ vk => 2 - (intOf vk).toNat)
        case atStart => exact ⟨at', n, 0, rfl, rfl, rfl, by omega, HA.out.2, HS⟩
        case round =>
          obtain ⟨q, m, k, rfl, rfl, rfl, hk, hq, HQ⟩ := hrel
          by_cases hk2 : k < 2
          · have g3 : decide ((k : Int) < 2) = true := by simp; omega
            have hwk : IntKind.i64.wrap ((k : Int) + 1) = (k : Int) + 1 := by rw [IntKind.wrap_i64]; omega
            have h17 : 3 * i + k < 17 := by omega
            have h3 : (3 * i + k) % 3 ≠ 2 := by omega
            have HQe := hid hq
            by_cases hin : q < s.size
            · have g4 : decide ((s.size : Int) ≤ (q : Int)) = false := by simp; omega
              have hwq : IntKind.i64.wrap ((q : Int) + 1) = (q : Int) + 1 := by rw [IntKind.wrap_i64]; omega
              have hix := run_bt s q hin w
              have HV := hid (value_any (bt s q) w)
              cases hh : isH (bt s q) with
              | true =>
                have HN : Hid (prF s a (17 - (3 * i + (k + 1))) (3 * i + (k + 1)) (hx m (hv (bt s q))) = pr s a) := by
                  rw [← HQ.out.2, prF_hex h17 h3 (by rw [← hq]; exact hh), ← hq]; rfl
                have e : hvI (bt s q) = ((hv (bt s q) : Nat) : Int) := by unfold hvI; rw [if_pos hh]
                rw [e] at HV
                have hv16 := hv_lt hh
                have hsh := shl4 m
                have hor := orHx m (hv (bt s q)) hv16
                have HX : Hid (hx m (hv (bt s q)) < 18446744073709551616) := hx_lt hv16
                generalize hx m (hv (bt s q)) = m' at hor HN HX
                generalize bt s q = c at *
                generalize hv c = hvc at *
                generalize m * 16 % 18446744073709551616 = mm at hor hsh
                have g5 : decide ((hvc : Int) < 0) = false := by simp
                have g6 : IntKind.u64.wrap (hvc : Int) = (hvc : Int) := by rw [IntKind.wrap_u64]; omega
                clear hh e h17 h3 hv16 HQ hq
                go_wp2_with (go_at_call 79; refine (HV.out).mono ?_; rintro e w5 ⟨rfl, rfl⟩)
                go_round
                case rel => exact ⟨q + 1, m', k + 1, by go_num, rfl, by go_num, by omega, by have := HQe.out; omega, HX.out, HN.out⟩
                case measure => simp [intOf]; omega
              | false =>
                have HN : Hid (pr s a = none) := by rw [← HQ.out.2, prF_nohex h17 h3 (by rw [← hq]; exact hh)]; rfl
                have e : hvI (bt s q) = -1 := by unfold hvI; rw [if_neg (by rw [hh]; decide)]
                rw [e] at HV
                clear hh e h17 h3 HQ hq
                go_wp2_with (go_at_call 79; refine (HV.out).mono ?_; rintro e w5 ⟨rfl, rfl⟩)
                go_ret3
                exact ⟨by rw [HN.out]; rfl, rfl⟩
            · have g4 : decide ((s.size : Int) ≤ (q : Int)) = true := by simp; omega
              have HN : Hid (pr s a = none) := by rw [← HQ.out.2, prF_nohex h17 h3 (by rw [← hq, bt_out hin]; decide)]; rfl
              clear h17 h3 HQ hq
              go_wp2
              go_ret3
              exact ⟨by rw [HN.out]; rfl, rfl⟩
          · obtain rfl : k = 2 := by omega
            have hpp : pp (i + 1) = 3 * i + 2 := by unfold pp; rw [if_neg (by omega)]; omega
            have HN : Hid (m < 18446744073709551616 ∧ prF s a (17 - pp (i + 1)) (pp (i + 1)) m = pr s a) := by rw [hpp]; exact HQ.out
            have HE : Hid (q = a + pp (i + 1)) := by rw [hpp]; exact hq
            clear HQ hq hpp
            go_wp2
            go_round
            case rel => exact ⟨q, m, i + 1, rfl, rfl, by go_num, by omega, HE.out, HN⟩
            case measure => simp [intOf]; omega
      · have g2 : decide ((0 : Int) < (i : Int)) = true := by simp; omega
        have g2n : decide (0 < i) = true := by simp; omega
        have h17 : pp i < 17 := by omega
        have h3 : pp i % 3 = 2 := by omega
        by_cases hin : at' < s.size
        · have g4 : decide ((s.size : Int) ≤ (at' : Int)) = false := by simp; omega
          have hwq : IntKind.i64.wrap ((at' : Int) + 1) = (at' : Int) + 1 := by rw [IntKind.wrap_i64]; omega
          have hix := run_bt s at' hin w
          by_cases hc : bt s at' = 58
          · have HS : Hid (n < 18446744073709551616 ∧ prF s a (17 - (3 * i + 0)) (3 * i + 0) n = pr s a) := by
              have h := HR.out
              rw [prF_colon h17 h3 (by rw [← hat]; exact hc), show pp i + 1 = 3 * i + 0 by omega] at h
              exact h
            have HA : Hid (at' + 1 = a + (3 * i + 0)) := by show _ = _; omega
            rw [hc, show ((58 : Nat) : Int) = 58 from rfl] at hix
            have HI0 := hid h0
            clear hc hat HR h17 h3 hpi h0
            go_upto_region 10 with fail
            go_loop [1, 7, 9] (fun va vn vk => ∃ q m k : Nat, va = .int .i64 q ∧ vn = .int .u64 m ∧ vk = .int .i64 k ∧ k ≤ 2 ∧ q = a + (3 * i + k) ∧ Hid (m < 18446744073709551616 ∧ prF s a (17 - (3 * i + k)) (3 * i + k) m = pr s a)) (fun _ _ vk => 2 - (intOf vk).toNat)
            case atStart => exact ⟨at' + 1, n, 0, by go_num, rfl, rfl, by omega, HA.out, HS⟩
            case round =>
              obtain ⟨q, m, k, rfl, rfl, rfl, hk, hq, HQ⟩ := hrel
              by_cases hk2 : k < 2
              · have g3 : decide ((k : Int) < 2) = true := by simp; omega
                have hwk : IntKind.i64.wrap ((k : Int) + 1) = (k : Int) + 1 := by rw [IntKind.wrap_i64]; omega
                have h17 : 3 * i + k < 17 := by omega
                have h3 : (3 * i + k) % 3 ≠ 2 := by omega
                have HQe := hid hq
                by_cases hin : q < s.size
                · have g4 : decide ((s.size : Int) ≤ (q : Int)) = false := by simp; omega
                  have hwq : IntKind.i64.wrap ((q : Int) + 1) = (q : Int) + 1 := by rw [IntKind.wrap_i64]; omega
                  have hix := run_bt s q hin w
                  have HV := hid (value_any (bt s q) w)
                  cases hh : isH (bt s q) with
                  | true =>
                    have HN : Hid (prF s a (17 - (3 * i + (k + 1))) (3 * i + (k + 1)) (hx m (hv (bt s q))) = pr s a) := by
                      rw [← HQ.out.2, prF_hex h17 h3 (by rw [← hq]; exact hh), ← hq]; rfl
                    have e : hvI (bt s q) = ((hv (bt s q) : Nat) : Int) := by unfold hvI; rw [if_pos hh]
                    rw [e] at HV
                    have hv16 := hv_lt hh
                    have hsh := shl4 m
                    have hor := orHx m (hv (bt s q)) hv16
                    have HX : Hid (hx m (hv (bt s q)) < 18446744073709551616) := hx_lt hv16
                    generalize hx m (hv (bt s q)) = m' at hor HN HX
                    generalize bt s q = c at *
                    generalize hv c = hvc at *
                    generalize m * 16 % 18446744073709551616 = mm at hor hsh
                    have g5 : decide ((hvc : Int) < 0) = false := by simp
                    have g6 : IntKind.u64.wrap (hvc : Int) = (hvc : Int) := by rw [IntKind.wrap_u64]; omega
                    clear hh e h17 h3 hv16 HQ hq
                    go_wp2_with (go_at_call 79; refine (HV.out).mono ?_; rintro e w5 ⟨rfl, rfl⟩)
                    go_round
                    case rel => exact ⟨q + 1, m', k + 1, by go_num, rfl, by go_num, by omega, by have := HQe.out; omega, HX.out, HN.out⟩
                    case measure => simp [intOf]; omega
                  | false =>
                    have HN : Hid (pr s a = none) := by rw [← HQ.out.2, prF_nohex h17 h3 (by rw [← hq]; exact hh)]; rfl
                    have e : hvI (bt s q) = -1 := by unfold hvI; rw [if_neg (by rw [hh]; decide)]
                    rw [e] at HV
                    clear hh e h17 h3 HQ hq
                    go_wp2_with (go_at_call 79; refine (HV.out).mono ?_; rintro e w5 ⟨rfl, rfl⟩)
                    go_ret3
                    exact ⟨by rw [HN.out]; rfl, rfl⟩
                · have g4 : decide ((s.size : Int) ≤ (q : Int)) = true := by simp; omega
                  have HN : Hid (pr s a = none) := by rw [← HQ.out.2, prF_nohex h17 h3 (by rw [← hq, bt_out hin]; decide)]; rfl
                  clear h17 h3 HQ hq
                  go_wp2
                  go_ret3
                  exact ⟨by rw [HN.out]; rfl, rfl⟩
              · obtain rfl : k = 2 := by omega
                have hpp : pp (i + 1) = 3 * i + 2 := by unfold pp; rw [if_neg (by omega)]; omega
                have HN : Hid (m < 18446744073709551616 ∧ prF s a (17 - pp (i + 1)) (pp (i + 1)) m = pr s a) := by rw [hpp]; exact HQ.out
                have HE : Hid (q = a + pp (i + 1)) := by rw [hpp]; exact hq
                clear HQ hq hpp
                go_wp2
                go_round
                case rel => exact ⟨q, m, i + 1, rfl, rfl, by go_num, by omega, HE.out, HN⟩
                case measure => simp [intOf]; omega
          · have HN : Hid (pr s a = none) := by rw [← HR.out.2, prF_nocolon h17 h3 (by rw [← hat]; exact hc)]; rfl
            have g5 : (((bt s at' : Nat) : Int) == 58) = false := by simp; omega
            have g6 : (((bt s at' : Nat) : Int) != 58) = true := by simp; omega
            clear hat HR h17 h3 hpi
            go_wp2
            go_ret3
            exact ⟨by rw [HN.out]; rfl, rfl⟩
        · have g4 : decide ((s.size : Int) ≤ (at' : Int)) = true := by simp; omega
          have HN : Hid (pr s a = none) := by rw [← HR.out.2, prF_nocolon h17 h3 (by rw [← hat, bt_out hin]; decide)]; rfl
          clear hat HR h17 h3 hpi
          go_wp2
          go_ret3
          exact ⟨by rw [HN.out]; rfl, rfl⟩
    · obtain rfl : i = 6 := by omega
      have HN : Hid (pr s a = some n ∧ at' = a + 17) := by
        have h := HR.out.2
        exact ⟨h.symm, hat⟩
      have e17 : ((at' : Nat) : Int) = (a : Int) + 17 := by rw [HN.out.2]; omega
      have g1 : decide (((6 : Nat) : Int) < 6) = false := by decide
      clear HR hat
      go_wp2
      go_ret3
      exact ⟨by rw [HN.out.1]; first | rfl | (unfold prV; rw [← e17]; rfl), rfl⟩
end Go.Proofs.YtdpmllfapjjihaaGreatDoor
