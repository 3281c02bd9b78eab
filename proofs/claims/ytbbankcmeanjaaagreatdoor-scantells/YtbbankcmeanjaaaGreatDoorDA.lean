/-
  Proved here: digit, letter, value, end, run of the document's answers tell what bytes are and where runs of them end; no memory turns. Conditions: the place is within the text.
-/
import Derived.Test.YtbbankcmeanjaaaGreatDoorL2
namespace Go.Proofs.YtbbankcmeanjaaaGreatDoor
open Go.RowKit
set_option maxRecDepth 100000

theorem digit_any (c : Nat) (w : World) : Calls Tryz.prog 26 #[.int .u8 c] w fun e w' => e = .returned (.bool (isD c)) ∧ w' = w := by
  have hr : isD c = (decide ((48 : Int) ≤ (c : Int)) && decide ((c : Int) ≤ (57 : Int))) := by rw [Bool.eq_iff_iff, isD_iff]; simp; omega
  rw [hr]; clear hr
  cases h1 : decide ((48 : Int) ≤ (c : Int)) <;> cases h2 : decide ((c : Int) ≤ (57 : Int)) <;>
    (go_enter Tryz.func26, Tryz.ntmps26
     go_wp2
     go_ret
     exact ⟨rfl, rfl⟩)
theorem letter_any (c : Nat) (w : World) : Calls Tryz.prog 28 #[.int .u8 c] w fun e w' => e = .returned (.bool (isL c)) ∧ w' = w := by
  have hr : isL c = ((decide ((65 : Int) ≤ (c : Int)) && decide ((c : Int) ≤ (90 : Int))) || (decide ((97 : Int) ≤ (c : Int)) && decide ((c : Int) ≤ (122 : Int))) || ((c : Int) == 95)) := by
    rw [Bool.eq_iff_iff, isL_iff]; simp; omega
  rw [hr]; clear hr
  cases h1 : decide ((65 : Int) ≤ (c : Int)) <;> cases h2 : decide ((c : Int) ≤ (90 : Int)) <;> cases h3 : decide ((97 : Int) ≤ (c : Int)) <;> cases h4 : decide ((c : Int) ≤ (122 : Int)) <;>
    (go_enter Tryz.func28, Tryz.ntmps28
     go_wp2
     go_ret
     exact ⟨rfl, rfl⟩)
def hvI (c : Nat) : Int := if isH c = true then ((hv c : Nat) : Int) else -1
theorem value_any (c : Nat) (w : World) : Calls Tryz.prog 50 #[.int .u8 c] w fun e w' => e = .returned (.int .i64 (hvI c)) ∧ w' = w := by
  have HD := hid (digit_any c w)
  cases h0 : isD c with
  | true =>
    have h0' := (isD_iff c).1 h0
    have g2 : IntKind.u8.wrap ((c : Int) - 48) = (c : Int) - 48 := by rw [IntKind.wrap_u8]; omega
    have g3 : IntKind.i64.wrap ((c : Int) - 48) = (c : Int) - 48 := by rw [IntKind.wrap_i64]; omega
    have hr : hvI c = (c : Int) - 48 := by unfold hvI; rw [if_pos ((isH_iff c).2 (by omega))]; unfold hv; rw [if_neg (by omega), if_neg (by omega)]; omega
    rw [hr]; clear hr h0'
    rw [h0] at HD
    go_enter Tryz.func50, Tryz.ntmps50
    go_wp2_with (go_at_call 26; refine (HD.out).mono ?_; rintro e w' ⟨rfl, rfl⟩)
    go_ret
    exact ⟨rfl, rfl⟩
  | false =>
    have h0' : ¬ (48 ≤ c ∧ c ≤ 57) := fun h => by rw [(isD_iff c).2 h] at h0; exact absurd h0 (by decide)
    rw [h0] at HD
    by_cases h1 : 97 ≤ c ∧ c ≤ 102
    · have g1 : decide ((97 : Int) ≤ (c : Int)) = true := by simp; omega
      have g5 : decide ((c : Int) ≤ (102 : Int)) = true := by simp; omega
      have g2 : IntKind.u8.wrap ((c : Int) - 97) = (c : Int) - 97 := by rw [IntKind.wrap_u8]; omega
      have g3 : IntKind.i64.wrap ((c : Int) - 97) = (c : Int) - 97 := by rw [IntKind.wrap_i64]; omega
      have g4 : IntKind.i64.wrap ((c : Int) - 97 + 10) = (c : Int) - 97 + 10 := by rw [IntKind.wrap_i64]; omega
      have hr : hvI c = (c : Int) - 97 + 10 := by unfold hvI; rw [if_pos ((isH_iff c).2 (by omega))]; unfold hv; rw [if_pos (by omega)]; omega
      rw [hr]; clear hr h0' h1
      go_enter Tryz.func50, Tryz.ntmps50
      go_wp2_with (go_at_call 26; refine (HD.out).mono ?_; rintro e w' ⟨rfl, rfl⟩)
      go_ret
      exact ⟨rfl, rfl⟩
    · by_cases h2 : 65 ≤ c ∧ c ≤ 70
      · have g1 : decide ((97 : Int) ≤ (c : Int)) = false := by simp; omega
        have g6 : decide ((65 : Int) ≤ (c : Int)) = true := by simp; omega
        have g5 : decide ((c : Int) ≤ (70 : Int)) = true := by simp; omega
        have g2 : IntKind.u8.wrap ((c : Int) - 65) = (c : Int) - 65 := by rw [IntKind.wrap_u8]; omega
        have g3 : IntKind.i64.wrap ((c : Int) - 65) = (c : Int) - 65 := by rw [IntKind.wrap_i64]; omega
        have g4 : IntKind.i64.wrap ((c : Int) - 65 + 10) = (c : Int) - 65 + 10 := by rw [IntKind.wrap_i64]; omega
        have hr : hvI c = (c : Int) - 65 + 10 := by unfold hvI; rw [if_pos ((isH_iff c).2 (by omega))]; unfold hv; rw [if_neg (by omega), if_pos (by omega)]; omega
        rw [hr]; clear hr h0' h1 h2
        go_enter Tryz.func50, Tryz.ntmps50
        go_wp2_with (go_at_call 26; refine (HD.out).mono ?_; rintro e w' ⟨rfl, rfl⟩)
        go_ret
        exact ⟨rfl, rfl⟩
      · have hr : hvI c = -1 := by unfold hvI; rw [if_neg (fun h => by rw [isH_iff] at h; omega)]
        rw [hr]; clear hr h0'
        have h1' : (decide ((97 : Int) ≤ (c : Int)) && decide ((c : Int) ≤ (102 : Int))) = false := by rw [Bool.eq_false_iff]; simp; omega
        have h2' : (decide ((65 : Int) ≤ (c : Int)) && decide ((c : Int) ≤ (70 : Int))) = false := by rw [Bool.eq_false_iff]; simp; omega
        clear h1 h2
        cases g1 : decide ((97 : Int) ≤ (c : Int)) <;> cases g2 : decide ((c : Int) ≤ (102 : Int)) <;> cases g3 : decide ((65 : Int) ≤ (c : Int)) <;> cases g4 : decide ((c : Int) ≤ (70 : Int)) <;>
          (rw [g1, g2] at h1'; rw [g3, g4] at h2'
           first
           | exact absurd h1' (by decide)
           | exact absurd h2' (by decide)
           | (clear h1' h2'
              go_enter Tryz.func50, Tryz.ntmps50
              go_wp2_with (go_at_call 26; refine (HD.out).mono ?_; rintro e w' ⟨rfl, rfl⟩)
              go_ret
              exact ⟨rfl, rfl⟩))
set_option maxHeartbeats 1600000 in
theorem end_any (s : ByteArray) (k : Nat) (hk : k ≤ s.size) (hs : s.size ≤ 65536) (w : World) : Calls Tryz.prog 29 #[.string s, .int .i64 k] w fun e w' => e = .returned (.int .i64 ((rE isN s k : Nat) : Int)) ∧ w' = w := by
  go_enter Tryz.func29, Tryz.ntmps29
  go_upto_region 1 with fail
  go_loop [1] (fun v => ∃ j : Nat, v = .int .i64 j ∧ j ≤ s.size ∧ Hid (rE isN s j = rE isN s k)) (fun v => s.size - (intOf v).toNat)
  case atStart => exact ⟨k, rfl, hk, rfl⟩
  case round =>
    obtain ⟨j, rfl, hj, HR⟩ := hrel
    by_cases hl : j < s.size
    · have g1 : decide ((j : Int) < (s.size : Int)) = true := by simp; omega
      have hix := run_bt s j hl w
      have HC := hid (letter_any (bt s j) w)
      have HC2 := hid (digit_any (bt s j) w)
      have hw1 : IntKind.i64.wrap ((j : Int) + 1) = (j : Int) + 1 := by rw [IntKind.wrap_i64]; omega
      have hNN : isN (bt s j) = (isL (bt s j) || isD (bt s j)) := rfl
      have HL := hid hl
      cases hb : isL (bt s j) with
      | true =>
        have HR2 : Hid (rE isN s (j + 1) = rE isN s k) := by rw [← HR.out]; exact (rE_on isN256 (by rw [hNN, hb]; rfl)).symm
        rw [hb] at HC
        clear HR hb hl hk HC2 hNN
        go_wp2_with (go_at_call 28; refine (HC.out).mono ?_; rintro e w5 ⟨rfl, rfl⟩)
        go_round
        case rel => exact ⟨j + 1, by go_num, by have := HL.out; omega, HR2⟩
        case measure => have := HL.out; simp [intOf]; omega
      | false =>
        rw [hb] at HC
        cases hd : isD (bt s j) with
        | true =>
          have HR2 : Hid (rE isN s (j + 1) = rE isN s k) := by rw [← HR.out]; exact (rE_on isN256 (by rw [hNN, hd, Bool.or_true])).symm
          rw [hd] at HC2
          clear HR hb hd hl hk hNN
          go_wp2_with (first | (go_at_call 28; refine (HC.out).mono ?_; rintro e w5 ⟨rfl, rfl⟩) | (go_at_call 26; refine (HC2.out).mono ?_; rintro e w5 ⟨rfl, rfl⟩))
          go_round
          case rel => exact ⟨j + 1, by go_num, by have := HL.out; omega, HR2⟩
          case measure => have := HL.out; simp [intOf]; omega
        | false =>
          have HR2 : Hid (rE isN s k = j) := by rw [← HR.out]; exact rE_end (by rw [hNN, hb, hd]; rfl)
          rw [hd] at HC2
          clear HR hb hd hk hNN
          go_wp2_with (first | (go_at_call 28; refine (HC.out).mono ?_; rintro e w5 ⟨rfl, rfl⟩) | (go_at_call 26; refine (HC2.out).mono ?_; rintro e w5 ⟨rfl, rfl⟩))
          go_ret
          exact ⟨by rw [HR2.out]; rfl, rfl⟩
    · have g1 : decide ((j : Int) < (s.size : Int)) = false := by simp; omega
      have HR2 : Hid (rE isN s k = j) := by rw [← HR.out]; exact rE_end (by rw [bt_out hl, isN256])
      clear HR hk
      go_wp2
      go_ret
      exact ⟨by rw [HR2.out]; rfl, rfl⟩
set_option maxHeartbeats 1600000 in
theorem run_any (s : ByteArray) (k : Nat) (hk : k ≤ s.size) (hs : s.size ≤ 65536) (w : World) : Calls Tryz.prog 52 #[.string s, .int .i64 k] w fun e w' => e = .returned (.string (s.extract k (rE isD s k))) ∧ w' = w := by
  have h1 := rE_ge isD s k
  have h2 := rE_le (p := isD) hk
  go_enter Tryz.func52, Tryz.ntmps52
  go_upto_region 2 with fail
  go_loop [5] (fun v => ∃ j : Nat, v = .int .i64 j ∧ k ≤ j ∧ j ≤ s.size ∧ Hid (rE isD s j = rE isD s k)) (fun v => s.size - (intOf v).toNat)
  case atStart => exact ⟨k, rfl, Nat.le_refl _, hk, rfl⟩
  case round =>
    obtain ⟨j, rfl, hkj, hj, HR⟩ := hrel
    by_cases hl : j < s.size
    · have g1 : decide ((j : Int) < (s.size : Int)) = true := by simp; omega
      have hix := run_bt s j hl w
      have HC2 := hid (digit_any (bt s j) w)
      have hw1 : IntKind.i64.wrap ((j : Int) + 1) = (j : Int) + 1 := by rw [IntKind.wrap_i64]; omega
      have HL := hid hl
      cases hd : isD (bt s j) with
      | true =>
        have HR2 : Hid (rE isD s (j + 1) = rE isD s k) := by rw [← HR.out]; exact (rE_on isD256 hd).symm
        rw [hd] at HC2
        clear HR hd hl hk h1 h2
        go_wp2_with (go_at_call 26; refine (HC2.out).mono ?_; rintro e w5 ⟨rfl, rfl⟩)
        go_round
        case rel => exact ⟨j + 1, by go_num, by omega, by have := HL.out; omega, HR2⟩
        case measure => have := HL.out; simp [intOf]; omega
      | false =>
        have HR2 : Hid (rE isD s k = j) := by rw [← HR.out]; exact rE_end hd
        rw [hd] at HC2
        clear HR hd h1 h2
        go_wp2_with (go_at_call 26; refine (HC2.out).mono ?_; rintro e w5 ⟨rfl, rfl⟩)
        go_ret
        exact ⟨by rw [HR2.out]; rfl, rfl⟩
    · have g1 : decide ((j : Int) < (s.size : Int)) = false := by simp; omega
      have HR2 : Hid (rE isD s k = j) := by rw [← HR.out]; exact rE_end (by rw [bt_out hl, isD256])
      clear HR h1 h2
      go_wp2
      go_ret
      exact ⟨by rw [HR2.out]; rfl, rfl⟩
end Go.Proofs.YtbbankcmeanjaaaGreatDoor
