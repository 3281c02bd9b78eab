/-
  Proved here: isDigit, isLetter, isName of package policy. No condition.
-/
import Derived.Test.YtjallmncajhamaaDoorT3
import Derived.Test.YtjallmncajhamaaDoorJ1
namespace Go.Proofs.YtjallmncajhamaaDoor
open Go.RowKit
set_option maxRecDepth 100000

theorem run_bt (s : ByteArray) (k : Nat) (h : k < s.size) (W : World) : (Instr.index 9 (.string s) (.int .i64 (k : Int))).run Tryd.prog W = .ok (.int .u8 ((bt s k : Nat) : Int)) W := by
  rw [run_index_string W 9 s .i64 k Tryd.underlying9, dif_pos (by omega), bt_in h]; rfl
theorem bt_list (s : ByteArray) (i : Nat) : bt s i = ((s.data.toList[i]?).map (·.toNat)).getD 256 := by
  by_cases h : i < s.size
  · rw [bt_in h]
    have hd : i < s.data.size := h
    rw [Array.getElem?_toList, Array.getElem?_eq_getElem hd]; rfl
  · rw [bt_out h]
    have hd : ¬ i < s.data.size := h
    rw [Array.getElem?_toList, Array.getElem?_eq_none (by omega)]; rfl
theorem size_list (s : ByteArray) : s.size = s.data.toList.length := by cases s; simp [ByteArray.size]
theorem str_t {s t : ByteArray} (h : decide (s = t) = true) : (s.toList == t.toList) = true := by rw [of_decide_eq_true h]; exact beq_self_eq_true _
theorem str_f {s t : ByteArray} (h : decide (s = t) = false) : (s.toList == t.toList) = false := by
  rw [Bool.eq_false_iff]; intro e
  have e' : s.toList = t.toList := eq_of_beq e
  rw [ByteArray.toList_eq, ByteArray.toList_eq] at e'
  exact of_decide_eq_false h (ByteArray.ext (Array.ext' e'))
theorem str_b {s t : ByteArray} {b : Bool} (h : decide (s = t) = b) : (s.toList == t.toList) = b := by
  cases b
  · exact str_f h
  · exact str_t h
theorem dig8_any (c : Nat) (w : World) : Calls Tryd.prog 94 #[.int .u8 ((c : Nat) : Int)] w fun e w' => e = .returned (.bool (isD c)) ∧ w' = w := by
  by_cases h1 : 48 ≤ c
  · have g1 : decide ((48 : Int) ≤ (c : Int)) = true := decide_eq_true (by omega)
    have hk : isD c = decide ((c : Int) ≤ 57) := by
      unfold isD; rw [decide_eq_true h1, Bool.true_and]; exact decide_eq_decide.2 (by omega)
    rw [hk]
    clear h1 hk
    go_enter Tryd.func94, Tryd.ntmps94
    go_wp2
    go_ret
    exact ⟨rfl, rfl⟩
  · have g1 : decide ((48 : Int) ≤ (c : Int)) = false := decide_eq_false (by omega)
    have hk : isD c = false := by unfold isD; rw [decide_eq_false h1, Bool.false_and]
    rw [hk]
    clear h1 hk
    go_enter Tryd.func94, Tryd.ntmps94
    go_wp2
    go_ret
    exact ⟨rfl, rfl⟩
set_option maxHeartbeats 3200000 in
theorem let8_any (c : Nat) (w : World) : Calls Tryd.prog 95 #[.int .u8 ((c : Nat) : Int)] w fun e w' => e = .returned (.bool (isL c)) ∧ w' = w := by
  obtain ⟨r, hr⟩ : ∃ r, r = isL c := ⟨_, rfl⟩
  rw [← hr]
  have HR2 : Hid (r = true ↔ ((65 ≤ c ∧ c ≤ 90) ∨ (97 ≤ c ∧ c ≤ 122) ∨ c = 95)) := by
    show _ ↔ _
    rw [hr, isL_iff]
  clear hr
  by_cases h1 : 97 ≤ c
  · have g1 : decide ((97 : Int) ≤ (c : Int)) = true := decide_eq_true (by omega)
    by_cases h2 : c ≤ 122
    · have g2 : decide ((c : Int) ≤ 122) = true := decide_eq_true (by omega)
      obtain rfl : r = true := by exact HR2.out.2 (by omega)
      clear HR2
      go_enter Tryd.func95, Tryd.ntmps95
      go_wp2
      go_ret
      exact ⟨rfl, rfl⟩
    · have g2 : decide ((c : Int) ≤ 122) = false := decide_eq_false (by omega)
      by_cases k1 : 65 ≤ c
      · have g3 : decide ((65 : Int) ≤ (c : Int)) = true := decide_eq_true (by omega)
        by_cases k2 : c ≤ 90
        · have g4 : decide ((c : Int) ≤ 90) = true := decide_eq_true (by omega)
          obtain rfl : r = true := by exact HR2.out.2 (by omega)
          clear HR2
          go_enter Tryd.func95, Tryd.ntmps95
          go_wp2
          go_ret
          exact ⟨rfl, rfl⟩
        · have g4 : decide ((c : Int) ≤ 90) = false := decide_eq_false (by omega)
          by_cases k5 : c = 95
          · have g5 : (((c : Nat) : Int) == 95) = true := by rw [k5]; rfl
            obtain rfl : r = true := by exact HR2.out.2 (by omega)
            clear HR2
            go_enter Tryd.func95, Tryd.ntmps95
            go_wp2
            go_ret
            exact ⟨rfl, rfl⟩
          · have g5 : (((c : Nat) : Int) == 95) = false := beq_eq_false_iff_ne.2 (by omega)
            obtain rfl : r = false := by rcases Bool.eq_false_or_eq_true r with h | h; exact absurd (HR2.out.1 h) (by omega); exact h
            clear HR2
            go_enter Tryd.func95, Tryd.ntmps95
            go_wp2
            go_ret
            exact ⟨rfl, rfl⟩
      · have g3 : decide ((65 : Int) ≤ (c : Int)) = false := decide_eq_false (by omega)
        by_cases k5 : c = 95
        · have g5 : (((c : Nat) : Int) == 95) = true := by rw [k5]; rfl
          obtain rfl : r = true := by exact HR2.out.2 (by omega)
          clear HR2
          go_enter Tryd.func95, Tryd.ntmps95
          go_wp2
          go_ret
          exact ⟨rfl, rfl⟩
        · have g5 : (((c : Nat) : Int) == 95) = false := beq_eq_false_iff_ne.2 (by omega)
          obtain rfl : r = false := by rcases Bool.eq_false_or_eq_true r with h | h; exact absurd (HR2.out.1 h) (by omega); exact h
          clear HR2
          go_enter Tryd.func95, Tryd.ntmps95
          go_wp2
          go_ret
          exact ⟨rfl, rfl⟩
  · have g1 : decide ((97 : Int) ≤ (c : Int)) = false := decide_eq_false (by omega)
    by_cases k1 : 65 ≤ c
    · have g3 : decide ((65 : Int) ≤ (c : Int)) = true := decide_eq_true (by omega)
      by_cases k2 : c ≤ 90
      · have g4 : decide ((c : Int) ≤ 90) = true := decide_eq_true (by omega)
        obtain rfl : r = true := by exact HR2.out.2 (by omega)
        clear HR2
        go_enter Tryd.func95, Tryd.ntmps95
        go_wp2
        go_ret
        exact ⟨rfl, rfl⟩
      · have g4 : decide ((c : Int) ≤ 90) = false := decide_eq_false (by omega)
        by_cases k5 : c = 95
        · have g5 : (((c : Nat) : Int) == 95) = true := by rw [k5]; rfl
          obtain rfl : r = true := by exact HR2.out.2 (by omega)
          clear HR2
          go_enter Tryd.func95, Tryd.ntmps95
          go_wp2
          go_ret
          exact ⟨rfl, rfl⟩
        · have g5 : (((c : Nat) : Int) == 95) = false := beq_eq_false_iff_ne.2 (by omega)
          obtain rfl : r = false := by rcases Bool.eq_false_or_eq_true r with h | h; exact absurd (HR2.out.1 h) (by omega); exact h
          clear HR2
          go_enter Tryd.func95, Tryd.ntmps95
          go_wp2
          go_ret
          exact ⟨rfl, rfl⟩
    · have g3 : decide ((65 : Int) ≤ (c : Int)) = false := decide_eq_false (by omega)
      by_cases k5 : c = 95
      · have g5 : (((c : Nat) : Int) == 95) = true := by rw [k5]; rfl
        obtain rfl : r = true := by exact HR2.out.2 (by omega)
        clear HR2
        go_enter Tryd.func95, Tryd.ntmps95
        go_wp2
        go_ret
        exact ⟨rfl, rfl⟩
      · have g5 : (((c : Nat) : Int) == 95) = false := beq_eq_false_iff_ne.2 (by omega)
        obtain rfl : r = false := by rcases Bool.eq_false_or_eq_true r with h | h; exact absurd (HR2.out.1 h) (by omega); exact h
        clear HR2
        go_enter Tryd.func95, Tryd.ntmps95
        go_wp2
        go_ret
        exact ⟨rfl, rfl⟩
/-- a query's name -/
def nmB (t : ByteArray) : Bool := decide (0 < t.size) && decide (t.size ≤ 32) && !isD (bt t 0) && t.data.toList.all (fun c => isN c.toNat)
theorem nmB_no {s : ByteArray} {j : Nat} (hj : j < s.size) (h : isN (bt s j) = false) : nmB s = false := by
  cases hn : nmB s with
  | false => rfl
  | true =>
    unfold nmB at hn
    simp only [Bool.and_eq_true, decide_eq_true_eq, Bool.not_eq_true', List.all_eq_true] at hn
    have hl : j < s.data.toList.length := by rw [← size_list]; exact hj
    have := hn.2 _ (List.getElem_mem hl)
    have e : bt s j = (s.data.toList[j]).toNat := by rw [bt_list, List.getElem?_eq_getElem hl]; rfl
    rw [← e, h] at this
    cases this
theorem nmB_yes {s : ByteArray} (h0 : 0 < s.size) (h1 : s.size ≤ 32) (hd : isD (bt s 0) = false) (h : ∀ j, j < s.size → isN (bt s j) = true) : nmB s = true := by
  have ha : s.data.toList.all (fun c => isN c.toNat) = true := by
    rw [List.all_eq_true]
    intro c hc
    obtain ⟨k, hk, rfl⟩ := List.mem_iff_getElem.1 hc
    have := h k (by rw [size_list]; exact hk)
    rw [bt_list, List.getElem?_eq_getElem hk] at this
    exact this
  unfold nmB; rw [hd, ha, decide_eq_true h0, decide_eq_true h1]; rfl
set_option maxHeartbeats 1600000 in
theorem name8_any (s : ByteArray) (w : World) : Calls Tryd.prog 62 #[.string s] w fun e w' => e = .returned (.bool (nmB s)) ∧ w' = w := by
  obtain ⟨r, hr⟩ : ∃ r, r = nmB s := ⟨_, rfl⟩
  rw [← hr]
  have HR := hid hr
  clear hr
  by_cases h0 : s.size = 0
  · have hs : s = ⟨#[]⟩ := ByteArray.ext (Array.eq_empty_of_size_eq_zero h0)
    obtain rfl : r = false := by rw [HR.out, hs]; rfl
    have g0' : (s.toList == []) = true := by rw [hs, ByteArray.toList_eq]; rfl
    clear HR h0
    clear hs
    go_enter Tryd.func62, Tryd.ntmps62
    go_wp2
    go_ret
    exact ⟨rfl, rfl⟩
  have g0 : (s.toList == []) = false := by
    have := str_b (b := false) (decide_eq_false (show ¬ s = ⟨#[]⟩ from fun e => h0 (by rw [e]; rfl)))
    rw [show (⟨#[]⟩ : ByteArray).toList = [] by rw [ByteArray.toList_eq]] at this
    exact this
  by_cases h1 : 32 < s.size
  · have g1 : decide ((32 : Int) < (s.size : Int)) = true := decide_eq_true (by omega)
    obtain rfl : r = false := by rw [HR.out]; unfold nmB; rw [decide_eq_false (show ¬ s.size ≤ 32 by omega)]; simp
    clear HR
    go_enter Tryd.func62, Tryd.ntmps62
    go_wp2
    go_ret
    exact ⟨rfl, rfl⟩
  have g1 : decide ((32 : Int) < (s.size : Int)) = false := decide_eq_false (by omega)
  have hp : 0 < s.size := by omega
  have hix : (Instr.index 9 (.string s) (.int .i64 0)).run Tryd.prog w = .ok (.int .u8 ((bt s 0 : Nat) : Int)) w := run_bt s 0 hp w
  have HD := hid (dig8_any (bt s 0) w)
  cases hd : isD (bt s 0) with
  | true =>
    obtain rfl : r = false := by rw [HR.out]; unfold nmB; rw [hd]; simp
    rw [hd] at HD
    clear HR hd
    generalize bt s 0 = c at hix HD
    go_enter Tryd.func62, Tryd.ntmps62
    go_wp2_with (go_at_call 94; refine (HD.out).mono ?_; rintro e w' ⟨rfl, rfl⟩)
    go_ret
    exact ⟨rfl, rfl⟩
  | false =>
    have HR2 : Hid ((∀ j, j < s.size → isN (bt s j) = true) → r = true) := fun h => by rw [HR.out]; exact nmB_yes hp (by omega) hd h
    rw [hd] at HD
    clear hd
    generalize bt s 0 = c0 at hix HD
    go_enter Tryd.func62, Tryd.ntmps62
    go_upto_region 4 with (go_at_call 94; refine (HD.out).mono ?_; rintro e w' ⟨rfl, hw⟩; rw [hw]; clear hw w')
    clear hix HD g0
    go_loop [18] (fun v => ∃ j : Nat, v = .int .i64 ((j : Nat) : Int) ∧ j ≤ s.size ∧ Hid (∀ i, i < j → isN (bt s i) = true)) (fun v => s.size - (intOf v).toNat)
    case atStart => exact ⟨0, rfl, by omega, fun i hi => by omega⟩
    case round =>
      obtain ⟨j, rfl, hj, HS⟩ := hrel
      by_cases hl : j < s.size
      · have gl : decide ((j : Int) < (s.size : Int)) = true := decide_eq_true (by omega)
        have hix := run_bt s j hl w
        have hw1 : IntKind.i64.wrap ((j : Int) + 1) = (j : Int) + 1 := by rw [IntKind.wrap_i64]; omega
        have HB := hid (let8_any (bt s j) w)
        have HB2 := hid (dig8_any (bt s j) w)
        have HNo : Hid (isN (bt s j) = false → r = false) := fun hb => by rw [HR.out]; exact nmB_no hl hb
        have HYe : Hid (isN (bt s j) = true → ∀ i, i < j + 1 → isN (bt s i) = true) := fun hb i hi => by
          rcases Nat.lt_or_eq_of_le (Nat.lt_succ_iff.1 hi) with h | h
          · exact HS.out i h
          · rw [h]; exact hb
        cases hb : isL (bt s j) with
        | true =>
          have HS2 := hid (HYe.out (by unfold isN; rw [hb]; rfl))
          rw [hb] at HB
          clear HS hb HB2 HNo HYe
          generalize bt s j = c at hix HB
          go_wp2_with (go_at_call 95; refine (HB.out).mono ?_; rintro e w' ⟨rfl, rfl⟩)
          go_round
          case rel => exact ⟨j + 1, by go_num, by omega, HS2⟩
          case measure => simp [intOf]; omega
        | false =>
          cases hb2 : isD (bt s j) with
          | true =>
            have HS2 := hid (HYe.out (by unfold isN; rw [hb, hb2]; rfl))
            rw [hb] at HB
            rw [hb2] at HB2
            clear HS hb hb2 HNo HYe
            generalize bt s j = c at hix HB HB2
            go_wp2_with (first
              | (go_at_call 95; refine (HB.out).mono ?_; rintro e w' ⟨rfl, hw⟩; rw [hw]; clear hw w' HB)
              | (go_at_call 94; refine (HB2.out).mono ?_; rintro e w' ⟨rfl, hw⟩; rw [hw]; clear hw w'))
            go_round
            case rel => exact ⟨j + 1, by go_num, by omega, HS2⟩
            case measure => simp [intOf]; omega
          | false =>
            obtain rfl : r = false := HNo.out (by unfold isN; rw [hb, hb2]; rfl)
            rw [hb] at HB
            rw [hb2] at HB2
            clear HR HR2 HS hb hb2 HNo HYe
            generalize bt s j = c at hix HB HB2
            go_wp2_with (first
              | (go_at_call 95; refine (HB.out).mono ?_; rintro e w' ⟨rfl, hw⟩; rw [hw]; clear hw w' HB)
              | (go_at_call 94; refine (HB2.out).mono ?_; rintro e w' ⟨rfl, hw⟩; rw [hw]; clear hw w'))
            go_ret
            exact ⟨rfl, rfl⟩
      · obtain rfl : j = s.size := by omega
        have gl : decide ((s.size : Int) < (s.size : Int)) = false := by simp
        obtain rfl : r = true := HR2.out HS.out
        clear HR HR2 HS
        go_wp2
        go_ret
        exact ⟨rfl, rfl⟩
end Go.Proofs.YtjallmncajhamaaDoor
