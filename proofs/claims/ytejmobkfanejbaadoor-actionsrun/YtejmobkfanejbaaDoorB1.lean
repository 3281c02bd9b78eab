/-
  Proved here: isField, fits, maySet and isAction of package actions tell what the plain functions say; no old memory turns. Condition: the widths' table holds its eleven numbers.
-/
import Derived.Test.YtejmobkfanejbaaDoorA2
namespace Go.Proofs.YtejmobkfanejbaaDoor
open Go.RowKit

theorem widV_bd (f : Int) : 0 ≤ widV f ∧ widV f ≤ 48 := by
  unfold widV; split
  · exact wid_bd _
  · omega
theorem isField_any (f : Int) (w : World) (hw : Tab w) : Calls Tryd.prog 32 #[.int .i8 f] w fun e w' => e = .returned (.bool (isF f)) ∧ w' = w := by
  have HC := hid (width_any f w hw)
  have HI : Hid (isF f = (widV f != 0)) := rfl
  generalize widV f = x at HC HI
  rw [HI.out]
  clear HI hw
  go_enter Tryd.func32, Tryd.ntmps32
  go_wp2_with (go_at_call 19; refine (HC.out).mono ?_; rintro e w' ⟨rfl, rfl⟩)
  go_ret
  exact ⟨rfl, rfl⟩
theorem fits_any (f n : Int) (hn : InB n) (w : World) (hw : Tab w) : Calls Tryd.prog 36 #[.int .i8 f, .int .u64 n] w fun e w' => e = .returned (.bool (fits f n)) ∧ w' = w := by
  have HC := hid (width_any f w hw)
  have hbd := widV_bd f
  have HI : Hid (fits f n = (n / 2 ^ (widV f).toNat == 0)) := rfl
  generalize widV f = x at HC HI hbd
  rw [HI.out]
  obtain ⟨h0, h1⟩ := hn
  clear HI hw
  go_enter Tryd.func36, Tryd.ntmps36
  go_wp2_with (go_at_call 19; refine (HC.out).mono ?_; rintro e w' ⟨rfl, rfl⟩)
  go_ret
  exact ⟨rfl, rfl⟩
theorem maySet_any (f : Int) (w : World) (hw : Tab w) : Calls Tryd.prog 35 #[.int .i8 f] w fun e w' => e = .returned (.bool (mayF f)) ∧ w' = w := by
  have HC := hid (isField_any f w hw)
  clear hw
  by_cases h : f = 9 ∨ f = 10 ∨ f = 2 ∨ f = 6
  · have e : mayF f = false := by unfold mayF; rcases h with rfl | rfl | rfl | rfl <;> rfl
    rw [e]
    rcases h with rfl | rfl | rfl | rfl
    all_goals
      go_enter Tryd.func35, Tryd.ntmps35
      go_wp2
      go_ret
      exact ⟨rfl, rfl⟩
  · have t0 : (f == 9) = false := beq_eq_false_iff_ne.2 (by omega)
    have t1 : (f == 10) = false := beq_eq_false_iff_ne.2 (by omega)
    have t2 : (f == 2) = false := beq_eq_false_iff_ne.2 (by omega)
    have t3 : (f == 6) = false := beq_eq_false_iff_ne.2 (by omega)
    have e : mayF f = isF f := by unfold mayF; rw [t0, t1, t2, t3]; rfl
    rw [e]
    clear h e
    generalize isF f = b at HC
    go_enter Tryd.func35, Tryd.ntmps35
    go_wp2_with (go_at_call 32; refine (HC.out).mono ?_; rintro e w' ⟨rfl, rfl⟩)
    go_ret
    exact ⟨rfl, rfl⟩
/-- An action as a value. -/
abbrev acv (a : Ac) : Value := .agg #[.int .i8 a.dw, .int .i8 a.fd, .int .u64 a.n]
theorem isAc_0 {a : Ac} (h : a.dw = 0) : isAc a = (mayF a.fd && fits a.fd a.n) := by unfold isAc; rw [if_pos h]
theorem isAc_1 {a : Ac} (h : a.dw = 1) : isAc a = (a.fd == 0 && fits 9 a.n) := by unfold isAc; rw [if_neg (by omega), if_pos h]
theorem isAc_2 {a : Ac} (h : a.dw = 2) : isAc a = (a.fd == 0 && a.n == 0) := by unfold isAc; rw [if_neg (by omega), if_neg (by omega), if_pos h]
theorem isAc_no {a : Ac} (h0 : a.dw ≠ 0) (h1 : a.dw ≠ 1) (h2 : a.dw ≠ 2) : isAc a = false := by unfold isAc; rw [if_neg h0, if_neg h1, if_neg h2]
set_option maxHeartbeats 1600000 in
theorem isAction_any (a : Ac) (ha : a.Fit) (w : World) (hw : Tab w) : Calls Tryd.prog 30 #[acv a] w fun e w' => e = .returned (.bool (isAc a)) ∧ Below w.heap.size w w' := by
  obtain ⟨d, f, n⟩ := a
  obtain ⟨-, -, hn⟩ := ha
  have hlow : Below w.heap.size w (w.alloc (.cells #[.int .i8 d, .int .i8 f, .int .u64 n] 48)) := (Below.refl _ _).alloc (Nat.le_refl _) _
  have HL := hid hlow
  have hT := hw.on hlow
  have HM := hid (maySet_any f _ hT)
  have HF := hid (fits_any f n hn _ hT)
  have HF9 := hid (fits_any 9 n hn _ hT)
  clear hw hT hlow hn
  by_cases h0 : d = 0
  · subst h0
    rw [isAc_0 rfl]
    cases hm : mayF f
    · rw [hm] at HM
      go_enter Tryd.func30, Tryd.ntmps30
      go_wp2_with (go_at_call 35; refine (HM.out).mono ?_; rintro e w' ⟨rfl, rfl⟩)
      go_ret
      exact ⟨rfl, HL.out⟩
    · rw [hm] at HM
      generalize fits f n = b at HF
      go_enter Tryd.func30, Tryd.ntmps30
      go_wp2_with (first
        | (go_at_call 35; refine (HM.out).mono ?_; rintro e w' ⟨rfl, rfl⟩)
        | (go_at_call 36; refine (HF.out).mono ?_; rintro e w' ⟨rfl, rfl⟩))
      go_ret
      exact ⟨rfl, HL.out⟩
  · have t0 : (d == 0) = false := beq_eq_false_iff_ne.2 h0
    by_cases h1 : d = 1
    · subst h1
      rw [isAc_1 rfl]
      by_cases hf : f = 0
      · subst hf
        generalize fits 9 n = b at HF9
        go_enter Tryd.func30, Tryd.ntmps30
        go_wp2_with (first
          | (go_at_call 36; refine (HF9.out).mono ?_; rintro e w' ⟨rfl, rfl⟩))
        go_ret
        exact ⟨rfl, HL.out⟩
      · have tf : (f == 0) = false := beq_eq_false_iff_ne.2 hf
        go_enter Tryd.func30, Tryd.ntmps30
        go_wp2
        go_ret
        exact ⟨by simp [tf], HL.out⟩
    · have t1 : (d == 1) = false := beq_eq_false_iff_ne.2 h1
      by_cases h2 : d = 2
      · subst h2
        rw [isAc_2 rfl]
        by_cases hf : f = 0
        · subst hf
          go_enter Tryd.func30, Tryd.ntmps30
          go_wp2
          go_ret
          exact ⟨rfl, HL.out⟩
        · have tf : (f == 0) = false := beq_eq_false_iff_ne.2 hf
          go_enter Tryd.func30, Tryd.ntmps30
          go_wp2
          go_ret
          exact ⟨by simp [tf], HL.out⟩
      · have t2 : (d == 2) = false := beq_eq_false_iff_ne.2 h2
        rw [isAc_no h0 h1 h2]
        go_enter Tryd.func30, Tryd.ntmps30
        go_wp2
        go_ret
        exact ⟨rfl, HL.out⟩
end Go.Proofs.YtejmobkfanejbaaDoor
