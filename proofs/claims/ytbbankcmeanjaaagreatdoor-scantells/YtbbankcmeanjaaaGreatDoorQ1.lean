/-
  Proved here: isDigit, isHexDigit, isNameByte, isBlank, hexValue of package scan tell what bytes are; no memory turns. No condition.
-/
import Derived.Test.YtbbankcmeanjaaaGreatDoorJ3
import Derived.Test.YtbbankcmeanjaaaGreatDoorX0
namespace Go.Proofs.YtbbankcmeanjaaaGreatDoor
set_option maxRecDepth 100000
open Go.RowKit

set_option maxRecDepth 100000
theorem isDigit_any (c : Nat) (w : World) : Calls Tryz.prog 44 #[.int .u8 c] w fun e w' => e = .returned (.bool (isD c)) ∧ w' = w := by
  by_cases h1 : 48 ≤ c
  · by_cases h2 : c ≤ 57
    · have g1 : decide ((48 : Int) ≤ (c : Int)) = true := by simp; omega
      have g2 : decide ((c : Int) ≤ (57 : Int)) = true := by simp; omega
      have hr : isD c = true := by simp [isD, h1, h2]
      rw [hr]
      go_enter Tryz.func44, Tryz.ntmps44
      go_wp2
      go_ret
      exact ⟨rfl, rfl⟩
    · have g1 : decide ((48 : Int) ≤ (c : Int)) = true := by simp; omega
      have g2 : decide ((c : Int) ≤ (57 : Int)) = false := by simp; omega
      have hr : isD c = false := by simp [isD, h1, h2]
      rw [hr]
      go_enter Tryz.func44, Tryz.ntmps44
      go_wp2
      go_ret
      exact ⟨rfl, rfl⟩
  · have g1 : decide ((48 : Int) ≤ (c : Int)) = false := by simp; omega
    have hr : isD c = false := by simp [isD, h1]
    rw [hr]
    go_enter Tryz.func44, Tryz.ntmps44
    go_wp2
    go_ret
    exact ⟨rfl, rfl⟩
theorem isHexDigit_any (c : Nat) (w : World) : Calls Tryz.prog 19 #[.int .u8 c] w fun e w' => e = .returned (.bool (isH c)) ∧ w' = w := by
  have HD := hid (isDigit_any c w)
  have hr : isH c = (isD c || (decide ((97 : Int) ≤ (c : Int)) && decide ((c : Int) ≤ (102 : Int))) || (decide ((65 : Int) ≤ (c : Int)) && decide ((c : Int) ≤ (70 : Int)))) := by
    rw [Bool.eq_iff_iff, isH_iff]; simp [isD]; omega
  rw [hr]; clear hr
  cases h0 : isD c <;> cases h1 : decide ((97 : Int) ≤ (c : Int)) <;> cases h2 : decide ((c : Int) ≤ (102 : Int)) <;> cases h3 : decide ((65 : Int) ≤ (c : Int)) <;> cases h4 : decide ((c : Int) ≤ (70 : Int)) <;>
    (go_enter Tryz.func19, Tryz.ntmps19
     go_wp2_with (go_at_call 44; refine (HD.out).mono ?_; rintro e w' ⟨rfl, rfl⟩)
     go_ret
     exact ⟨rfl, rfl⟩)
theorem isNameByte_any (c : Nat) (w : World) : Calls Tryz.prog 21 #[.int .u8 c] w fun e w' => e = .returned (.bool (isN c)) ∧ w' = w := by
  have HD := hid (isDigit_any c w)
  have hr : isN c = (isD c || (decide ((97 : Int) ≤ (c : Int)) && decide ((c : Int) ≤ (122 : Int))) || (decide ((65 : Int) ≤ (c : Int)) && decide ((c : Int) ≤ (90 : Int))) || ((c : Int) == 95)) := by
    rw [Bool.eq_iff_iff, isN_iff]; simp [isD]; omega
  rw [hr]; clear hr
  cases h0 : isD c <;> cases h1 : decide ((97 : Int) ≤ (c : Int)) <;> cases h2 : decide ((c : Int) ≤ (122 : Int)) <;> cases h3 : decide ((65 : Int) ≤ (c : Int)) <;> cases h4 : decide ((c : Int) ≤ (90 : Int)) <;>
    (go_enter Tryz.func21, Tryz.ntmps21
     go_wp2_with (go_at_call 44; refine (HD.out).mono ?_; rintro e w' ⟨rfl, rfl⟩)
     go_ret
     exact ⟨rfl, rfl⟩)
theorem isBlank_any (c : Nat) (w : World) : Calls Tryz.prog 10 #[.int .i32 c] w fun e w' => e = .returned (.bool (blk c)) ∧ w' = w := by
  have hr : blk c = (((c : Int) == 32) || ((c : Int) == 9) || ((c : Int) == 10) || ((c : Int) == 13)) := by
    rw [Bool.eq_iff_iff, blk_iff]; simp; omega
  rw [hr]; clear hr
  cases h1 : ((c : Int) == 32) <;> cases h2 : ((c : Int) == 9) <;> cases h3 : ((c : Int) == 10) <;> cases h4 : ((c : Int) == 13) <;>
    (go_enter Tryz.func10, Tryz.ntmps10
     go_wp2
     go_ret
     exact ⟨rfl, rfl⟩)
end Go.Proofs.YtbbankcmeanjaaaGreatDoor
