/-
  Proved here: the document's Width and Fits answer what 'widV' and the widths say, for every argument; no world turns. No condition.
-/
import Derived.Test.YthjgndkcijgfmaaDoorW9
namespace Go.Proofs.YthjgndkcijgfmaaDoor
open Go.RowKit

set_option maxHeartbeats 1600000 in
theorem rwidth_in (f : Int) (hf : f = 0 ∨ f = 1 ∨ f = 2 ∨ f = 3 ∨ f = 4 ∨ f = 5 ∨ f = 6 ∨ f = 7 ∨ f = 8 ∨ f = 9 ∨ f = 10) (w : World) :
    Calls Tryd.prog 13 #[.int .i8 f] w fun e w' => e = .returned (.int .i64 (widV f)) ∧ w' = w := by
  rcases hf with rfl | rfl | rfl | rfl | rfl | rfl | rfl | rfl | rfl | rfl | rfl
  all_goals
    go_enter Tryd.func13, Tryd.ntmps13
    go_wp2
    go_ret
    exact ⟨rfl, rfl⟩

set_option maxHeartbeats 1600000 in
theorem rwidth_out (f : Int) (hf : f < 0 ∨ 10 < f) (w : World) :
    Calls Tryd.prog 13 #[.int .i8 f] w fun e w' => e = .returned (.int .i64 (widV f)) ∧ w' = w := by
  have e0 : widV f = 0 := by unfold widV; rw [if_neg (by omega)]
  rw [e0]
  have t0 : (f == 0) = false := beq_eq_false_iff_ne.2 (by omega)
  have t1 : (f == 1) = false := beq_eq_false_iff_ne.2 (by omega)
  have t2 : (f == 2) = false := beq_eq_false_iff_ne.2 (by omega)
  have t3 : (f == 3) = false := beq_eq_false_iff_ne.2 (by omega)
  have t4 : (f == 4) = false := beq_eq_false_iff_ne.2 (by omega)
  have t5 : (f == 5) = false := beq_eq_false_iff_ne.2 (by omega)
  have t6 : (f == 6) = false := beq_eq_false_iff_ne.2 (by omega)
  have t7 : (f == 7) = false := beq_eq_false_iff_ne.2 (by omega)
  have t8 : (f == 8) = false := beq_eq_false_iff_ne.2 (by omega)
  have t9 : (f == 9) = false := beq_eq_false_iff_ne.2 (by omega)
  have t10 : (f == 10) = false := beq_eq_false_iff_ne.2 (by omega)
  clear hf e0
  go_enter Tryd.func13, Tryd.ntmps13
  go_wp2
  go_ret
  exact ⟨rfl, rfl⟩

/-- The document's Width. -/
theorem rwidth_any (f : Int) (w : World) : Calls Tryd.prog 13 #[.int .i8 f] w fun e w' => e = .returned (.int .i64 (widV f)) ∧ w' = w := by
  by_cases h : f < 0 ∨ 10 < f
  · exact rwidth_out f h w
  · exact rwidth_in f (by omega) w

theorem widV_nat (k : Nat) (hk : k < 11) : widV (k : Int) = wid k := by
  unfold widV; rw [if_pos (by omega)]; simp
theorem wid_pos (k : Nat) (hk : k < 11) : 0 < wid k := by
  have hk' : k = 0 ∨ k = 1 ∨ k = 2 ∨ k = 3 ∨ k = 4 ∨ k = 5 ∨ k = 6 ∨ k = 7 ∨ k = 8 ∨ k = 9 ∨ k = 10 := by omega
  rcases hk' with rfl | rfl | rfl | rfl | rfl | rfl | rfl | rfl | rfl | rfl | rfl <;> decide
def tooWide (h : Nat → Int) (k : Nat) : Bool := !(h k / 2 ^ (wid k).toNat == 0)

set_option maxHeartbeats 400000 in
theorem fits_any (k : Nat) (hk : k < 11) (n : Int) (w : World) :
    Calls Tryd.prog 17 #[.int .i8 (k : Int), .int .u64 n] w fun e w' => e = .returned (.bool (n / 2 ^ (wid k).toNat == 0)) ∧ w' = w := by
  have c := rwidth_any (k : Int) w
  rw [widV_nat k hk] at c
  have C := Lib.hid c
  have h0 := wid_pos k hk
  have h1 := (wid_bd k).2
  clear c
  go_enter Tryd.func17, Tryd.ntmps17
  go_wp2_with (go_at_call 13; refine (C.out).mono ?_; rintro e w' ⟨rfl, rfl⟩)
  go_ret
  exact ⟨rfl, rfl⟩
end Go.Proofs.YthjgndkcijgfmaaDoor
