/-
  Proved here: barredFields returns, for every header, which fields must be 0; no old memory turns. No condition.
-/
import Derived.Test.YthjgndkcijgfmaaDoorW1
namespace Go.Proofs.YthjgndkcijgfmaaDoor
open Go.RowKit

abbrev hv (h : Nat → Int) : Value := .agg #[.int .u64 (h 0), .int .u64 (h 1), .int .u64 (h 2), .int .u64 (h 3), .int .u64 (h 4), .int .u64 (h 5), .int .u64 (h 6), .int .u64 (h 7), .int .u64 (h 8), .int .u64 (h 9), .int .u64 (h 10)]
def b45 (h : Nat → Int) : Bool := !(h 2 == 2048 || h 2 == 2054)
def b6 (h : Nat → Int) : Bool := !(h 2 == 2048)
def b78 (h : Nat → Int) : Bool := !(h 2 == 2048 && portsOk (h 6))
abbrev barV (h : Nat → Int) : Value := .agg #[.bool false, .bool false, .bool false, .bool false, .bool (b45 h), .bool (b45 h), .bool (b6 h), .bool (b78 h), .bool (b78 h), .bool false, .bool false]

set_option maxHeartbeats 400000 in
theorem barred_any (h : Nat → Int) (w : World) :
    Calls Tryd.prog 16 #[hv h] w fun e w' => e = .returned (barV h) ∧ Below w.heap.size w w' := by
  cases h1 : (h 2 == 2048)
  · cases h2 : (h 2 == 2054)
    · have e1 : b45 h = true := by simp [b45, h1, h2]
      have e2 : b6 h = true := by simp [b6, h1]
      have e3 : b78 h = true := by simp [b78, h1]
      rw [show barV h = .agg #[.bool false, .bool false, .bool false, .bool false, .bool true, .bool true, .bool true, .bool true, .bool true, .bool false, .bool false] by simp only [barV, e1, e2, e3]]
      clear e1 e2 e3
      go_enter Tryd.func16, Tryd.ntmps16
      go_wp2
      refine bodyPost_ret (v := .agg #[.bool false, .bool false, .bool false, .bool false, .bool true, .bool true, .bool true, .bool true, .bool true, .bool false, .bool false]) (by simp [results, Tryd.results16, go_sem]) rfl ⟨rfl, ?_⟩
      exact (((Below.refl _ _).alloc (Nat.le_refl _) _).alloc (by simp) _).alloc (by simp; omega) _
    · have e1 : b45 h = false := by simp [b45, h1, h2]
      have e2 : b6 h = true := by simp [b6, h1]
      have e3 : b78 h = true := by simp [b78, h1]
      rw [show barV h = .agg #[.bool false, .bool false, .bool false, .bool false, .bool false, .bool false, .bool true, .bool true, .bool true, .bool false, .bool false] by simp only [barV, e1, e2, e3]]
      clear e1 e2 e3
      go_enter Tryd.func16, Tryd.ntmps16
      go_wp2
      refine bodyPost_ret (v := .agg #[.bool false, .bool false, .bool false, .bool false, .bool false, .bool false, .bool true, .bool true, .bool true, .bool false, .bool false]) (by simp [results, Tryd.results16, go_sem]) rfl ⟨rfl, ?_⟩
      exact (((Below.refl _ _).alloc (Nat.le_refl _) _).alloc (by simp) _).alloc (by simp; omega) _
  · have e1 : b45 h = false := by simp [b45, h1]
    have e2 : b6 h = false := by simp [b6, h1]
    have e3 : b78 h = !portsOk (h 6) := by simp [b78, h1]
    cases hp : portsOk (h 6)
    · rw [show barV h = .agg #[.bool false, .bool false, .bool false, .bool false, .bool false, .bool false, .bool false, .bool true, .bool true, .bool false, .bool false] by simp only [barV, e1, e2, e3, hp]; rfl]
      clear e1 e2 e3
      go_enter Tryd.func16, Tryd.ntmps16
      go_wp2_with (go_at_call 22; refine (hasPorts_any _ _).mono ?_; rintro e w' ⟨rfl, rfl⟩)
      refine bodyPost_ret (v := .agg #[.bool false, .bool false, .bool false, .bool false, .bool false, .bool false, .bool false, .bool true, .bool true, .bool false, .bool false]) (by simp [results, Tryd.results16, go_sem]) rfl ⟨rfl, ?_⟩
      exact (((Below.refl _ _).alloc (Nat.le_refl _) _).alloc (by simp) _).alloc (by simp; omega) _
    · rw [show barV h = .agg #[.bool false, .bool false, .bool false, .bool false, .bool false, .bool false, .bool false, .bool false, .bool false, .bool false, .bool false] by simp only [barV, e1, e2, e3, hp]; rfl]
      clear e1 e2 e3
      go_enter Tryd.func16, Tryd.ntmps16
      go_wp2_with (go_at_call 22; refine (hasPorts_any _ _).mono ?_; rintro e w' ⟨rfl, rfl⟩)
      refine bodyPost_ret (v := .agg #[.bool false, .bool false, .bool false, .bool false, .bool false, .bool false, .bool false, .bool false, .bool false, .bool false, .bool false]) (by simp [results, Tryd.results16, go_sem]) rfl ⟨rfl, ?_⟩
      exact (((Below.refl _ _).alloc (Nat.le_refl _) _).alloc (by simp) _).alloc (by simp; omega) _
end Go.Proofs.YthjgndkcijgfmaaDoor
