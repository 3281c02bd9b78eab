/-
  Proved here: AirNil's body says true. No condition.
-/
import Derived.Test.YthgkmbdnkamcoaaWK
namespace Go.Proofs.Ythgkmbdnkamcoaa
open Go.RowKit

set_option maxRecDepth 100000 in
theorem put_nil (w : World) (ao : Option Addr) (n c : Nat) : Calls Try.prog 11 #[.pointer none, .slice ao n c] w fun e w' => e = .returned (.tuple #[]) ∧ w' = w := by
  go_enter Try.func11, Try.ntmps11
  go_wp2
  first | go_end0 | refine bodyPost_ret (results_none rfl _ _ _) rfl ?_
  exact ⟨rfl, rfl⟩
set_option maxRecDepth 100000 in
theorem do_nil (w : World) (x y : Int) : Calls Try.prog 16 #[.pointer none, .int .u8 x, .int .i64 y] w fun e w' => e = .returned (.int .i64 1) ∧ w' = w := by
  go_enter Try.func16, Try.ntmps16
  go_wp2
  go_ret
  exact ⟨rfl, rfl⟩
set_option maxRecDepth 100000 in
theorem came_nil (w : World) : Calls Try.prog 13 #[.pointer none] w fun e w' => e = .returned (.slice none 0 0) ∧ w' = w := by
  go_enter Try.func13, Try.ntmps13
  go_wp2
  go_ret
  exact ⟨rfl, rfl⟩
set_option maxHeartbeats 800000 in
set_option maxRecDepth 100000 in
theorem nil_any (w : World) (u : Value) (x y : Int) (hu : ∃ ao n c, u = .slice ao n c) : Calls Try.prog 4 #[u, .int .u8 x, .int .i64 y] w fun e w' => e = .returned (.bool true) ∧ Below w.heap.size w w' := by
  obtain ⟨ao, n, c, rfl⟩ := hu
  have H1 := hid (put_nil w ao n c)
  have H2 := hid (do_nil w x y)
  have H3 := hid (came_nil w)
  have H4 := hid (wakes_any w)
  go_enter Try.func4, Try.ntmps4
  go_wp2_with (first
    | (go_at_call 11; refine (H1.out).mono ?_; rintro e w1 ⟨rfl, rfl⟩)
    | (go_at_call 16; refine (H2.out).mono ?_; rintro e w2 ⟨rfl, rfl⟩)
    | (go_at_call 13; refine (H3.out).mono ?_; rintro e w3 ⟨rfl, rfl⟩)
    | (go_at_call 9; refine (H4.out).mono ?_; rintro e w4 ⟨rfl, hb⟩; have HB := hid hb; clear hb))
  go_ret
  exact ⟨rfl, HB.out⟩
end Go.Proofs.Ythgkmbdnkamcoaa
