/-
  Proved here: ArpAsks's body returns true for every address and numbers; no old memory turns. Condition: the widths' table holds its eleven numbers; the numbers are unsigned, of 64, 32 and 32 bits.
-/
import Derived.Test.YtioohgcaakcgaaaDoorJ7
namespace Go.Proofs.YtioohgcaakcgaaaDoor
open Go.RowKit

set_option maxHeartbeats 800000 in
/-- ArpAsks. -/
theorem asks_any (mac f t : Int) (w : World) (hw : Tab w) (m0 : 0 ≤ mac) (m1 : mac < 18446744073709551616) (f0 : 0 ≤ f) (f1 : f < 4294967296) (t0 : 0 ≤ t) (t1 : t < 4294967296) :
    Calls Tryd.prog 3 #[.int .u64 mac, .int .u32 f, .int .u32 t] w fun e w' => e = .returned (.bool true) ∧ Below w.heap.size w w' := by
  have HT : Hid (Tab w) := hw
  clear hw
  go_enter Tryd.func3, Tryd.ntmps3
  go_wp2_with fail
  go_fit (ask_any mac f t w HT.out m0 f0 f1 t0 t1)
  rintro e w1 ⟨v1, rfl, hb1, hO1⟩
  go_wp2_with fail
  go_fit (rask_any mac f t w1 m0 m1 f0 f1 t0 t1)
  rintro e w2 ⟨v2, rfl, hb2, hO2⟩
  have s1 : Sl w1.heap.size w1 v1 (asL mac f t) := Sl.own hO1 (by have := asL_len mac f t; omega) (asL_isB _ _ _)
  have s2 : Sl w2.heap.size w2 v2 (asL mac f t) := Sl.own hO2 (by have := asL_len mac f t; omega) (asL_isB _ _ _)
  have HS : Hid (Calls Tryd.prog 8 #[v1, v2] w2 fun e w' => e = .returned (.bool true) ∧ Below w2.heap.size w2 w') := by
    have := same_any _ _ v1 v2 (asL mac f t) (asL mac f t) w2 (s1.on hb2) s2 hb2.size (Nat.le_refl _)
    rwa [show (asL mac f t == asL mac f t) = true by simp] at this
  have HL : Hid (Below w.heap.size w w2) := hb1.trans (hb2.mono hb1.size)
  have HT2 : Hid (Tab w2) := HT.out.on HL.out
  clear hb1 hb2 hO1 hO2 s1 s2 HT
  go_wp2_with fail
  go_fit HS.out
  rintro e w3 ⟨rfl, hb3⟩
  have HL3 : Hid (Below w.heap.size w w3) := HL.out.trans (hb3.mono HL.out.size)
  have HT3 : Hid (Tab w3) := HT2.out.on hb3
  clear HS HL HT2 hb3
  go_wp2_with (go_at_call 11; refine (wakes_any w3 HT3.out).mono ?_; rintro e w4 ⟨rfl, hb4⟩)
  go_ret
  exact ⟨rfl, HL3.out.trans (hb4.mono HL3.out.size)⟩
end Go.Proofs.YtioohgcaakcgaaaDoor
