/-
  Proved here: LineNil's own text: it returns true for every slice of bytes. Conditions: what package line answers for no end ('Nils'); the seven functions serve ends.
-/
import Derived.Test.YtijjcopglbcoiaaW3
namespace Go.Proofs.Ytijjcopglbcoiaa
open Go.RowKit Seal

/-- What no end answers. -/
structure Nils : Prop where
  reset : ∀ (p : Int) (w : World), Calls Try.prog 17 #[.pointer none, .int .u32 p] w fun r w' => r = .returned (.tuple #[]) ∧ Below w.heap.size w w'
  send : ∀ (B : Nat) (u : Value) (bs : List Int) (w : World), Sl B w u bs → Calls Try.prog 18 #[.pointer none, u] w fun r w' => r = .returned (.int .i64 1) ∧ Below w.heap.size w w'
  take : ∀ (B : Nat) (u : Value) (bs : List Int) (w : World), Sl B w u bs → Calls Try.prog 19 #[.pointer none, u] w fun r w' => r = .returned (.int .i64 1) ∧ Below w.heap.size w w'
  tick : ∀ (w : World), Calls Try.prog 20 #[.pointer none] w fun r w' => ∃ a c, r = .returned (.slice a 0 c) ∧ Below w.heap.size w w'
  came : ∀ (w : World), Calls Try.prog 15 #[.pointer none] w fun r w' => ∃ a c, r = .returned (.slice a 0 c) ∧ Below w.heap.size w w'
  left : ∀ (w : World), Calls Try.prog 21 #[.pointer none] w fun r w' => r = .returned (.int .i64 0) ∧ Below w.heap.size w w'

set_option maxRecDepth 100000 in
set_option maxHeartbeats 800000 in
theorem nil_any (A : PApi) (N : Nils) (B : Nat) (v : Value) (bs : List Int) (w : World) (hs : Sl B w v bs) (hB : B ≤ w.heap.size) :
    Calls Try.prog 4 #[v] w fun r w' => r = .returned (.bool true) ∧ Below w.heap.size w w' := by
  have HS : Hid (Sl B w v bs) := hs
  clear hs
  go_enter Try.func4, Try.ntmps4
  go_wp2_with fail
  go_fit (N.reset 3 w)
  rintro r w1 ⟨rfl, h1⟩
  have L1 : Hid (Below w.heap.size w w1) := h1
  clear h1
  go_wp2_with fail
  go_fit (N.send B v bs w1 (HS.out.on (L1.out.mono hB)))
  rintro r w2 ⟨rfl, h2⟩
  have L2 : Hid (Below w.heap.size w w2) := L1.out.trans (h2.mono L1.out.size)
  clear h2 L1
  go_wp2_with fail
  go_fit (N.take B v bs w2 (HS.out.on (L2.out.mono hB)))
  rintro r w3 ⟨rfl, h3⟩
  have L3 : Hid (Below w.heap.size w w3) := L2.out.trans (h3.mono L2.out.size)
  clear h3 L2
  go_wp2_with fail
  go_fit (N.tick w3)
  rintro r w4 ⟨a4, c4, rfl, h4⟩
  have L4 : Hid (Below w.heap.size w w4) := L3.out.trans (h4.mono L3.out.size)
  clear h4 L3
  go_wp2_with fail
  go_fit (N.came w4)
  rintro r w5 ⟨a5, c5, rfl, h5⟩
  have L5 : Hid (Below w.heap.size w w5) := L4.out.trans (h5.mono L4.out.size)
  clear h5 L4
  go_wp2_with fail
  go_fit (N.left w5)
  rintro r w6 ⟨rfl, h6⟩
  have L6 : Hid (Below w.heap.size w w6) := L5.out.trans (h6.mono L5.out.size)
  clear h6 L5
  go_wp2_with fail
  go_fit (wakes_any A w6)
  rintro r w7 ⟨rfl, h7⟩
  have L7 : Hid (Below w.heap.size w w7) := L6.out.trans (h7.mono L6.out.size)
  clear h7 L6
  go_wp2
  go_ret
  exact ⟨rfl, L7.out⟩
end Go.Proofs.Ytijjcopglbcoiaa
