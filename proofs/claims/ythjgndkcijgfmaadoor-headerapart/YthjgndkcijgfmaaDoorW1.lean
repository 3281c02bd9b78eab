/-
  Proved here: what kindFits and hasPorts of package header answer, for every argument; no world turns. No condition.
-/
import Derived.Test.YthjgndkcijgfmaaDoorProg
import Derived.WalkKit
import Derived.WalkSpells
import Derived.WalkLawsBesides
namespace Go.Proofs.YthjgndkcijgfmaaDoor
open Go.RowKit

def kindOk (k : Int) : Bool := decide (1536 ≤ k) && !(k == 33024)
def portsOk (p : Int) : Bool := p == 6 || p == 17

set_option maxHeartbeats 400000 in
theorem kindFits_any (k : Int) (w : World) :
    Calls Tryd.prog 15 #[.int .u64 k] w fun e w' => e = .returned (.bool (kindOk k)) ∧ w' = w := by
  unfold kindOk
  by_cases h : 1536 ≤ k
  · go_enter Tryd.func15, Tryd.ntmps15
    go_wp2
    go_ret
    exact ⟨by simp [h, bne], rfl⟩
  · have hd : decide (1536 ≤ k) = false := by simpa using h
    go_enter Tryd.func15, Tryd.ntmps15
    go_wp2
    go_ret
    exact ⟨by simp, rfl⟩

set_option maxHeartbeats 400000 in
theorem hasPorts_any (k : Int) (w : World) :
    Calls Tryd.prog 22 #[.int .u64 k] w fun e w' => e = .returned (.bool (portsOk k)) ∧ w' = w := by
  unfold portsOk
  cases h : (k == 6)
  · go_enter Tryd.func22, Tryd.ntmps22
    go_wp2
    go_ret
    exact ⟨by simp, rfl⟩
  · go_enter Tryd.func22, Tryd.ntmps22
    go_wp2
    go_ret
    exact ⟨by simp, rfl⟩
end Go.Proofs.YthjgndkcijgfmaaDoor
