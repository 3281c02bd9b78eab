/-
  Proved here: the rows' list of variables gives the widths' table. No further condition.
-/
import Derived.Test.YtfbehaodhooaaaaGreatDoorRows
import Derived.Test.YtfbehaodhooaaaaGreatDoorCards
import Derived.Test.YtfbehaodhooaaaaGreatDoorTie
import Derived.Test.YtfbehaodhooaaaaGreatDoorKX
import Derived.WalkKit
import Derived.ProofKit
import Derived.OpenShut
import Derived.ChangeSame
import Derived.LaidMore
import Derived.Stop.LaidErr
import Derived.Deep.DeepHandedRow
import Derived.Deep.Slices
import Derived.Lib.LaidTab
import Derived.SizedLaws
import Derived.Carry
namespace Go.Proofs.YtfbehaodhooaaaaGreatDoor
set_option maxRecDepth 100000
open Go.ChangeShapes Go.WideShapes Go.ChangeAt Go.RowKit Go.Deep

theorem own : ownKnob Tryz.prog.godebug = none := by kernel_rfl
theorem gWid : Tryz.prog.globalNamed "tollbridge/header.widths" = some 0 := by kernel_rfl
theorem tWid : (Tryz.prog.globals[0]?).map (·.type) = some 138 := by kernel_rfl
theorem cells3 : Tryz.prog.cellsOf 3 = 1 := by kernel_rfl
theorem cellsCPS : Tryz.prog.cellsOf 33 = 1 := by kernel_rfl
theorem cellsRULE : Tryz.prog.cellsOf 35 = 25 := by kernel_rfl
theorem cellsA11 : Tryz.prog.cellsOf 138 = 11 := by kernel_rfl
theorem laidOut : laidOutB Tryz.prog = true := by kernel_rfl
def widL : List Int := [48, 48, 16, 12, 32, 32, 8, 16, 16, 16, 16]
theorem widData : (Rows.laid_tollbridge_header_widths : DataW Unit) = Lib.tabData .i64 widL := by kernel_rfl
abbrev laidL : List (String × DataW Unit) := [("tollbridge/header.widths", Rows.laid_tollbridge_header_widths)]
/-- WHAT THE ROWS' LIST GIVES: the widths' table. -/
theorem tab_of_laid {W : World} (h : laidMet Tryz.prog laidL W) : Tab W := by
  have hw : laidMet Tryz.prog (("tollbridge/header.widths", Lib.tabData .i64 widL) :: []) W := by rw [← widData]; exact h
  intro k hk
  rw [(Lib.tabIs_of_head gWid tWid Tryz.underlying138 Tryz.underlying3 cells3 cellsA11 hw).cell gWid k hk]
  have hk' : k = 0 ∨ k = 1 ∨ k = 2 ∨ k = 3 ∨ k = 4 ∨ k = 5 ∨ k = 6 ∨ k = 7 ∨ k = 8 ∨ k = 9 ∨ k = 10 := by omega
  rcases hk' with rfl | rfl | rfl | rfl | rfl | rfl | rfl | rfl | rfl | rfl | rfl <;> rfl
/-- The heap that the program's own initialisers leave meets the rows' list. -/
theorem door_met (os : Os) (args : Array Value) : laidMet Tryz.prog laidL ((World.doorLaid Tryz.prog 14 os).forCall (fun _ _ => 0) ⟨#[], args, []⟩).memory :=
  laidMet_of_run' 8 (by kernel_rfl) (by kernel_rfl)

end Go.Proofs.YtfbehaodhooaaaaGreatDoor
