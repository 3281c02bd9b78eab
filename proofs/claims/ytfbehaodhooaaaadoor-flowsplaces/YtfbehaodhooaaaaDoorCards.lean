/-
  DERIVED. GIVEN WITH THE SEED: THE CARDS: each row of YtfbehaodhooaaaaDoorRows.lean that lists a variable, with what it lists TIED to the program's text (the seventh form; the later family's looks); each row that meets fmt, with fmt's text TOLD by the authors' own Lean function (tested against real Go, not proved from fmt's source: count such statements apart). THE CARD IS WHAT COUNTS. Prove the row's statement (the work); the ties are given (YtfbehaodhooaaaaDoorTie.lean); close each card by the builder's one call (the guide's Derived/Test/ToyasCard.lean, 'card_holds'). Laid BY PROGRAM, IN A SANDBOX (cutbox-door.mjs). By AI agents, Wed Nov 11 2026. No macro, syntax, notation, axiom, sorry.
-/
import Derived.Test.YtfbehaodhooaaaaDoorRows
import GoSem.ClaimSeven
namespace Go.Proofs.YtfbehaodhooaaaaDoor
namespace Rows

/-- THE TIED CARD OF 'tollbridgelaw11.FlowsPlaces'. -/
def flowsPlacesCard : Claim7 := { stood := { row := flowsPlacesRow, standIns := [], harness := (true, "56ce46e7080dff53979ae8a8fb0452c5d1e8a87315a62774cbc70acff78addc6"), looks := false }, kinds := [], alts := [], laidByText := true, laidKinds := [.data], laidTests := true, laidLooks := .later }
def FlowsPlacesCardSaid : Prop := Claim7.holds Tryd.pinned (.plain (OpenSpec.ofChange flowsPlacesSpec)) flowsPlacesCard

/-- THE TIED CARD OF 'tollbridgelaw11.FlowsStays'. -/
def flowsStaysCard : Claim7 := { stood := { row := flowsStaysRow, standIns := [], harness := (true, "56ce46e7080dff53979ae8a8fb0452c5d1e8a87315a62774cbc70acff78addc6"), looks := false }, kinds := [], alts := [], laidByText := true, laidKinds := [.data], laidTests := true, laidLooks := .later }
def FlowsStaysCardSaid : Prop := Claim7.holds Tryd.pinned (.plain (OpenSpec.ofChange flowsStaysSpec)) flowsStaysCard

/-- THE SECOND FORM's CARD OF 'tollbridgelaw11.FlowsPlaces'. -/
def flowsPlacesUptoCard : Claim7 := { stood := { row := flowsPlacesUptoRow, standIns := [], harness := (true, "56ce46e7080dff53979ae8a8fb0452c5d1e8a87315a62774cbc70acff78addc6"), looks := false }, kinds := [], alts := [], laidByText := true, laidKinds := [.data], laidTests := true, laidLooks := .later }
def FlowsPlacesUptoCardSaid : Prop := Claim7.holds Tryd.pinned (.plain (OpenSpec.upto flowsPlacesSpec)) flowsPlacesUptoCard

/-- THE SECOND FORM's CARD OF 'tollbridgelaw11.FlowsStays'. -/
def flowsStaysUptoCard : Claim7 := { stood := { row := flowsStaysUptoRow, standIns := [], harness := (true, "56ce46e7080dff53979ae8a8fb0452c5d1e8a87315a62774cbc70acff78addc6"), looks := false }, kinds := [], alts := [], laidByText := true, laidKinds := [.data], laidTests := true, laidLooks := .later }
def FlowsStaysUptoCardSaid : Prop := Claim7.holds Tryd.pinned (.plain (OpenSpec.upto flowsStaysSpec)) flowsStaysUptoCard
end Rows
end Go.Proofs.YtfbehaodhooaaaaDoor
