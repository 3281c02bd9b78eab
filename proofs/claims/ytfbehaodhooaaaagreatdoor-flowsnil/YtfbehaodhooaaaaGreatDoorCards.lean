/-
  DERIVED. GIVEN WITH THE SEED: THE CARDS: each row of YtfbehaodhooaaaaGreatDoorRows.lean that lists a variable, with what it lists TIED to the program's text (the seventh form; the later family's looks); each row that meets fmt, with fmt's text TOLD by the authors' own Lean function (tested against real Go, not proved from fmt's source: count such statements apart). THE CARD IS WHAT COUNTS. Prove the row's statement (the work); the ties are given (YtfbehaodhooaaaaGreatDoorTie.lean); close each card by the builder's one call (the guide's Derived/Test/ToyasCard.lean, 'card_holds'). Laid BY PROGRAM, IN A SANDBOX (cutbox-door.mjs). By AI agents, Wed Nov 11 2026. No macro, syntax, notation, axiom, sorry.
-/
import Derived.Test.YtfbehaodhooaaaaGreatDoorRows
import GoSem.ClaimSeven
namespace Go.Proofs.YtfbehaodhooaaaaGreatDoor
namespace Rows

/-- THE TIED CARD OF 'tollbridgelaw11.FlowsPlays'. -/
def flowsPlaysCard : Claim7 := { stood := { row := flowsPlaysRow, standIns := [], harness := (true, "67b8d314e4991126283adaf28f321806d5deefb5a1e1f6f9472dea6b24bae0ba"), looks := false }, kinds := [], alts := [], laidByText := true, laidKinds := [.data], laidTests := true, laidLooks := .later }
def FlowsPlaysCardSaid : Prop := Claim7.holds Tryz.pinned (.plain (OpenSpec.ofChange flowsPlaysSpec)) flowsPlaysCard

/-- THE TIED CARD OF 'tollbridgelaw11.FlowsNil'. -/
def flowsNilCard : Claim7 := { stood := { row := flowsNilRow, standIns := [], harness := (true, "67b8d314e4991126283adaf28f321806d5deefb5a1e1f6f9472dea6b24bae0ba"), looks := false }, kinds := [], alts := [], laidByText := true, laidKinds := [.data], laidTests := true, laidLooks := .later }
def FlowsNilCardSaid : Prop := Claim7.holds Tryz.pinned (.plain (OpenSpec.ofChange flowsNilSpec)) flowsNilCard

/-- THE TIED CARD OF 'tollbridgelaw11.FlowsCounts'. -/
def flowsCountsCard : Claim7 := { stood := { row := flowsCountsRow, standIns := [], harness := (true, "67b8d314e4991126283adaf28f321806d5deefb5a1e1f6f9472dea6b24bae0ba"), looks := false }, kinds := [], alts := [], laidByText := true, laidKinds := [.data], laidTests := true, laidLooks := .later }
def FlowsCountsCardSaid : Prop := Claim7.holds Tryz.pinned (.plain (OpenSpec.ofChange flowsCountsSpec)) flowsCountsCard

/-- THE SECOND FORM's CARD OF 'tollbridgelaw11.FlowsPlays'. -/
def flowsPlaysUptoCard : Claim7 := { stood := { row := flowsPlaysUptoRow, standIns := [], harness := (true, "67b8d314e4991126283adaf28f321806d5deefb5a1e1f6f9472dea6b24bae0ba"), looks := false }, kinds := [], alts := [], laidByText := true, laidKinds := [.data], laidTests := true, laidLooks := .later }
def FlowsPlaysUptoCardSaid : Prop := Claim7.holds Tryz.pinned (.plain (OpenSpec.upto flowsPlaysSpec)) flowsPlaysUptoCard

/-- THE SECOND FORM's CARD OF 'tollbridgelaw11.FlowsNil'. -/
def flowsNilUptoCard : Claim7 := { stood := { row := flowsNilUptoRow, standIns := [], harness := (true, "67b8d314e4991126283adaf28f321806d5deefb5a1e1f6f9472dea6b24bae0ba"), looks := false }, kinds := [], alts := [], laidByText := true, laidKinds := [.data], laidTests := true, laidLooks := .later }
def FlowsNilUptoCardSaid : Prop := Claim7.holds Tryz.pinned (.plain (OpenSpec.upto flowsNilSpec)) flowsNilUptoCard

/-- THE SECOND FORM's CARD OF 'tollbridgelaw11.FlowsCounts'. -/
def flowsCountsUptoCard : Claim7 := { stood := { row := flowsCountsUptoRow, standIns := [], harness := (true, "67b8d314e4991126283adaf28f321806d5deefb5a1e1f6f9472dea6b24bae0ba"), looks := false }, kinds := [], alts := [], laidByText := true, laidKinds := [.data], laidTests := true, laidLooks := .later }
def FlowsCountsUptoCardSaid : Prop := Claim7.holds Tryz.pinned (.plain (OpenSpec.upto flowsCountsSpec)) flowsCountsUptoCard
end Rows
end Go.Proofs.YtfbehaodhooaaaaGreatDoor
