/-
  DERIVED. GIVEN WITH THE SEED: THE CARDS: each row of YtdehlnaoehjehaaGreatDoorRows.lean that lists a variable, with what it lists TIED to the program's text (the seventh form; the later family's looks); each row that meets fmt, with fmt's text TOLD by the authors' own Lean function (tested against real Go, not proved from fmt's source: count such statements apart). THE CARD IS WHAT COUNTS. Prove the row's statement (the work); the ties are given (YtdehlnaoehjehaaGreatDoorTie.lean); close each card by the builder's one call (the guide's Derived/Test/ToyasCard.lean, 'card_holds'). Laid BY PROGRAM, IN A SANDBOX (cutbox-door.mjs). By AI agents, Wed Nov 11 2026. No macro, syntax, notation, axiom, sorry.
-/
import Derived.Test.YtdehlnaoehjehaaGreatDoorRows
import GoSem.ClaimSeven
namespace Go.Proofs.YtdehlnaoehjehaaGreatDoor
namespace Rows

/-- THE TIED CARD OF 'tollbridgelaw11.FlowsPlays'. -/
def flowsPlaysCard : Claim7 := { stood := { row := flowsPlaysRow, standIns := [], harness := (true, "4a9cbcb5bdacbee06af0c88e05b7c54a5c30b26812f8c98c0831be76e36b612c"), looks := false }, kinds := [], alts := [], laidByText := true, laidKinds := [.data], laidTests := true, laidLooks := .later }
def FlowsPlaysCardSaid : Prop := Claim7.holds Tryz.pinned (.plain (OpenSpec.ofChange flowsPlaysSpec)) flowsPlaysCard

/-- THE TIED CARD OF 'tollbridgelaw11.FlowsCounts'. -/
def flowsCountsCard : Claim7 := { stood := { row := flowsCountsRow, standIns := [], harness := (true, "4a9cbcb5bdacbee06af0c88e05b7c54a5c30b26812f8c98c0831be76e36b612c"), looks := false }, kinds := [], alts := [], laidByText := true, laidKinds := [.data], laidTests := true, laidLooks := .later }
def FlowsCountsCardSaid : Prop := Claim7.holds Tryz.pinned (.plain (OpenSpec.ofChange flowsCountsSpec)) flowsCountsCard

/-- THE TIED CARD OF 'tollbridgelaw13.PipelineNil'. -/
def pipelineNilCard : Claim7 := { stood := { row := pipelineNilRow, standIns := [], harness := (true, "4a9cbcb5bdacbee06af0c88e05b7c54a5c30b26812f8c98c0831be76e36b612c"), looks := false }, kinds := [], alts := [], laidByText := true, laidKinds := [.data], laidTests := true, laidLooks := .later }
def PipelineNilCardSaid : Prop := Claim7.holds Tryz.pinned (.plain (OpenSpec.ofChange pipelineNilSpec)) pipelineNilCard

/-- THE TIED CARD OF 'tollbridgelaw13.PipelineTags'. -/
def pipelineTagsCard : Claim7 := { stood := { row := pipelineTagsRow, standIns := [], harness := (true, "4a9cbcb5bdacbee06af0c88e05b7c54a5c30b26812f8c98c0831be76e36b612c"), looks := false }, kinds := [], alts := [], laidByText := true, laidKinds := [.data], laidTests := true, laidLooks := .later }
def PipelineTagsCardSaid : Prop := Claim7.holds Tryz.pinned (.plain (OpenSpec.ofChange pipelineTagsSpec)) pipelineTagsCard

/-- THE TIED CARD OF 'tollbridgelaw13.PipelineCounts'. -/
def pipelineCountsCard : Claim7 := { stood := { row := pipelineCountsRow, standIns := [], harness := (true, "4a9cbcb5bdacbee06af0c88e05b7c54a5c30b26812f8c98c0831be76e36b612c"), looks := false }, kinds := [], alts := [], laidByText := true, laidKinds := [.data], laidTests := true, laidLooks := .later }
def PipelineCountsCardSaid : Prop := Claim7.holds Tryz.pinned (.plain (OpenSpec.ofChange pipelineCountsSpec)) pipelineCountsCard

/-- THE SECOND FORM's CARD OF 'tollbridgelaw11.FlowsPlays'. -/
def flowsPlaysUptoCard : Claim7 := { stood := { row := flowsPlaysUptoRow, standIns := [], harness := (true, "4a9cbcb5bdacbee06af0c88e05b7c54a5c30b26812f8c98c0831be76e36b612c"), looks := false }, kinds := [], alts := [], laidByText := true, laidKinds := [.data], laidTests := true, laidLooks := .later }
def FlowsPlaysUptoCardSaid : Prop := Claim7.holds Tryz.pinned (.plain (OpenSpec.upto flowsPlaysSpec)) flowsPlaysUptoCard

/-- THE SECOND FORM's CARD OF 'tollbridgelaw11.FlowsCounts'. -/
def flowsCountsUptoCard : Claim7 := { stood := { row := flowsCountsUptoRow, standIns := [], harness := (true, "4a9cbcb5bdacbee06af0c88e05b7c54a5c30b26812f8c98c0831be76e36b612c"), looks := false }, kinds := [], alts := [], laidByText := true, laidKinds := [.data], laidTests := true, laidLooks := .later }
def FlowsCountsUptoCardSaid : Prop := Claim7.holds Tryz.pinned (.plain (OpenSpec.upto flowsCountsSpec)) flowsCountsUptoCard

/-- THE SECOND FORM's CARD OF 'tollbridgelaw13.PipelineNil'. -/
def pipelineNilUptoCard : Claim7 := { stood := { row := pipelineNilUptoRow, standIns := [], harness := (true, "4a9cbcb5bdacbee06af0c88e05b7c54a5c30b26812f8c98c0831be76e36b612c"), looks := false }, kinds := [], alts := [], laidByText := true, laidKinds := [.data], laidTests := true, laidLooks := .later }
def PipelineNilUptoCardSaid : Prop := Claim7.holds Tryz.pinned (.plain (OpenSpec.upto pipelineNilSpec)) pipelineNilUptoCard

/-- THE SECOND FORM's CARD OF 'tollbridgelaw13.PipelineTags'. -/
def pipelineTagsUptoCard : Claim7 := { stood := { row := pipelineTagsUptoRow, standIns := [], harness := (true, "4a9cbcb5bdacbee06af0c88e05b7c54a5c30b26812f8c98c0831be76e36b612c"), looks := false }, kinds := [], alts := [], laidByText := true, laidKinds := [.data], laidTests := true, laidLooks := .later }
def PipelineTagsUptoCardSaid : Prop := Claim7.holds Tryz.pinned (.plain (OpenSpec.upto pipelineTagsSpec)) pipelineTagsUptoCard

/-- THE SECOND FORM's CARD OF 'tollbridgelaw13.PipelineCounts'. -/
def pipelineCountsUptoCard : Claim7 := { stood := { row := pipelineCountsUptoRow, standIns := [], harness := (true, "4a9cbcb5bdacbee06af0c88e05b7c54a5c30b26812f8c98c0831be76e36b612c"), looks := false }, kinds := [], alts := [], laidByText := true, laidKinds := [.data], laidTests := true, laidLooks := .later }
def PipelineCountsUptoCardSaid : Prop := Claim7.holds Tryz.pinned (.plain (OpenSpec.upto pipelineCountsSpec)) pipelineCountsUptoCard
end Rows
end Go.Proofs.YtdehlnaoehjehaaGreatDoor
