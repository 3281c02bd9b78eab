/-
  NARROWER THAN 'FOR EVERY INPUT', by the rows' own cells (each row's printed sentence says how): FlowsPlays: laid · FlowsCounts: laid · PipelineNil: laid · PipelineTags: laid · PipelineCounts: laid.
  DERIVED. THE GIVEN ROWS OF THIS SEAT. 5 by the template 'for every input the law returns true; each argument reads behind the call as it read before'; 0 by the template 'total and deterministic' (their statements: YtdehlnaoehjehaaGreatDoorTotals.lean).
  GIVEN WITH THE SEED: the statements are not yours to turn. If you find one false, say at which input.
  Laid BY PROGRAM, IN A SANDBOX (cutbox-rows.mjs): the forced cells as the released guide's own fill.sh prints them over the translation 282f3f2955ef4703… (all of the seat's roots in one cut). By AI agents, Wed Nov 11 2026. No macro, syntax, notation, axiom, sorry.
-/
import Derived.Test.YtdehlnaoehjehaaGreatDoorChecked
import GoSem.Claim
import GoSem.ClaimJoined
import GoSem.ClaimMapViews
import Derived.JoinedTies
import Derived.KernelRfl
namespace Go.Proofs.YtdehlnaoehjehaaGreatDoor
/- THE CELL 'sum', in the pinned program and in every row, IS THE sha256 OF THE DUMP (.gsa) THAT YtdehlnaoehjehaaGreatDoorProg.lean LOADS. Nothing in Lean hashes anything: it is a label: what it is worth is what the hold of that sum in a sandbox is worth. -/
noncomputable def Tryz.pinned : Pinned := { name := "ytdehlnaoehjehaagreatdoor", sum := "282f3f2955ef4703a12ea690cfbaf5a0b05de9c343859637ba67294f7a4a8692", checked := Tryz.checked }
namespace Rows
def none {H : Type} : Left H := { results := [], args := [] }

/- WHAT THE LISTED PACKAGE-LEVEL VARIABLES READ AS WHEN THE CALL BEGINS. Each datum BY PROGRAM (the guide's laid-datum.mjs) off the statement by which the dump's own 'gosem.cut.vars' lays the variable. In a bare row this is a premise. The card (YtdehlnaoehjehaaGreatDoorCards.lean) ties it to the program's text. -/
def laid_tollbridge_header_widths {H : Type} : DataW H := .agg [.lit (.int .i64 48), .lit (.int .i64 48), .lit (.int .i64 16), .lit (.int .i64 12), .lit (.int .i64 32), .lit (.int .i64 32), .lit (.int .i64 8), .lit (.int .i64 16), .lit (.int .i64 16), .lit (.int .i64 16), .lit (.int .i64 16)]

/-- 'tollbridgelaw11.FlowsPlays': WHATEVER THE INPUT: true; the input reads as it did. -/
def flowsPlaysSpec : ChangeSpec := { name := "flowsPlays", fn := fun _ => fun
  | [d1, d2] => { results := [.lit (.bool true)], args := [d1, d2] }
  | _ => none }
def flowsPlaysRow : OpenClaim := { program := "ytdehlnaoehjehaagreatdoor", sum := "282f3f2955ef4703a12ea690cfbaf5a0b05de9c343859637ba67294f7a4a8692", func := "tollbridge/tollbridgelaw11.FlowsPlays", spec := "flowsPlays", inPlace := ["slices.overlaps[*tollbridge/tuples.row]", "slices.overlaps[tollbridge/tuples.entry]"], unfollowed := true, recurses := true, named := ["tollbridge/header.widths"], plainKeys := false, apart := false, laid := [("tollbridge/header.widths", laid_tollbridge_header_widths)] }
def FlowsPlaysSaid : Prop := flowsPlaysRow.holds Tryz.pinned (OpenSpec.ofChange flowsPlaysSpec)

/-- ITS FALSE NEIGHBOUR: 'it returns false'. Refute it at one input. -/
def flowsPlaysWrong : ChangeSpec := { name := "flowsPlays", fn := fun _ => fun
  | [d1, d2] => { results := [.lit (.bool false)], args := [d1, d2] }
  | _ => none }
def FlowsPlaysWrongFalsely : Prop := flowsPlaysRow.holds Tryz.pinned (OpenSpec.ofChange flowsPlaysWrong)

/-- 'tollbridgelaw11.FlowsCounts': WHATEVER THE INPUT: true; the input reads as it did. -/
def flowsCountsSpec : ChangeSpec := { name := "flowsCounts", fn := fun _ => fun
  | [d1, d2] => { results := [.lit (.bool true)], args := [d1, d2] }
  | _ => none }
def flowsCountsRow : OpenClaim := { program := "ytdehlnaoehjehaagreatdoor", sum := "282f3f2955ef4703a12ea690cfbaf5a0b05de9c343859637ba67294f7a4a8692", func := "tollbridge/tollbridgelaw11.FlowsCounts", spec := "flowsCounts", inPlace := ["slices.overlaps[*tollbridge/tuples.row]", "slices.overlaps[tollbridge/tuples.entry]"], unfollowed := true, recurses := true, named := ["tollbridge/header.widths"], plainKeys := false, apart := false, laid := [("tollbridge/header.widths", laid_tollbridge_header_widths)] }
def FlowsCountsSaid : Prop := flowsCountsRow.holds Tryz.pinned (OpenSpec.ofChange flowsCountsSpec)

/-- ITS FALSE NEIGHBOUR: 'it returns false'. Refute it at one input. -/
def flowsCountsWrong : ChangeSpec := { name := "flowsCounts", fn := fun _ => fun
  | [d1, d2] => { results := [.lit (.bool false)], args := [d1, d2] }
  | _ => none }
def FlowsCountsWrongFalsely : Prop := flowsCountsRow.holds Tryz.pinned (OpenSpec.ofChange flowsCountsWrong)

/-- 'tollbridgelaw13.PipelineNil': WHATEVER THE INPUT: true; the input reads as it did. -/
def pipelineNilSpec : ChangeSpec := { name := "pipelineNil", fn := fun _ => fun
  | [d] => { results := [.lit (.bool true)], args := [d] }
  | _ => none }
def pipelineNilRow : OpenClaim := { program := "ytdehlnaoehjehaagreatdoor", sum := "282f3f2955ef4703a12ea690cfbaf5a0b05de9c343859637ba67294f7a4a8692", func := "tollbridge/tollbridgelaw13.PipelineNil", spec := "pipelineNil", inPlace := ["slices.overlaps[*tollbridge/tuples.row]", "slices.overlaps[tollbridge/tuples.entry]"], unfollowed := true, recurses := true, named := ["tollbridge/header.widths"], plainKeys := false, apart := false, laid := [("tollbridge/header.widths", laid_tollbridge_header_widths)] }
def PipelineNilSaid : Prop := pipelineNilRow.holds Tryz.pinned (OpenSpec.ofChange pipelineNilSpec)

/-- ITS FALSE NEIGHBOUR: 'it returns false'. Refute it at one input. -/
def pipelineNilWrong : ChangeSpec := { name := "pipelineNil", fn := fun _ => fun
  | [d] => { results := [.lit (.bool false)], args := [d] }
  | _ => none }
def PipelineNilWrongFalsely : Prop := pipelineNilRow.holds Tryz.pinned (OpenSpec.ofChange pipelineNilWrong)

/-- 'tollbridgelaw13.PipelineTags': WHATEVER THE INPUT: true; the input reads as it did. -/
def pipelineTagsSpec : ChangeSpec := { name := "pipelineTags", fn := fun _ => fun
  | [d1, d2] => { results := [.lit (.bool true)], args := [d1, d2] }
  | _ => none }
def pipelineTagsRow : OpenClaim := { program := "ytdehlnaoehjehaagreatdoor", sum := "282f3f2955ef4703a12ea690cfbaf5a0b05de9c343859637ba67294f7a4a8692", func := "tollbridge/tollbridgelaw13.PipelineTags", spec := "pipelineTags", inPlace := ["slices.overlaps[*tollbridge/tuples.row]", "slices.overlaps[tollbridge/tuples.entry]"], unfollowed := true, recurses := true, named := ["tollbridge/header.widths"], plainKeys := false, apart := false, laid := [("tollbridge/header.widths", laid_tollbridge_header_widths)] }
def PipelineTagsSaid : Prop := pipelineTagsRow.holds Tryz.pinned (OpenSpec.ofChange pipelineTagsSpec)

/-- ITS FALSE NEIGHBOUR: 'it returns false'. Refute it at one input. -/
def pipelineTagsWrong : ChangeSpec := { name := "pipelineTags", fn := fun _ => fun
  | [d1, d2] => { results := [.lit (.bool false)], args := [d1, d2] }
  | _ => none }
def PipelineTagsWrongFalsely : Prop := pipelineTagsRow.holds Tryz.pinned (OpenSpec.ofChange pipelineTagsWrong)

/-- 'tollbridgelaw13.PipelineCounts': WHATEVER THE INPUT: true; the input reads as it did. -/
def pipelineCountsSpec : ChangeSpec := { name := "pipelineCounts", fn := fun _ => fun
  | [d1, d2, d3] => { results := [.lit (.bool true)], args := [d1, d2, d3] }
  | _ => none }
def pipelineCountsRow : OpenClaim := { program := "ytdehlnaoehjehaagreatdoor", sum := "282f3f2955ef4703a12ea690cfbaf5a0b05de9c343859637ba67294f7a4a8692", func := "tollbridge/tollbridgelaw13.PipelineCounts", spec := "pipelineCounts", inPlace := ["slices.overlaps[*tollbridge/tuples.row]", "slices.overlaps[tollbridge/tuples.entry]"], unfollowed := true, recurses := true, named := ["tollbridge/header.widths"], plainKeys := false, apart := false, laid := [("tollbridge/header.widths", laid_tollbridge_header_widths)] }
def PipelineCountsSaid : Prop := pipelineCountsRow.holds Tryz.pinned (OpenSpec.ofChange pipelineCountsSpec)

/-- ITS FALSE NEIGHBOUR: 'it returns false'. Refute it at one input. -/
def pipelineCountsWrong : ChangeSpec := { name := "pipelineCounts", fn := fun _ => fun
  | [d1, d2, d3] => { results := [.lit (.bool false)], args := [d1, d2, d3] }
  | _ => none }
def PipelineCountsWrongFalsely : Prop := pipelineCountsRow.holds Tryz.pinned (OpenSpec.ofChange pipelineCountsWrong)

/- THE SECOND FORM. 'bulk': how many values and letters a reading holds, each counted each time it is reached (what is shared counts as often as it is met; a slice's spare places count too). A statement '..UptoSaid' is the law's where the arguments, and the package variables that the reading takes, are together of bulk at most 1048576: NARROWER than '..Said'. Prove '..Said' where nothing that the law and all that it calls make is longer than what came in: it says more and counts as full. Else prove '..UptoSaid'. A law counts once. -/
mutual
def uptoBulk {H : Type} : DataW H → Nat
  | .lit (.string bytes) => bytes.length + 1
  | .lit _ => 1
  | .nil => 1
  | .ptr d => uptoBulk d + 1
  | .slice elems spare => uptoBulkAll elems + uptoBulkAll spare + 1
  | .agg parts => uptoBulkAll parts + 1
  | .iface _ d => uptoBulk d + 1
  | .map entries => uptoBulkEntries entries + 1
  | .held _ => 1
def uptoBulkAll {H : Type} : List (DataW H) → Nat
  | [] => 0
  | d :: r => uptoBulk d + uptoBulkAll r
def uptoBulkEntries {H : Type} : List (Lit × DataW H) → Nat
  | [] => 0
  | x :: r => uptoBulkEntry x + uptoBulkEntries r
def uptoBulkEntry {H : Type} : Lit × DataW H → Nat
  | (.string bytes, d) => bytes.length + uptoBulk d + 1
  | (_, d) => uptoBulk d + 1
 end
def uptoSmall : (H : Type) → List (DataW H) → Bool := fun _ ds => decide (uptoBulkAll ds ≤ 1048576)
def OpenSpec.upto (s : _root_.Go.ChangeSpec) : _root_.Go.OpenSpec := { _root_.Go.OpenSpec.ofChange s with cond := some uptoSmall }

/-- 'tollbridgelaw11.FlowsPlays', WHERE WHAT IT READS IS OF BULK AT MOST 1048576: true; the input reads as it did. -/
def flowsPlaysUptoRow : OpenClaim := { program := "ytdehlnaoehjehaagreatdoor", sum := "282f3f2955ef4703a12ea690cfbaf5a0b05de9c343859637ba67294f7a4a8692", func := "tollbridge/tollbridgelaw11.FlowsPlays", spec := "flowsPlays", inPlace := ["slices.overlaps[*tollbridge/tuples.row]", "slices.overlaps[tollbridge/tuples.entry]"], unfollowed := true, recurses := true, named := ["tollbridge/header.widths"], plainKeys := false, apart := false, laid := [("tollbridge/header.widths", laid_tollbridge_header_widths)], narrowed := true }
def FlowsPlaysUptoSaid : Prop := flowsPlaysUptoRow.holds Tryz.pinned (OpenSpec.upto flowsPlaysSpec)

/-- 'tollbridgelaw11.FlowsCounts', WHERE WHAT IT READS IS OF BULK AT MOST 1048576: true; the input reads as it did. -/
def flowsCountsUptoRow : OpenClaim := { program := "ytdehlnaoehjehaagreatdoor", sum := "282f3f2955ef4703a12ea690cfbaf5a0b05de9c343859637ba67294f7a4a8692", func := "tollbridge/tollbridgelaw11.FlowsCounts", spec := "flowsCounts", inPlace := ["slices.overlaps[*tollbridge/tuples.row]", "slices.overlaps[tollbridge/tuples.entry]"], unfollowed := true, recurses := true, named := ["tollbridge/header.widths"], plainKeys := false, apart := false, laid := [("tollbridge/header.widths", laid_tollbridge_header_widths)], narrowed := true }
def FlowsCountsUptoSaid : Prop := flowsCountsUptoRow.holds Tryz.pinned (OpenSpec.upto flowsCountsSpec)

/-- 'tollbridgelaw13.PipelineNil', WHERE WHAT IT READS IS OF BULK AT MOST 1048576: true; the input reads as it did. -/
def pipelineNilUptoRow : OpenClaim := { program := "ytdehlnaoehjehaagreatdoor", sum := "282f3f2955ef4703a12ea690cfbaf5a0b05de9c343859637ba67294f7a4a8692", func := "tollbridge/tollbridgelaw13.PipelineNil", spec := "pipelineNil", inPlace := ["slices.overlaps[*tollbridge/tuples.row]", "slices.overlaps[tollbridge/tuples.entry]"], unfollowed := true, recurses := true, named := ["tollbridge/header.widths"], plainKeys := false, apart := false, laid := [("tollbridge/header.widths", laid_tollbridge_header_widths)], narrowed := true }
def PipelineNilUptoSaid : Prop := pipelineNilUptoRow.holds Tryz.pinned (OpenSpec.upto pipelineNilSpec)

/-- 'tollbridgelaw13.PipelineTags', WHERE WHAT IT READS IS OF BULK AT MOST 1048576: true; the input reads as it did. -/
def pipelineTagsUptoRow : OpenClaim := { program := "ytdehlnaoehjehaagreatdoor", sum := "282f3f2955ef4703a12ea690cfbaf5a0b05de9c343859637ba67294f7a4a8692", func := "tollbridge/tollbridgelaw13.PipelineTags", spec := "pipelineTags", inPlace := ["slices.overlaps[*tollbridge/tuples.row]", "slices.overlaps[tollbridge/tuples.entry]"], unfollowed := true, recurses := true, named := ["tollbridge/header.widths"], plainKeys := false, apart := false, laid := [("tollbridge/header.widths", laid_tollbridge_header_widths)], narrowed := true }
def PipelineTagsUptoSaid : Prop := pipelineTagsUptoRow.holds Tryz.pinned (OpenSpec.upto pipelineTagsSpec)

/-- 'tollbridgelaw13.PipelineCounts', WHERE WHAT IT READS IS OF BULK AT MOST 1048576: true; the input reads as it did. -/
def pipelineCountsUptoRow : OpenClaim := { program := "ytdehlnaoehjehaagreatdoor", sum := "282f3f2955ef4703a12ea690cfbaf5a0b05de9c343859637ba67294f7a4a8692", func := "tollbridge/tollbridgelaw13.PipelineCounts", spec := "pipelineCounts", inPlace := ["slices.overlaps[*tollbridge/tuples.row]", "slices.overlaps[tollbridge/tuples.entry]"], unfollowed := true, recurses := true, named := ["tollbridge/header.widths"], plainKeys := false, apart := false, laid := [("tollbridge/header.widths", laid_tollbridge_header_widths)], narrowed := true }
def PipelineCountsUptoSaid : Prop := pipelineCountsUptoRow.holds Tryz.pinned (OpenSpec.upto pipelineCountsSpec)

end Rows
end Go.Proofs.YtdehlnaoehjehaaGreatDoor
