/-
  NARROWER THAN 'FOR EVERY INPUT', by the rows' own cells (each row's printed sentence says how): FlowsPlays: laid · FlowsNil: laid · FlowsCounts: laid.
  DERIVED. THE GIVEN ROWS OF THIS SEAT. 3 by the template 'for every input the law returns true; each argument reads behind the call as it read before'; 0 by the template 'total and deterministic' (their statements: YtfbehaodhooaaaaGreatDoorTotals.lean).
  GIVEN WITH THE SEED: the statements are not yours to turn. If you find one false, say at which input.
  Laid BY PROGRAM, IN A SANDBOX (cutbox-rows.mjs): the forced cells as the released guide's own fill.sh prints them over the translation cf7003ccd08d8dc4… (all of the seat's roots in one cut). By AI agents, Wed Nov 11 2026. No macro, syntax, notation, axiom, sorry.
-/
import Derived.Test.YtfbehaodhooaaaaGreatDoorChecked
import GoSem.Claim
import GoSem.ClaimJoined
import GoSem.ClaimMapViews
import Derived.JoinedTies
import Derived.KernelRfl
namespace Go.Proofs.YtfbehaodhooaaaaGreatDoor
/- THE CELL 'sum', in the pinned program and in every row, IS THE sha256 OF THE DUMP (.gsa) THAT YtfbehaodhooaaaaGreatDoorProg.lean LOADS. Nothing in Lean hashes anything: it is a label: what it is worth is what the hold of that sum in a sandbox is worth. -/
noncomputable def Tryz.pinned : Pinned := { name := "ytfbehaodhooaaaagreatdoor", sum := "cf7003ccd08d8dc424a2d78e5c9f6ca3f17ed7a56b2711d9108214bb992a2e0f", checked := Tryz.checked }
namespace Rows
def none {H : Type} : Left H := { results := [], args := [] }

/- WHAT THE LISTED PACKAGE-LEVEL VARIABLES READ AS WHEN THE CALL BEGINS. Each datum BY PROGRAM (the guide's laid-datum.mjs) off the statement by which the dump's own 'gosem.cut.vars' lays the variable. In a bare row this is a premise. The card (YtfbehaodhooaaaaGreatDoorCards.lean) ties it to the program's text. -/
def laid_tollbridge_header_widths {H : Type} : DataW H := .agg [.lit (.int .i64 48), .lit (.int .i64 48), .lit (.int .i64 16), .lit (.int .i64 12), .lit (.int .i64 32), .lit (.int .i64 32), .lit (.int .i64 8), .lit (.int .i64 16), .lit (.int .i64 16), .lit (.int .i64 16), .lit (.int .i64 16)]

/-- 'tollbridgelaw11.FlowsPlays': WHATEVER THE INPUT: true; the input reads as it did. -/
def flowsPlaysSpec : ChangeSpec := { name := "flowsPlays", fn := fun _ => fun
  | [d1, d2] => { results := [.lit (.bool true)], args := [d1, d2] }
  | _ => none }
def flowsPlaysRow : OpenClaim := { program := "ytfbehaodhooaaaagreatdoor", sum := "cf7003ccd08d8dc424a2d78e5c9f6ca3f17ed7a56b2711d9108214bb992a2e0f", func := "tollbridge/tollbridgelaw11.FlowsPlays", spec := "flowsPlays", inPlace := ["slices.overlaps[*tollbridge/tuples.row]", "slices.overlaps[tollbridge/tuples.entry]"], unfollowed := true, recurses := true, named := ["tollbridge/header.widths"], plainKeys := false, apart := false, laid := [("tollbridge/header.widths", laid_tollbridge_header_widths)] }
def FlowsPlaysSaid : Prop := flowsPlaysRow.holds Tryz.pinned (OpenSpec.ofChange flowsPlaysSpec)

/-- ITS FALSE NEIGHBOUR: 'it returns false'. Refute it at one input. -/
def flowsPlaysWrong : ChangeSpec := { name := "flowsPlays", fn := fun _ => fun
  | [d1, d2] => { results := [.lit (.bool false)], args := [d1, d2] }
  | _ => none }
def FlowsPlaysWrongFalsely : Prop := flowsPlaysRow.holds Tryz.pinned (OpenSpec.ofChange flowsPlaysWrong)

/-- 'tollbridgelaw11.FlowsNil': WHATEVER THE INPUT: true; the input reads as it did. -/
def flowsNilSpec : ChangeSpec := { name := "flowsNil", fn := fun _ => fun
  | [d1, d2] => { results := [.lit (.bool true)], args := [d1, d2] }
  | _ => none }
def flowsNilRow : OpenClaim := { program := "ytfbehaodhooaaaagreatdoor", sum := "cf7003ccd08d8dc424a2d78e5c9f6ca3f17ed7a56b2711d9108214bb992a2e0f", func := "tollbridge/tollbridgelaw11.FlowsNil", spec := "flowsNil", inPlace := ["slices.overlaps[*tollbridge/tuples.row]", "slices.overlaps[tollbridge/tuples.entry]"], unfollowed := true, recurses := true, named := ["tollbridge/header.widths"], plainKeys := false, apart := false, laid := [("tollbridge/header.widths", laid_tollbridge_header_widths)] }
def FlowsNilSaid : Prop := flowsNilRow.holds Tryz.pinned (OpenSpec.ofChange flowsNilSpec)

/-- ITS FALSE NEIGHBOUR: 'it returns false'. Refute it at one input. -/
def flowsNilWrong : ChangeSpec := { name := "flowsNil", fn := fun _ => fun
  | [d1, d2] => { results := [.lit (.bool false)], args := [d1, d2] }
  | _ => none }
def FlowsNilWrongFalsely : Prop := flowsNilRow.holds Tryz.pinned (OpenSpec.ofChange flowsNilWrong)

/-- 'tollbridgelaw11.FlowsCounts': WHATEVER THE INPUT: true; the input reads as it did. -/
def flowsCountsSpec : ChangeSpec := { name := "flowsCounts", fn := fun _ => fun
  | [d1, d2] => { results := [.lit (.bool true)], args := [d1, d2] }
  | _ => none }
def flowsCountsRow : OpenClaim := { program := "ytfbehaodhooaaaagreatdoor", sum := "cf7003ccd08d8dc424a2d78e5c9f6ca3f17ed7a56b2711d9108214bb992a2e0f", func := "tollbridge/tollbridgelaw11.FlowsCounts", spec := "flowsCounts", inPlace := ["slices.overlaps[*tollbridge/tuples.row]", "slices.overlaps[tollbridge/tuples.entry]"], unfollowed := true, recurses := true, named := ["tollbridge/header.widths"], plainKeys := false, apart := false, laid := [("tollbridge/header.widths", laid_tollbridge_header_widths)] }
def FlowsCountsSaid : Prop := flowsCountsRow.holds Tryz.pinned (OpenSpec.ofChange flowsCountsSpec)

/-- ITS FALSE NEIGHBOUR: 'it returns false'. Refute it at one input. -/
def flowsCountsWrong : ChangeSpec := { name := "flowsCounts", fn := fun _ => fun
  | [d1, d2] => { results := [.lit (.bool false)], args := [d1, d2] }
  | _ => none }
def FlowsCountsWrongFalsely : Prop := flowsCountsRow.holds Tryz.pinned (OpenSpec.ofChange flowsCountsWrong)

/- THE SECOND FORM. 'bulk': how many values and letters a reading holds, each counted each time it is reached (what is shared counts as often as it is met; a slice's spare places count too). A statement '..UptoSaid' is the law's where the arguments, and the package variables that the reading takes, are together of bulk at most 1048576: NARROWER than '..Said'. Prove '..Said' where nothing that the law and all that it calls make is longer than what came in: it says more and counts as full. Else prove '..UptoSaid'. A law counts once. -/
mutual
def uptoBulk {H : Type} : DataW H → Nat
  | .lit (.string bytes) => bytes.length + 1
  | .lit _ => 1
  | .nil => 1
  | .ptr d => uptoBulk d + 1
  | .slice elems spare => uptoBulkAll elems + uptoBulkAll spare + 1
  | .agg parts => uptoBulkAll parts + 1
  | .iface _ d => uptoBulk d + 1
  | .map entries => uptoBulkEntries entries + 1
  | .held _ => 1
def uptoBulkAll {H : Type} : List (DataW H) → Nat
  | [] => 0
  | d :: r => uptoBulk d + uptoBulkAll r
def uptoBulkEntries {H : Type} : List (Lit × DataW H) → Nat
  | [] => 0
  | x :: r => uptoBulkEntry x + uptoBulkEntries r
def uptoBulkEntry {H : Type} : Lit × DataW H → Nat
  | (.string bytes, d) => bytes.length + uptoBulk d + 1
  | (_, d) => uptoBulk d + 1
 end
def uptoSmall : (H : Type) → List (DataW H) → Bool := fun _ ds => decide (uptoBulkAll ds ≤ 1048576)
def OpenSpec.upto (s : _root_.Go.ChangeSpec) : _root_.Go.OpenSpec := { _root_.Go.OpenSpec.ofChange s with cond := some uptoSmall }

/-- 'tollbridgelaw11.FlowsPlays', WHERE WHAT IT READS IS OF BULK AT MOST 1048576: true; the input reads as it did. -/
def flowsPlaysUptoRow : OpenClaim := { program := "ytfbehaodhooaaaagreatdoor", sum := "cf7003ccd08d8dc424a2d78e5c9f6ca3f17ed7a56b2711d9108214bb992a2e0f", func := "tollbridge/tollbridgelaw11.FlowsPlays", spec := "flowsPlays", inPlace := ["slices.overlaps[*tollbridge/tuples.row]", "slices.overlaps[tollbridge/tuples.entry]"], unfollowed := true, recurses := true, named := ["tollbridge/header.widths"], plainKeys := false, apart := false, laid := [("tollbridge/header.widths", laid_tollbridge_header_widths)], narrowed := true }
def FlowsPlaysUptoSaid : Prop := flowsPlaysUptoRow.holds Tryz.pinned (OpenSpec.upto flowsPlaysSpec)

/-- 'tollbridgelaw11.FlowsNil', WHERE WHAT IT READS IS OF BULK AT MOST 1048576: true; the input reads as it did. -/
def flowsNilUptoRow : OpenClaim := { program := "ytfbehaodhooaaaagreatdoor", sum := "cf7003ccd08d8dc424a2d78e5c9f6ca3f17ed7a56b2711d9108214bb992a2e0f", func := "tollbridge/tollbridgelaw11.FlowsNil", spec := "flowsNil", inPlace := ["slices.overlaps[*tollbridge/tuples.row]", "slices.overlaps[tollbridge/tuples.entry]"], unfollowed := true, recurses := true, named := ["tollbridge/header.widths"], plainKeys := false, apart := false, laid := [("tollbridge/header.widths", laid_tollbridge_header_widths)], narrowed := true }
def FlowsNilUptoSaid : Prop := flowsNilUptoRow.holds Tryz.pinned (OpenSpec.upto flowsNilSpec)

/-- 'tollbridgelaw11.FlowsCounts', WHERE WHAT IT READS IS OF BULK AT MOST 1048576: true; the input reads as it did. -/
def flowsCountsUptoRow : OpenClaim := { program := "ytfbehaodhooaaaagreatdoor", sum := "cf7003ccd08d8dc424a2d78e5c9f6ca3f17ed7a56b2711d9108214bb992a2e0f", func := "tollbridge/tollbridgelaw11.FlowsCounts", spec := "flowsCounts", inPlace := ["slices.overlaps[*tollbridge/tuples.row]", "slices.overlaps[tollbridge/tuples.entry]"], unfollowed := true, recurses := true, named := ["tollbridge/header.widths"], plainKeys := false, apart := false, laid := [("tollbridge/header.widths", laid_tollbridge_header_widths)], narrowed := true }
def FlowsCountsUptoSaid : Prop := flowsCountsUptoRow.holds Tryz.pinned (OpenSpec.upto flowsCountsSpec)

end Rows
end Go.Proofs.YtfbehaodhooaaaaGreatDoor
