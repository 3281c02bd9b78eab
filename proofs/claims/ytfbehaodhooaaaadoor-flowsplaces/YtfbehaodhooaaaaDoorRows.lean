/-
  NARROWER THAN 'FOR EVERY INPUT', by the rows' own cells (each row's printed sentence says how): FlowsPlaces: laid · FlowsStays: laid.
  DERIVED. THE GIVEN ROWS OF THIS SEAT. 2 by the template 'for every input the law returns true; each argument reads behind the call as it read before'; 0 by the template 'total and deterministic' (their statements: YtfbehaodhooaaaaDoorTotals.lean).
  GIVEN WITH THE SEED: the statements are not yours to turn. If you find one false, say at which input.
  Laid BY PROGRAM, IN A SANDBOX (cutbox-rows.mjs): the forced cells as the released guide's own fill.sh prints them over the translation 71f9cc1ae8663b98… (all of the seat's roots in one cut). By AI agents, Wed Nov 11 2026. No macro, syntax, notation, axiom, sorry.
-/
import Derived.Test.YtfbehaodhooaaaaDoorChecked
import GoSem.Claim
import GoSem.ClaimJoined
import GoSem.ClaimMapViews
import Derived.JoinedTies
import Derived.KernelRfl
namespace Go.Proofs.YtfbehaodhooaaaaDoor
/- THE CELL 'sum', in the pinned program and in every row, IS THE sha256 OF THE DUMP (.gsa) THAT YtfbehaodhooaaaaDoorProg.lean LOADS. Nothing in Lean hashes anything: it is a label: what it is worth is what the hold of that sum in a sandbox is worth. -/
noncomputable def Tryd.pinned : Pinned := { name := "ytfbehaodhooaaaadoor", sum := "71f9cc1ae8663b989a4d7bb317a4c2acaef3a6629c6eaaaec30874aa0bde1985", checked := Tryd.checked }
namespace Rows
def none {H : Type} : Left H := { results := [], args := [] }

/- WHAT THE LISTED PACKAGE-LEVEL VARIABLES READ AS WHEN THE CALL BEGINS. Each datum BY PROGRAM (the guide's laid-datum.mjs) off the statement by which the dump's own 'gosem.cut.vars' lays the variable. In a bare row this is a premise. The card (YtfbehaodhooaaaaDoorCards.lean) ties it to the program's text. -/
def laid_tollbridge_header_widths {H : Type} : DataW H := .agg [.lit (.int .i64 48), .lit (.int .i64 48), .lit (.int .i64 16), .lit (.int .i64 12), .lit (.int .i64 32), .lit (.int .i64 32), .lit (.int .i64 8), .lit (.int .i64 16), .lit (.int .i64 16), .lit (.int .i64 16), .lit (.int .i64 16)]

/-- 'tollbridgelaw11.FlowsPlaces': WHATEVER THE INPUT: true; the input reads as it did. -/
def flowsPlacesSpec : ChangeSpec := { name := "flowsPlaces", fn := fun _ => fun
  | [d1, d2] => { results := [.lit (.bool true)], args := [d1, d2] }
  | _ => none }
def flowsPlacesRow : OpenClaim := { program := "ytfbehaodhooaaaadoor", sum := "71f9cc1ae8663b989a4d7bb317a4c2acaef3a6629c6eaaaec30874aa0bde1985", func := "tollbridge/tollbridgelaw11.FlowsPlaces", spec := "flowsPlaces", inPlace := ["slices.overlaps[*tollbridge/tuples.row]", "slices.overlaps[tollbridge/tuples.entry]"], unfollowed := true, recurses := true, named := ["tollbridge/header.widths"], plainKeys := false, apart := false, laid := [("tollbridge/header.widths", laid_tollbridge_header_widths)] }
def FlowsPlacesSaid : Prop := flowsPlacesRow.holds Tryd.pinned (OpenSpec.ofChange flowsPlacesSpec)

/-- ITS FALSE NEIGHBOUR: 'it returns false'. Refute it at one input. -/
def flowsPlacesWrong : ChangeSpec := { name := "flowsPlaces", fn := fun _ => fun
  | [d1, d2] => { results := [.lit (.bool false)], args := [d1, d2] }
  | _ => none }
def FlowsPlacesWrongFalsely : Prop := flowsPlacesRow.holds Tryd.pinned (OpenSpec.ofChange flowsPlacesWrong)

/-- 'tollbridgelaw11.FlowsStays': WHATEVER THE INPUT: true; the input reads as it did. -/
def flowsStaysSpec : ChangeSpec := { name := "flowsStays", fn := fun _ => fun
  | [] => { results := [.lit (.bool true)], args := [] }
  | _ => none }
def flowsStaysRow : OpenClaim := { program := "ytfbehaodhooaaaadoor", sum := "71f9cc1ae8663b989a4d7bb317a4c2acaef3a6629c6eaaaec30874aa0bde1985", func := "tollbridge/tollbridgelaw11.FlowsStays", spec := "flowsStays", inPlace := ["slices.overlaps[*tollbridge/tuples.row]", "slices.overlaps[tollbridge/tuples.entry]"], unfollowed := true, recurses := true, named := ["tollbridge/header.widths"], plainKeys := false, apart := false, laid := [("tollbridge/header.widths", laid_tollbridge_header_widths)] }
def FlowsStaysSaid : Prop := flowsStaysRow.holds Tryd.pinned (OpenSpec.ofChange flowsStaysSpec)

/-- ITS FALSE NEIGHBOUR: 'it returns false'. Refute it at one input. -/
def flowsStaysWrong : ChangeSpec := { name := "flowsStays", fn := fun _ => fun
  | [] => { results := [.lit (.bool false)], args := [] }
  | _ => none }
def FlowsStaysWrongFalsely : Prop := flowsStaysRow.holds Tryd.pinned (OpenSpec.ofChange flowsStaysWrong)

/- THE SECOND FORM. 'bulk': how many values and letters a reading holds, each counted each time it is reached (what is shared counts as often as it is met; a slice's spare places count too). A statement '..UptoSaid' is the law's where the arguments, and the package variables that the reading takes, are together of bulk at most 1048576: NARROWER than '..Said'. Prove '..Said' where nothing that the law and all that it calls make is longer than what came in: it says more and counts as full. Else prove '..UptoSaid'. A law counts once. -/
mutual
def uptoBulk {H : Type} : DataW H → Nat
  | .lit (.string bytes) => bytes.length + 1
  | .lit _ => 1
  | .nil => 1
  | .ptr d => uptoBulk d + 1
  | .slice elems spare => uptoBulkAll elems + uptoBulkAll spare + 1
  | .agg parts => uptoBulkAll parts + 1
  | .iface _ d => uptoBulk d + 1
  | .map entries => uptoBulkEntries entries + 1
  | .held _ => 1
def uptoBulkAll {H : Type} : List (DataW H) → Nat
  | [] => 0
  | d :: r => uptoBulk d + uptoBulkAll r
def uptoBulkEntries {H : Type} : List (Lit × DataW H) → Nat
  | [] => 0
  | x :: r => uptoBulkEntry x + uptoBulkEntries r
def uptoBulkEntry {H : Type} : Lit × DataW H → Nat
  | (.string bytes, d) => bytes.length + uptoBulk d + 1
  | (_, d) => uptoBulk d + 1
 end
def uptoSmall : (H : Type) → List (DataW H) → Bool := fun _ ds => decide (uptoBulkAll ds ≤ 1048576)
def OpenSpec.upto (s : _root_.Go.ChangeSpec) : _root_.Go.OpenSpec := { _root_.Go.OpenSpec.ofChange s with cond := some uptoSmall }

/-- 'tollbridgelaw11.FlowsPlaces', WHERE WHAT IT READS IS OF BULK AT MOST 1048576: true; the input reads as it did. -/
def flowsPlacesUptoRow : OpenClaim := { program := "ytfbehaodhooaaaadoor", sum := "71f9cc1ae8663b989a4d7bb317a4c2acaef3a6629c6eaaaec30874aa0bde1985", func := "tollbridge/tollbridgelaw11.FlowsPlaces", spec := "flowsPlaces", inPlace := ["slices.overlaps[*tollbridge/tuples.row]", "slices.overlaps[tollbridge/tuples.entry]"], unfollowed := true, recurses := true, named := ["tollbridge/header.widths"], plainKeys := false, apart := false, laid := [("tollbridge/header.widths", laid_tollbridge_header_widths)], narrowed := true }
def FlowsPlacesUptoSaid : Prop := flowsPlacesUptoRow.holds Tryd.pinned (OpenSpec.upto flowsPlacesSpec)

/-- 'tollbridgelaw11.FlowsStays', WHERE WHAT IT READS IS OF BULK AT MOST 1048576: true; the input reads as it did. -/
def flowsStaysUptoRow : OpenClaim := { program := "ytfbehaodhooaaaadoor", sum := "71f9cc1ae8663b989a4d7bb317a4c2acaef3a6629c6eaaaec30874aa0bde1985", func := "tollbridge/tollbridgelaw11.FlowsStays", spec := "flowsStays", inPlace := ["slices.overlaps[*tollbridge/tuples.row]", "slices.overlaps[tollbridge/tuples.entry]"], unfollowed := true, recurses := true, named := ["tollbridge/header.widths"], plainKeys := false, apart := false, laid := [("tollbridge/header.widths", laid_tollbridge_header_widths)], narrowed := true }
def FlowsStaysUptoSaid : Prop := flowsStaysUptoRow.holds Tryd.pinned (OpenSpec.upto flowsStaysSpec)

end Rows
end Go.Proofs.YtfbehaodhooaaaaDoor
