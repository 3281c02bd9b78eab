/-
  NARROWER THAN 'FOR EVERY INPUT', by the rows' own cells (each row's printed sentence says how): TuplesPlays: laid · TuplesNil: laid · TuplesBest: laid · TuplesFull: laid.
  DERIVED. THE GIVEN ROWS OF THIS SEAT. 4 by the template 'for every input the law returns true; each argument reads behind the call as it read before'; 0 by the template 'total and deterministic' (their statements: YtimenbkfkdpdcaaDoorTotals.lean).
  GIVEN WITH THE SEED: the statements are not yours to turn. If you find one false, say at which input.
  Laid BY PROGRAM, IN A SANDBOX (cutbox-rows.mjs): the forced cells as the released guide's own fill.sh prints them over the translation 091a96c9773a9ad0… (all of the seat's roots in one cut). By AI agents, Wed Nov 11 2026. No macro, syntax, notation, axiom, sorry.
-/
import Derived.Test.YtimenbkfkdpdcaaDoorChecked
import GoSem.Claim
import GoSem.ClaimJoined
import GoSem.ClaimMapViews
import Derived.JoinedTies
import Derived.KernelRfl
namespace Go.Proofs.YtimenbkfkdpdcaaDoor
/- THE CELL 'sum', in the pinned program and in every row, IS THE sha256 OF THE DUMP (.gsa) THAT YtimenbkfkdpdcaaDoorProg.lean LOADS. Nothing in Lean hashes anything: it is a label: what it is worth is what the hold of that sum in a sandbox is worth. -/
noncomputable def Tryd.pinned : Pinned := { name := "ytimenbkfkdpdcaadoor", sum := "091a96c9773a9ad049faf53bca6f0a4b3de3c5d5ebaacba47f957cb45e809e9e", checked := Tryd.checked }
namespace Rows
def none {H : Type} : Left H := { results := [], args := [] }

/- WHAT THE LISTED PACKAGE-LEVEL VARIABLES READ AS WHEN THE CALL BEGINS. Each datum BY PROGRAM (the guide's laid-datum.mjs) off the statement by which the dump's own 'gosem.cut.vars' lays the variable. In a bare row this is a premise. The card (YtimenbkfkdpdcaaDoorCards.lean) ties it to the program's text. -/
def laid_tollbridge_header_widths {H : Type} : DataW H := .agg [.lit (.int .i64 48), .lit (.int .i64 48), .lit (.int .i64 16), .lit (.int .i64 12), .lit (.int .i64 32), .lit (.int .i64 32), .lit (.int .i64 8), .lit (.int .i64 16), .lit (.int .i64 16), .lit (.int .i64 16), .lit (.int .i64 16)]

/-- 'tollbridgelaw09.TuplesPlays': WHATEVER THE INPUT: true; the input reads as it did. -/
def tuplesPlaysSpec : ChangeSpec := { name := "tuplesPlays", fn := fun _ => fun
  | [d] => { results := [.lit (.bool true)], args := [d] }
  | _ => none }
def tuplesPlaysRow : OpenClaim := { program := "ytimenbkfkdpdcaadoor", sum := "091a96c9773a9ad049faf53bca6f0a4b3de3c5d5ebaacba47f957cb45e809e9e", func := "tollbridge/tollbridgelaw09.TuplesPlays", spec := "tuplesPlays", inPlace := ["slices.overlaps[tollbridge/tuples.entry]", "slices.overlaps[*tollbridge/tuples.row]"], unfollowed := true, recurses := true, named := ["tollbridge/header.widths"], plainKeys := false, apart := false, laid := [("tollbridge/header.widths", laid_tollbridge_header_widths)] }
def TuplesPlaysSaid : Prop := tuplesPlaysRow.holds Tryd.pinned (OpenSpec.ofChange tuplesPlaysSpec)

/-- ITS FALSE NEIGHBOUR: 'it returns false'. Refute it at one input. -/
def tuplesPlaysWrong : ChangeSpec := { name := "tuplesPlays", fn := fun _ => fun
  | [d] => { results := [.lit (.bool false)], args := [d] }
  | _ => none }
def TuplesPlaysWrongFalsely : Prop := tuplesPlaysRow.holds Tryd.pinned (OpenSpec.ofChange tuplesPlaysWrong)

/-- 'tollbridgelaw09.TuplesNil': WHATEVER THE INPUT: true; the input reads as it did. -/
def tuplesNilSpec : ChangeSpec := { name := "tuplesNil", fn := fun _ => fun
  | [d1, d2, d3] => { results := [.lit (.bool true)], args := [d1, d2, d3] }
  | _ => none }
def tuplesNilRow : OpenClaim := { program := "ytimenbkfkdpdcaadoor", sum := "091a96c9773a9ad049faf53bca6f0a4b3de3c5d5ebaacba47f957cb45e809e9e", func := "tollbridge/tollbridgelaw09.TuplesNil", spec := "tuplesNil", inPlace := ["slices.overlaps[tollbridge/tuples.entry]", "slices.overlaps[*tollbridge/tuples.row]"], unfollowed := true, recurses := true, named := ["tollbridge/header.widths"], plainKeys := false, apart := false, laid := [("tollbridge/header.widths", laid_tollbridge_header_widths)] }
def TuplesNilSaid : Prop := tuplesNilRow.holds Tryd.pinned (OpenSpec.ofChange tuplesNilSpec)

/-- ITS FALSE NEIGHBOUR: 'it returns false'. Refute it at one input. -/
def tuplesNilWrong : ChangeSpec := { name := "tuplesNil", fn := fun _ => fun
  | [d1, d2, d3] => { results := [.lit (.bool false)], args := [d1, d2, d3] }
  | _ => none }
def TuplesNilWrongFalsely : Prop := tuplesNilRow.holds Tryd.pinned (OpenSpec.ofChange tuplesNilWrong)

/-- 'tollbridgelaw09.TuplesBest': WHATEVER THE INPUT: true; the input reads as it did. -/
def tuplesBestSpec : ChangeSpec := { name := "tuplesBest", fn := fun _ => fun
  | [d1, d2] => { results := [.lit (.bool true)], args := [d1, d2] }
  | _ => none }
def tuplesBestRow : OpenClaim := { program := "ytimenbkfkdpdcaadoor", sum := "091a96c9773a9ad049faf53bca6f0a4b3de3c5d5ebaacba47f957cb45e809e9e", func := "tollbridge/tollbridgelaw09.TuplesBest", spec := "tuplesBest", inPlace := ["slices.overlaps[tollbridge/tuples.entry]", "slices.overlaps[*tollbridge/tuples.row]"], unfollowed := true, recurses := true, named := ["tollbridge/header.widths"], plainKeys := false, apart := false, laid := [("tollbridge/header.widths", laid_tollbridge_header_widths)] }
def TuplesBestSaid : Prop := tuplesBestRow.holds Tryd.pinned (OpenSpec.ofChange tuplesBestSpec)

/-- ITS FALSE NEIGHBOUR: 'it returns false'. Refute it at one input. -/
def tuplesBestWrong : ChangeSpec := { name := "tuplesBest", fn := fun _ => fun
  | [d1, d2] => { results := [.lit (.bool false)], args := [d1, d2] }
  | _ => none }
def TuplesBestWrongFalsely : Prop := tuplesBestRow.holds Tryd.pinned (OpenSpec.ofChange tuplesBestWrong)

/-- 'tollbridgelaw09.TuplesFull': WHATEVER THE INPUT: true; the input reads as it did. -/
def tuplesFullSpec : ChangeSpec := { name := "tuplesFull", fn := fun _ => fun
  | [] => { results := [.lit (.bool true)], args := [] }
  | _ => none }
def tuplesFullRow : OpenClaim := { program := "ytimenbkfkdpdcaadoor", sum := "091a96c9773a9ad049faf53bca6f0a4b3de3c5d5ebaacba47f957cb45e809e9e", func := "tollbridge/tollbridgelaw09.TuplesFull", spec := "tuplesFull", inPlace := ["slices.overlaps[tollbridge/tuples.entry]", "slices.overlaps[*tollbridge/tuples.row]"], unfollowed := true, recurses := true, named := ["tollbridge/header.widths"], plainKeys := false, apart := false, laid := [("tollbridge/header.widths", laid_tollbridge_header_widths)] }
def TuplesFullSaid : Prop := tuplesFullRow.holds Tryd.pinned (OpenSpec.ofChange tuplesFullSpec)

/-- ITS FALSE NEIGHBOUR: 'it returns false'. Refute it at one input. -/
def tuplesFullWrong : ChangeSpec := { name := "tuplesFull", fn := fun _ => fun
  | [] => { results := [.lit (.bool false)], args := [] }
  | _ => none }
def TuplesFullWrongFalsely : Prop := tuplesFullRow.holds Tryd.pinned (OpenSpec.ofChange tuplesFullWrong)

/- THE SECOND FORM. 'bulk': how many values and letters a reading holds, each counted each time it is reached (what is shared counts as often as it is met; a slice's spare places count too). A statement '..UptoSaid' is the law's where the arguments, and the package variables that the reading takes, are together of bulk at most 1048576: NARROWER than '..Said'. Prove '..Said' where nothing that the law and all that it calls make is longer than what came in: it says more and counts as full. Else prove '..UptoSaid'. A law counts once. -/
mutual
def uptoBulk {H : Type} : DataW H → Nat
  | .lit (.string bytes) => bytes.length + 1
  | .lit _ => 1
  | .nil => 1
  | .ptr d => uptoBulk d + 1
  | .slice elems spare => uptoBulkAll elems + uptoBulkAll spare + 1
  | .agg parts => uptoBulkAll parts + 1
  | .iface _ d => uptoBulk d + 1
  | .map entries => uptoBulkEntries entries + 1
  | .held _ => 1
def uptoBulkAll {H : Type} : List (DataW H) → Nat
  | [] => 0
  | d :: r => uptoBulk d + uptoBulkAll r
def uptoBulkEntries {H : Type} : List (Lit × DataW H) → Nat
  | [] => 0
  | x :: r => uptoBulkEntry x + uptoBulkEntries r
def uptoBulkEntry {H : Type} : Lit × DataW H → Nat
  | (.string bytes, d) => bytes.length + uptoBulk d + 1
  | (_, d) => uptoBulk d + 1
 end
def uptoSmall : (H : Type) → List (DataW H) → Bool := fun _ ds => decide (uptoBulkAll ds ≤ 1048576)
def OpenSpec.upto (s : _root_.Go.ChangeSpec) : _root_.Go.OpenSpec := { _root_.Go.OpenSpec.ofChange s with cond := some uptoSmall }

/-- 'tollbridgelaw09.TuplesPlays', WHERE WHAT IT READS IS OF BULK AT MOST 1048576: true; the input reads as it did. -/
def tuplesPlaysUptoRow : OpenClaim := { program := "ytimenbkfkdpdcaadoor", sum := "091a96c9773a9ad049faf53bca6f0a4b3de3c5d5ebaacba47f957cb45e809e9e", func := "tollbridge/tollbridgelaw09.TuplesPlays", spec := "tuplesPlays", inPlace := ["slices.overlaps[tollbridge/tuples.entry]", "slices.overlaps[*tollbridge/tuples.row]"], unfollowed := true, recurses := true, named := ["tollbridge/header.widths"], plainKeys := false, apart := false, laid := [("tollbridge/header.widths", laid_tollbridge_header_widths)], narrowed := true }
def TuplesPlaysUptoSaid : Prop := tuplesPlaysUptoRow.holds Tryd.pinned (OpenSpec.upto tuplesPlaysSpec)

/-- 'tollbridgelaw09.TuplesNil', WHERE WHAT IT READS IS OF BULK AT MOST 1048576: true; the input reads as it did. -/
def tuplesNilUptoRow : OpenClaim := { program := "ytimenbkfkdpdcaadoor", sum := "091a96c9773a9ad049faf53bca6f0a4b3de3c5d5ebaacba47f957cb45e809e9e", func := "tollbridge/tollbridgelaw09.TuplesNil", spec := "tuplesNil", inPlace := ["slices.overlaps[tollbridge/tuples.entry]", "slices.overlaps[*tollbridge/tuples.row]"], unfollowed := true, recurses := true, named := ["tollbridge/header.widths"], plainKeys := false, apart := false, laid := [("tollbridge/header.widths", laid_tollbridge_header_widths)], narrowed := true }
def TuplesNilUptoSaid : Prop := tuplesNilUptoRow.holds Tryd.pinned (OpenSpec.upto tuplesNilSpec)

/-- 'tollbridgelaw09.TuplesBest', WHERE WHAT IT READS IS OF BULK AT MOST 1048576: true; the input reads as it did. -/
def tuplesBestUptoRow : OpenClaim := { program := "ytimenbkfkdpdcaadoor", sum := "091a96c9773a9ad049faf53bca6f0a4b3de3c5d5ebaacba47f957cb45e809e9e", func := "tollbridge/tollbridgelaw09.TuplesBest", spec := "tuplesBest", inPlace := ["slices.overlaps[tollbridge/tuples.entry]", "slices.overlaps[*tollbridge/tuples.row]"], unfollowed := true, recurses := true, named := ["tollbridge/header.widths"], plainKeys := false, apart := false, laid := [("tollbridge/header.widths", laid_tollbridge_header_widths)], narrowed := true }
def TuplesBestUptoSaid : Prop := tuplesBestUptoRow.holds Tryd.pinned (OpenSpec.upto tuplesBestSpec)

/-- 'tollbridgelaw09.TuplesFull', WHERE WHAT IT READS IS OF BULK AT MOST 1048576: true; the input reads as it did. -/
def tuplesFullUptoRow : OpenClaim := { program := "ytimenbkfkdpdcaadoor", sum := "091a96c9773a9ad049faf53bca6f0a4b3de3c5d5ebaacba47f957cb45e809e9e", func := "tollbridge/tollbridgelaw09.TuplesFull", spec := "tuplesFull", inPlace := ["slices.overlaps[tollbridge/tuples.entry]", "slices.overlaps[*tollbridge/tuples.row]"], unfollowed := true, recurses := true, named := ["tollbridge/header.widths"], plainKeys := false, apart := false, laid := [("tollbridge/header.widths", laid_tollbridge_header_widths)], narrowed := true }
def TuplesFullUptoSaid : Prop := tuplesFullUptoRow.holds Tryd.pinned (OpenSpec.upto tuplesFullSpec)

end Rows
end Go.Proofs.YtimenbkfkdpdcaaDoor
