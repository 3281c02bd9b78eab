/-
  NARROWER THAN 'FOR EVERY INPUT', by the rows' own cells (each row's printed sentence says how): ArpAsks: laid · ArpAnswers: laid · ArpReads: laid · ArpBack: laid · ArpTagged: laid.
  DERIVED. THE GIVEN ROWS OF THIS SEAT. 5 by the template 'for every input the law returns true; each argument reads behind the call as it read before'; 0 by the template 'total and deterministic' (their statements: YtioohgcaakcgaaaDoorTotals.lean).
  GIVEN WITH THE SEED: the statements are not yours to turn. If you find one false, say at which input.
  Laid BY PROGRAM, IN A SANDBOX (cutbox-rows.mjs): the forced cells as the released guide's own fill.sh prints them over the translation e953d72425f7f46e… (all of the seat's roots in one cut). By AI agents, Wed Nov 11 2026. No macro, syntax, notation, axiom, sorry.
-/
import Derived.Test.YtioohgcaakcgaaaDoorChecked
import GoSem.Claim
import GoSem.ClaimJoined
import GoSem.ClaimMapViews
import Derived.JoinedTies
import Derived.KernelRfl
namespace Go.Proofs.YtioohgcaakcgaaaDoor
/- THE CELL 'sum', in the pinned program and in every row, IS THE sha256 OF THE DUMP (.gsa) THAT YtioohgcaakcgaaaDoorProg.lean LOADS. Nothing in Lean hashes anything: it is a label: what it is worth is what the hold of that sum in a sandbox is worth. -/
noncomputable def Tryd.pinned : Pinned := { name := "ytioohgcaakcgaaadoor", sum := "e953d72425f7f46e8462dae366d2bf9ec6f517f22b6731f18dd80c048ddad665", checked := Tryd.checked }
namespace Rows
def none {H : Type} : Left H := { results := [], args := [] }

/- WHAT THE LISTED PACKAGE-LEVEL VARIABLES READ AS WHEN THE CALL BEGINS. Each datum BY PROGRAM (the guide's laid-datum.mjs) off the statement by which the dump's own 'gosem.cut.vars' lays the variable. In a bare row this is a premise. The card (YtioohgcaakcgaaaDoorCards.lean) ties it to the program's text. -/
def laid_tollbridge_header_widths {H : Type} : DataW H := .agg [.lit (.int .i64 48), .lit (.int .i64 48), .lit (.int .i64 16), .lit (.int .i64 12), .lit (.int .i64 32), .lit (.int .i64 32), .lit (.int .i64 8), .lit (.int .i64 16), .lit (.int .i64 16), .lit (.int .i64 16), .lit (.int .i64 16)]

/-- 'tollbridgelaw04.ArpAsks': WHATEVER THE INPUT: true; the input reads as it did. -/
def arpAsksSpec : ChangeSpec := { name := "arpAsks", fn := fun _ => fun
  | [d1, d2, d3] => { results := [.lit (.bool true)], args := [d1, d2, d3] }
  | _ => none }
def arpAsksRow : OpenClaim := { program := "ytioohgcaakcgaaadoor", sum := "e953d72425f7f46e8462dae366d2bf9ec6f517f22b6731f18dd80c048ddad665", func := "tollbridge/tollbridgelaw04.ArpAsks", spec := "arpAsks", unfollowed := true, recurses := true, named := ["tollbridge/header.widths"], apart := false, laid := [("tollbridge/header.widths", laid_tollbridge_header_widths)] }
def ArpAsksSaid : Prop := arpAsksRow.holds Tryd.pinned (OpenSpec.ofChange arpAsksSpec)

/-- ITS FALSE NEIGHBOUR: 'it returns false'. Refute it at one input. -/
def arpAsksWrong : ChangeSpec := { name := "arpAsks", fn := fun _ => fun
  | [d1, d2, d3] => { results := [.lit (.bool false)], args := [d1, d2, d3] }
  | _ => none }
def ArpAsksWrongFalsely : Prop := arpAsksRow.holds Tryd.pinned (OpenSpec.ofChange arpAsksWrong)

/-- 'tollbridgelaw04.ArpAnswers': WHATEVER THE INPUT: true; the input reads as it did. -/
def arpAnswersSpec : ChangeSpec := { name := "arpAnswers", fn := fun _ => fun
  | [d1, d2] => { results := [.lit (.bool true)], args := [d1, d2] }
  | _ => none }
def arpAnswersRow : OpenClaim := { program := "ytioohgcaakcgaaadoor", sum := "e953d72425f7f46e8462dae366d2bf9ec6f517f22b6731f18dd80c048ddad665", func := "tollbridge/tollbridgelaw04.ArpAnswers", spec := "arpAnswers", unfollowed := true, recurses := true, named := ["tollbridge/header.widths"], apart := false, laid := [("tollbridge/header.widths", laid_tollbridge_header_widths)] }
def ArpAnswersSaid : Prop := arpAnswersRow.holds Tryd.pinned (OpenSpec.ofChange arpAnswersSpec)

/-- ITS FALSE NEIGHBOUR: 'it returns false'. Refute it at one input. -/
def arpAnswersWrong : ChangeSpec := { name := "arpAnswers", fn := fun _ => fun
  | [d1, d2] => { results := [.lit (.bool false)], args := [d1, d2] }
  | _ => none }
def ArpAnswersWrongFalsely : Prop := arpAnswersRow.holds Tryd.pinned (OpenSpec.ofChange arpAnswersWrong)

/-- 'tollbridgelaw04.ArpReads': WHATEVER THE INPUT: true; the input reads as it did. -/
def arpReadsSpec : ChangeSpec := { name := "arpReads", fn := fun _ => fun
  | [d] => { results := [.lit (.bool true)], args := [d] }
  | _ => none }
def arpReadsRow : OpenClaim := { program := "ytioohgcaakcgaaadoor", sum := "e953d72425f7f46e8462dae366d2bf9ec6f517f22b6731f18dd80c048ddad665", func := "tollbridge/tollbridgelaw04.ArpReads", spec := "arpReads", unfollowed := true, recurses := true, named := ["tollbridge/header.widths"], apart := false, laid := [("tollbridge/header.widths", laid_tollbridge_header_widths)] }
def ArpReadsSaid : Prop := arpReadsRow.holds Tryd.pinned (OpenSpec.ofChange arpReadsSpec)

/-- ITS FALSE NEIGHBOUR: 'it returns false'. Refute it at one input. -/
def arpReadsWrong : ChangeSpec := { name := "arpReads", fn := fun _ => fun
  | [d] => { results := [.lit (.bool false)], args := [d] }
  | _ => none }
def ArpReadsWrongFalsely : Prop := arpReadsRow.holds Tryd.pinned (OpenSpec.ofChange arpReadsWrong)

/-- 'tollbridgelaw04.ArpBack': WHATEVER THE INPUT: true; the input reads as it did. -/
def arpBackSpec : ChangeSpec := { name := "arpBack", fn := fun _ => fun
  | [d1, d2, d3, d4] => { results := [.lit (.bool true)], args := [d1, d2, d3, d4] }
  | _ => none }
def arpBackRow : OpenClaim := { program := "ytioohgcaakcgaaadoor", sum := "e953d72425f7f46e8462dae366d2bf9ec6f517f22b6731f18dd80c048ddad665", func := "tollbridge/tollbridgelaw04.ArpBack", spec := "arpBack", unfollowed := true, recurses := true, named := ["tollbridge/header.widths"], apart := false, laid := [("tollbridge/header.widths", laid_tollbridge_header_widths)] }
def ArpBackSaid : Prop := arpBackRow.holds Tryd.pinned (OpenSpec.ofChange arpBackSpec)

/-- ITS FALSE NEIGHBOUR: 'it returns false'. Refute it at one input. -/
def arpBackWrong : ChangeSpec := { name := "arpBack", fn := fun _ => fun
  | [d1, d2, d3, d4] => { results := [.lit (.bool false)], args := [d1, d2, d3, d4] }
  | _ => none }
def ArpBackWrongFalsely : Prop := arpBackRow.holds Tryd.pinned (OpenSpec.ofChange arpBackWrong)

/-- 'tollbridgelaw04.ArpTagged': WHATEVER THE INPUT: true; the input reads as it did. -/
def arpTaggedSpec : ChangeSpec := { name := "arpTagged", fn := fun _ => fun
  | [d1, d2, d3, d4] => { results := [.lit (.bool true)], args := [d1, d2, d3, d4] }
  | _ => none }
def arpTaggedRow : OpenClaim := { program := "ytioohgcaakcgaaadoor", sum := "e953d72425f7f46e8462dae366d2bf9ec6f517f22b6731f18dd80c048ddad665", func := "tollbridge/tollbridgelaw04.ArpTagged", spec := "arpTagged", unfollowed := true, recurses := true, named := ["tollbridge/header.widths"], apart := false, laid := [("tollbridge/header.widths", laid_tollbridge_header_widths)] }
def ArpTaggedSaid : Prop := arpTaggedRow.holds Tryd.pinned (OpenSpec.ofChange arpTaggedSpec)

/-- ITS FALSE NEIGHBOUR: 'it returns false'. Refute it at one input. -/
def arpTaggedWrong : ChangeSpec := { name := "arpTagged", fn := fun _ => fun
  | [d1, d2, d3, d4] => { results := [.lit (.bool false)], args := [d1, d2, d3, d4] }
  | _ => none }
def ArpTaggedWrongFalsely : Prop := arpTaggedRow.holds Tryd.pinned (OpenSpec.ofChange arpTaggedWrong)

/- THE SECOND FORM. 'bulk': how many values and letters a reading holds, each counted each time it is reached (what is shared counts as often as it is met; a slice's spare places count too). A statement '..UptoSaid' is the law's where the arguments, and the package variables that the reading takes, are together of bulk at most 1048576: NARROWER than '..Said'. Prove '..Said' where nothing that the law and all that it calls make is longer than what came in: it says more and counts as full. Else prove '..UptoSaid'. A law counts once. -/
mutual
def uptoBulk {H : Type} : DataW H → Nat
  | .lit (.string bytes) => bytes.length + 1
  | .lit _ => 1
  | .nil => 1
  | .ptr d => uptoBulk d + 1
  | .slice elems spare => uptoBulkAll elems + uptoBulkAll spare + 1
  | .agg parts => uptoBulkAll parts + 1
  | .iface _ d => uptoBulk d + 1
  | .map entries => uptoBulkEntries entries + 1
  | .held _ => 1
def uptoBulkAll {H : Type} : List (DataW H) → Nat
  | [] => 0
  | d :: r => uptoBulk d + uptoBulkAll r
def uptoBulkEntries {H : Type} : List (Lit × DataW H) → Nat
  | [] => 0
  | x :: r => uptoBulkEntry x + uptoBulkEntries r
def uptoBulkEntry {H : Type} : Lit × DataW H → Nat
  | (.string bytes, d) => bytes.length + uptoBulk d + 1
  | (_, d) => uptoBulk d + 1
 end
def uptoSmall : (H : Type) → List (DataW H) → Bool := fun _ ds => decide (uptoBulkAll ds ≤ 1048576)
def OpenSpec.upto (s : _root_.Go.ChangeSpec) : _root_.Go.OpenSpec := { _root_.Go.OpenSpec.ofChange s with cond := some uptoSmall }

/-- 'tollbridgelaw04.ArpAsks', WHERE WHAT IT READS IS OF BULK AT MOST 1048576: true; the input reads as it did. -/
def arpAsksUptoRow : OpenClaim := { program := "ytioohgcaakcgaaadoor", sum := "e953d72425f7f46e8462dae366d2bf9ec6f517f22b6731f18dd80c048ddad665", func := "tollbridge/tollbridgelaw04.ArpAsks", spec := "arpAsks", unfollowed := true, recurses := true, named := ["tollbridge/header.widths"], apart := false, laid := [("tollbridge/header.widths", laid_tollbridge_header_widths)], narrowed := true }
def ArpAsksUptoSaid : Prop := arpAsksUptoRow.holds Tryd.pinned (OpenSpec.upto arpAsksSpec)

/-- 'tollbridgelaw04.ArpAnswers', WHERE WHAT IT READS IS OF BULK AT MOST 1048576: true; the input reads as it did. -/
def arpAnswersUptoRow : OpenClaim := { program := "ytioohgcaakcgaaadoor", sum := "e953d72425f7f46e8462dae366d2bf9ec6f517f22b6731f18dd80c048ddad665", func := "tollbridge/tollbridgelaw04.ArpAnswers", spec := "arpAnswers", unfollowed := true, recurses := true, named := ["tollbridge/header.widths"], apart := false, laid := [("tollbridge/header.widths", laid_tollbridge_header_widths)], narrowed := true }
def ArpAnswersUptoSaid : Prop := arpAnswersUptoRow.holds Tryd.pinned (OpenSpec.upto arpAnswersSpec)

/-- 'tollbridgelaw04.ArpReads', WHERE WHAT IT READS IS OF BULK AT MOST 1048576: true; the input reads as it did. -/
def arpReadsUptoRow : OpenClaim := { program := "ytioohgcaakcgaaadoor", sum := "e953d72425f7f46e8462dae366d2bf9ec6f517f22b6731f18dd80c048ddad665", func := "tollbridge/tollbridgelaw04.ArpReads", spec := "arpReads", unfollowed := true, recurses := true, named := ["tollbridge/header.widths"], apart := false, laid := [("tollbridge/header.widths", laid_tollbridge_header_widths)], narrowed := true }
def ArpReadsUptoSaid : Prop := arpReadsUptoRow.holds Tryd.pinned (OpenSpec.upto arpReadsSpec)

/-- 'tollbridgelaw04.ArpBack', WHERE WHAT IT READS IS OF BULK AT MOST 1048576: true; the input reads as it did. -/
def arpBackUptoRow : OpenClaim := { program := "ytioohgcaakcgaaadoor", sum := "e953d72425f7f46e8462dae366d2bf9ec6f517f22b6731f18dd80c048ddad665", func := "tollbridge/tollbridgelaw04.ArpBack", spec := "arpBack", unfollowed := true, recurses := true, named := ["tollbridge/header.widths"], apart := false, laid := [("tollbridge/header.widths", laid_tollbridge_header_widths)], narrowed := true }
def ArpBackUptoSaid : Prop := arpBackUptoRow.holds Tryd.pinned (OpenSpec.upto arpBackSpec)

/-- 'tollbridgelaw04.ArpTagged', WHERE WHAT IT READS IS OF BULK AT MOST 1048576: true; the input reads as it did. -/
def arpTaggedUptoRow : OpenClaim := { program := "ytioohgcaakcgaaadoor", sum := "e953d72425f7f46e8462dae366d2bf9ec6f517f22b6731f18dd80c048ddad665", func := "tollbridge/tollbridgelaw04.ArpTagged", spec := "arpTagged", unfollowed := true, recurses := true, named := ["tollbridge/header.widths"], apart := false, laid := [("tollbridge/header.widths", laid_tollbridge_header_widths)], narrowed := true }
def ArpTaggedUptoSaid : Prop := arpTaggedUptoRow.holds Tryd.pinned (OpenSpec.upto arpTaggedSpec)

end Rows
end Go.Proofs.YtioohgcaakcgaaaDoor
