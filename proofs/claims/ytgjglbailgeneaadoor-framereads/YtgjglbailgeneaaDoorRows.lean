/-
  NARROWER THAN 'FOR EVERY INPUT', by the rows' own cells (each row's printed sentence says how): FrameReads: laid · FrameBuilds: laid · FrameBack: laid · FrameSpoilt: laid · FrameSums: laid.
  DERIVED. THE GIVEN ROWS OF THIS SEAT. 5 by the template 'for every input the law returns true; each argument reads behind the call as it read before'; 0 by the template 'total and deterministic' (their statements: YtgjglbailgeneaaDoorTotals.lean).
  GIVEN WITH THE SEED: the statements are not yours to turn. If you find one false, say at which input.
  Laid BY PROGRAM, IN A SANDBOX (cutbox-rows.mjs): the forced cells as the released guide's own fill.sh prints them over the translation 90ce9592d5cde705… (all of the seat's roots in one cut). By AI agents, Wed Nov 11 2026. No macro, syntax, notation, axiom, sorry.
-/
import Derived.Test.YtgjglbailgeneaaDoorChecked
import GoSem.Claim
import GoSem.ClaimJoined
import GoSem.ClaimMapViews
import Derived.JoinedTies
import Derived.KernelRfl
namespace Go.Proofs.YtgjglbailgeneaaDoor
/- THE CELL 'sum', in the pinned program and in every row, IS THE sha256 OF THE DUMP (.gsa) THAT YtgjglbailgeneaaDoorProg.lean LOADS. Nothing in Lean hashes anything: it is a label: what it is worth is what the hold of that sum in a sandbox is worth. -/
noncomputable def Tryd.pinned : Pinned := { name := "ytgjglbailgeneaadoor", sum := "90ce9592d5cde7051467fd81d80d740c4924f71eeef4090adc006ca1fce8139d", checked := Tryd.checked }
namespace Rows
def none {H : Type} : Left H := { results := [], args := [] }

/- WHAT THE LISTED PACKAGE-LEVEL VARIABLES READ AS WHEN THE CALL BEGINS. Each datum BY PROGRAM (the guide's laid-datum.mjs) off the statement by which the dump's own 'gosem.cut.vars' lays the variable. In a bare row this is a premise. The card (YtgjglbailgeneaaDoorCards.lean) ties it to the program's text. -/
def laid_tollbridge_header_widths {H : Type} : DataW H := .agg [.lit (.int .i64 48), .lit (.int .i64 48), .lit (.int .i64 16), .lit (.int .i64 12), .lit (.int .i64 32), .lit (.int .i64 32), .lit (.int .i64 8), .lit (.int .i64 16), .lit (.int .i64 16), .lit (.int .i64 16), .lit (.int .i64 16)]

/-- 'tollbridgelaw03.FrameReads': WHATEVER THE INPUT: true; the input reads as it did. -/
def frameReadsSpec : ChangeSpec := { name := "frameReads", fn := fun _ => fun
  | [d] => { results := [.lit (.bool true)], args := [d] }
  | _ => none }
def frameReadsRow : OpenClaim := { program := "ytgjglbailgeneaadoor", sum := "90ce9592d5cde7051467fd81d80d740c4924f71eeef4090adc006ca1fce8139d", func := "tollbridge/tollbridgelaw03.FrameReads", spec := "frameReads", unfollowed := true, recurses := true, named := ["tollbridge/header.widths"], apart := false, laid := [("tollbridge/header.widths", laid_tollbridge_header_widths)] }
def FrameReadsSaid : Prop := frameReadsRow.holds Tryd.pinned (OpenSpec.ofChange frameReadsSpec)

/-- ITS FALSE NEIGHBOUR: 'it returns false'. Refute it at one input. -/
def frameReadsWrong : ChangeSpec := { name := "frameReads", fn := fun _ => fun
  | [d] => { results := [.lit (.bool false)], args := [d] }
  | _ => none }
def FrameReadsWrongFalsely : Prop := frameReadsRow.holds Tryd.pinned (OpenSpec.ofChange frameReadsWrong)

/-- 'tollbridgelaw03.FrameBuilds': WHATEVER THE INPUT: true; the input reads as it did. -/
def frameBuildsSpec : ChangeSpec := { name := "frameBuilds", fn := fun _ => fun
  | [d] => { results := [.lit (.bool true)], args := [d] }
  | _ => none }
def frameBuildsRow : OpenClaim := { program := "ytgjglbailgeneaadoor", sum := "90ce9592d5cde7051467fd81d80d740c4924f71eeef4090adc006ca1fce8139d", func := "tollbridge/tollbridgelaw03.FrameBuilds", spec := "frameBuilds", unfollowed := true, recurses := true, named := ["tollbridge/header.widths"], apart := false, laid := [("tollbridge/header.widths", laid_tollbridge_header_widths)] }
def FrameBuildsSaid : Prop := frameBuildsRow.holds Tryd.pinned (OpenSpec.ofChange frameBuildsSpec)

/-- ITS FALSE NEIGHBOUR: 'it returns false'. Refute it at one input. -/
def frameBuildsWrong : ChangeSpec := { name := "frameBuilds", fn := fun _ => fun
  | [d] => { results := [.lit (.bool false)], args := [d] }
  | _ => none }
def FrameBuildsWrongFalsely : Prop := frameBuildsRow.holds Tryd.pinned (OpenSpec.ofChange frameBuildsWrong)

/-- 'tollbridgelaw03.FrameBack': WHATEVER THE INPUT: true; the input reads as it did. -/
def frameBackSpec : ChangeSpec := { name := "frameBack", fn := fun _ => fun
  | [d1, d2] => { results := [.lit (.bool true)], args := [d1, d2] }
  | _ => none }
def frameBackRow : OpenClaim := { program := "ytgjglbailgeneaadoor", sum := "90ce9592d5cde7051467fd81d80d740c4924f71eeef4090adc006ca1fce8139d", func := "tollbridge/tollbridgelaw03.FrameBack", spec := "frameBack", unfollowed := true, recurses := true, named := ["tollbridge/header.widths"], apart := false, laid := [("tollbridge/header.widths", laid_tollbridge_header_widths)] }
def FrameBackSaid : Prop := frameBackRow.holds Tryd.pinned (OpenSpec.ofChange frameBackSpec)

/-- ITS FALSE NEIGHBOUR: 'it returns false'. Refute it at one input. -/
def frameBackWrong : ChangeSpec := { name := "frameBack", fn := fun _ => fun
  | [d1, d2] => { results := [.lit (.bool false)], args := [d1, d2] }
  | _ => none }
def FrameBackWrongFalsely : Prop := frameBackRow.holds Tryd.pinned (OpenSpec.ofChange frameBackWrong)

/-- 'tollbridgelaw03.FrameSpoilt': WHATEVER THE INPUT: true; the input reads as it did. -/
def frameSpoiltSpec : ChangeSpec := { name := "frameSpoilt", fn := fun _ => fun
  | [d1, d2, d3] => { results := [.lit (.bool true)], args := [d1, d2, d3] }
  | _ => none }
def frameSpoiltRow : OpenClaim := { program := "ytgjglbailgeneaadoor", sum := "90ce9592d5cde7051467fd81d80d740c4924f71eeef4090adc006ca1fce8139d", func := "tollbridge/tollbridgelaw03.FrameSpoilt", spec := "frameSpoilt", unfollowed := true, recurses := true, named := ["tollbridge/header.widths"], apart := false, laid := [("tollbridge/header.widths", laid_tollbridge_header_widths)] }
def FrameSpoiltSaid : Prop := frameSpoiltRow.holds Tryd.pinned (OpenSpec.ofChange frameSpoiltSpec)

/-- ITS FALSE NEIGHBOUR: 'it returns false'. Refute it at one input. -/
def frameSpoiltWrong : ChangeSpec := { name := "frameSpoilt", fn := fun _ => fun
  | [d1, d2, d3] => { results := [.lit (.bool false)], args := [d1, d2, d3] }
  | _ => none }
def FrameSpoiltWrongFalsely : Prop := frameSpoiltRow.holds Tryd.pinned (OpenSpec.ofChange frameSpoiltWrong)

/-- 'tollbridgelaw03.FrameSums': WHATEVER THE INPUT: true; the input reads as it did. -/
def frameSumsSpec : ChangeSpec := { name := "frameSums", fn := fun _ => fun
  | [d] => { results := [.lit (.bool true)], args := [d] }
  | _ => none }
def frameSumsRow : OpenClaim := { program := "ytgjglbailgeneaadoor", sum := "90ce9592d5cde7051467fd81d80d740c4924f71eeef4090adc006ca1fce8139d", func := "tollbridge/tollbridgelaw03.FrameSums", spec := "frameSums", unfollowed := true, recurses := true, named := ["tollbridge/header.widths"], apart := false, laid := [("tollbridge/header.widths", laid_tollbridge_header_widths)] }
def FrameSumsSaid : Prop := frameSumsRow.holds Tryd.pinned (OpenSpec.ofChange frameSumsSpec)

/-- ITS FALSE NEIGHBOUR: 'it returns false'. Refute it at one input. -/
def frameSumsWrong : ChangeSpec := { name := "frameSums", fn := fun _ => fun
  | [d] => { results := [.lit (.bool false)], args := [d] }
  | _ => none }
def FrameSumsWrongFalsely : Prop := frameSumsRow.holds Tryd.pinned (OpenSpec.ofChange frameSumsWrong)

/- THE SECOND FORM. 'bulk': how many values and letters a reading holds, each counted each time it is reached (what is shared counts as often as it is met; a slice's spare places count too). A statement '..UptoSaid' is the law's where the arguments, and the package variables that the reading takes, are together of bulk at most 1048576: NARROWER than '..Said'. Prove '..Said' where nothing that the law and all that it calls make is longer than what came in: it says more and counts as full. Else prove '..UptoSaid'. A law counts once. -/
mutual
def uptoBulk {H : Type} : DataW H → Nat
  | .lit (.string bytes) => bytes.length + 1
  | .lit _ => 1
  | .nil => 1
  | .ptr d => uptoBulk d + 1
  | .slice elems spare => uptoBulkAll elems + uptoBulkAll spare + 1
  | .agg parts => uptoBulkAll parts + 1
  | .iface _ d => uptoBulk d + 1
  | .map entries => uptoBulkEntries entries + 1
  | .held _ => 1
def uptoBulkAll {H : Type} : List (DataW H) → Nat
  | [] => 0
  | d :: r => uptoBulk d + uptoBulkAll r
def uptoBulkEntries {H : Type} : List (Lit × DataW H) → Nat
  | [] => 0
  | x :: r => uptoBulkEntry x + uptoBulkEntries r
def uptoBulkEntry {H : Type} : Lit × DataW H → Nat
  | (.string bytes, d) => bytes.length + uptoBulk d + 1
  | (_, d) => uptoBulk d + 1
 end
def uptoSmall : (H : Type) → List (DataW H) → Bool := fun _ ds => decide (uptoBulkAll ds ≤ 1048576)
def OpenSpec.upto (s : _root_.Go.ChangeSpec) : _root_.Go.OpenSpec := { _root_.Go.OpenSpec.ofChange s with cond := some uptoSmall }

/-- 'tollbridgelaw03.FrameReads', WHERE WHAT IT READS IS OF BULK AT MOST 1048576: true; the input reads as it did. -/
def frameReadsUptoRow : OpenClaim := { program := "ytgjglbailgeneaadoor", sum := "90ce9592d5cde7051467fd81d80d740c4924f71eeef4090adc006ca1fce8139d", func := "tollbridge/tollbridgelaw03.FrameReads", spec := "frameReads", unfollowed := true, recurses := true, named := ["tollbridge/header.widths"], apart := false, laid := [("tollbridge/header.widths", laid_tollbridge_header_widths)], narrowed := true }
def FrameReadsUptoSaid : Prop := frameReadsUptoRow.holds Tryd.pinned (OpenSpec.upto frameReadsSpec)

/-- 'tollbridgelaw03.FrameBuilds', WHERE WHAT IT READS IS OF BULK AT MOST 1048576: true; the input reads as it did. -/
def frameBuildsUptoRow : OpenClaim := { program := "ytgjglbailgeneaadoor", sum := "90ce9592d5cde7051467fd81d80d740c4924f71eeef4090adc006ca1fce8139d", func := "tollbridge/tollbridgelaw03.FrameBuilds", spec := "frameBuilds", unfollowed := true, recurses := true, named := ["tollbridge/header.widths"], apart := false, laid := [("tollbridge/header.widths", laid_tollbridge_header_widths)], narrowed := true }
def FrameBuildsUptoSaid : Prop := frameBuildsUptoRow.holds Tryd.pinned (OpenSpec.upto frameBuildsSpec)

/-- 'tollbridgelaw03.FrameBack', WHERE WHAT IT READS IS OF BULK AT MOST 1048576: true; the input reads as it did. -/
def frameBackUptoRow : OpenClaim := { program := "ytgjglbailgeneaadoor", sum := "90ce9592d5cde7051467fd81d80d740c4924f71eeef4090adc006ca1fce8139d", func := "tollbridge/tollbridgelaw03.FrameBack", spec := "frameBack", unfollowed := true, recurses := true, named := ["tollbridge/header.widths"], apart := false, laid := [("tollbridge/header.widths", laid_tollbridge_header_widths)], narrowed := true }
def FrameBackUptoSaid : Prop := frameBackUptoRow.holds Tryd.pinned (OpenSpec.upto frameBackSpec)

/-- 'tollbridgelaw03.FrameSpoilt', WHERE WHAT IT READS IS OF BULK AT MOST 1048576: true; the input reads as it did. -/
def frameSpoiltUptoRow : OpenClaim := { program := "ytgjglbailgeneaadoor", sum := "90ce9592d5cde7051467fd81d80d740c4924f71eeef4090adc006ca1fce8139d", func := "tollbridge/tollbridgelaw03.FrameSpoilt", spec := "frameSpoilt", unfollowed := true, recurses := true, named := ["tollbridge/header.widths"], apart := false, laid := [("tollbridge/header.widths", laid_tollbridge_header_widths)], narrowed := true }
def FrameSpoiltUptoSaid : Prop := frameSpoiltUptoRow.holds Tryd.pinned (OpenSpec.upto frameSpoiltSpec)

/-- 'tollbridgelaw03.FrameSums', WHERE WHAT IT READS IS OF BULK AT MOST 1048576: true; the input reads as it did. -/
def frameSumsUptoRow : OpenClaim := { program := "ytgjglbailgeneaadoor", sum := "90ce9592d5cde7051467fd81d80d740c4924f71eeef4090adc006ca1fce8139d", func := "tollbridge/tollbridgelaw03.FrameSums", spec := "frameSums", unfollowed := true, recurses := true, named := ["tollbridge/header.widths"], apart := false, laid := [("tollbridge/header.widths", laid_tollbridge_header_widths)], narrowed := true }
def FrameSumsUptoSaid : Prop := frameSumsUptoRow.holds Tryd.pinned (OpenSpec.upto frameSumsSpec)

end Rows
end Go.Proofs.YtgjglbailgeneaaDoor
