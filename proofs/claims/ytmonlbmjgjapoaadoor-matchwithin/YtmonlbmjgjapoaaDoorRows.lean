/-
  NARROWER THAN 'FOR EVERY INPUT', by the rows' own cells (each row's printed sentence says how): MatchTells: laid · MatchLies: laid · MatchBoth: laid · MatchOrder: laid · MatchWithin: laid · MatchWide: laid.
  DERIVED. THE GIVEN ROWS OF THIS SEAT. 6 by the template 'for every input the law returns true; each argument reads behind the call as it read before'; 0 by the template 'total and deterministic' (their statements: YtmonlbmjgjapoaaDoorTotals.lean).
  GIVEN WITH THE SEED: the statements are not yours to turn. If you find one false, say at which input.
  Laid BY PROGRAM, IN A SANDBOX (cutbox-rows.mjs): the forced cells as the released guide's own fill.sh prints them over the translation 3790cb167cdc8a0b… (all of the seat's roots in one cut). By AI agents, Wed Nov 11 2026. No macro, syntax, notation, axiom, sorry.
-/
import Derived.Test.YtmonlbmjgjapoaaDoorChecked
import GoSem.Claim
import GoSem.ClaimJoined
import GoSem.ClaimMapViews
import Derived.JoinedTies
import Derived.KernelRfl
namespace Go.Proofs.YtmonlbmjgjapoaaDoor
/- THE CELL 'sum', in the pinned program and in every row, IS THE sha256 OF THE DUMP (.gsa) THAT YtmonlbmjgjapoaaDoorProg.lean LOADS. Nothing in Lean hashes anything: it is a label: what it is worth is what the hold of that sum in a sandbox is worth. -/
noncomputable def Tryd.pinned : Pinned := { name := "ytmonlbmjgjapoaadoor", sum := "3790cb167cdc8a0b2877f771cd497d6ef91b954cf101b6e1b13942b7662bf491", checked := Tryd.checked }
namespace Rows
def none {H : Type} : Left H := { results := [], args := [] }

/- WHAT THE LISTED PACKAGE-LEVEL VARIABLES READ AS WHEN THE CALL BEGINS. Each datum BY PROGRAM (the guide's laid-datum.mjs) off the statement by which the dump's own 'gosem.cut.vars' lays the variable. In a bare row this is a premise. The card (YtmonlbmjgjapoaaDoorCards.lean) ties it to the program's text. -/
def laid_tollbridge_header_widths {H : Type} : DataW H := .agg [.lit (.int .i64 48), .lit (.int .i64 48), .lit (.int .i64 16), .lit (.int .i64 12), .lit (.int .i64 32), .lit (.int .i64 32), .lit (.int .i64 8), .lit (.int .i64 16), .lit (.int .i64 16), .lit (.int .i64 16), .lit (.int .i64 16)]

/-- 'tollbridgelaw02.MatchTells': WHATEVER THE INPUT: true; the input reads as it did. -/
def matchTellsSpec : ChangeSpec := { name := "matchTells", fn := fun _ => fun
  | [d1, d2] => { results := [.lit (.bool true)], args := [d1, d2] }
  | _ => none }
def matchTellsRow : OpenClaim := { program := "ytmonlbmjgjapoaadoor", sum := "3790cb167cdc8a0b2877f771cd497d6ef91b954cf101b6e1b13942b7662bf491", func := "tollbridge/tollbridgelaw02.MatchTells", spec := "matchTells", unfollowed := true, recurses := true, named := ["tollbridge/header.widths"], apart := false, laid := [("tollbridge/header.widths", laid_tollbridge_header_widths)] }
def MatchTellsSaid : Prop := matchTellsRow.holds Tryd.pinned (OpenSpec.ofChange matchTellsSpec)

/-- ITS FALSE NEIGHBOUR: 'it returns false'. Refute it at one input. -/
def matchTellsWrong : ChangeSpec := { name := "matchTells", fn := fun _ => fun
  | [d1, d2] => { results := [.lit (.bool false)], args := [d1, d2] }
  | _ => none }
def MatchTellsWrongFalsely : Prop := matchTellsRow.holds Tryd.pinned (OpenSpec.ofChange matchTellsWrong)

/-- 'tollbridgelaw02.MatchLies': WHATEVER THE INPUT: true; the input reads as it did. -/
def matchLiesSpec : ChangeSpec := { name := "matchLies", fn := fun _ => fun
  | [d1, d2] => { results := [.lit (.bool true)], args := [d1, d2] }
  | _ => none }
def matchLiesRow : OpenClaim := { program := "ytmonlbmjgjapoaadoor", sum := "3790cb167cdc8a0b2877f771cd497d6ef91b954cf101b6e1b13942b7662bf491", func := "tollbridge/tollbridgelaw02.MatchLies", spec := "matchLies", unfollowed := true, recurses := true, named := ["tollbridge/header.widths"], apart := false, laid := [("tollbridge/header.widths", laid_tollbridge_header_widths)] }
def MatchLiesSaid : Prop := matchLiesRow.holds Tryd.pinned (OpenSpec.ofChange matchLiesSpec)

/-- ITS FALSE NEIGHBOUR: 'it returns false'. Refute it at one input. -/
def matchLiesWrong : ChangeSpec := { name := "matchLies", fn := fun _ => fun
  | [d1, d2] => { results := [.lit (.bool false)], args := [d1, d2] }
  | _ => none }
def MatchLiesWrongFalsely : Prop := matchLiesRow.holds Tryd.pinned (OpenSpec.ofChange matchLiesWrong)

/-- 'tollbridgelaw02.MatchBoth': WHATEVER THE INPUT: true; the input reads as it did. -/
def matchBothSpec : ChangeSpec := { name := "matchBoth", fn := fun _ => fun
  | [d1, d2, d3] => { results := [.lit (.bool true)], args := [d1, d2, d3] }
  | _ => none }
def matchBothRow : OpenClaim := { program := "ytmonlbmjgjapoaadoor", sum := "3790cb167cdc8a0b2877f771cd497d6ef91b954cf101b6e1b13942b7662bf491", func := "tollbridge/tollbridgelaw02.MatchBoth", spec := "matchBoth", unfollowed := true, recurses := true, named := ["tollbridge/header.widths"], apart := false, laid := [("tollbridge/header.widths", laid_tollbridge_header_widths)] }
def MatchBothSaid : Prop := matchBothRow.holds Tryd.pinned (OpenSpec.ofChange matchBothSpec)

/-- ITS FALSE NEIGHBOUR: 'it returns false'. Refute it at one input. -/
def matchBothWrong : ChangeSpec := { name := "matchBoth", fn := fun _ => fun
  | [d1, d2, d3] => { results := [.lit (.bool false)], args := [d1, d2, d3] }
  | _ => none }
def MatchBothWrongFalsely : Prop := matchBothRow.holds Tryd.pinned (OpenSpec.ofChange matchBothWrong)

/-- 'tollbridgelaw02.MatchOrder': WHATEVER THE INPUT: true; the input reads as it did. -/
def matchOrderSpec : ChangeSpec := { name := "matchOrder", fn := fun _ => fun
  | [d1, d2, d3] => { results := [.lit (.bool true)], args := [d1, d2, d3] }
  | _ => none }
def matchOrderRow : OpenClaim := { program := "ytmonlbmjgjapoaadoor", sum := "3790cb167cdc8a0b2877f771cd497d6ef91b954cf101b6e1b13942b7662bf491", func := "tollbridge/tollbridgelaw02.MatchOrder", spec := "matchOrder", unfollowed := true, recurses := true, named := ["tollbridge/header.widths"], apart := false, laid := [("tollbridge/header.widths", laid_tollbridge_header_widths)] }
def MatchOrderSaid : Prop := matchOrderRow.holds Tryd.pinned (OpenSpec.ofChange matchOrderSpec)

/-- ITS FALSE NEIGHBOUR: 'it returns false'. Refute it at one input. -/
def matchOrderWrong : ChangeSpec := { name := "matchOrder", fn := fun _ => fun
  | [d1, d2, d3] => { results := [.lit (.bool false)], args := [d1, d2, d3] }
  | _ => none }
def MatchOrderWrongFalsely : Prop := matchOrderRow.holds Tryd.pinned (OpenSpec.ofChange matchOrderWrong)

/-- 'tollbridgelaw02.MatchWithin': WHATEVER THE INPUT: true; the input reads as it did. -/
def matchWithinSpec : ChangeSpec := { name := "matchWithin", fn := fun _ => fun
  | [d1, d2, d3, d4] => { results := [.lit (.bool true)], args := [d1, d2, d3, d4] }
  | _ => none }
def matchWithinRow : OpenClaim := { program := "ytmonlbmjgjapoaadoor", sum := "3790cb167cdc8a0b2877f771cd497d6ef91b954cf101b6e1b13942b7662bf491", func := "tollbridge/tollbridgelaw02.MatchWithin", spec := "matchWithin", unfollowed := true, recurses := true, named := ["tollbridge/header.widths"], apart := false, laid := [("tollbridge/header.widths", laid_tollbridge_header_widths)] }
def MatchWithinSaid : Prop := matchWithinRow.holds Tryd.pinned (OpenSpec.ofChange matchWithinSpec)

/-- ITS FALSE NEIGHBOUR: 'it returns false'. Refute it at one input. -/
def matchWithinWrong : ChangeSpec := { name := "matchWithin", fn := fun _ => fun
  | [d1, d2, d3, d4] => { results := [.lit (.bool false)], args := [d1, d2, d3, d4] }
  | _ => none }
def MatchWithinWrongFalsely : Prop := matchWithinRow.holds Tryd.pinned (OpenSpec.ofChange matchWithinWrong)

/-- 'tollbridgelaw02.MatchWide': WHATEVER THE INPUT: true; the input reads as it did. -/
def matchWideSpec : ChangeSpec := { name := "matchWide", fn := fun _ => fun
  | [d1, d2, d3, d4] => { results := [.lit (.bool true)], args := [d1, d2, d3, d4] }
  | _ => none }
def matchWideRow : OpenClaim := { program := "ytmonlbmjgjapoaadoor", sum := "3790cb167cdc8a0b2877f771cd497d6ef91b954cf101b6e1b13942b7662bf491", func := "tollbridge/tollbridgelaw02.MatchWide", spec := "matchWide", unfollowed := true, recurses := true, named := ["tollbridge/header.widths"], apart := false, laid := [("tollbridge/header.widths", laid_tollbridge_header_widths)] }
def MatchWideSaid : Prop := matchWideRow.holds Tryd.pinned (OpenSpec.ofChange matchWideSpec)

/-- ITS FALSE NEIGHBOUR: 'it returns false'. Refute it at one input. -/
def matchWideWrong : ChangeSpec := { name := "matchWide", fn := fun _ => fun
  | [d1, d2, d3, d4] => { results := [.lit (.bool false)], args := [d1, d2, d3, d4] }
  | _ => none }
def MatchWideWrongFalsely : Prop := matchWideRow.holds Tryd.pinned (OpenSpec.ofChange matchWideWrong)

/- THE SECOND FORM. 'bulk': how many values and letters a reading holds, each counted each time it is reached (what is shared counts as often as it is met; a slice's spare places count too). A statement '..UptoSaid' is the law's where the arguments, and the package variables that the reading takes, are together of bulk at most 1048576: NARROWER than '..Said'. Prove '..Said' where nothing that the law and all that it calls make is longer than what came in: it says more and counts as full. Else prove '..UptoSaid'. A law counts once. -/
mutual
def uptoBulk {H : Type} : DataW H → Nat
  | .lit (.string bytes) => bytes.length + 1
  | .lit _ => 1
  | .nil => 1
  | .ptr d => uptoBulk d + 1
  | .slice elems spare => uptoBulkAll elems + uptoBulkAll spare + 1
  | .agg parts => uptoBulkAll parts + 1
  | .iface _ d => uptoBulk d + 1
  | .map entries => uptoBulkEntries entries + 1
  | .held _ => 1
def uptoBulkAll {H : Type} : List (DataW H) → Nat
  | [] => 0
  | d :: r => uptoBulk d + uptoBulkAll r
def uptoBulkEntries {H : Type} : List (Lit × DataW H) → Nat
  | [] => 0
  | x :: r => uptoBulkEntry x + uptoBulkEntries r
def uptoBulkEntry {H : Type} : Lit × DataW H → Nat
  | (.string bytes, d) => bytes.length + uptoBulk d + 1
  | (_, d) => uptoBulk d + 1
 end
def uptoSmall : (H : Type) → List (DataW H) → Bool := fun _ ds => decide (uptoBulkAll ds ≤ 1048576)
def OpenSpec.upto (s : _root_.Go.ChangeSpec) : _root_.Go.OpenSpec := { _root_.Go.OpenSpec.ofChange s with cond := some uptoSmall }

/-- 'tollbridgelaw02.MatchTells', WHERE WHAT IT READS IS OF BULK AT MOST 1048576: true; the input reads as it did. -/
def matchTellsUptoRow : OpenClaim := { program := "ytmonlbmjgjapoaadoor", sum := "3790cb167cdc8a0b2877f771cd497d6ef91b954cf101b6e1b13942b7662bf491", func := "tollbridge/tollbridgelaw02.MatchTells", spec := "matchTells", unfollowed := true, recurses := true, named := ["tollbridge/header.widths"], apart := false, laid := [("tollbridge/header.widths", laid_tollbridge_header_widths)], narrowed := true }
def MatchTellsUptoSaid : Prop := matchTellsUptoRow.holds Tryd.pinned (OpenSpec.upto matchTellsSpec)

/-- 'tollbridgelaw02.MatchLies', WHERE WHAT IT READS IS OF BULK AT MOST 1048576: true; the input reads as it did. -/
def matchLiesUptoRow : OpenClaim := { program := "ytmonlbmjgjapoaadoor", sum := "3790cb167cdc8a0b2877f771cd497d6ef91b954cf101b6e1b13942b7662bf491", func := "tollbridge/tollbridgelaw02.MatchLies", spec := "matchLies", unfollowed := true, recurses := true, named := ["tollbridge/header.widths"], apart := false, laid := [("tollbridge/header.widths", laid_tollbridge_header_widths)], narrowed := true }
def MatchLiesUptoSaid : Prop := matchLiesUptoRow.holds Tryd.pinned (OpenSpec.upto matchLiesSpec)

/-- 'tollbridgelaw02.MatchBoth', WHERE WHAT IT READS IS OF BULK AT MOST 1048576: true; the input reads as it did. -/
def matchBothUptoRow : OpenClaim := { program := "ytmonlbmjgjapoaadoor", sum := "3790cb167cdc8a0b2877f771cd497d6ef91b954cf101b6e1b13942b7662bf491", func := "tollbridge/tollbridgelaw02.MatchBoth", spec := "matchBoth", unfollowed := true, recurses := true, named := ["tollbridge/header.widths"], apart := false, laid := [("tollbridge/header.widths", laid_tollbridge_header_widths)], narrowed := true }
def MatchBothUptoSaid : Prop := matchBothUptoRow.holds Tryd.pinned (OpenSpec.upto matchBothSpec)

/-- 'tollbridgelaw02.MatchOrder', WHERE WHAT IT READS IS OF BULK AT MOST 1048576: true; the input reads as it did. -/
def matchOrderUptoRow : OpenClaim := { program := "ytmonlbmjgjapoaadoor", sum := "3790cb167cdc8a0b2877f771cd497d6ef91b954cf101b6e1b13942b7662bf491", func := "tollbridge/tollbridgelaw02.MatchOrder", spec := "matchOrder", unfollowed := true, recurses := true, named := ["tollbridge/header.widths"], apart := false, laid := [("tollbridge/header.widths", laid_tollbridge_header_widths)], narrowed := true }
def MatchOrderUptoSaid : Prop := matchOrderUptoRow.holds Tryd.pinned (OpenSpec.upto matchOrderSpec)

/-- 'tollbridgelaw02.MatchWithin', WHERE WHAT IT READS IS OF BULK AT MOST 1048576: true; the input reads as it did. -/
def matchWithinUptoRow : OpenClaim := { program := "ytmonlbmjgjapoaadoor", sum := "3790cb167cdc8a0b2877f771cd497d6ef91b954cf101b6e1b13942b7662bf491", func := "tollbridge/tollbridgelaw02.MatchWithin", spec := "matchWithin", unfollowed := true, recurses := true, named := ["tollbridge/header.widths"], apart := false, laid := [("tollbridge/header.widths", laid_tollbridge_header_widths)], narrowed := true }
def MatchWithinUptoSaid : Prop := matchWithinUptoRow.holds Tryd.pinned (OpenSpec.upto matchWithinSpec)

/-- 'tollbridgelaw02.MatchWide', WHERE WHAT IT READS IS OF BULK AT MOST 1048576: true; the input reads as it did. -/
def matchWideUptoRow : OpenClaim := { program := "ytmonlbmjgjapoaadoor", sum := "3790cb167cdc8a0b2877f771cd497d6ef91b954cf101b6e1b13942b7662bf491", func := "tollbridge/tollbridgelaw02.MatchWide", spec := "matchWide", unfollowed := true, recurses := true, named := ["tollbridge/header.widths"], apart := false, laid := [("tollbridge/header.widths", laid_tollbridge_header_widths)], narrowed := true }
def MatchWideUptoSaid : Prop := matchWideUptoRow.holds Tryd.pinned (OpenSpec.upto matchWideSpec)

end Rows
end Go.Proofs.YtmonlbmjgjapoaaDoor
