/-
  NARROWER THAN 'FOR EVERY INPUT', by the rows' own cells (each row's printed sentence says how): PolicyChecks: loops, laid · PolicyPlain: loops, laid · PolicyOwn: loops, laid · PolicyParts: loops, laid · MeaningTells: loops, laid · MeaningAlgebra: loops, laid · MeaningStar: loops, laid · MeaningFilters: loops, laid · MeaningSets: loops, laid.
  DERIVED. THE GIVEN ROWS OF THIS SEAT. 9 by the template 'for every input the law returns true; each argument reads behind the call as it read before'; 0 by the template 'total and deterministic' (their statements: YtjallmncajhamaaDoorTotals.lean).
  GIVEN WITH THE SEED: the statements are not yours to turn. If you find one false, say at which input.
  Laid BY PROGRAM, IN A SANDBOX (cutbox-rows.mjs): the forced cells as the released guide's own fill.sh prints them over the translation 15b0f759ad5ae77e… (all of the seat's roots in one cut). By AI agents, Wed Nov 11 2026. No macro, syntax, notation, axiom, sorry.
-/
import Derived.Test.YtjallmncajhamaaDoorChecked
import GoSem.Claim
import GoSem.ClaimJoined
import GoSem.ClaimMapViews
import Derived.JoinedTies
import Derived.KernelRfl
namespace Go.Proofs.YtjallmncajhamaaDoor
/- THE CELL 'sum', in the pinned program and in every row, IS THE sha256 OF THE DUMP (.gsa) THAT YtjallmncajhamaaDoorProg.lean LOADS. Nothing in Lean hashes anything: it is a label: what it is worth is what the hold of that sum in a sandbox is worth. -/
noncomputable def Tryd.pinned : Pinned := { name := "ytjallmncajhamaadoor", sum := "15b0f759ad5ae77e18774066bab2ef9cffe5dd7cc04f6b14ad20708df844d3ff", checked := Tryd.checked }
namespace Rows
def none {H : Type} : Left H := { results := [], args := [] }

/- WHAT THE LISTED PACKAGE-LEVEL VARIABLES READ AS WHEN THE CALL BEGINS. Each datum BY PROGRAM (the guide's laid-datum.mjs) off the statement by which the dump's own 'gosem.cut.vars' lays the variable. In a bare row this is a premise. The card (YtjallmncajhamaaDoorCards.lean) ties it to the program's text. -/
def laid_tollbridge_header_widths {H : Type} : DataW H := .agg [.lit (.int .i64 48), .lit (.int .i64 48), .lit (.int .i64 16), .lit (.int .i64 12), .lit (.int .i64 32), .lit (.int .i64 32), .lit (.int .i64 8), .lit (.int .i64 16), .lit (.int .i64 16), .lit (.int .i64 16), .lit (.int .i64 16)]
def laid_tollbridge_policy_joints {H : Type} : DataW H := .agg [.agg [.lit (.int .i8 0), .lit (.int .i8 0)], .agg [.lit (.int .i8 0), .lit (.int .i8 0)], .agg [.lit (.int .i8 0), .lit (.int .i8 0)], .agg [.lit (.int .i8 0), .lit (.int .i8 0)], .agg [.lit (.int .i8 1), .lit (.int .i8 0)], .agg [.lit (.int .i8 0), .lit (.int .i8 1)], .agg [.lit (.int .i8 0), .lit (.int .i8 0)], .agg [.lit (.int .i8 0), .lit (.int .i8 0)], .agg [.lit (.int .i8 0), .lit (.int .i8 (-1))], .agg [.lit (.int .i8 1), .lit (.int .i8 0)]]
def laid_tollbridge_policy_wants {H : Type} : DataW H := .agg [.agg [.lit (.int .i8 0), .lit (.int .i8 0), .lit (.int .i64 0), .lit (.int .i64 0), .lit (.int .i64 0)], .agg [.lit (.int .i8 0), .lit (.int .i8 0), .lit (.int .i64 0), .lit (.int .i64 0), .lit (.int .i64 0)], .agg [.lit (.int .i8 0), .lit (.int .i8 0), .lit (.int .i64 0), .lit (.int .i64 0), .lit (.int .i64 2039)], .agg [.lit (.int .i8 0), .lit (.int .i8 0), .lit (.int .i64 1), .lit (.int .i64 1), .lit (.int .i64 0)], .agg [.lit (.int .i8 0), .lit (.int .i8 0), .lit (.int .i64 1), .lit (.int .i64 4096), .lit (.int .i64 0)], .agg [.lit (.int .i8 0), .lit (.int .i8 0), .lit (.int .i64 1), .lit (.int .i64 4096), .lit (.int .i64 0)], .agg [.lit (.int .i8 1), .lit (.int .i8 0), .lit (.int .i64 1), .lit (.int .i64 1), .lit (.int .i64 0)], .agg [.lit (.int .i8 1), .lit (.int .i8 0), .lit (.int .i64 0), .lit (.int .i64 0), .lit (.int .i64 947)], .agg [.lit (.int .i8 1), .lit (.int .i8 1), .lit (.int .i64 1), .lit (.int .i64 4096), .lit (.int .i64 0)], .agg [.lit (.int .i8 1), .lit (.int .i8 1), .lit (.int .i64 1), .lit (.int .i64 4096), .lit (.int .i64 0)], .agg [.lit (.int .i8 1), .lit (.int .i8 1), .lit (.int .i64 1), .lit (.int .i64 1), .lit (.int .i64 0)]]

/-- 'tollbridgelaw18.PolicyChecks': WHATEVER THE INPUT: true; the input reads as it did. -/
def policyChecksSpec : ChangeSpec := { name := "policyChecks", fn := fun _ => fun
  | [d] => { results := [.lit (.bool true)], args := [d] }
  | _ => none }
def policyChecksRow : OpenClaim := { program := "ytjallmncajhamaadoor", sum := "15b0f759ad5ae77e18774066bab2ef9cffe5dd7cc04f6b14ad20708df844d3ff", func := "tollbridge/tollbridgelaw18.PolicyChecks", spec := "policyChecks", unfollowed := true, recurses := true, named := ["tollbridge/policy.wants", "tollbridge/header.widths", "tollbridge/policy.joints"], loops := true, plainKeys := false, apart := false, laid := [("tollbridge/header.widths", laid_tollbridge_header_widths), ("tollbridge/policy.joints", laid_tollbridge_policy_joints), ("tollbridge/policy.wants", laid_tollbridge_policy_wants)] }
def PolicyChecksSaid : Prop := policyChecksRow.holds Tryd.pinned (OpenSpec.ofChange policyChecksSpec)

/-- ITS FALSE NEIGHBOUR: 'it returns false'. Refute it at one input. -/
def policyChecksWrong : ChangeSpec := { name := "policyChecks", fn := fun _ => fun
  | [d] => { results := [.lit (.bool false)], args := [d] }
  | _ => none }
def PolicyChecksWrongFalsely : Prop := policyChecksRow.holds Tryd.pinned (OpenSpec.ofChange policyChecksWrong)

/-- 'tollbridgelaw18.PolicyPlain': WHATEVER THE INPUT: true; the input reads as it did. -/
def policyPlainSpec : ChangeSpec := { name := "policyPlain", fn := fun _ => fun
  | [d] => { results := [.lit (.bool true)], args := [d] }
  | _ => none }
def policyPlainRow : OpenClaim := { program := "ytjallmncajhamaadoor", sum := "15b0f759ad5ae77e18774066bab2ef9cffe5dd7cc04f6b14ad20708df844d3ff", func := "tollbridge/tollbridgelaw18.PolicyPlain", spec := "policyPlain", unfollowed := true, recurses := true, named := ["tollbridge/policy.wants", "tollbridge/header.widths", "tollbridge/policy.joints"], loops := true, plainKeys := false, apart := false, laid := [("tollbridge/header.widths", laid_tollbridge_header_widths), ("tollbridge/policy.joints", laid_tollbridge_policy_joints), ("tollbridge/policy.wants", laid_tollbridge_policy_wants)] }
def PolicyPlainSaid : Prop := policyPlainRow.holds Tryd.pinned (OpenSpec.ofChange policyPlainSpec)

/-- ITS FALSE NEIGHBOUR: 'it returns false'. Refute it at one input. -/
def policyPlainWrong : ChangeSpec := { name := "policyPlain", fn := fun _ => fun
  | [d] => { results := [.lit (.bool false)], args := [d] }
  | _ => none }
def PolicyPlainWrongFalsely : Prop := policyPlainRow.holds Tryd.pinned (OpenSpec.ofChange policyPlainWrong)

/-- 'tollbridgelaw18.PolicyOwn': WHATEVER THE INPUT: true; the input reads as it did. -/
def policyOwnSpec : ChangeSpec := { name := "policyOwn", fn := fun _ => fun
  | [d] => { results := [.lit (.bool true)], args := [d] }
  | _ => none }
def policyOwnRow : OpenClaim := { program := "ytjallmncajhamaadoor", sum := "15b0f759ad5ae77e18774066bab2ef9cffe5dd7cc04f6b14ad20708df844d3ff", func := "tollbridge/tollbridgelaw18.PolicyOwn", spec := "policyOwn", unfollowed := true, recurses := true, named := ["tollbridge/policy.wants", "tollbridge/header.widths", "tollbridge/policy.joints"], loops := true, plainKeys := false, apart := false, laid := [("tollbridge/header.widths", laid_tollbridge_header_widths), ("tollbridge/policy.joints", laid_tollbridge_policy_joints), ("tollbridge/policy.wants", laid_tollbridge_policy_wants)] }
def PolicyOwnSaid : Prop := policyOwnRow.holds Tryd.pinned (OpenSpec.ofChange policyOwnSpec)

/-- ITS FALSE NEIGHBOUR: 'it returns false'. Refute it at one input. -/
def policyOwnWrong : ChangeSpec := { name := "policyOwn", fn := fun _ => fun
  | [d] => { results := [.lit (.bool false)], args := [d] }
  | _ => none }
def PolicyOwnWrongFalsely : Prop := policyOwnRow.holds Tryd.pinned (OpenSpec.ofChange policyOwnWrong)

/-- 'tollbridgelaw18.PolicyParts': WHATEVER THE INPUT: true; the input reads as it did. -/
def policyPartsSpec : ChangeSpec := { name := "policyParts", fn := fun _ => fun
  | [d1, d2] => { results := [.lit (.bool true)], args := [d1, d2] }
  | _ => none }
def policyPartsRow : OpenClaim := { program := "ytjallmncajhamaadoor", sum := "15b0f759ad5ae77e18774066bab2ef9cffe5dd7cc04f6b14ad20708df844d3ff", func := "tollbridge/tollbridgelaw18.PolicyParts", spec := "policyParts", unfollowed := true, recurses := true, named := ["tollbridge/policy.wants", "tollbridge/header.widths", "tollbridge/policy.joints"], loops := true, plainKeys := false, apart := false, laid := [("tollbridge/header.widths", laid_tollbridge_header_widths), ("tollbridge/policy.joints", laid_tollbridge_policy_joints), ("tollbridge/policy.wants", laid_tollbridge_policy_wants)] }
def PolicyPartsSaid : Prop := policyPartsRow.holds Tryd.pinned (OpenSpec.ofChange policyPartsSpec)

/-- ITS FALSE NEIGHBOUR: 'it returns false'. Refute it at one input. -/
def policyPartsWrong : ChangeSpec := { name := "policyParts", fn := fun _ => fun
  | [d1, d2] => { results := [.lit (.bool false)], args := [d1, d2] }
  | _ => none }
def PolicyPartsWrongFalsely : Prop := policyPartsRow.holds Tryd.pinned (OpenSpec.ofChange policyPartsWrong)

/-- 'tollbridgelaw19.MeaningTells': WHATEVER THE INPUT: true; the input reads as it did. -/
def meaningTellsSpec : ChangeSpec := { name := "meaningTells", fn := fun _ => fun
  | [d1, d2] => { results := [.lit (.bool true)], args := [d1, d2] }
  | _ => none }
def meaningTellsRow : OpenClaim := { program := "ytjallmncajhamaadoor", sum := "15b0f759ad5ae77e18774066bab2ef9cffe5dd7cc04f6b14ad20708df844d3ff", func := "tollbridge/tollbridgelaw19.MeaningTells", spec := "meaningTells", unfollowed := true, recurses := true, named := ["tollbridge/policy.wants", "tollbridge/header.widths"], loops := true, plainKeys := false, apart := false, laid := [("tollbridge/header.widths", laid_tollbridge_header_widths), ("tollbridge/policy.wants", laid_tollbridge_policy_wants)] }
def MeaningTellsSaid : Prop := meaningTellsRow.holds Tryd.pinned (OpenSpec.ofChange meaningTellsSpec)

/-- ITS FALSE NEIGHBOUR: 'it returns false'. Refute it at one input. -/
def meaningTellsWrong : ChangeSpec := { name := "meaningTells", fn := fun _ => fun
  | [d1, d2] => { results := [.lit (.bool false)], args := [d1, d2] }
  | _ => none }
def MeaningTellsWrongFalsely : Prop := meaningTellsRow.holds Tryd.pinned (OpenSpec.ofChange meaningTellsWrong)

/-- 'tollbridgelaw19.MeaningAlgebra': WHATEVER THE INPUT: true; the input reads as it did. -/
def meaningAlgebraSpec : ChangeSpec := { name := "meaningAlgebra", fn := fun _ => fun
  | [d1, d2, d3, d4] => { results := [.lit (.bool true)], args := [d1, d2, d3, d4] }
  | _ => none }
def meaningAlgebraRow : OpenClaim := { program := "ytjallmncajhamaadoor", sum := "15b0f759ad5ae77e18774066bab2ef9cffe5dd7cc04f6b14ad20708df844d3ff", func := "tollbridge/tollbridgelaw19.MeaningAlgebra", spec := "meaningAlgebra", unfollowed := true, recurses := true, named := ["tollbridge/policy.wants", "tollbridge/header.widths"], loops := true, plainKeys := false, apart := false, laid := [("tollbridge/header.widths", laid_tollbridge_header_widths), ("tollbridge/policy.wants", laid_tollbridge_policy_wants)] }
def MeaningAlgebraSaid : Prop := meaningAlgebraRow.holds Tryd.pinned (OpenSpec.ofChange meaningAlgebraSpec)

/-- ITS FALSE NEIGHBOUR: 'it returns false'. Refute it at one input. -/
def meaningAlgebraWrong : ChangeSpec := { name := "meaningAlgebra", fn := fun _ => fun
  | [d1, d2, d3, d4] => { results := [.lit (.bool false)], args := [d1, d2, d3, d4] }
  | _ => none }
def MeaningAlgebraWrongFalsely : Prop := meaningAlgebraRow.holds Tryd.pinned (OpenSpec.ofChange meaningAlgebraWrong)

/-- 'tollbridgelaw19.MeaningStar': WHATEVER THE INPUT: true; the input reads as it did. -/
def meaningStarSpec : ChangeSpec := { name := "meaningStar", fn := fun _ => fun
  | [d1, d2] => { results := [.lit (.bool true)], args := [d1, d2] }
  | _ => none }
def meaningStarRow : OpenClaim := { program := "ytjallmncajhamaadoor", sum := "15b0f759ad5ae77e18774066bab2ef9cffe5dd7cc04f6b14ad20708df844d3ff", func := "tollbridge/tollbridgelaw19.MeaningStar", spec := "meaningStar", unfollowed := true, recurses := true, named := ["tollbridge/policy.wants", "tollbridge/header.widths"], loops := true, plainKeys := false, apart := false, laid := [("tollbridge/header.widths", laid_tollbridge_header_widths), ("tollbridge/policy.wants", laid_tollbridge_policy_wants)] }
def MeaningStarSaid : Prop := meaningStarRow.holds Tryd.pinned (OpenSpec.ofChange meaningStarSpec)

/-- ITS FALSE NEIGHBOUR: 'it returns false'. Refute it at one input. -/
def meaningStarWrong : ChangeSpec := { name := "meaningStar", fn := fun _ => fun
  | [d1, d2] => { results := [.lit (.bool false)], args := [d1, d2] }
  | _ => none }
def MeaningStarWrongFalsely : Prop := meaningStarRow.holds Tryd.pinned (OpenSpec.ofChange meaningStarWrong)

/-- 'tollbridgelaw19.MeaningFilters': WHATEVER THE INPUT: true; the input reads as it did. -/
def meaningFiltersSpec : ChangeSpec := { name := "meaningFilters", fn := fun _ => fun
  | [d1, d2, d3] => { results := [.lit (.bool true)], args := [d1, d2, d3] }
  | _ => none }
def meaningFiltersRow : OpenClaim := { program := "ytjallmncajhamaadoor", sum := "15b0f759ad5ae77e18774066bab2ef9cffe5dd7cc04f6b14ad20708df844d3ff", func := "tollbridge/tollbridgelaw19.MeaningFilters", spec := "meaningFilters", unfollowed := true, recurses := true, named := ["tollbridge/policy.wants", "tollbridge/header.widths"], loops := true, plainKeys := false, apart := false, laid := [("tollbridge/header.widths", laid_tollbridge_header_widths), ("tollbridge/policy.wants", laid_tollbridge_policy_wants)] }
def MeaningFiltersSaid : Prop := meaningFiltersRow.holds Tryd.pinned (OpenSpec.ofChange meaningFiltersSpec)

/-- ITS FALSE NEIGHBOUR: 'it returns false'. Refute it at one input. -/
def meaningFiltersWrong : ChangeSpec := { name := "meaningFilters", fn := fun _ => fun
  | [d1, d2, d3] => { results := [.lit (.bool false)], args := [d1, d2, d3] }
  | _ => none }
def MeaningFiltersWrongFalsely : Prop := meaningFiltersRow.holds Tryd.pinned (OpenSpec.ofChange meaningFiltersWrong)

/-- 'tollbridgelaw19.MeaningSets': WHATEVER THE INPUT: true; the input reads as it did. -/
def meaningSetsSpec : ChangeSpec := { name := "meaningSets", fn := fun _ => fun
  | [d1, d2] => { results := [.lit (.bool true)], args := [d1, d2] }
  | _ => none }
def meaningSetsRow : OpenClaim := { program := "ytjallmncajhamaadoor", sum := "15b0f759ad5ae77e18774066bab2ef9cffe5dd7cc04f6b14ad20708df844d3ff", func := "tollbridge/tollbridgelaw19.MeaningSets", spec := "meaningSets", unfollowed := true, recurses := true, named := ["tollbridge/policy.wants", "tollbridge/header.widths"], loops := true, plainKeys := false, apart := false, laid := [("tollbridge/header.widths", laid_tollbridge_header_widths), ("tollbridge/policy.wants", laid_tollbridge_policy_wants)] }
def MeaningSetsSaid : Prop := meaningSetsRow.holds Tryd.pinned (OpenSpec.ofChange meaningSetsSpec)

/-- ITS FALSE NEIGHBOUR: 'it returns false'. Refute it at one input. -/
def meaningSetsWrong : ChangeSpec := { name := "meaningSets", fn := fun _ => fun
  | [d1, d2] => { results := [.lit (.bool false)], args := [d1, d2] }
  | _ => none }
def MeaningSetsWrongFalsely : Prop := meaningSetsRow.holds Tryd.pinned (OpenSpec.ofChange meaningSetsWrong)

/- THE SECOND FORM. 'bulk': how many values and letters a reading holds, each counted each time it is reached (what is shared counts as often as it is met; a slice's spare places count too). A statement '..UptoSaid' is the law's where the arguments, and the package variables that the reading takes, are together of bulk at most 1048576: NARROWER than '..Said'. Prove '..Said' where nothing that the law and all that it calls make is longer than what came in: it says more and counts as full. Else prove '..UptoSaid'. A law counts once. -/
mutual
def uptoBulk {H : Type} : DataW H → Nat
  | .lit (.string bytes) => bytes.length + 1
  | .lit _ => 1
  | .nil => 1
  | .ptr d => uptoBulk d + 1
  | .slice elems spare => uptoBulkAll elems + uptoBulkAll spare + 1
  | .agg parts => uptoBulkAll parts + 1
  | .iface _ d => uptoBulk d + 1
  | .map entries => uptoBulkEntries entries + 1
  | .held _ => 1
def uptoBulkAll {H : Type} : List (DataW H) → Nat
  | [] => 0
  | d :: r => uptoBulk d + uptoBulkAll r
def uptoBulkEntries {H : Type} : List (Lit × DataW H) → Nat
  | [] => 0
  | x :: r => uptoBulkEntry x + uptoBulkEntries r
def uptoBulkEntry {H : Type} : Lit × DataW H → Nat
  | (.string bytes, d) => bytes.length + uptoBulk d + 1
  | (_, d) => uptoBulk d + 1
 end
def uptoSmall : (H : Type) → List (DataW H) → Bool := fun _ ds => decide (uptoBulkAll ds ≤ 1048576)
def OpenSpec.upto (s : _root_.Go.ChangeSpec) : _root_.Go.OpenSpec := { _root_.Go.OpenSpec.ofChange s with cond := some uptoSmall }

/-- 'tollbridgelaw18.PolicyChecks', WHERE WHAT IT READS IS OF BULK AT MOST 1048576: true; the input reads as it did. -/
def policyChecksUptoRow : OpenClaim := { program := "ytjallmncajhamaadoor", sum := "15b0f759ad5ae77e18774066bab2ef9cffe5dd7cc04f6b14ad20708df844d3ff", func := "tollbridge/tollbridgelaw18.PolicyChecks", spec := "policyChecks", unfollowed := true, recurses := true, named := ["tollbridge/policy.wants", "tollbridge/header.widths", "tollbridge/policy.joints"], loops := true, plainKeys := false, apart := false, laid := [("tollbridge/header.widths", laid_tollbridge_header_widths), ("tollbridge/policy.joints", laid_tollbridge_policy_joints), ("tollbridge/policy.wants", laid_tollbridge_policy_wants)], narrowed := true }
def PolicyChecksUptoSaid : Prop := policyChecksUptoRow.holds Tryd.pinned (OpenSpec.upto policyChecksSpec)

/-- 'tollbridgelaw18.PolicyPlain', WHERE WHAT IT READS IS OF BULK AT MOST 1048576: true; the input reads as it did. -/
def policyPlainUptoRow : OpenClaim := { program := "ytjallmncajhamaadoor", sum := "15b0f759ad5ae77e18774066bab2ef9cffe5dd7cc04f6b14ad20708df844d3ff", func := "tollbridge/tollbridgelaw18.PolicyPlain", spec := "policyPlain", unfollowed := true, recurses := true, named := ["tollbridge/policy.wants", "tollbridge/header.widths", "tollbridge/policy.joints"], loops := true, plainKeys := false, apart := false, laid := [("tollbridge/header.widths", laid_tollbridge_header_widths), ("tollbridge/policy.joints", laid_tollbridge_policy_joints), ("tollbridge/policy.wants", laid_tollbridge_policy_wants)], narrowed := true }
def PolicyPlainUptoSaid : Prop := policyPlainUptoRow.holds Tryd.pinned (OpenSpec.upto policyPlainSpec)

/-- 'tollbridgelaw18.PolicyOwn', WHERE WHAT IT READS IS OF BULK AT MOST 1048576: true; the input reads as it did. -/
def policyOwnUptoRow : OpenClaim := { program := "ytjallmncajhamaadoor", sum := "15b0f759ad5ae77e18774066bab2ef9cffe5dd7cc04f6b14ad20708df844d3ff", func := "tollbridge/tollbridgelaw18.PolicyOwn", spec := "policyOwn", unfollowed := true, recurses := true, named := ["tollbridge/policy.wants", "tollbridge/header.widths", "tollbridge/policy.joints"], loops := true, plainKeys := false, apart := false, laid := [("tollbridge/header.widths", laid_tollbridge_header_widths), ("tollbridge/policy.joints", laid_tollbridge_policy_joints), ("tollbridge/policy.wants", laid_tollbridge_policy_wants)], narrowed := true }
def PolicyOwnUptoSaid : Prop := policyOwnUptoRow.holds Tryd.pinned (OpenSpec.upto policyOwnSpec)

/-- 'tollbridgelaw18.PolicyParts', WHERE WHAT IT READS IS OF BULK AT MOST 1048576: true; the input reads as it did. -/
def policyPartsUptoRow : OpenClaim := { program := "ytjallmncajhamaadoor", sum := "15b0f759ad5ae77e18774066bab2ef9cffe5dd7cc04f6b14ad20708df844d3ff", func := "tollbridge/tollbridgelaw18.PolicyParts", spec := "policyParts", unfollowed := true, recurses := true, named := ["tollbridge/policy.wants", "tollbridge/header.widths", "tollbridge/policy.joints"], loops := true, plainKeys := false, apart := false, laid := [("tollbridge/header.widths", laid_tollbridge_header_widths), ("tollbridge/policy.joints", laid_tollbridge_policy_joints), ("tollbridge/policy.wants", laid_tollbridge_policy_wants)], narrowed := true }
def PolicyPartsUptoSaid : Prop := policyPartsUptoRow.holds Tryd.pinned (OpenSpec.upto policyPartsSpec)

/-- 'tollbridgelaw19.MeaningTells', WHERE WHAT IT READS IS OF BULK AT MOST 1048576: true; the input reads as it did. -/
def meaningTellsUptoRow : OpenClaim := { program := "ytjallmncajhamaadoor", sum := "15b0f759ad5ae77e18774066bab2ef9cffe5dd7cc04f6b14ad20708df844d3ff", func := "tollbridge/tollbridgelaw19.MeaningTells", spec := "meaningTells", unfollowed := true, recurses := true, named := ["tollbridge/policy.wants", "tollbridge/header.widths"], loops := true, plainKeys := false, apart := false, laid := [("tollbridge/header.widths", laid_tollbridge_header_widths), ("tollbridge/policy.wants", laid_tollbridge_policy_wants)], narrowed := true }
def MeaningTellsUptoSaid : Prop := meaningTellsUptoRow.holds Tryd.pinned (OpenSpec.upto meaningTellsSpec)

/-- 'tollbridgelaw19.MeaningAlgebra', WHERE WHAT IT READS IS OF BULK AT MOST 1048576: true; the input reads as it did. -/
def meaningAlgebraUptoRow : OpenClaim := { program := "ytjallmncajhamaadoor", sum := "15b0f759ad5ae77e18774066bab2ef9cffe5dd7cc04f6b14ad20708df844d3ff", func := "tollbridge/tollbridgelaw19.MeaningAlgebra", spec := "meaningAlgebra", unfollowed := true, recurses := true, named := ["tollbridge/policy.wants", "tollbridge/header.widths"], loops := true, plainKeys := false, apart := false, laid := [("tollbridge/header.widths", laid_tollbridge_header_widths), ("tollbridge/policy.wants", laid_tollbridge_policy_wants)], narrowed := true }
def MeaningAlgebraUptoSaid : Prop := meaningAlgebraUptoRow.holds Tryd.pinned (OpenSpec.upto meaningAlgebraSpec)

/-- 'tollbridgelaw19.MeaningStar', WHERE WHAT IT READS IS OF BULK AT MOST 1048576: true; the input reads as it did. -/
def meaningStarUptoRow : OpenClaim := { program := "ytjallmncajhamaadoor", sum := "15b0f759ad5ae77e18774066bab2ef9cffe5dd7cc04f6b14ad20708df844d3ff", func := "tollbridge/tollbridgelaw19.MeaningStar", spec := "meaningStar", unfollowed := true, recurses := true, named := ["tollbridge/policy.wants", "tollbridge/header.widths"], loops := true, plainKeys := false, apart := false, laid := [("tollbridge/header.widths", laid_tollbridge_header_widths), ("tollbridge/policy.wants", laid_tollbridge_policy_wants)], narrowed := true }
def MeaningStarUptoSaid : Prop := meaningStarUptoRow.holds Tryd.pinned (OpenSpec.upto meaningStarSpec)

/-- 'tollbridgelaw19.MeaningFilters', WHERE WHAT IT READS IS OF BULK AT MOST 1048576: true; the input reads as it did. -/
def meaningFiltersUptoRow : OpenClaim := { program := "ytjallmncajhamaadoor", sum := "15b0f759ad5ae77e18774066bab2ef9cffe5dd7cc04f6b14ad20708df844d3ff", func := "tollbridge/tollbridgelaw19.MeaningFilters", spec := "meaningFilters", unfollowed := true, recurses := true, named := ["tollbridge/policy.wants", "tollbridge/header.widths"], loops := true, plainKeys := false, apart := false, laid := [("tollbridge/header.widths", laid_tollbridge_header_widths), ("tollbridge/policy.wants", laid_tollbridge_policy_wants)], narrowed := true }
def MeaningFiltersUptoSaid : Prop := meaningFiltersUptoRow.holds Tryd.pinned (OpenSpec.upto meaningFiltersSpec)

/-- 'tollbridgelaw19.MeaningSets', WHERE WHAT IT READS IS OF BULK AT MOST 1048576: true; the input reads as it did. -/
def meaningSetsUptoRow : OpenClaim := { program := "ytjallmncajhamaadoor", sum := "15b0f759ad5ae77e18774066bab2ef9cffe5dd7cc04f6b14ad20708df844d3ff", func := "tollbridge/tollbridgelaw19.MeaningSets", spec := "meaningSets", unfollowed := true, recurses := true, named := ["tollbridge/policy.wants", "tollbridge/header.widths"], loops := true, plainKeys := false, apart := false, laid := [("tollbridge/header.widths", laid_tollbridge_header_widths), ("tollbridge/policy.wants", laid_tollbridge_policy_wants)], narrowed := true }
def MeaningSetsUptoSaid : Prop := meaningSetsUptoRow.holds Tryd.pinned (OpenSpec.upto meaningSetsSpec)

end Rows
end Go.Proofs.YtjallmncajhamaaDoor
