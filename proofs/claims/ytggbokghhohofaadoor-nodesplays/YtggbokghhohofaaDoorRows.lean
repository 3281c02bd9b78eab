/-
  NARROWER THAN 'FOR EVERY INPUT', by the rows' own cells (each row's printed sentence says how): NodesPlays: laid · NodesNil: laid · NodesOnce: laid · NodesAgain: laid · NodesRows: laid.
  DERIVED. THE GIVEN ROWS OF THIS SEAT. 5 by the template 'for every input the law returns true; each argument reads behind the call as it read before'; 0 by the template 'total and deterministic' (their statements: YtggbokghhohofaaDoorTotals.lean).
  GIVEN WITH THE SEED: the statements are not yours to turn. If you find one false, say at which input.
  Laid BY PROGRAM, IN A SANDBOX (cutbox-rows.mjs): the forced cells as the released guide's own fill.sh prints them over the translation 5b52f4a72141608f… (all of the seat's roots in one cut). By AI agents, Wed Nov 11 2026. No macro, syntax, notation, axiom, sorry.
-/
import Derived.Test.YtggbokghhohofaaDoorChecked
import GoSem.Claim
import GoSem.ClaimJoined
import GoSem.ClaimMapViews
import Derived.JoinedTies
import Derived.KernelRfl
namespace Go.Proofs.YtggbokghhohofaaDoor
/- THE CELL 'sum', in the pinned program and in every row, IS THE sha256 OF THE DUMP (.gsa) THAT YtggbokghhohofaaDoorProg.lean LOADS. Nothing in Lean hashes anything: it is a label: what it is worth is what the hold of that sum in a sandbox is worth. -/
noncomputable def Tryd.pinned : Pinned := { name := "ytggbokghhohofaadoor", sum := "5b52f4a72141608f1c207e7d74075118a86ee3fc1dbfe38de5357d96ad4b0e64", checked := Tryd.checked }
namespace Rows
def none {H : Type} : Left H := { results := [], args := [] }

/- WHAT THE LISTED PACKAGE-LEVEL VARIABLES READ AS WHEN THE CALL BEGINS. Each datum BY PROGRAM (the guide's laid-datum.mjs) off the statement by which the dump's own 'gosem.cut.vars' lays the variable. In a bare row this is a premise. The card (YtggbokghhohofaaDoorCards.lean) ties it to the program's text. -/
def laid_math_bits_deBruijn32tab {H : Type} : DataW H := .agg [.lit (.int .u8 0), .lit (.int .u8 1), .lit (.int .u8 28), .lit (.int .u8 2), .lit (.int .u8 29), .lit (.int .u8 14), .lit (.int .u8 24), .lit (.int .u8 3), .lit (.int .u8 30), .lit (.int .u8 22), .lit (.int .u8 20), .lit (.int .u8 15), .lit (.int .u8 25), .lit (.int .u8 17), .lit (.int .u8 4), .lit (.int .u8 8), .lit (.int .u8 31), .lit (.int .u8 27), .lit (.int .u8 13), .lit (.int .u8 23), .lit (.int .u8 21), .lit (.int .u8 19), .lit (.int .u8 16), .lit (.int .u8 7), .lit (.int .u8 26), .lit (.int .u8 12), .lit (.int .u8 18), .lit (.int .u8 6), .lit (.int .u8 11), .lit (.int .u8 5), .lit (.int .u8 10), .lit (.int .u8 9)]
def laid_math_bits_deBruijn64tab {H : Type} : DataW H := .agg [.lit (.int .u8 0), .lit (.int .u8 1), .lit (.int .u8 56), .lit (.int .u8 2), .lit (.int .u8 57), .lit (.int .u8 49), .lit (.int .u8 28), .lit (.int .u8 3), .lit (.int .u8 61), .lit (.int .u8 58), .lit (.int .u8 42), .lit (.int .u8 50), .lit (.int .u8 38), .lit (.int .u8 29), .lit (.int .u8 17), .lit (.int .u8 4), .lit (.int .u8 62), .lit (.int .u8 47), .lit (.int .u8 59), .lit (.int .u8 36), .lit (.int .u8 45), .lit (.int .u8 43), .lit (.int .u8 51), .lit (.int .u8 22), .lit (.int .u8 53), .lit (.int .u8 39), .lit (.int .u8 33), .lit (.int .u8 30), .lit (.int .u8 24), .lit (.int .u8 18), .lit (.int .u8 12), .lit (.int .u8 5), .lit (.int .u8 63), .lit (.int .u8 55), .lit (.int .u8 48), .lit (.int .u8 27), .lit (.int .u8 60), .lit (.int .u8 41), .lit (.int .u8 37), .lit (.int .u8 16), .lit (.int .u8 46), .lit (.int .u8 35), .lit (.int .u8 44), .lit (.int .u8 21), .lit (.int .u8 52), .lit (.int .u8 32), .lit (.int .u8 23), .lit (.int .u8 11), .lit (.int .u8 54), .lit (.int .u8 26), .lit (.int .u8 40), .lit (.int .u8 15), .lit (.int .u8 34), .lit (.int .u8 20), .lit (.int .u8 31), .lit (.int .u8 10), .lit (.int .u8 25), .lit (.int .u8 14), .lit (.int .u8 19), .lit (.int .u8 9), .lit (.int .u8 13), .lit (.int .u8 8), .lit (.int .u8 7), .lit (.int .u8 6)]
def laid_internal_strconv_uint64pow10 {H : Type} : DataW H := .agg [.lit (.int .u64 1), .lit (.int .u64 10), .lit (.int .u64 100), .lit (.int .u64 1000), .lit (.int .u64 10000), .lit (.int .u64 100000), .lit (.int .u64 1000000), .lit (.int .u64 10000000), .lit (.int .u64 100000000), .lit (.int .u64 1000000000), .lit (.int .u64 10000000000), .lit (.int .u64 100000000000), .lit (.int .u64 1000000000000), .lit (.int .u64 10000000000000), .lit (.int .u64 100000000000000), .lit (.int .u64 1000000000000000), .lit (.int .u64 10000000000000000), .lit (.int .u64 100000000000000000), .lit (.int .u64 1000000000000000000), .lit (.int .u64 10000000000000000000)]
def laid_tollbridge_nodes_widths {H : Type} : DataW H := .agg [.lit (.int .i64 48), .lit (.int .i64 48), .lit (.int .i64 16), .lit (.int .i64 12), .lit (.int .i64 32), .lit (.int .i64 32), .lit (.int .i64 8), .lit (.int .i64 16), .lit (.int .i64 16), .lit (.int .i64 16), .lit (.int .i64 16)]

/-- 'tollbridgelaw20.NodesPlays': WHATEVER THE INPUT: true; the input reads as it did. -/
def nodesPlaysSpec : ChangeSpec := { name := "nodesPlays", fn := fun _ => fun
  | [d] => { results := [.lit (.bool true)], args := [d] }
  | _ => none }
def nodesPlaysRow : OpenClaim := { program := "ytggbokghhohofaadoor", sum := "5b52f4a72141608f1c207e7d74075118a86ee3fc1dbfe38de5357d96ad4b0e64", func := "tollbridge/tollbridgelaw20.NodesPlays", spec := "nodesPlays", unfollowed := true, recurses := true, named := ["tollbridge/nodes.widths", "internal/strconv.uint64pow10", "math/bits.deBruijn32tab", "math/bits.deBruijn64tab"], plainKeys := false, apart := false, laid := [("math/bits.deBruijn32tab", laid_math_bits_deBruijn32tab), ("math/bits.deBruijn64tab", laid_math_bits_deBruijn64tab), ("internal/strconv.uint64pow10", laid_internal_strconv_uint64pow10), ("tollbridge/nodes.widths", laid_tollbridge_nodes_widths)] }
def NodesPlaysSaid : Prop := nodesPlaysRow.holds Tryd.pinned (OpenSpec.ofChange nodesPlaysSpec)

/-- ITS FALSE NEIGHBOUR: 'it returns false'. Refute it at one input. -/
def nodesPlaysWrong : ChangeSpec := { name := "nodesPlays", fn := fun _ => fun
  | [d] => { results := [.lit (.bool false)], args := [d] }
  | _ => none }
def NodesPlaysWrongFalsely : Prop := nodesPlaysRow.holds Tryd.pinned (OpenSpec.ofChange nodesPlaysWrong)

/-- 'tollbridgelaw20.NodesNil': WHATEVER THE INPUT: true; the input reads as it did. -/
def nodesNilSpec : ChangeSpec := { name := "nodesNil", fn := fun _ => fun
  | [d1, d2, d3, d4] => { results := [.lit (.bool true)], args := [d1, d2, d3, d4] }
  | _ => none }
def nodesNilRow : OpenClaim := { program := "ytggbokghhohofaadoor", sum := "5b52f4a72141608f1c207e7d74075118a86ee3fc1dbfe38de5357d96ad4b0e64", func := "tollbridge/tollbridgelaw20.NodesNil", spec := "nodesNil", unfollowed := true, recurses := true, named := ["tollbridge/nodes.widths", "internal/strconv.uint64pow10", "math/bits.deBruijn32tab", "math/bits.deBruijn64tab"], plainKeys := false, apart := false, laid := [("math/bits.deBruijn32tab", laid_math_bits_deBruijn32tab), ("math/bits.deBruijn64tab", laid_math_bits_deBruijn64tab), ("internal/strconv.uint64pow10", laid_internal_strconv_uint64pow10), ("tollbridge/nodes.widths", laid_tollbridge_nodes_widths)] }
def NodesNilSaid : Prop := nodesNilRow.holds Tryd.pinned (OpenSpec.ofChange nodesNilSpec)

/-- ITS FALSE NEIGHBOUR: 'it returns false'. Refute it at one input. -/
def nodesNilWrong : ChangeSpec := { name := "nodesNil", fn := fun _ => fun
  | [d1, d2, d3, d4] => { results := [.lit (.bool false)], args := [d1, d2, d3, d4] }
  | _ => none }
def NodesNilWrongFalsely : Prop := nodesNilRow.holds Tryd.pinned (OpenSpec.ofChange nodesNilWrong)

/-- 'tollbridgelaw20.NodesOnce': WHATEVER THE INPUT: true; the input reads as it did. -/
def nodesOnceSpec : ChangeSpec := { name := "nodesOnce", fn := fun _ => fun
  | [d] => { results := [.lit (.bool true)], args := [d] }
  | _ => none }
def nodesOnceRow : OpenClaim := { program := "ytggbokghhohofaadoor", sum := "5b52f4a72141608f1c207e7d74075118a86ee3fc1dbfe38de5357d96ad4b0e64", func := "tollbridge/tollbridgelaw20.NodesOnce", spec := "nodesOnce", unfollowed := true, recurses := true, named := ["tollbridge/nodes.widths", "internal/strconv.uint64pow10", "math/bits.deBruijn32tab", "math/bits.deBruijn64tab"], plainKeys := false, apart := false, laid := [("math/bits.deBruijn32tab", laid_math_bits_deBruijn32tab), ("math/bits.deBruijn64tab", laid_math_bits_deBruijn64tab), ("internal/strconv.uint64pow10", laid_internal_strconv_uint64pow10), ("tollbridge/nodes.widths", laid_tollbridge_nodes_widths)] }
def NodesOnceSaid : Prop := nodesOnceRow.holds Tryd.pinned (OpenSpec.ofChange nodesOnceSpec)

/-- ITS FALSE NEIGHBOUR: 'it returns false'. Refute it at one input. -/
def nodesOnceWrong : ChangeSpec := { name := "nodesOnce", fn := fun _ => fun
  | [d] => { results := [.lit (.bool false)], args := [d] }
  | _ => none }
def NodesOnceWrongFalsely : Prop := nodesOnceRow.holds Tryd.pinned (OpenSpec.ofChange nodesOnceWrong)

/-- 'tollbridgelaw20.NodesAgain': WHATEVER THE INPUT: true; the input reads as it did. -/
def nodesAgainSpec : ChangeSpec := { name := "nodesAgain", fn := fun _ => fun
  | [d1, d2] => { results := [.lit (.bool true)], args := [d1, d2] }
  | _ => none }
def nodesAgainRow : OpenClaim := { program := "ytggbokghhohofaadoor", sum := "5b52f4a72141608f1c207e7d74075118a86ee3fc1dbfe38de5357d96ad4b0e64", func := "tollbridge/tollbridgelaw20.NodesAgain", spec := "nodesAgain", unfollowed := true, recurses := true, named := ["tollbridge/nodes.widths", "internal/strconv.uint64pow10", "math/bits.deBruijn32tab", "math/bits.deBruijn64tab"], plainKeys := false, apart := false, laid := [("math/bits.deBruijn32tab", laid_math_bits_deBruijn32tab), ("math/bits.deBruijn64tab", laid_math_bits_deBruijn64tab), ("internal/strconv.uint64pow10", laid_internal_strconv_uint64pow10), ("tollbridge/nodes.widths", laid_tollbridge_nodes_widths)] }
def NodesAgainSaid : Prop := nodesAgainRow.holds Tryd.pinned (OpenSpec.ofChange nodesAgainSpec)

/-- ITS FALSE NEIGHBOUR: 'it returns false'. Refute it at one input. -/
def nodesAgainWrong : ChangeSpec := { name := "nodesAgain", fn := fun _ => fun
  | [d1, d2] => { results := [.lit (.bool false)], args := [d1, d2] }
  | _ => none }
def NodesAgainWrongFalsely : Prop := nodesAgainRow.holds Tryd.pinned (OpenSpec.ofChange nodesAgainWrong)

/-- 'tollbridgelaw20.NodesRows': WHATEVER THE INPUT: true; the input reads as it did. -/
def nodesRowsSpec : ChangeSpec := { name := "nodesRows", fn := fun _ => fun
  | [d1, d2] => { results := [.lit (.bool true)], args := [d1, d2] }
  | _ => none }
def nodesRowsRow : OpenClaim := { program := "ytggbokghhohofaadoor", sum := "5b52f4a72141608f1c207e7d74075118a86ee3fc1dbfe38de5357d96ad4b0e64", func := "tollbridge/tollbridgelaw20.NodesRows", spec := "nodesRows", unfollowed := true, recurses := true, named := ["tollbridge/nodes.widths", "internal/strconv.uint64pow10", "math/bits.deBruijn32tab", "math/bits.deBruijn64tab"], plainKeys := false, apart := false, laid := [("math/bits.deBruijn32tab", laid_math_bits_deBruijn32tab), ("math/bits.deBruijn64tab", laid_math_bits_deBruijn64tab), ("internal/strconv.uint64pow10", laid_internal_strconv_uint64pow10), ("tollbridge/nodes.widths", laid_tollbridge_nodes_widths)] }
def NodesRowsSaid : Prop := nodesRowsRow.holds Tryd.pinned (OpenSpec.ofChange nodesRowsSpec)

/-- ITS FALSE NEIGHBOUR: 'it returns false'. Refute it at one input. -/
def nodesRowsWrong : ChangeSpec := { name := "nodesRows", fn := fun _ => fun
  | [d1, d2] => { results := [.lit (.bool false)], args := [d1, d2] }
  | _ => none }
def NodesRowsWrongFalsely : Prop := nodesRowsRow.holds Tryd.pinned (OpenSpec.ofChange nodesRowsWrong)

/- THE SECOND FORM. 'bulk': how many values and letters a reading holds, each counted each time it is reached (what is shared counts as often as it is met; a slice's spare places count too). A statement '..UptoSaid' is the law's where the arguments, and the package variables that the reading takes, are together of bulk at most 1048576: NARROWER than '..Said'. Prove '..Said' where nothing that the law and all that it calls make is longer than what came in: it says more and counts as full. Else prove '..UptoSaid'. A law counts once. -/
mutual
def uptoBulk {H : Type} : DataW H → Nat
  | .lit (.string bytes) => bytes.length + 1
  | .lit _ => 1
  | .nil => 1
  | .ptr d => uptoBulk d + 1
  | .slice elems spare => uptoBulkAll elems + uptoBulkAll spare + 1
  | .agg parts => uptoBulkAll parts + 1
  | .iface _ d => uptoBulk d + 1
  | .map entries => uptoBulkEntries entries + 1
  | .held _ => 1
def uptoBulkAll {H : Type} : List (DataW H) → Nat
  | [] => 0
  | d :: r => uptoBulk d + uptoBulkAll r
def uptoBulkEntries {H : Type} : List (Lit × DataW H) → Nat
  | [] => 0
  | x :: r => uptoBulkEntry x + uptoBulkEntries r
def uptoBulkEntry {H : Type} : Lit × DataW H → Nat
  | (.string bytes, d) => bytes.length + uptoBulk d + 1
  | (_, d) => uptoBulk d + 1
 end
def uptoSmall : (H : Type) → List (DataW H) → Bool := fun _ ds => decide (uptoBulkAll ds ≤ 1048576)
def OpenSpec.upto (s : _root_.Go.ChangeSpec) : _root_.Go.OpenSpec := { _root_.Go.OpenSpec.ofChange s with cond := some uptoSmall }

/-- 'tollbridgelaw20.NodesPlays', WHERE WHAT IT READS IS OF BULK AT MOST 1048576: true; the input reads as it did. -/
def nodesPlaysUptoRow : OpenClaim := { program := "ytggbokghhohofaadoor", sum := "5b52f4a72141608f1c207e7d74075118a86ee3fc1dbfe38de5357d96ad4b0e64", func := "tollbridge/tollbridgelaw20.NodesPlays", spec := "nodesPlays", unfollowed := true, recurses := true, named := ["tollbridge/nodes.widths", "internal/strconv.uint64pow10", "math/bits.deBruijn32tab", "math/bits.deBruijn64tab"], plainKeys := false, apart := false, laid := [("math/bits.deBruijn32tab", laid_math_bits_deBruijn32tab), ("math/bits.deBruijn64tab", laid_math_bits_deBruijn64tab), ("internal/strconv.uint64pow10", laid_internal_strconv_uint64pow10), ("tollbridge/nodes.widths", laid_tollbridge_nodes_widths)], narrowed := true }
def NodesPlaysUptoSaid : Prop := nodesPlaysUptoRow.holds Tryd.pinned (OpenSpec.upto nodesPlaysSpec)

/-- 'tollbridgelaw20.NodesNil', WHERE WHAT IT READS IS OF BULK AT MOST 1048576: true; the input reads as it did. -/
def nodesNilUptoRow : OpenClaim := { program := "ytggbokghhohofaadoor", sum := "5b52f4a72141608f1c207e7d74075118a86ee3fc1dbfe38de5357d96ad4b0e64", func := "tollbridge/tollbridgelaw20.NodesNil", spec := "nodesNil", unfollowed := true, recurses := true, named := ["tollbridge/nodes.widths", "internal/strconv.uint64pow10", "math/bits.deBruijn32tab", "math/bits.deBruijn64tab"], plainKeys := false, apart := false, laid := [("math/bits.deBruijn32tab", laid_math_bits_deBruijn32tab), ("math/bits.deBruijn64tab", laid_math_bits_deBruijn64tab), ("internal/strconv.uint64pow10", laid_internal_strconv_uint64pow10), ("tollbridge/nodes.widths", laid_tollbridge_nodes_widths)], narrowed := true }
def NodesNilUptoSaid : Prop := nodesNilUptoRow.holds Tryd.pinned (OpenSpec.upto nodesNilSpec)

/-- 'tollbridgelaw20.NodesOnce', WHERE WHAT IT READS IS OF BULK AT MOST 1048576: true; the input reads as it did. -/
def nodesOnceUptoRow : OpenClaim := { program := "ytggbokghhohofaadoor", sum := "5b52f4a72141608f1c207e7d74075118a86ee3fc1dbfe38de5357d96ad4b0e64", func := "tollbridge/tollbridgelaw20.NodesOnce", spec := "nodesOnce", unfollowed := true, recurses := true, named := ["tollbridge/nodes.widths", "internal/strconv.uint64pow10", "math/bits.deBruijn32tab", "math/bits.deBruijn64tab"], plainKeys := false, apart := false, laid := [("math/bits.deBruijn32tab", laid_math_bits_deBruijn32tab), ("math/bits.deBruijn64tab", laid_math_bits_deBruijn64tab), ("internal/strconv.uint64pow10", laid_internal_strconv_uint64pow10), ("tollbridge/nodes.widths", laid_tollbridge_nodes_widths)], narrowed := true }
def NodesOnceUptoSaid : Prop := nodesOnceUptoRow.holds Tryd.pinned (OpenSpec.upto nodesOnceSpec)

/-- 'tollbridgelaw20.NodesAgain', WHERE WHAT IT READS IS OF BULK AT MOST 1048576: true; the input reads as it did. -/
def nodesAgainUptoRow : OpenClaim := { program := "ytggbokghhohofaadoor", sum := "5b52f4a72141608f1c207e7d74075118a86ee3fc1dbfe38de5357d96ad4b0e64", func := "tollbridge/tollbridgelaw20.NodesAgain", spec := "nodesAgain", unfollowed := true, recurses := true, named := ["tollbridge/nodes.widths", "internal/strconv.uint64pow10", "math/bits.deBruijn32tab", "math/bits.deBruijn64tab"], plainKeys := false, apart := false, laid := [("math/bits.deBruijn32tab", laid_math_bits_deBruijn32tab), ("math/bits.deBruijn64tab", laid_math_bits_deBruijn64tab), ("internal/strconv.uint64pow10", laid_internal_strconv_uint64pow10), ("tollbridge/nodes.widths", laid_tollbridge_nodes_widths)], narrowed := true }
def NodesAgainUptoSaid : Prop := nodesAgainUptoRow.holds Tryd.pinned (OpenSpec.upto nodesAgainSpec)

/-- 'tollbridgelaw20.NodesRows', WHERE WHAT IT READS IS OF BULK AT MOST 1048576: true; the input reads as it did. -/
def nodesRowsUptoRow : OpenClaim := { program := "ytggbokghhohofaadoor", sum := "5b52f4a72141608f1c207e7d74075118a86ee3fc1dbfe38de5357d96ad4b0e64", func := "tollbridge/tollbridgelaw20.NodesRows", spec := "nodesRows", unfollowed := true, recurses := true, named := ["tollbridge/nodes.widths", "internal/strconv.uint64pow10", "math/bits.deBruijn32tab", "math/bits.deBruijn64tab"], plainKeys := false, apart := false, laid := [("math/bits.deBruijn32tab", laid_math_bits_deBruijn32tab), ("math/bits.deBruijn64tab", laid_math_bits_deBruijn64tab), ("internal/strconv.uint64pow10", laid_internal_strconv_uint64pow10), ("tollbridge/nodes.widths", laid_tollbridge_nodes_widths)], narrowed := true }
def NodesRowsUptoSaid : Prop := nodesRowsUptoRow.holds Tryd.pinned (OpenSpec.upto nodesRowsSpec)

end Rows
end Go.Proofs.YtggbokghhohofaaDoor
