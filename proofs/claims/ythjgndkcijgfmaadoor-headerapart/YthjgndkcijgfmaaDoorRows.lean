/-
  NARROWER THAN 'FOR EVERY INPUT', by the rows' own cells (each row's printed sentence says how): HeaderTells: laid · HeaderApart: laid · HeaderLess: laid · HeaderWide: laid · HeaderKnown: laid.
  DERIVED. THE GIVEN ROWS OF THIS SEAT. 5 by the template 'for every input the law returns true; each argument reads behind the call as it read before'; 0 by the template 'total and deterministic' (their statements: YthjgndkcijgfmaaDoorTotals.lean).
  GIVEN WITH THE SEED: the statements are not yours to turn. If you find one false, say at which input.
  Laid BY PROGRAM, IN A SANDBOX (cutbox-rows.mjs): the forced cells as the released guide's own fill.sh prints them over the translation 69c519bb629b4564… (all of the seat's roots in one cut). By AI agents, Wed Nov 11 2026. No macro, syntax, notation, axiom, sorry.
-/
import Derived.Test.YthjgndkcijgfmaaDoorChecked
import GoSem.Claim
import GoSem.ClaimJoined
import GoSem.ClaimMapViews
import Derived.JoinedTies
import Derived.KernelRfl
namespace Go.Proofs.YthjgndkcijgfmaaDoor
/- THE CELL 'sum', in the pinned program and in every row, IS THE sha256 OF THE DUMP (.gsa) THAT YthjgndkcijgfmaaDoorProg.lean LOADS. Nothing in Lean hashes anything: it is a label: what it is worth is what the hold of that sum in a sandbox is worth. -/
noncomputable def Tryd.pinned : Pinned := { name := "ythjgndkcijgfmaadoor", sum := "69c519bb629b4564c0ca8f45fbd7c5b55ba09b3ecdb669de8f249c9f06456b78", checked := Tryd.checked }
namespace Rows
def none {H : Type} : Left H := { results := [], args := [] }

/- WHAT THE LISTED PACKAGE-LEVEL VARIABLES READ AS WHEN THE CALL BEGINS. Each datum BY PROGRAM (the guide's laid-datum.mjs) off the statement by which the dump's own 'gosem.cut.vars' lays the variable. In a bare row this is a premise. The card (YthjgndkcijgfmaaDoorCards.lean) ties it to the program's text. -/
def laid_math_bits_deBruijn32tab {H : Type} : DataW H := .agg [.lit (.int .u8 0), .lit (.int .u8 1), .lit (.int .u8 28), .lit (.int .u8 2), .lit (.int .u8 29), .lit (.int .u8 14), .lit (.int .u8 24), .lit (.int .u8 3), .lit (.int .u8 30), .lit (.int .u8 22), .lit (.int .u8 20), .lit (.int .u8 15), .lit (.int .u8 25), .lit (.int .u8 17), .lit (.int .u8 4), .lit (.int .u8 8), .lit (.int .u8 31), .lit (.int .u8 27), .lit (.int .u8 13), .lit (.int .u8 23), .lit (.int .u8 21), .lit (.int .u8 19), .lit (.int .u8 16), .lit (.int .u8 7), .lit (.int .u8 26), .lit (.int .u8 12), .lit (.int .u8 18), .lit (.int .u8 6), .lit (.int .u8 11), .lit (.int .u8 5), .lit (.int .u8 10), .lit (.int .u8 9)]
def laid_math_bits_deBruijn64tab {H : Type} : DataW H := .agg [.lit (.int .u8 0), .lit (.int .u8 1), .lit (.int .u8 56), .lit (.int .u8 2), .lit (.int .u8 57), .lit (.int .u8 49), .lit (.int .u8 28), .lit (.int .u8 3), .lit (.int .u8 61), .lit (.int .u8 58), .lit (.int .u8 42), .lit (.int .u8 50), .lit (.int .u8 38), .lit (.int .u8 29), .lit (.int .u8 17), .lit (.int .u8 4), .lit (.int .u8 62), .lit (.int .u8 47), .lit (.int .u8 59), .lit (.int .u8 36), .lit (.int .u8 45), .lit (.int .u8 43), .lit (.int .u8 51), .lit (.int .u8 22), .lit (.int .u8 53), .lit (.int .u8 39), .lit (.int .u8 33), .lit (.int .u8 30), .lit (.int .u8 24), .lit (.int .u8 18), .lit (.int .u8 12), .lit (.int .u8 5), .lit (.int .u8 63), .lit (.int .u8 55), .lit (.int .u8 48), .lit (.int .u8 27), .lit (.int .u8 60), .lit (.int .u8 41), .lit (.int .u8 37), .lit (.int .u8 16), .lit (.int .u8 46), .lit (.int .u8 35), .lit (.int .u8 44), .lit (.int .u8 21), .lit (.int .u8 52), .lit (.int .u8 32), .lit (.int .u8 23), .lit (.int .u8 11), .lit (.int .u8 54), .lit (.int .u8 26), .lit (.int .u8 40), .lit (.int .u8 15), .lit (.int .u8 34), .lit (.int .u8 20), .lit (.int .u8 31), .lit (.int .u8 10), .lit (.int .u8 25), .lit (.int .u8 14), .lit (.int .u8 19), .lit (.int .u8 9), .lit (.int .u8 13), .lit (.int .u8 8), .lit (.int .u8 7), .lit (.int .u8 6)]
def laid_internal_strconv_uint64pow10 {H : Type} : DataW H := .agg [.lit (.int .u64 1), .lit (.int .u64 10), .lit (.int .u64 100), .lit (.int .u64 1000), .lit (.int .u64 10000), .lit (.int .u64 100000), .lit (.int .u64 1000000), .lit (.int .u64 10000000), .lit (.int .u64 100000000), .lit (.int .u64 1000000000), .lit (.int .u64 10000000000), .lit (.int .u64 100000000000), .lit (.int .u64 1000000000000), .lit (.int .u64 10000000000000), .lit (.int .u64 100000000000000), .lit (.int .u64 1000000000000000), .lit (.int .u64 10000000000000000), .lit (.int .u64 100000000000000000), .lit (.int .u64 1000000000000000000), .lit (.int .u64 10000000000000000000)]
def laid_tollbridge_header_widths {H : Type} : DataW H := .agg [.lit (.int .i64 48), .lit (.int .i64 48), .lit (.int .i64 16), .lit (.int .i64 12), .lit (.int .i64 32), .lit (.int .i64 32), .lit (.int .i64 8), .lit (.int .i64 16), .lit (.int .i64 16), .lit (.int .i64 16), .lit (.int .i64 16)]
def laid_tollbridge_header_names {H : Type} : DataW H := .agg [.lit (.string [115, 114, 99]), .lit (.string [100, 115, 116]), .lit (.string [107, 105, 110, 100]), .lit (.string [118, 108, 97, 110]), .lit (.string [102, 114, 111, 109]), .lit (.string [116, 111]), .lit (.string [112, 114, 111, 116, 111]), .lit (.string [115, 112, 111, 114, 116]), .lit (.string [100, 112, 111, 114, 116]), .lit (.string [112, 111, 114, 116]), .lit (.string [115, 119, 105, 116, 99, 104])]

/-- 'tollbridgelaw01.HeaderTells': WHATEVER THE INPUT: true; the input reads as it did. -/
def headerTellsSpec : ChangeSpec := { name := "headerTells", fn := fun _ => fun
  | [d1, d2] => { results := [.lit (.bool true)], args := [d1, d2] }
  | _ => none }
def headerTellsRow : OpenClaim := { program := "ythjgndkcijgfmaadoor", sum := "69c519bb629b4564c0ca8f45fbd7c5b55ba09b3ecdb669de8f249c9f06456b78", func := "tollbridge/tollbridgelaw01.HeaderTells", spec := "headerTells", named := ["tollbridge/header.widths", "tollbridge/header.names", "internal/strconv.uint64pow10", "math/bits.deBruijn32tab", "math/bits.deBruijn64tab"], apart := false, laid := [("math/bits.deBruijn32tab", laid_math_bits_deBruijn32tab), ("math/bits.deBruijn64tab", laid_math_bits_deBruijn64tab), ("internal/strconv.uint64pow10", laid_internal_strconv_uint64pow10), ("tollbridge/header.widths", laid_tollbridge_header_widths), ("tollbridge/header.names", laid_tollbridge_header_names)] }
def HeaderTellsSaid : Prop := headerTellsRow.holds Tryd.pinned (OpenSpec.ofChange headerTellsSpec)

/-- ITS FALSE NEIGHBOUR: 'it returns false'. Refute it at one input. -/
def headerTellsWrong : ChangeSpec := { name := "headerTells", fn := fun _ => fun
  | [d1, d2] => { results := [.lit (.bool false)], args := [d1, d2] }
  | _ => none }
def HeaderTellsWrongFalsely : Prop := headerTellsRow.holds Tryd.pinned (OpenSpec.ofChange headerTellsWrong)

/-- 'tollbridgelaw01.HeaderApart': WHATEVER THE INPUT: true; the input reads as it did. -/
def headerApartSpec : ChangeSpec := { name := "headerApart", fn := fun _ => fun
  | [d1, d2] => { results := [.lit (.bool true)], args := [d1, d2] }
  | _ => none }
def headerApartRow : OpenClaim := { program := "ythjgndkcijgfmaadoor", sum := "69c519bb629b4564c0ca8f45fbd7c5b55ba09b3ecdb669de8f249c9f06456b78", func := "tollbridge/tollbridgelaw01.HeaderApart", spec := "headerApart", named := ["tollbridge/header.widths", "tollbridge/header.names", "internal/strconv.uint64pow10", "math/bits.deBruijn32tab", "math/bits.deBruijn64tab"], apart := false, laid := [("math/bits.deBruijn32tab", laid_math_bits_deBruijn32tab), ("math/bits.deBruijn64tab", laid_math_bits_deBruijn64tab), ("internal/strconv.uint64pow10", laid_internal_strconv_uint64pow10), ("tollbridge/header.widths", laid_tollbridge_header_widths), ("tollbridge/header.names", laid_tollbridge_header_names)] }
def HeaderApartSaid : Prop := headerApartRow.holds Tryd.pinned (OpenSpec.ofChange headerApartSpec)

/-- ITS FALSE NEIGHBOUR: 'it returns false'. Refute it at one input. -/
def headerApartWrong : ChangeSpec := { name := "headerApart", fn := fun _ => fun
  | [d1, d2] => { results := [.lit (.bool false)], args := [d1, d2] }
  | _ => none }
def HeaderApartWrongFalsely : Prop := headerApartRow.holds Tryd.pinned (OpenSpec.ofChange headerApartWrong)

/-- 'tollbridgelaw01.HeaderLess': WHATEVER THE INPUT: true; the input reads as it did. -/
def headerLessSpec : ChangeSpec := { name := "headerLess", fn := fun _ => fun
  | [d1, d2] => { results := [.lit (.bool true)], args := [d1, d2] }
  | _ => none }
def headerLessRow : OpenClaim := { program := "ythjgndkcijgfmaadoor", sum := "69c519bb629b4564c0ca8f45fbd7c5b55ba09b3ecdb669de8f249c9f06456b78", func := "tollbridge/tollbridgelaw01.HeaderLess", spec := "headerLess", named := ["tollbridge/header.widths", "tollbridge/header.names", "internal/strconv.uint64pow10", "math/bits.deBruijn32tab", "math/bits.deBruijn64tab"], apart := false, laid := [("math/bits.deBruijn32tab", laid_math_bits_deBruijn32tab), ("math/bits.deBruijn64tab", laid_math_bits_deBruijn64tab), ("internal/strconv.uint64pow10", laid_internal_strconv_uint64pow10), ("tollbridge/header.widths", laid_tollbridge_header_widths), ("tollbridge/header.names", laid_tollbridge_header_names)] }
def HeaderLessSaid : Prop := headerLessRow.holds Tryd.pinned (OpenSpec.ofChange headerLessSpec)

/-- ITS FALSE NEIGHBOUR: 'it returns false'. Refute it at one input. -/
def headerLessWrong : ChangeSpec := { name := "headerLess", fn := fun _ => fun
  | [d1, d2] => { results := [.lit (.bool false)], args := [d1, d2] }
  | _ => none }
def HeaderLessWrongFalsely : Prop := headerLessRow.holds Tryd.pinned (OpenSpec.ofChange headerLessWrong)

/-- 'tollbridgelaw01.HeaderWide': WHATEVER THE INPUT: true; the input reads as it did. -/
def headerWideSpec : ChangeSpec := { name := "headerWide", fn := fun _ => fun
  | [d1, d2, d3] => { results := [.lit (.bool true)], args := [d1, d2, d3] }
  | _ => none }
def headerWideRow : OpenClaim := { program := "ythjgndkcijgfmaadoor", sum := "69c519bb629b4564c0ca8f45fbd7c5b55ba09b3ecdb669de8f249c9f06456b78", func := "tollbridge/tollbridgelaw01.HeaderWide", spec := "headerWide", named := ["tollbridge/header.widths", "tollbridge/header.names", "internal/strconv.uint64pow10", "math/bits.deBruijn32tab", "math/bits.deBruijn64tab"], apart := false, laid := [("math/bits.deBruijn32tab", laid_math_bits_deBruijn32tab), ("math/bits.deBruijn64tab", laid_math_bits_deBruijn64tab), ("internal/strconv.uint64pow10", laid_internal_strconv_uint64pow10), ("tollbridge/header.widths", laid_tollbridge_header_widths), ("tollbridge/header.names", laid_tollbridge_header_names)] }
def HeaderWideSaid : Prop := headerWideRow.holds Tryd.pinned (OpenSpec.ofChange headerWideSpec)

/-- ITS FALSE NEIGHBOUR: 'it returns false'. Refute it at one input. -/
def headerWideWrong : ChangeSpec := { name := "headerWide", fn := fun _ => fun
  | [d1, d2, d3] => { results := [.lit (.bool false)], args := [d1, d2, d3] }
  | _ => none }
def HeaderWideWrongFalsely : Prop := headerWideRow.holds Tryd.pinned (OpenSpec.ofChange headerWideWrong)

/-- 'tollbridgelaw01.HeaderKnown': WHATEVER THE INPUT: true; the input reads as it did. -/
def headerKnownSpec : ChangeSpec := { name := "headerKnown", fn := fun _ => fun
  | [] => { results := [.lit (.bool true)], args := [] }
  | _ => none }
def headerKnownRow : OpenClaim := { program := "ythjgndkcijgfmaadoor", sum := "69c519bb629b4564c0ca8f45fbd7c5b55ba09b3ecdb669de8f249c9f06456b78", func := "tollbridge/tollbridgelaw01.HeaderKnown", spec := "headerKnown", named := ["tollbridge/header.widths", "tollbridge/header.names", "internal/strconv.uint64pow10", "math/bits.deBruijn32tab", "math/bits.deBruijn64tab"], apart := false, laid := [("math/bits.deBruijn32tab", laid_math_bits_deBruijn32tab), ("math/bits.deBruijn64tab", laid_math_bits_deBruijn64tab), ("internal/strconv.uint64pow10", laid_internal_strconv_uint64pow10), ("tollbridge/header.widths", laid_tollbridge_header_widths), ("tollbridge/header.names", laid_tollbridge_header_names)] }
def HeaderKnownSaid : Prop := headerKnownRow.holds Tryd.pinned (OpenSpec.ofChange headerKnownSpec)

/-- ITS FALSE NEIGHBOUR: 'it returns false'. Refute it at one input. -/
def headerKnownWrong : ChangeSpec := { name := "headerKnown", fn := fun _ => fun
  | [] => { results := [.lit (.bool false)], args := [] }
  | _ => none }
def HeaderKnownWrongFalsely : Prop := headerKnownRow.holds Tryd.pinned (OpenSpec.ofChange headerKnownWrong)

/- THE SECOND FORM. 'bulk': how many values and letters a reading holds, each counted each time it is reached (what is shared counts as often as it is met; a slice's spare places count too). A statement '..UptoSaid' is the law's where the arguments, and the package variables that the reading takes, are together of bulk at most 1048576: NARROWER than '..Said'. Prove '..Said' where nothing that the law and all that it calls make is longer than what came in: it says more and counts as full. Else prove '..UptoSaid'. A law counts once. -/
mutual
def uptoBulk {H : Type} : DataW H → Nat
  | .lit (.string bytes) => bytes.length + 1
  | .lit _ => 1
  | .nil => 1
  | .ptr d => uptoBulk d + 1
  | .slice elems spare => uptoBulkAll elems + uptoBulkAll spare + 1
  | .agg parts => uptoBulkAll parts + 1
  | .iface _ d => uptoBulk d + 1
  | .map entries => uptoBulkEntries entries + 1
  | .held _ => 1
def uptoBulkAll {H : Type} : List (DataW H) → Nat
  | [] => 0
  | d :: r => uptoBulk d + uptoBulkAll r
def uptoBulkEntries {H : Type} : List (Lit × DataW H) → Nat
  | [] => 0
  | x :: r => uptoBulkEntry x + uptoBulkEntries r
def uptoBulkEntry {H : Type} : Lit × DataW H → Nat
  | (.string bytes, d) => bytes.length + uptoBulk d + 1
  | (_, d) => uptoBulk d + 1
 end
def uptoSmall : (H : Type) → List (DataW H) → Bool := fun _ ds => decide (uptoBulkAll ds ≤ 1048576)
def OpenSpec.upto (s : _root_.Go.ChangeSpec) : _root_.Go.OpenSpec := { _root_.Go.OpenSpec.ofChange s with cond := some uptoSmall }

/-- 'tollbridgelaw01.HeaderTells', WHERE WHAT IT READS IS OF BULK AT MOST 1048576: true; the input reads as it did. -/
def headerTellsUptoRow : OpenClaim := { program := "ythjgndkcijgfmaadoor", sum := "69c519bb629b4564c0ca8f45fbd7c5b55ba09b3ecdb669de8f249c9f06456b78", func := "tollbridge/tollbridgelaw01.HeaderTells", spec := "headerTells", named := ["tollbridge/header.widths", "tollbridge/header.names", "internal/strconv.uint64pow10", "math/bits.deBruijn32tab", "math/bits.deBruijn64tab"], apart := false, laid := [("math/bits.deBruijn32tab", laid_math_bits_deBruijn32tab), ("math/bits.deBruijn64tab", laid_math_bits_deBruijn64tab), ("internal/strconv.uint64pow10", laid_internal_strconv_uint64pow10), ("tollbridge/header.widths", laid_tollbridge_header_widths), ("tollbridge/header.names", laid_tollbridge_header_names)], narrowed := true }
def HeaderTellsUptoSaid : Prop := headerTellsUptoRow.holds Tryd.pinned (OpenSpec.upto headerTellsSpec)

/-- 'tollbridgelaw01.HeaderApart', WHERE WHAT IT READS IS OF BULK AT MOST 1048576: true; the input reads as it did. -/
def headerApartUptoRow : OpenClaim := { program := "ythjgndkcijgfmaadoor", sum := "69c519bb629b4564c0ca8f45fbd7c5b55ba09b3ecdb669de8f249c9f06456b78", func := "tollbridge/tollbridgelaw01.HeaderApart", spec := "headerApart", named := ["tollbridge/header.widths", "tollbridge/header.names", "internal/strconv.uint64pow10", "math/bits.deBruijn32tab", "math/bits.deBruijn64tab"], apart := false, laid := [("math/bits.deBruijn32tab", laid_math_bits_deBruijn32tab), ("math/bits.deBruijn64tab", laid_math_bits_deBruijn64tab), ("internal/strconv.uint64pow10", laid_internal_strconv_uint64pow10), ("tollbridge/header.widths", laid_tollbridge_header_widths), ("tollbridge/header.names", laid_tollbridge_header_names)], narrowed := true }
def HeaderApartUptoSaid : Prop := headerApartUptoRow.holds Tryd.pinned (OpenSpec.upto headerApartSpec)

/-- 'tollbridgelaw01.HeaderLess', WHERE WHAT IT READS IS OF BULK AT MOST 1048576: true; the input reads as it did. -/
def headerLessUptoRow : OpenClaim := { program := "ythjgndkcijgfmaadoor", sum := "69c519bb629b4564c0ca8f45fbd7c5b55ba09b3ecdb669de8f249c9f06456b78", func := "tollbridge/tollbridgelaw01.HeaderLess", spec := "headerLess", named := ["tollbridge/header.widths", "tollbridge/header.names", "internal/strconv.uint64pow10", "math/bits.deBruijn32tab", "math/bits.deBruijn64tab"], apart := false, laid := [("math/bits.deBruijn32tab", laid_math_bits_deBruijn32tab), ("math/bits.deBruijn64tab", laid_math_bits_deBruijn64tab), ("internal/strconv.uint64pow10", laid_internal_strconv_uint64pow10), ("tollbridge/header.widths", laid_tollbridge_header_widths), ("tollbridge/header.names", laid_tollbridge_header_names)], narrowed := true }
def HeaderLessUptoSaid : Prop := headerLessUptoRow.holds Tryd.pinned (OpenSpec.upto headerLessSpec)

/-- 'tollbridgelaw01.HeaderWide', WHERE WHAT IT READS IS OF BULK AT MOST 1048576: true; the input reads as it did. -/
def headerWideUptoRow : OpenClaim := { program := "ythjgndkcijgfmaadoor", sum := "69c519bb629b4564c0ca8f45fbd7c5b55ba09b3ecdb669de8f249c9f06456b78", func := "tollbridge/tollbridgelaw01.HeaderWide", spec := "headerWide", named := ["tollbridge/header.widths", "tollbridge/header.names", "internal/strconv.uint64pow10", "math/bits.deBruijn32tab", "math/bits.deBruijn64tab"], apart := false, laid := [("math/bits.deBruijn32tab", laid_math_bits_deBruijn32tab), ("math/bits.deBruijn64tab", laid_math_bits_deBruijn64tab), ("internal/strconv.uint64pow10", laid_internal_strconv_uint64pow10), ("tollbridge/header.widths", laid_tollbridge_header_widths), ("tollbridge/header.names", laid_tollbridge_header_names)], narrowed := true }
def HeaderWideUptoSaid : Prop := headerWideUptoRow.holds Tryd.pinned (OpenSpec.upto headerWideSpec)

/-- 'tollbridgelaw01.HeaderKnown', WHERE WHAT IT READS IS OF BULK AT MOST 1048576: true; the input reads as it did. -/
def headerKnownUptoRow : OpenClaim := { program := "ythjgndkcijgfmaadoor", sum := "69c519bb629b4564c0ca8f45fbd7c5b55ba09b3ecdb669de8f249c9f06456b78", func := "tollbridge/tollbridgelaw01.HeaderKnown", spec := "headerKnown", named := ["tollbridge/header.widths", "tollbridge/header.names", "internal/strconv.uint64pow10", "math/bits.deBruijn32tab", "math/bits.deBruijn64tab"], apart := false, laid := [("math/bits.deBruijn32tab", laid_math_bits_deBruijn32tab), ("math/bits.deBruijn64tab", laid_math_bits_deBruijn64tab), ("internal/strconv.uint64pow10", laid_internal_strconv_uint64pow10), ("tollbridge/header.widths", laid_tollbridge_header_widths), ("tollbridge/header.names", laid_tollbridge_header_names)], narrowed := true }
def HeaderKnownUptoSaid : Prop := headerKnownUptoRow.holds Tryd.pinned (OpenSpec.upto headerKnownSpec)

end Rows
end Go.Proofs.YthjgndkcijgfmaaDoor
