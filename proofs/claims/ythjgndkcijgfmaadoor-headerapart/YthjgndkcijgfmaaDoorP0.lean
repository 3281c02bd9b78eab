/-
  Proved here: the rows' list of variables gives the three tables; a header that comes in is eleven numbers below 2 to 64, and reads again as it did. No further condition.
-/
import Derived.Test.YthjgndkcijgfmaaDoorRows
import Derived.Test.YthjgndkcijgfmaaDoorCards
import Derived.Test.YthjgndkcijgfmaaDoorTie
import Derived.Test.YthjgndkcijgfmaaDoorW9
import Derived.WalkKit
import Derived.ProofKit
import Derived.OpenShut
import Derived.LaidMore
import Derived.Stop.LaidErr
import Derived.Deep.DeepHandedRow
import Derived.Lib.LaidTab
namespace Go.Proofs.YthjgndkcijgfmaaDoor
open Go.ChangeShapes Go.WideShapes Go.ChangeAt Go.RowKit

theorem own : ownKnob Tryd.prog.godebug = none := by kernel_rfl
theorem gWid : Tryd.prog.globalNamed "tollbridge/header.widths" = some 0 := by kernel_rfl
theorem gNam : Tryd.prog.globalNamed "tollbridge/header.names" = some 1 := by kernel_rfl
theorem gPow : Tryd.prog.globalNamed "internal/strconv.uint64pow10" = some 2 := by kernel_rfl
theorem tWid : (Tryd.prog.globals[0]?).map (·.type) = some 40 := by kernel_rfl
theorem tNam : (Tryd.prog.globals[1]?).map (·.type) = some 43 := by kernel_rfl
theorem tPow : (Tryd.prog.globals[2]?).map (·.type) = some 60 := by kernel_rfl
theorem cells3 : Tryd.prog.cellsOf 3 = 1 := by kernel_rfl
theorem cells9 : Tryd.prog.cellsOf 9 = 1 := by kernel_rfl
theorem cells22 : Tryd.prog.cellsOf 22 = 1 := by kernel_rfl
theorem cells24 : Tryd.prog.cellsOf 24 = 11 := by kernel_rfl
theorem cells40 : Tryd.prog.cellsOf 40 = 11 := by kernel_rfl
theorem cells43 : Tryd.prog.cellsOf 43 = 11 := by kernel_rfl

theorem cells60 : Tryd.prog.cellsOf 60 = 20 := by kernel_rfl
theorem cells5 : Tryd.prog.cellsOf 5 = 1 := by kernel_rfl

def widL : List Int := [48, 48, 16, 12, 32, 32, 8, 16, 16, 16, 16]
theorem widData : (Rows.laid_tollbridge_header_widths : DataW Unit) = Lib.tabData .i64 widL := by kernel_rfl
theorem powData : (Rows.laid_internal_strconv_uint64pow10 : DataW Unit) = Lib.tabData .u64 Lib.pow10Tab := by kernel_rfl
def namData : DataW Unit := .agg ((List.range 11).map fun k => .lit (.string (nameL k)))
theorem namData_eq : (Rows.laid_tollbridge_header_names : DataW Unit) = namData := by kernel_rfl

/-- AN ARRAY OF STRINGS THAT READS AS THE NAMES HOLDS THEM, CELL FOR CELL. -/
theorem names_of_head {W : World} {rest : List (String × DataW Unit)} (h : laidMet Tryd.prog (("tollbridge/header.names", namData) :: rest) W) (k : Nat) (hk : k < 11) :
    W.cell? ⟨1, k, none⟩ = some (.string ⟨(nameL k).toArray⟩) := by
  obtain ⟨ps, ⟨g', t', cs, fuel, p, q, hg', ht', hvar, hd, _, _⟩, _⟩ := h
  obtain rfl := Option.some.inj (gNam.symm.trans hg')
  obtain rfl := Option.some.inj (tNam.symm.trans ht')
  obtain ⟨xs, m, rfl, hx, hl, hn, hel⟩ := DataW.trod_array Tryd.underlying43 hd
  have h1 := hel k hk
  rw [cells9, Nat.mul_one] at h1
  have hkx : k < xs.length := by omega
  rw [List.getElem?_eq_getElem hkx] at h1
  obtain ⟨s, e1, e2, _⟩ := DataW.trod_string Tryd.underlying9 h1
  have hx1 : (xs.map (·.1))[k]? = some (.lit (.string (nameL k))) := by
    have := congrArg Prod.fst hx
    simp only [namData, DataW.agg.injEq] at this
    rw [← this]
    simp [hk]
  rw [List.getElem?_map, List.getElem?_eq_getElem hkx, e2] at hx1
  simp only [Option.map_some, Option.some.injEq, DataW.lit.injEq, Lit.string.injEq] at hx1
  have hc : cs.toList[k]? = some (.string s) := by
    have := congrArg (·[0]?) e1
    simpa [List.getElem?_take, List.getElem?_drop] using this
  have := World.var?_cell hg' hvar k
  rw [this]
  have hs : s = ⟨(nameL k).toArray⟩ := by
    obtain ⟨a⟩ := s
    rw [← hx1]
  rw [← hs, ← hc]
  simp

/-- WHAT THE ROWS' LIST GIVES: the three tables. -/
theorem tabs_of_laid {W : World} (h : laidMet Tryd.prog Rows.headerKnownRow.laid W) : Tabs W := by
  have hp := h.tail.tail
  have hw := hp.tail
  have hn := hw.tail
  rw [powData] at hp
  rw [widData] at hw
  rw [namData_eq] at hn
  refine ⟨fun k hk => ?_, names_of_head hn, Lib.tabIs_of_head gPow tPow Tryd.underlying60 Tryd.underlying22 cells22 cells60 hp⟩
  rw [(Lib.tabIs_of_head gWid tWid Tryd.underlying40 Tryd.underlying3 cells3 cells40 hw).cell gWid k hk]
  have hk' : k = 0 ∨ k = 1 ∨ k = 2 ∨ k = 3 ∨ k = 4 ∨ k = 5 ∨ k = 6 ∨ k = 7 ∨ k = 8 ∨ k = 9 ∨ k = 10 := by omega
  rcases hk' with rfl | rfl | rfl | rfl | rfl | rfl | rfl | rfl | rfl | rfl | rfl <;> rfl

/-- The heap that the program's own initialisers leave meets the rows' list. -/
theorem door_met (os : Os) (args : Array Value) : laidMet Tryd.prog Rows.headerKnownRow.laid ((World.doorLaid Tryd.prog 34 os).forCall (fun _ _ => 0) ⟨#[], args, []⟩).memory :=
  laidMet_of_run' 8 (by kernel_rfl) (by kernel_rfl)

abbrev hd {H : Type} (h : Nat → Int) : DataW H := .agg [.lit (.int .u64 (h 0)), .lit (.int .u64 (h 1)), .lit (.int .u64 (h 2)), .lit (.int .u64 (h 3)), .lit (.int .u64 (h 4)), .lit (.int .u64 (h 5)), .lit (.int .u64 (h 6)), .lit (.int .u64 (h 7)), .lit (.int .u64 (h 8)), .lit (.int .u64 (h 9)), .lit (.int .u64 (h 10))]

section
variable {H : Type} {enc : TypeId × Value → H} {W : World}
/-- A HEADER THAT CAME IN: eleven numbers below 2 to 64. -/
theorem open_hdr {r : Reach} {b0 base : Nat} {sp : Nat → Bool} {held : Bool} {v : Value} {d : DataW H} {p : List MemPlace} (hv0 : Value.okWide Tryd.prog W r b0 24 v) (h0 : DataW.Trod enc Tryd.prog W base sp held 24 v d p) :
    ∃ h : Nat → Int, v = hv h ∧ d = hd h ∧ p = [] ∧ ∀ k, (Lit.int .u64 (h k)).wf = true := by
  obtain ⟨cs, rfl, hsz, _⟩ : ∃ cs, v = .agg cs ∧ cs.size = Tryd.prog.cellsOf 24 ∧ Row.okWide Tryd.prog W r b0 24 cs := by
    simpa [Value.okWide, Tryd.underlying24] using hv0
  obtain ⟨fuel, hf⟩ := h0
  obtain ⟨xs, m, rfl, hx, hl, hn, hel⟩ := DataW.trod_array Tryd.underlying24 hf
  rw [cells24] at hsz
  have key : ∀ k, k < 11 → ∃ n : Int, cs[k]? = some (.int .u64 n) ∧ xs[k]? = some (.lit (.int .u64 n), []) ∧ (Lit.int .u64 n).wf = true := by
    intro k hk
    have h1 := hel k hk
    rw [cells22, Nat.mul_one] at h1
    have hkx : k < xs.length := by omega
    rw [List.getElem?_eq_getElem hkx] at h1
    obtain ⟨n, e1, e2, wn⟩ := DataW.trod_int Tryd.underlying22 h1
    refine ⟨n, ?_, ?_, wn⟩
    · have := congrArg (·[0]?) e1
      simpa [List.getElem?_take, List.getElem?_drop, Value.cells] using this
    · rw [List.getElem?_eq_getElem hkx, e2]
  have hall : ∃ h : Nat → Int, ∀ k, (k < 11 → cs[k]? = some (.int .u64 (h k)) ∧ xs[k]? = some (.lit (.int .u64 (h k)), [])) ∧ (Lit.int .u64 (h k)).wf = true := by
    refine ⟨fun k => if hk : k < 11 then (key k hk).choose else 0, fun k => ?_⟩
    by_cases hk : k < 11
    · simp only [hk, dite_true, forall_const]
      obtain ⟨a, b, c⟩ := (key k hk).choose_spec
      exact ⟨⟨a, b⟩, c⟩
    · simp [hk, Lit.wf, IntKind.min, IntKind.max, IntKind.signed, IntKind.bits]
  obtain ⟨h, hh⟩ := hall
  have hcs : cs = hcs h := by
    apply Array.ext_getElem?
    intro k
    by_cases hk : k < 11
    · rw [((hh k).1 hk).1]
      have hk' : k = 0 ∨ k = 1 ∨ k = 2 ∨ k = 3 ∨ k = 4 ∨ k = 5 ∨ k = 6 ∨ k = 7 ∨ k = 8 ∨ k = 9 ∨ k = 10 := by omega
      rcases hk' with rfl | rfl | rfl | rfl | rfl | rfl | rfl | rfl | rfl | rfl | rfl <;> rfl
    · rw [Array.getElem?_eq_none (by omega), Array.getElem?_eq_none (by show 11 ≤ k; omega)]
  have hxs : xs = [(.lit (.int .u64 (h 0)), []), (.lit (.int .u64 (h 1)), []), (.lit (.int .u64 (h 2)), []), (.lit (.int .u64 (h 3)), []), (.lit (.int .u64 (h 4)), []), (.lit (.int .u64 (h 5)), []), (.lit (.int .u64 (h 6)), []), (.lit (.int .u64 (h 7)), []), (.lit (.int .u64 (h 8)), []), (.lit (.int .u64 (h 9)), []), (.lit (.int .u64 (h 10)), [])] := by
    apply List.ext_getElem?
    intro k
    by_cases hk : k < 11
    · rw [((hh k).1 hk).2]
      have hk' : k = 0 ∨ k = 1 ∨ k = 2 ∨ k = 3 ∨ k = 4 ∨ k = 5 ∨ k = 6 ∨ k = 7 ∨ k = 8 ∨ k = 9 ∨ k = 10 := by omega
      rcases hk' with rfl | rfl | rfl | rfl | rfl | rfl | rfl | rfl | rfl | rfl | rfl <;> rfl
    · rw [List.getElem?_eq_none (by omega), List.getElem?_eq_none (by show 11 ≤ k; omega)]
  simp only [Prod.mk.injEq] at hx
  refine ⟨h, by rw [hcs], by rw [hx.1, hxs]; rfl, by rw [hx.2, hxs]; rfl, fun k => (hh k).2⟩

theorem shut_hdr {base : Nat} {sp : Nat → Bool} {held : Bool} (h : Nat → Int) (hwf : ∀ k, (Lit.int .u64 (h k)).wf = true) : DataW.Trod enc Tryd.prog W base sp held 24 (hv h) (hd h) [] :=
  ⟨2, by simp [DataW.trod, Value.cells, Tryd.underlying24, Tryd.underlying22, cells24, cells22, hwf, show List.range 11 = [0, 1, 2, 3, 4, 5, 6, 7, 8, 9, 10] from rfl]⟩
theorem hdr_bd {h : Nat → Int} (hwf : ∀ k, (Lit.int .u64 (h k)).wf = true) : ∀ k, 0 ≤ h k ∧ h k < 18446744073709551616 := fun k => by
  have := bounds_u64 (hwf k); omega
end
end Go.Proofs.YthjgndkcijgfmaaDoor
