/-
  Proved here: the tables of package policy and of package header; Width; namesWell. Conditions: the tables hold what the program's text lays.
-/
import Derived.Test.YtjallmncajhamaaDoorT4
import Derived.Test.YtjallmncajhamaaDoorPA
namespace Go.Proofs.YtjallmncajhamaaDoor
open Go.RowKit
set_option maxRecDepth 100000

/-- a row of the table of Ops -/
def wsd (op : Nat) : Nat := if op ≤ 5 then 0 else 1
def wkd (op : Nat) : Nat := if op ≤ 7 then 0 else 1
def wfl (op : Nat) : Nat := if op = 2 then 2039 else if op = 7 then 947 else 0
abbrev wtc (op : Nat) : Array Value := #[.int .i8 ((wsd op : Nat) : Int), .int .i8 ((wkd op : Nat) : Int), .int .i64 ((lst1 op : Nat) : Int), .int .i64 ((mst op : Nat) : Int), .int .i64 ((wfl op : Nat) : Int)]
/-- a row of the table of joints: what changes nothing, what ends -/
def jid : Nat → Int
  | 4 => 1 | 9 => 1 | _ => 0
def jen : Nat → Int
  | 5 => 1 | 8 => -1 | _ => 0
abbrev jtc (op : Nat) : Array Value := #[.int .i8 (jid op), .int .i8 (jen op)]
/-- the packages' tables -/
structure TabP (w : World) : Prop where
  wd : ∀ f, f < 11 → w.cell? ⟨2, f, none⟩ = some (.int .i64 ((wdt f : Nat) : Int))
  wt : ∀ op, op < 11 → w.rangeAt 0 (op * 5) (wtc op).toList
  jt : ∀ op, op < 10 → w.rangeAt 1 (op * 2) (jtc op).toList
theorem TabP.keep {w w' : World} (h : TabP w) (hb : ∀ k, k < 3 → w'.heap[k]? = w.heap[k]?) : TabP w' :=
  ⟨fun f hf => (cell_same (hb _ (by decide))).trans (h.wd f hf), fun op ho j v hj => (cell_same (hb _ (by decide))).trans (h.wt op ho j v hj), fun op ho j v hj => (cell_same (hb _ (by decide))).trans (h.jt op ho j v hj)⟩
theorem TabP.on {w w' : World} (h : TabP w) (hb : Below w.heap.size w w') (hz : 3 ≤ w.heap.size) : TabP w' := h.keep fun k hk => hb.block k (by omega)
theorem width8_any (fd : Int) (w : World) (hT : TabP w) : Calls Tryd.prog 93 #[.int .i8 fd] w fun e w' => e = .returned (.int .i64 (if 0 ≤ fd ∧ fd ≤ 10 then ((wdt fd.toNat : Nat) : Int) else 0)) ∧ w' = w := by
  by_cases h1 : fd < 0
  · have g1 : decide (fd < 0) = true := decide_eq_true h1
    rw [if_neg (by omega)]
    clear h1 hT
    go_enter Tryd.func93, Tryd.ntmps93
    go_wp2
    go_ret
    exact ⟨rfl, rfl⟩
  · have g1 : decide (fd < 0) = false := decide_eq_false h1
    by_cases h2 : fd ≤ 10
    · obtain ⟨f, rfl⟩ : ∃ f : Nat, fd = (f : Int) := ⟨fd.toNat, by omega⟩
      have g2 : decide ((11 : Int) ≤ (f : Int)) = false := decide_eq_false (by omega)
      have hc := hT.wd f (by omega)
      have hf : f < 11 := by omega
      rw [if_pos (by omega), show ((f : Nat) : Int).toNat = f from rfl]
      clear h1 h2 hT
      go_enter Tryd.func93, Tryd.ntmps93
      go_wp2
      go_ret
      exact ⟨rfl, rfl⟩
    · have g2 : decide ((11 : Int) ≤ fd) = true := decide_eq_true (by omega)
      rw [if_neg (by omega)]
      clear h1 h2 hT
      go_enter Tryd.func93, Tryd.ntmps93
      go_wp2
      go_ret
      exact ⟨rfl, rfl⟩
/-- which fields a number of bits names -/
def fbit (F f : Nat) : Bool := decide (F / 2 ^ f % 2 = 1)
def nwF (F : Nat) (op fd : Int) (n : Nat) : Bool :=
  if F = 0 then decide (fd = 0) && decide (n = 0) else fitB fd n && fbit F fd.toNat && (decide (op ≠ 7) || decide (fd ≠ 9) || decide (n ≠ 0))
theorem bit_form (F : Nat) (hF : F = 2039 ∨ F = 947) (f : Nat) (hf : f < 11) : (bits BinOp.and IntKind.i64 ((F : Int) / 2 ^ f) 1 == 0) = !fbit F f := by
  have h : f = 0 ∨ f = 1 ∨ f = 2 ∨ f = 3 ∨ f = 4 ∨ f = 5 ∨ f = 6 ∨ f = 7 ∨ f = 8 ∨ f = 9 ∨ f = 10 := by omega
  rcases hF with rfl | rfl <;> rcases h with rfl | rfl | rfl | rfl | rfl | rfl | rfl | rfl | rfl | rfl | rfl <;> exact (show _ = _ from by decide)
set_option maxHeartbeats 3200000 in
theorem names8_any (F : Nat) (hF : F = 0 ∨ F = 2039 ∨ F = 947) (op fd : Int) (n : Nat) (ao : Option Addr) (len cap : Nat) (w : World) (hT : TabP w) (hz : 3 ≤ w.heap.size) : Calls Tryd.prog 60 #[.agg (tic op fd n (.slice ao len cap)), .int .i64 ((F : Nat) : Int)] w fun e w' => e = .returned (.bool (nwF F op fd n)) ∧ Below w.heap.size w w' := by
  have hB1 : Below w.heap.size w (w.alloc (.cells (tic op fd n (.slice ao len cap)) 26)) := (Below.refl _ _).alloc (Nat.le_refl _) _
  have HB := hid hB1
  have HW := hid (width8_any fd _ (hT.on hB1 hz))
  clear hB1 hT
  by_cases h0 : F = 0
  · subst h0
    have hk : nwF 0 op fd n = (decide (fd = 0) && decide (n = 0)) := by unfold nwF; rw [if_pos rfl]
    rw [hk]
    clear hk HW
    by_cases hf : fd = 0
    · have f0 : (fd == 0) = true := by rw [hf]; rfl
      have hr : (decide (fd = 0) && decide (n = 0)) = (((n : Nat) : Int) == 0) := by
        rw [decide_eq_true hf, Bool.true_and, Bool.eq_iff_iff, decide_eq_true_eq, beq_iff_eq]; omega
      rw [hr]
      clear hf hr
      go_enter Tryd.func60, Tryd.ntmps60
      go_wp2
      go_ret
      exact ⟨rfl, HB.out⟩
    · have f0 : (fd == 0) = false := beq_eq_false_iff_ne.2 hf
      rw [decide_eq_false hf, Bool.false_and]
      clear hf
      go_enter Tryd.func60, Tryd.ntmps60
      go_wp2
      go_ret
      exact ⟨rfl, HB.out⟩
  obtain ⟨r, hr⟩ : ∃ r, r = nwF F op fd n := ⟨_, rfl⟩
  rw [← hr]
  have HR : Hid (r = (fitB fd n && fbit F fd.toNat && (decide (op ≠ 7) || decide (fd ≠ 9) || decide (n ≠ 0)))) := by show _ = _; rw [hr]; unfold nwF; rw [if_neg h0]
  clear hr
  have gF : (((F : Nat) : Int) == 0) = false := beq_eq_false_iff_ne.2 (by omega)
  by_cases hf : 0 ≤ fd ∧ fd ≤ 10
  · rw [if_pos hf] at HW
    obtain ⟨f, rfl⟩ : ∃ f : Nat, fd = (f : Int) := ⟨fd.toNat, by omega⟩
    have hf11 : f < 11 := by omega
    rw [show ((f : Nat) : Int).toNat = f from rfl] at HW HR
    have hwp := wdt_pos f
    have hwl : wdt f ≤ 48 := by unfold wdt; split <;> decide
    have HFit : Hid (fitB (f : Int) n = (((n : Int) / 2 ^ wdt f) == 0)) := by
      show _ = _
      unfold fitB
      rw [decide_eq_true (show (0 : Int) ≤ (f : Int) by omega), decide_eq_true hf.2, Bool.true_and, Bool.true_and, Bool.eq_iff_iff, decide_eq_true_eq, beq_iff_eq, show ((f : Nat) : Int).toNat = f from rfl]
      have hp : 0 < 2 ^ wdt f := Nat.pow_pos (by decide)
      rw [show ((2 : Int) ^ wdt f) = ((2 ^ wdt f : Nat) : Int) by simp, ← Int.natCast_ediv]
      constructor
      · intro h; rw [Nat.div_eq_of_lt h]; rfl
      · intro h
        have h0 : n / 2 ^ wdt f = 0 := by omega
        rcases Nat.lt_or_ge n (2 ^ wdt f) with h1 | h1
        · exact h1
        · have := Nat.div_pos h1 hp; omega
    generalize wdt f = k at HW hwp hwl HFit
    have g1 : (((k : Nat) : Int) == 0) = false := beq_eq_false_iff_ne.2 (by omega)
    have g3 : decide ((k : Int) < 64) = true := decide_eq_true (by omega)
    have g4 : decide ((f : Int) < 64) = true := decide_eq_true (by omega)
    have HBit := hid (bit_form F (hF.resolve_left h0) f hf11)
    cases hb : fbit F f with
    | false =>
      have gb : (bits BinOp.and IntKind.i64 ((F : Int) / 2 ^ f) 1 == 0) = true := by rw [HBit.out, hb]; rfl
      obtain rfl : r = false := by rw [HR.out, hb]; simp
      clear HR hb HFit hF HBit
      go_enter Tryd.func60, Tryd.ntmps60
      go_wp2_with (go_at_call 93; refine (HW.out).mono ?_; rintro e w' ⟨rfl, hw⟩; rw [hw]; clear hw w')
      go_ret
      exact ⟨rfl, HB.out⟩
    | true =>
      have gb : (bits BinOp.and IntKind.i64 ((F : Int) / 2 ^ f) 1 == 0) = false := by rw [HBit.out, hb]; rfl
      by_cases hfit : (n : Int) / 2 ^ k = 0
      · have gn : ((n : Int) / 2 ^ k != 0) = false := by rw [hfit]; rfl
        have HR2 : Hid (r = (decide (op ≠ 7) || decide ((f : Int) ≠ 9) || decide (n ≠ 0))) := by
          show _ = _; rw [HR.out, HFit.out, hb, hfit]; rfl
        clear HR hb HFit hF HBit hfit
        by_cases h7 : op = 7
        · subst h7
          by_cases h9 : f = 9
          · have g9 : (((f : Nat) : Int) != 9) = false := by rw [h9]; rfl
            have hr : r = (((n : Nat) : Int) != 0) := by
              rw [HR2.out, h9, Bool.eq_iff_iff]; simp
            rw [hr]
            clear HR2 hr h9
            go_enter Tryd.func60, Tryd.ntmps60
            go_wp2_with (go_at_call 93; refine (HW.out).mono ?_; rintro e w' ⟨rfl, hw⟩; rw [hw]; clear hw w')
            go_ret
            exact ⟨rfl, HB.out⟩
          · have g9 : (((f : Nat) : Int) != 9) = true := by simp; omega
            obtain rfl : r = true := by rw [HR2.out]; simp; omega
            clear HR2 h9
            go_enter Tryd.func60, Tryd.ntmps60
            go_wp2_with (go_at_call 93; refine (HW.out).mono ?_; rintro e w' ⟨rfl, hw⟩; rw [hw]; clear hw w')
            go_ret
            exact ⟨rfl, HB.out⟩
        · have g7 : (op != 7) = true := by simp; exact h7
          obtain rfl : r = true := by rw [HR2.out, decide_eq_true h7]; rfl
          clear HR2 h7
          go_enter Tryd.func60, Tryd.ntmps60
          go_wp2_with (go_at_call 93; refine (HW.out).mono ?_; rintro e w' ⟨rfl, hw⟩; rw [hw]; clear hw w')
          go_ret
          exact ⟨rfl, HB.out⟩
      · have gn : ((n : Int) / 2 ^ k != 0) = true := by simp; exact hfit
        obtain rfl : r = false := by rw [HR.out, HFit.out, beq_eq_false_iff_ne.2 hfit]; rfl
        clear HR hb HFit hF HBit hfit
        go_enter Tryd.func60, Tryd.ntmps60
        go_wp2_with (go_at_call 93; refine (HW.out).mono ?_; rintro e w' ⟨rfl, hw⟩; rw [hw]; clear hw w')
        go_ret
        exact ⟨rfl, HB.out⟩
  · rw [if_neg hf] at HW
    obtain rfl : r = false := by
      rw [HR.out]
      unfold fitB
      by_cases h1 : 0 ≤ fd
      · rw [decide_eq_false (show ¬ fd ≤ 10 from fun h => hf ⟨h1, h⟩)]; simp
      · rw [decide_eq_false h1]; simp
    clear hf HR hF
    go_enter Tryd.func60, Tryd.ntmps60
    go_wp2_with (go_at_call 93; refine (HW.out).mono ?_; rintro e w' ⟨rfl, hw⟩; rw [hw]; clear hw w')
    go_ret
    exact ⟨rfl, HB.out⟩
end Go.Proofs.YtjallmncajhamaaDoor
