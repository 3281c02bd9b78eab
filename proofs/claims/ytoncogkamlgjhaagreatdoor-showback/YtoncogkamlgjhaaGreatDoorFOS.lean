/-
  Proved here: the small functions of package show that ask a term: isOfKind, hasPredicates, fits, isWhole; header.Width. Conditions: the tables of the packages hold what the program's text lays.
-/
/-
  Proved here: the list of variables of stage 17's rows gives the packages' tables; the program's own initialisers lay them so. No further condition.
-/
import Derived.Test.YtoncogkamlgjhaaGreatDoorFYA
import Derived.Lib.LaidTab
import Derived.Test.YtoncogkamlgjhaaGreatDoorFOA
import Derived.OpenShut
namespace Go.Proofs.YtoncogkamlgjhaaGreatDoor
set_option maxRecDepth 100000
open Go.RowKit
set_option maxRecDepth 100000

abbrev shc (op : Nat) : Array Value := #[.int .i64 ((hld op : Nat) : Int), .int .i64 ((ask op : Nat) : Int), .string (sgT op), .int .i64 ((lst op : Nat) : Int), .int .i64 ((mst op : Nat) : Int)]
/-- the packages' tables -/
structure TabS (w : World) : Prop where
  sh : ∀ op, op < 11 → w.rangeAt 0 (op * 5) (shc op).toList
  fn : ∀ f, f < 11 → w.cell? ⟨1, f, none⟩ = some (.string (fnm f))
  wd : ∀ f, f < 11 → w.cell? ⟨2, f, none⟩ = some (.int .i64 ((wdt f : Nat) : Int))
  pw : Lib.TabIs Tryz.prog w "internal/strconv.uint64pow10" .u64 Lib.pow10Tab
  z : Tab0 w
theorem TabS.lt {w : World} (h : TabS w) : 0 < w.heap.size ∧ 1 < w.heap.size ∧ 2 < w.heap.size := by
  refine ⟨?_, cell_lt (h.fn 0 (by decide)), cell_lt (h.wd 0 (by decide))⟩
  have := h.sh 0 (by decide) 0 (.int .i64 ((hld 0 : Nat) : Int)) rfl
  exact cell_lt this
theorem gP10 : Tryz.prog.globalNamed "internal/strconv.uint64pow10" = some 6 := by kernel_rfl
theorem tabIs_bel {w w' : World} (h : Lib.TabIs Tryz.prog w "internal/strconv.uint64pow10" .u64 Lib.pow10Tab) (hb : w'.heap[6]? = w.heap[6]?) : Lib.TabIs Tryz.prog w' "internal/strconv.uint64pow10" .u64 Lib.pow10Tab := by
  unfold Lib.TabIs World.var? at *
  rw [gP10] at h ⊢
  simp only [Option.bind_some] at h ⊢
  rw [hb]
  exact h
/-- tables stay where their blocks do -/
theorem TabS.keep {w w' : World} (h : TabS w) (hb : ∀ k, k < 9 → w'.heap[k]? = w.heap[k]?) : TabS w' := by
  obtain ⟨t2, p2, h2⟩ := h.z.e2
  obtain ⟨t3, p3, h3⟩ := h.z.e3
  exact ⟨fun op ho j v hj => (cell_same (hb _ (by decide))).trans (h.sh op ho j v hj), fun f hf => (cell_same (hb _ (by decide))).trans (h.fn f hf), fun f hf => (cell_same (hb _ (by decide))).trans (h.wd f hf), tabIs_bel h.pw (hb _ (by decide)), ⟨⟨t2, p2, (cell_same (hb _ (by decide))).trans h2⟩, ⟨t3, p3, (cell_same (hb _ (by decide))).trans h3⟩⟩⟩
theorem infoSH : (Tryz.prog.info? 80).map (·.size) = some 5 := by kernel_rfl

theorem kind_any (b : Bool) (op fd : Int) (n : Nat) (v : Value) (w : World) (_hv : v.oneCell' = true) : Calls Tryz.prog 19 #[.agg (tic op fd n v), .bool b] w fun e w' => e = .returned (.bool (kndB b op)) ∧ Below w.heap.size w w' := by
  have hB : Below w.heap.size w (w.alloc (.cells (tic op fd n v) 26)) := (Below.refl _ _).alloc (Nat.le_refl _) _
  have HB := hid hB
  clear hB
  cases b
  · by_cases h1 : 6 ≤ op
    · have g1 : decide ((6 : Int) ≤ op) = true := decide_eq_true h1
      have hk : kndB false op = decide (op ≤ 10) := by unfold kndB; simp [h1]
      rw [hk]
      clear h1 hk
      go_enter Tryz.func19, Tryz.ntmps19
      go_wp2
      go_ret
      exact ⟨rfl, HB.out⟩
    · have g1 : decide ((6 : Int) ≤ op) = false := decide_eq_false h1
      have hk : kndB false op = false := by unfold kndB; simp [h1]
      rw [hk]
      clear h1 hk
      go_enter Tryz.func19, Tryz.ntmps19
      go_wp2
      go_ret
      exact ⟨rfl, HB.out⟩
  · by_cases h1 : 0 ≤ op
    · have g1 : decide ((0 : Int) ≤ op) = true := decide_eq_true h1
      have hk : kndB true op = decide (op ≤ 5) := by unfold kndB; simp [h1]
      rw [hk]
      clear h1 hk
      go_enter Tryz.func19, Tryz.ntmps19
      go_wp2
      go_ret
      exact ⟨rfl, HB.out⟩
    · have g1 : decide ((0 : Int) ≤ op) = false := decide_eq_false h1
      have hk : kndB true op = false := by unfold kndB; simp [h1]
      rw [hk]
      clear h1 hk
      go_enter Tryz.func19, Tryz.ntmps19
      go_wp2
      go_ret
      exact ⟨rfl, HB.out⟩
theorem preds_any (op fd : Int) (n : Nat) (v : Value) (w : World) (_hv : v.oneCell' = true) : Calls Tryz.prog 21 #[.agg (tic op fd n v)] w fun e w' => e = .returned (.bool (decide (op ≤ 6))) ∧ Below w.heap.size w w' := by
  have HB : Hid (Below w.heap.size w (w.alloc (.cells (tic op fd n v) 26))) := (Below.refl _ _).alloc (Nat.le_refl _) _
  go_enter Tryz.func21, Tryz.ntmps21
  go_wp2
  go_ret
  exact ⟨rfl, HB.out⟩
theorem width_any (fd : Int) (w : World) (hT : TabS w) : Calls Tryz.prog 62 #[.int .i8 fd] w fun e w' => e = .returned (.int .i64 (if 0 ≤ fd ∧ fd ≤ 10 then ((wdt fd.toNat : Nat) : Int) else 0)) ∧ w' = w := by
  by_cases h1 : fd < 0
  · have g1 : decide (fd < 0) = true := decide_eq_true h1
    rw [if_neg (by omega)]
    clear h1 hT
    go_enter Tryz.func62, Tryz.ntmps62
    go_wp2
    go_ret
    exact ⟨rfl, rfl⟩
  · have g1 : decide (fd < 0) = false := decide_eq_false h1
    by_cases h2 : fd ≤ 10
    · obtain ⟨f, rfl⟩ : ∃ f : Nat, fd = (f : Int) := ⟨fd.toNat, by omega⟩
      have g2 : decide ((11 : Int) ≤ (f : Int)) = false := decide_eq_false (by omega)
      have hc := hT.wd f (by omega)
      have hf : f < 11 := by omega
      rw [if_pos (by omega), show ((f : Nat) : Int).toNat = f from rfl]
      clear h1 h2 hT
      go_enter Tryz.func62, Tryz.ntmps62
      go_wp2
      go_ret
      exact ⟨rfl, rfl⟩
    · have g2 : decide ((11 : Int) ≤ fd) = true := decide_eq_true (by omega)
      rw [if_neg (by omega)]
      clear h1 h2 hT
      go_enter Tryz.func62, Tryz.ntmps62
      go_wp2
      go_ret
      exact ⟨rfl, rfl⟩
theorem hfits_any (fd : Int) (n : Nat) (w : World) (hT : TabS w) : Calls Tryz.prog 36 #[.int .i8 fd, .int .u64 ((n : Nat) : Int)] w fun e w' => e = .returned (.bool (fitB fd n)) ∧ w' = w := by
  have HW := hid (width_any fd w hT)
  by_cases hf : 0 ≤ fd ∧ fd ≤ 10
  · rw [if_pos hf] at HW
    have hk : fitB fd n = (((n : Int) / 2 ^ wdt fd.toNat) == 0) := by
      unfold fitB
      rw [decide_eq_true hf.1, decide_eq_true hf.2, Bool.true_and, Bool.true_and, Bool.eq_iff_iff, decide_eq_true_eq, beq_iff_eq]
      have hp : 0 < 2 ^ wdt fd.toNat := Nat.pow_pos (by decide)
      rw [show ((2 : Int) ^ wdt fd.toNat) = ((2 ^ wdt fd.toNat : Nat) : Int) by simp, ← Int.natCast_ediv]
      constructor
      · intro h; rw [Nat.div_eq_of_lt h]; rfl
      · intro h
        have h0 : n / 2 ^ wdt fd.toNat = 0 := by omega
        rcases Nat.lt_or_ge n (2 ^ wdt fd.toNat) with h1 | h1
        · exact h1
        · have := Nat.div_pos h1 hp; omega
    rw [hk]
    have hwp := wdt_pos fd.toNat
    have hwl : wdt fd.toNat ≤ 48 := by unfold wdt; split <;> decide
    generalize wdt fd.toNat = k at HW hwp hwl ⊢
    have g1 : decide ((0 : Int) < (k : Int)) = true := decide_eq_true (by omega)
    have g2 : decide (0 < k) = true := decide_eq_true (by omega)
    have g3 : decide ((k : Int) < 64) = true := decide_eq_true (by omega)
    clear hf hk
    go_enter Tryz.func36, Tryz.ntmps36
    go_wp2_with (go_at_call 62; refine (HW.out).mono ?_; rintro e w' ⟨rfl, rfl⟩)
    go_ret
    exact ⟨rfl, rfl⟩
  · rw [if_neg hf] at HW
    have hk : fitB fd n = false := by
      unfold fitB
      by_cases h1 : 0 ≤ fd
      · rw [decide_eq_false (show ¬ fd ≤ 10 from fun h => hf ⟨h1, h⟩)]; simp
      · rw [decide_eq_false h1]; simp
    rw [hk]
    clear hf hk
    go_enter Tryz.func36, Tryz.ntmps36
    go_wp2_with (go_at_call 62; refine (HW.out).mono ?_; rintro e w' ⟨rfl, rfl⟩)
    go_ret
    exact ⟨rfl, rfl⟩
theorem TabS.on {w w' : World} (h : TabS w) (hb : Below w.heap.size w w') (hz : 9 ≤ w.heap.size) : TabS w' := h.keep fun k hk => hb.block k (by omega)
set_option maxHeartbeats 1600000 in
/-- a term asked whole -/
theorem whole_any (op : Nat) (fd : Int) (n len cap : Nat) (ao : Option Addr) (w : World) (hT : TabS w) (hz : 9 ≤ w.heap.size) (ho : op < 11) : Calls Tryz.prog 20 #[.agg (tic op fd n (.slice ao len cap))] w fun e w' => e = .returned (.bool (whlB op fd n len)) ∧ Below w.heap.size w w' := by
  obtain ⟨W1, hW1⟩ : ∃ W1, W1 = w.alloc (.cells (tic op fd n (.slice ao len cap)) 26) := ⟨_, rfl⟩
  have HE : Hid (w.alloc (.cells #[.int .i8 ((op : Nat) : Int), .int .i8 fd, .int .u64 ((n : Nat) : Int), .slice ao len cap] 26) = W1) := hW1.symm
  have hb1 : Below w.heap.size w W1 := by rw [hW1]; exact (Below.refl _ _).alloc (Nat.le_refl _) _
  have hN1 : W1.heap[w.heap.size]? = some (.cells (tic op fd n (.slice ao len cap)) 26 (0, 0)) := by rw [hW1]; exact heap_alloc_new _ _
  have hS1 := (hT.on hb1 hz).sh op ho
  have hb2 : Below w.heap.size w (W1.alloc (.cells (shc op) 80)) := hb1.alloc hb1.size _
  have hN2 : (W1.alloc (.cells (shc op) 80)).heap[w.heap.size]? = some (.cells (tic op fd n (.slice ao len cap)) 26 (0, 0)) := (heap_alloc_old _ _ (Array.getElem?_eq_some_iff.1 hN1).1).trans hN1
  have hM2 : (W1.alloc (.cells (shc op) 80)).heap[W1.heap.size]? = some (.cells (shc op) 80 (0, 0)) := heap_alloc_new _ _
  have HT2 := hid (hT.on hb2 hz)
  have HS1 := hid hS1
  have HB2 := hid hb2
  have c0 := (four_cells hN1).1
  have HN2 := hid hN2
  have HM2 := hid hM2
  clear hN1 hN2 hM2 hb1 hb2 hS1 hW1 hT
  obtain ⟨r, hr⟩ : ∃ r, r = whlB op fd n len := ⟨_, rfl⟩
  rw [← hr]
  have HR : Hid (r = (decide (lst op ≤ len) && decide (len ≤ mst op) && (if op = 2 ∨ op = 7 then fitB fd n else decide (fd = 0) && decide (n = 0)))) := by
    show _ = _
    rw [hr]
    unfold whlB
    rw [show ((op : Nat) : Int).toNat = op from rfl]
    congr 1
    have ho2 : (((op : Nat) : Int) = 2 ∨ ((op : Nat) : Int) = 7) ↔ (op = 2 ∨ op = 7) := by omega
    by_cases h : op = 2 ∨ op = 7
    · rw [if_pos h, if_pos (ho2.2 h)]
    · rw [if_neg h, if_neg (fun h' => h (ho2.1 h'))]
  clear hr
  go_enter Tryz.func20, Tryz.ntmps20
  go_upto_region 1 with fail
  rw [show w.alloc (.cells #[.int .i8 ((op : Nat) : Int), .int .i8 fd, .int .u64 ((n : Nat) : Int), .slice ao len cap] 26) = W1 from HE.out]
  clear HE
  go_upto_region 2 with (first
    | (refine ldMid 80 (.tmp 6) rfl rfl 0 (op * 5) rfl (shc op) _ Tryz.underlying80 rfl infoSH HS1.out ?_)
    | (refine stNew 80 (.tmp 3) (.tmp 7) rfl rfl W1 80 #[.int .i64 0, .int .i64 0, .string ⟨#[]⟩, .int .i64 0, .int .i64 0] (shc op) rfl rfl rfl infoSH rfl rfl ?_))
  clear c0 HS1
  generalize W1.alloc (.cells (shc op) 80) = W2 at HT2 HB2 HN2 HM2 ⊢
  obtain ⟨a0, a1, a2, a3⟩ := four_cells HN2.out
  have m3 : W2.cell? ⟨W1.heap.size, 3, none⟩ = some (.int .i64 ((lst op : Nat) : Int)) := (cell_of_row _ _ _ _ _ _ HM2.out).trans rfl
  have m4 : W2.cell? ⟨W1.heap.size, 4, none⟩ = some (.int .i64 ((mst op : Nat) : Int)) := (cell_of_row _ _ _ _ _ _ HM2.out).trans rfl
  clear HM2 HN2
  have HF := hid (hfits_any fd n W2 HT2.out)
  clear HT2
  generalize lst op = lo at m3 HR
  generalize mst op = hi at m4 HR
  by_cases h1 : len < lo
  · have g1 : decide ((len : Int) < (lo : Int)) = true := decide_eq_true (by omega)
    have g1n : decide (len < lo) = true := decide_eq_true h1
    obtain rfl : r = false := by rw [HR.out, decide_eq_false (show ¬ lo ≤ len by omega), Bool.false_and, Bool.false_and]
    clear h1 HR
    go_wp2
    go_ret
    exact ⟨rfl, HB2.out⟩
  · have g1 : decide ((len : Int) < (lo : Int)) = false := decide_eq_false (by omega)
    have g1n : decide (len < lo) = false := decide_eq_false h1
    have hlo := decide_eq_true (show lo ≤ len by omega)
    by_cases h2 : hi < len
    · have g2 : decide ((hi : Int) < (len : Int)) = true := decide_eq_true (by omega)
      have g2n : decide (hi < len) = true := decide_eq_true h2
      obtain rfl : r = false := by rw [HR.out, decide_eq_false (show ¬ len ≤ hi by omega), Bool.and_false, Bool.false_and]
      clear h1 h2 HR hlo
      go_wp2
      go_ret
      exact ⟨rfl, HB2.out⟩
    · have g2 : decide ((hi : Int) < (len : Int)) = false := decide_eq_false (by omega)
      have g2n : decide (hi < len) = false := decide_eq_false h2
      have HR2 : Hid (r = if op = 2 ∨ op = 7 then fitB fd n else decide (fd = 0) && decide (n = 0)) := by show _ = _; rw [HR.out, hlo, decide_eq_true (show len ≤ hi by omega), Bool.true_and, Bool.true_and]
      clear h1 h2 HR hlo
      by_cases h2 : op = 2
      · have e2 : (((op : Nat) : Int) == 2) = true := by rw [h2]; rfl
        obtain rfl : r = fitB fd n := by rw [HR2.out, if_pos (Or.inl h2)]
        clear h2 ho HR2
        go_wp2_with (go_at_call 36; refine (HF.out).mono ?_; rintro e w' ⟨rfl, rfl⟩)
        go_ret
        exact ⟨rfl, HB2.out⟩
      · have e2 : (((op : Nat) : Int) == 2) = false := beq_eq_false_iff_ne.2 (by omega)
        by_cases h7 : op = 7
        · have e7 : (((op : Nat) : Int) == 7) = true := by rw [h7]; rfl
          obtain rfl : r = fitB fd n := by rw [HR2.out, if_pos (Or.inr h7)]
          clear h2 h7 ho HR2
          go_wp2_with (go_at_call 36; refine (HF.out).mono ?_; rintro e w' ⟨rfl, rfl⟩)
          go_ret
          exact ⟨rfl, HB2.out⟩
        · have e7 : (((op : Nat) : Int) == 7) = false := beq_eq_false_iff_ne.2 (by omega)
          have HR3 : Hid (r = (decide (fd = 0) && decide (n = 0))) := by show _ = _; rw [HR2.out, if_neg (by rintro (h | h); exact h2 h; exact h7 h)]
          clear h2 h7 ho HF HR2
          by_cases hf : fd = 0
          · have f0 : (fd == 0) = true := by rw [hf]; rfl
            obtain rfl : r = (((n : Nat) : Int) == 0) := by
              rw [HR3.out, decide_eq_true hf, Bool.true_and, Bool.eq_iff_iff, decide_eq_true_eq, beq_iff_eq]; omega
            clear hf HR3
            go_wp2
            go_ret
            exact ⟨rfl, HB2.out⟩
          · have f0 : (fd == 0) = false := beq_eq_false_iff_ne.2 hf
            obtain rfl : r = false := by rw [HR3.out, decide_eq_false hf, Bool.false_and]
            clear hf HR3
            go_wp2
            go_ret
            exact ⟨rfl, HB2.out⟩
end Go.Proofs.YtoncogkamlgjhaaGreatDoor
namespace Go.Proofs.YtoncogkamlgjhaaGreatDoor
set_option maxRecDepth 100000
open Go.ChangeShapes Go.WideShapes Go.ChangeAt Go.RowKit
set_option maxRecDepth 100000

theorem gSH : Tryz.prog.globalNamed "tollbridge/show.shapes" = some 0 := by kernel_rfl
theorem gFN : Tryz.prog.globalNamed "tollbridge/show.fieldNames" = some 1 := by kernel_rfl
theorem gWD : Tryz.prog.globalNamed "tollbridge/header.widths" = some 2 := by kernel_rfl
theorem gDB : Tryz.prog.globalNamed "math/bits.deBruijn64tab" = some 8 := by kernel_rfl
theorem tSH : (Tryz.prog.globals[0]?).map (·.type) = some 81 := by kernel_rfl
theorem tFN : (Tryz.prog.globals[1]?).map (·.type) = some 84 := by kernel_rfl
theorem tWD : (Tryz.prog.globals[2]?).map (·.type) = some 117 := by kernel_rfl
theorem tP10 : (Tryz.prog.globals[6]?).map (·.type) = some 140 := by kernel_rfl
theorem cells3 : Tryz.prog.cellsOf 3 = 1 := by kernel_rfl
theorem cells9 : Tryz.prog.cellsOf 9 = 1 := by kernel_rfl
theorem cellsU64 : Tryz.prog.cellsOf 23 = 1 := by kernel_rfl
theorem cellsSH : Tryz.prog.cellsOf 80 = 5 := by kernel_rfl
theorem cellsA11 : Tryz.prog.cellsOf 117 = 11 := by kernel_rfl
theorem cellsA20 : Tryz.prog.cellsOf 140 = 20 := by kernel_rfl
def shd (op : Nat) : DataW Unit := .agg [.lit (.int .i64 ((hld op : Nat) : Int)), .lit (.int .i64 ((ask op : Nat) : Int)), .lit (.string (sgT op).data.toList), .lit (.int .i64 ((lst op : Nat) : Int)), .lit (.int .i64 ((mst op : Nat) : Int))]
theorem shData : (Rows.laid_tollbridge_show_shapes : DataW Unit) = .agg ((List.range 11).map shd) := by kernel_rfl
theorem fnData : (Rows.laid_tollbridge_show_fieldNames : DataW Unit) = .agg ((List.range 11).map fun f => .lit (.string (fnm f).data.toList)) := by kernel_rfl
theorem wdData : (Rows.laid_tollbridge_header_widths : DataW Unit) = Lib.tabData .i64 ((List.range 11).map fun f => ((wdt f : Nat) : Int)) := by kernel_rfl
theorem pwData : (Rows.laid_internal_strconv_uint64pow10 : DataW Unit) = Lib.tabData .u64 Lib.pow10Tab := by kernel_rfl
section
variable {enc : TypeId × Value → Unit} {W : World} {base : Nat} {sp : Nat → Bool} {held : Bool}
theorem cellI {f : Nat} {t : TypeId} {cs : List Value} {k : IntKind} {n : Int} {q : List MemPlace} (ht : Tryz.prog.underlying t = some (.int k)) (h : DataW.trod enc Tryz.prog W base sp held f t cs = some (.lit (.int k n), q)) : cs = [.int k n] := by
  obtain ⟨m, rfl, hx, -⟩ := DataW.trod_int ht h
  injection hx with h1 h2
  injection h1 with h1
  injection h1 with h1 h3
  rw [h3]
theorem cellT {f : Nat} {t : TypeId} {cs : List Value} {b : ByteArray} {q : List MemPlace} (ht : Tryz.prog.underlying t = some .string) (h : DataW.trod enc Tryz.prog W base sp held f t cs = some (.lit (.string b.data.toList), q)) : cs = [.string b] := by
  obtain ⟨s, rfl, hx, -⟩ := DataW.trod_string ht h
  injection hx with h1 h2
  injection h1 with h1
  injection h1 with h1
  have : s = b := by
    cases s; cases b
    simp only [Array.toList_inj] at h1
    rw [h1]
  rw [this]
theorem part_at {ds : List (DataW Unit)} {xs : List (DataW Unit × List MemPlace)} {q : List MemPlace} (h : ((DataW.agg ds, q) : DataW Unit × List MemPlace) = (.agg (xs.map (·.1)), xs.flatMap (·.2))) {i : Nat} {d : DataW Unit} (hd : ds[i]? = some d) : ∃ q', xs[i]? = some (d, q') ∧ i < xs.length := by
  injection h with h1 h2
  injection h1 with h1
  rw [h1, List.getElem?_map, Option.map_eq_some_iff] at hd
  obtain ⟨⟨x, y⟩, hx, rfl⟩ := hd
  exact ⟨y, hx, (List.getElem?_eq_some_iff.1 hx).1⟩
theorem arr_at {f n : Nat} {t e : TypeId} {cs : List Value} {ds : List (DataW Unit)} {q : List MemPlace} (ht : Tryz.prog.underlying t = some (.array n e)) (h : DataW.trod enc Tryz.prog W base sp held f t cs = some (.agg ds, q)) {i : Nat} {d : DataW Unit} (hd : ds[i]? = some d) : ∃ m q', DataW.trod enc Tryz.prog W base sp held m e ((cs.drop (i * Tryz.prog.cellsOf e)).take (Tryz.prog.cellsOf e)) = some (d, q') := by
  obtain ⟨xs, m, rfl, hx, -, hn, hel⟩ := DataW.trod_array ht h
  obtain ⟨q', h1, h2⟩ := part_at hx hd
  exact ⟨m, q', (hel i (by omega)).trans h1⟩
theorem str_at {f : Nat} {t : TypeId} {fs : Array Field} {cs : List Value} {ds : List (DataW Unit)} {q : List MemPlace} (ht : Tryz.prog.underlying t = some (.struct fs)) (h : DataW.trod enc Tryz.prog W base sp held f t cs = some (.agg ds, q)) (i : Nat) {fd : Field} (hf : fs[i]? = some fd) {d : DataW Unit} (hd : ds[i]? = some d) : ∃ m q', DataW.trod enc Tryz.prog W base sp held m fd.type ((cs.drop fd.offset).take (Tryz.prog.cellsOf fd.type)) = some (d, q') := by
  obtain ⟨xs, m, rfl, hx, -, hn, hel⟩ := DataW.trod_struct ht h
  obtain ⟨q', h1, -⟩ := part_at hx hd
  exact ⟨m, q', (hel i fd hf).trans h1⟩
end
theorem slot {cs : List Value} {a : Nat} {v : Value} (h : (cs.drop a).take 1 = [v]) : cs[a]? = some v := by
  have := congrArg (·[0]?) h
  simpa [List.getElem?_take, List.getElem?_drop] using this
theorem slot2 {cs : List Value} {a n j : Nat} {v : Value} (h : (((cs.drop a).take n).drop j).take 1 = [v]) : cs[a + j]? = some v := by
  have := slot h
  rw [List.getElem?_take] at this
  split at this
  · rwa [List.getElem?_drop] at this
  · cases this
theorem head_open {n : String} {d : DataW Unit} {r : List (String × DataW Unit)} {W : World} {g : Nat} {t : TypeId} (h : laidMet Tryz.prog ((n, d) :: r) W) (hg : Tryz.prog.globalNamed n = some g) (ht : (Tryz.prog.globals[g]?).map (·.type) = some t) : ∃ (cs : Array Value) (f : Nat) (q : List MemPlace), W.var? Tryz.prog n = some cs ∧ DataW.trod (fun _ => ()) Tryz.prog W 0 (fun _ => true) false f t cs.toList = some (d, q) := by
  obtain ⟨ps, ⟨g0, t0, cs0, f0, p0, q0, hg0, ht0, hv0, hd0, -, -⟩, -, -⟩ := h
  obtain rfl := Option.some.inj (hg.symm.trans hg0)
  obtain rfl := Option.some.inj (ht.symm.trans ht0)
  exact ⟨_, _, _, hv0, hd0⟩
abbrev laidS : List (String × DataW Unit) := [("math/bits.deBruijn32tab", Rows.laid_math_bits_deBruijn32tab), ("math/bits.deBruijn64tab", Rows.laid_math_bits_deBruijn64tab), ("internal/strconv.uint64pow10", Rows.laid_internal_strconv_uint64pow10), ("strconv.ErrRange", Rows.laid_strconv_ErrRange), ("strconv.ErrSyntax", Rows.laid_strconv_ErrSyntax), ("tollbridge/header.widths", Rows.laid_tollbridge_header_widths), ("tollbridge/show.fieldNames", Rows.laid_tollbridge_show_fieldNames), ("tollbridge/show.shapes", Rows.laid_tollbridge_show_shapes)]
theorem room_of_laid {W : World} (h : laidMet Tryz.prog laidS W) : 9 ≤ W.heap.size := by
  obtain ⟨ps, ⟨g0, t0, cs0, f0, p0, q0, hg0, ht0, hv0, hd0, -, -⟩, -, -⟩ := h.tail
  have hv := hv0
  unfold World.var? at hv
  rw [gDB] at hv
  simp only [Option.bind_some] at hv
  by_cases hz : 9 ≤ W.heap.size
  · exact hz
  · rw [Array.getElem?_eq_none (by omega)] at hv
    cases hv
theorem sh_of {W : World} {r : List (String × DataW Unit)} (h : laidMet Tryz.prog (("tollbridge/show.shapes", Rows.laid_tollbridge_show_shapes) :: r) W) (op : Nat) (ho : op < 11) : W.rangeAt 0 (op * 5) (shc op).toList := by
  rw [shData] at h
  obtain ⟨cs, f, q, hv, hd⟩ := head_open h gSH tSH
  obtain ⟨m, q1, h1⟩ := arr_at Tryz.underlying81 hd (i := op) (d := shd op) (by simp [ho])
  rw [cellsSH] at h1
  have hc : ∀ j v, cs.toList[op * 5 + j]? = some v → W.cell? ⟨0, op * 5 + j, none⟩ = some v := fun j v e => (World.var?_cell gSH hv _).trans (by simpa using e)
  obtain ⟨m0, p0, e0⟩ : ∃ m q, DataW.trod (fun _ => ()) Tryz.prog W 0 (fun _ => true) false m 3 ((((cs.toList.drop (op * 5)).take 5).drop 0).take (Tryz.prog.cellsOf 3)) = some (.lit (.int .i64 ((hld op : Nat) : Int)), q) := str_at Tryz.underlying80 h1 0 rfl rfl
  obtain ⟨m1, p1, e1⟩ : ∃ m q, DataW.trod (fun _ => ()) Tryz.prog W 0 (fun _ => true) false m 3 ((((cs.toList.drop (op * 5)).take 5).drop 1).take (Tryz.prog.cellsOf 3)) = some (.lit (.int .i64 ((ask op : Nat) : Int)), q) := str_at Tryz.underlying80 h1 1 rfl rfl
  obtain ⟨m2, p2, e2⟩ : ∃ m q, DataW.trod (fun _ => ()) Tryz.prog W 0 (fun _ => true) false m 9 ((((cs.toList.drop (op * 5)).take 5).drop 2).take (Tryz.prog.cellsOf 9)) = some (.lit (.string (sgT op).data.toList), q) := str_at Tryz.underlying80 h1 2 rfl rfl
  obtain ⟨m3, p3, e3⟩ : ∃ m q, DataW.trod (fun _ => ()) Tryz.prog W 0 (fun _ => true) false m 3 ((((cs.toList.drop (op * 5)).take 5).drop 3).take (Tryz.prog.cellsOf 3)) = some (.lit (.int .i64 ((lst op : Nat) : Int)), q) := str_at Tryz.underlying80 h1 3 rfl rfl
  obtain ⟨m4, p4, e4⟩ : ∃ m q, DataW.trod (fun _ => ()) Tryz.prog W 0 (fun _ => true) false m 3 ((((cs.toList.drop (op * 5)).take 5).drop 4).take (Tryz.prog.cellsOf 3)) = some (.lit (.int .i64 ((mst op : Nat) : Int)), q) := str_at Tryz.underlying80 h1 4 rfl rfl
  have c0 := slot2 (j := 0) (by have := cellI Tryz.underlying3 e0; rwa [cells3] at this)
  have c1 := slot2 (j := 1) (by have := cellI Tryz.underlying3 e1; rwa [cells3] at this)
  have c2 := slot2 (j := 2) (by have := cellT Tryz.underlying9 e2; rwa [cells9] at this)
  have c3 := slot2 (j := 3) (by have := cellI Tryz.underlying3 e3; rwa [cells3] at this)
  have c4 := slot2 (j := 4) (by have := cellI Tryz.underlying3 e4; rwa [cells3] at this)
  intro j v hj
  match j, hj with
  | 0, hj => exact hc 0 v (c0.trans hj)
  | 1, hj => exact hc 1 v (c1.trans hj)
  | 2, hj => exact hc 2 v (c2.trans hj)
  | 3, hj => exact hc 3 v (c3.trans hj)
  | 4, hj => exact hc 4 v (c4.trans hj)
theorem fn_of {W : World} {r : List (String × DataW Unit)} (h : laidMet Tryz.prog (("tollbridge/show.fieldNames", Rows.laid_tollbridge_show_fieldNames) :: r) W) (k : Nat) (hk : k < 11) : W.cell? ⟨1, k, none⟩ = some (.string (fnm k)) := by
  rw [fnData] at h
  obtain ⟨cs, f, q, hv, hd⟩ := head_open h gFN tFN
  obtain ⟨m, q1, h1⟩ := arr_at Tryz.underlying84 hd (i := k) (d := .lit (.string (fnm k).data.toList)) (by simp [hk])
  rw [cells9] at h1
  have c := slot (cellT Tryz.underlying9 h1)
  rw [Nat.mul_one] at c
  exact (World.var?_cell gFN hv _).trans (by simpa using c)
theorem wd_of {W : World} {r : List (String × DataW Unit)} (h : laidMet Tryz.prog (("tollbridge/header.widths", Rows.laid_tollbridge_header_widths) :: r) W) (k : Nat) (hk : k < 11) : W.cell? ⟨2, k, none⟩ = some (.int .i64 ((wdt k : Nat) : Int)) := by
  rw [wdData] at h
  obtain ⟨cs, f, q, hv, hd⟩ := head_open h gWD tWD
  obtain ⟨m, q1, h1⟩ := arr_at Tryz.underlying117 hd (i := k) (d := .lit (.int .i64 ((wdt k : Nat) : Int))) (by simp [hk])
  rw [cells3] at h1
  have c := slot (cellI Tryz.underlying3 h1)
  rw [Nat.mul_one] at c
  exact (World.var?_cell gWD hv _).trans (by simpa using c)
theorem tabS_of_laid {W : World} (h : laidMet Tryz.prog laidS W) : TabS W := by
  have h2 := h.tail.tail
  have h4 := h2.tail
  refine ⟨sh_of h4.tail.tail.tail.tail, fn_of h4.tail.tail.tail, wd_of h4.tail.tail, ?_, ⟨sent h4.tail gES tES, sent h4 gER tER⟩⟩
  have h2' : laidMet Tryz.prog (("internal/strconv.uint64pow10", Lib.tabData .u64 Lib.pow10Tab) :: laidS.drop 3) W := by rw [← pwData]; exact h2
  exact Lib.tabIs_of_head gP10 tP10 Tryz.underlying140 Tryz.underlying23 cellsU64 cellsA20 h2'
theorem door_metS (os : Os) (args : Array Value) : laidMetH Tryz.prog laidS ((World.doorLaid Tryz.prog 95 os).forCall (fun _ _ => 0) ⟨#[], args, []⟩).memory :=
  laidMetH_of_parts (laidMet_of_run' 8 (by kernel_rfl) (by kernel_rfl)) (by kernel_rfl)
end Go.Proofs.YtoncogkamlgjhaaGreatDoor
