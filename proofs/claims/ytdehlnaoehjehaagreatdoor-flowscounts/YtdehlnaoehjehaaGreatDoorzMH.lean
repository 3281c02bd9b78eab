/-
  Proved here: what Width of package header and the document's Width answer, for every argument; how a whole match or header is loaded out of its block; how two matches are compared. Condition where it is named: the widths' table holds its eleven numbers.
-/
/-
  Proved here: Check of package match and the document's Check return 0 or 20 as 'chk' says, for every match; no old memory turns. Condition: the widths' table holds its eleven numbers (Check of package match alone).
-/
/-
  Plain: which headers a match hits. No program is spoken of.
-/
import Derived.Test.YtdehlnaoehjehaaGreatDoorProg
import Derived.WalkKit
import Derived.WalkSpells
import Derived.WalkLawsBesides
import Derived.BigQuiet
import Derived.ChangeKeysEq
import Derived.Deep.RegionHeld3
import Derived.Deep.MidRow
import Derived.Deep.WholeRow
namespace Go.Proofs.YtdehlnaoehjehaaGreatDoor
set_option maxRecDepth 100000
open Go.RowKit

def wid : Nat → Int
  | 0 => 48 | 1 => 48 | 2 => 16 | 3 => 12 | 4 => 32 | 5 => 32 | 6 => 8 | 7 => 16 | 8 => 16 | 9 => 16 | 10 => 16 | _ => 0
theorem wid_bd (k : Nat) : 0 ≤ wid k ∧ wid k ≤ 48 := by
  unfold wid; split <;> omega
def widV (f : Int) : Int := if 0 ≤ f ∧ f < 11 then wid f.toNat else 0
theorem widV_nat (k : Nat) (hk : k < 11) : widV (k : Int) = wid k := by
  unfold widV; rw [if_pos (by omega)]; simp
/-- The widths' table holds its eleven numbers. -/
def Tab (w : World) : Prop := ∀ k : Nat, k < 11 → w.cell? ⟨0, k, none⟩ = some (.int .i64 (wid k))
theorem Tab.pos {w : World} (h : Tab w) : 0 < w.heap.size := by
  rcases Nat.eq_zero_or_pos w.heap.size with h' | h'
  · have := h 0 (by omega)
    simp [World.cell?, h'] at this
  · exact h'
theorem Tab.on {w w' : World} (h : Tab w) (hb : Below w.heap.size w w') : Tab w' := fun k hk => by
  rw [hb.cell (p := ⟨0, k, none⟩) h.pos]; exact h k hk

set_option maxHeartbeats 400000 in
/-- WHAT Width ANSWERS. -/
theorem width_any (f : Int) (w : World) (hw : Tab w) :
    Calls Tryz.prog 78 #[.int .i8 f] w fun e w' => e = .returned (.int .i64 (widV f)) ∧ w' = w := by
  by_cases h1 : f < 0
  · have e1 : widV f = 0 := by unfold widV; rw [if_neg (by omega)]
    rw [e1]; clear e1
    go_enter Tryz.func78, Tryz.ntmps78
    go_wp2
    go_ret
    exact ⟨rfl, rfl⟩
  · have d1 : decide (f < 0) = false := by simpa using h1
    by_cases h2 : 11 ≤ f
    · have e1 : widV f = 0 := by unfold widV; rw [if_neg (by omega)]
      rw [e1]; clear e1
      go_enter Tryz.func78, Tryz.ntmps78
      go_wp2
      go_ret
      exact ⟨rfl, rfl⟩
    · have d2 : decide (11 ≤ f) = false := by simpa using h2
      have e1 : widV f = wid f.toNat := by unfold widV; rw [if_pos (by omega)]
      rw [e1]; clear e1
      have hc := hw f.toNat (by omega)
      have g0 : 0 ≤ f := by omega
      have g1 : f < 11 := by omega
      clear hw
      go_enter Tryz.func78, Tryz.ntmps78
      go_wp2
      go_ret
      exact ⟨rfl, rfl⟩

set_option maxHeartbeats 1600000 in
theorem rwidth_in (f : Int) (hf : f = 0 ∨ f = 1 ∨ f = 2 ∨ f = 3 ∨ f = 4 ∨ f = 5 ∨ f = 6 ∨ f = 7 ∨ f = 8 ∨ f = 9 ∨ f = 10) (w : World) :
    Calls Tryz.prog 87 #[.int .i8 f] w fun e w' => e = .returned (.int .i64 (widV f)) ∧ w' = w := by
  rcases hf with rfl | rfl | rfl | rfl | rfl | rfl | rfl | rfl | rfl | rfl | rfl
  all_goals
    go_enter Tryz.func87, Tryz.ntmps87
    go_wp2
    go_ret
    exact ⟨rfl, rfl⟩

set_option maxHeartbeats 1600000 in
theorem rwidth_out (f : Int) (hf : f < 0 ∨ 10 < f) (w : World) :
    Calls Tryz.prog 87 #[.int .i8 f] w fun e w' => e = .returned (.int .i64 (widV f)) ∧ w' = w := by
  have e0 : widV f = 0 := by unfold widV; rw [if_neg (by omega)]
  rw [e0]
  have t0 : (f == 0) = false := beq_eq_false_iff_ne.2 (by omega)
  have t1 : (f == 1) = false := beq_eq_false_iff_ne.2 (by omega)
  have t2 : (f == 2) = false := beq_eq_false_iff_ne.2 (by omega)
  have t3 : (f == 3) = false := beq_eq_false_iff_ne.2 (by omega)
  have t4 : (f == 4) = false := beq_eq_false_iff_ne.2 (by omega)
  have t5 : (f == 5) = false := beq_eq_false_iff_ne.2 (by omega)
  have t6 : (f == 6) = false := beq_eq_false_iff_ne.2 (by omega)
  have t7 : (f == 7) = false := beq_eq_false_iff_ne.2 (by omega)
  have t8 : (f == 8) = false := beq_eq_false_iff_ne.2 (by omega)
  have t9 : (f == 9) = false := beq_eq_false_iff_ne.2 (by omega)
  have t10 : (f == 10) = false := beq_eq_false_iff_ne.2 (by omega)
  clear hf e0
  go_enter Tryz.func87, Tryz.ntmps87
  go_wp2
  go_ret
  exact ⟨rfl, rfl⟩

/-- The document's Width. -/
theorem rwidth_any (f : Int) (w : World) : Calls Tryz.prog 87 #[.int .i8 f] w fun e w' => e = .returned (.int .i64 (widV f)) ∧ w' = w := by
  by_cases h : f < 0 ∨ 10 < f
  · exact rwidth_out f h w
  · exact rwidth_in f (by omega) w

def row (n : Nat) (f : Nat → Int) : Array Value := Array.ofFn (n := n) fun k => Value.int .u64 (f k.val)
theorem row_size (n : Nat) (f : Nat → Int) : (row n f).size = n := by simp [row]
theorem row_at (n : Nat) (f : Nat → Int) (k : Nat) (hk : k < n) : (row n f)[k]? = some (.int .u64 (f k)) := by
  simp [row, hk]
theorem row_none (n : Nat) (f : Nat → Int) (k : Nat) (hk : ¬ k < n) : (row n f)[k]? = none := by
  simp [row, hk]
theorem row_ext {n : Nat} {f : Nat → Int} {cs : Array Value} (hs : cs.size = n) (h : ∀ k, k < n → cs[k]? = some (.int .u64 (f k))) : cs = row n f := by
  apply Array.ext_getElem?
  intro k
  by_cases hk : k < n
  · rw [h k hk, row_at n f k hk]
  · rw [Array.getElem?_eq_none (by omega), row_none n f k hk]
theorem row_congr {n : Nat} {f g : Nat → Int} (h : ∀ k, k < n → f k = g k) : row n f = row n g :=
  row_ext (row_size n f) fun k hk => by rw [row_at n f k hk, h k hk]
theorem row_one (n : Nat) (f : Nat → Int) : (row n f).all (·.oneCell') = true := by
  rw [Array.all_eq_true_iff_forall_mem]
  intro v hv
  simp [row] at hv
  obtain ⟨k, rfl⟩ := hv
  rfl
abbrev mv (m : Nat → Int) : Value := .agg (row 22 m)
abbrev hv (h : Nat → Int) : Value := .agg (row 11 h)
def zf : Nat → Int := fun _ => 0
def upd (h : Nat → Int) (f : Nat) (x : Int) : Nat → Int := fun k => bif Nat.beq k f then x else h k
theorem upd_same (h : Nat → Int) (f : Nat) (x : Int) : upd h f x f = x := by simp [upd]
theorem upd_other (h : Nat → Int) (f : Nat) (x : Int) (k : Nat) (hk : k ≠ f) : upd h f x k = h k := by
  unfold upd
  cases hb : Nat.beq k f
  · rfl
  · exact absurd (Nat.eq_of_beq_eq_true hb) hk
theorem row_set (n : Nat) (f : Nat → Int) (j : Nat) (x : Int) : (row n f).setIfInBounds j (.int .u64 x) = row n (upd f j x) := by
  refine row_ext (by simp [row_size]) fun k hk => ?_
  rw [Array.getElem?_setIfInBounds]
  by_cases h : j = k
  · subst h
    rw [if_pos rfl, if_pos (by simpa [row_size] using hk), upd_same]
  · rw [if_neg h, row_at n f k hk, upd_other f j x k (fun e => h e.symm)]

/-- Block b is a match's (n = 22) or a header's (n = 11), and holds the numbers f. -/
def Blk (w : World) (b : Nat) (n t : Nat) (f : Nat → Int) : Prop := w.heap[b]? = some (Obj.cells (row n f) t (0, 0))
theorem Blk.lt {w : World} {b n t : Nat} {f : Nat → Int} (h : Blk w b n t f) : b < w.heap.size := (Array.getElem?_eq_some_iff.1 h).1
theorem Blk.new (w : World) (n t : Nat) (f : Nat → Int) : Blk (w.alloc (.cells (row n f) t)) w.heap.size n t f := heap_alloc_new _ _
theorem Blk.new1 (w : World) (o : Obj) (n t : Nat) (f : Nat → Int) : Blk ((w.alloc o).alloc (.cells (row n f) t)) (w.heap.size + 1) n t f := by
  have := Blk.new (w.alloc o) n t f
  simpa using this
theorem Blk.alloc {w : World} {b n t : Nat} {f : Nat → Int} (h : Blk w b n t f) (o : Obj) : Blk (w.alloc o) b n t f := by
  unfold Blk; rw [Below.heap_alloc _ _ _ h.lt]; exact h
theorem Blk.on {w w' : World} {b n t : Nat} {f : Nat → Int} (h : Blk w b n t f) (hb : Below w.heap.size w w') : Blk w' b n t f := by
  unfold Blk; rw [hb.block _ h.lt]; exact h
theorem bel_drewN {b : Nat} {w w' : World} (h : Below b w w') (q : Nat) : Below b w (w'.drewN q) := ⟨h.os, h.tape, h.output, h.size, h.block⟩
theorem Blk.drewN {w : World} {b n t : Nat} {f : Nat → Int} (h : Blk w b n t f) (q : Nat) : Blk (w.drewN q) b n t f := h
theorem Blk.drew {w : World} {b n t : Nat} {f : Nat → Int} (h : Blk w b n t f) : Blk w.drew b n t f := h
theorem Blk.cell {w : World} {b n t : Nat} {f : Nat → Int} (h : Blk w b n t f) (k : Nat) (hk : k < n) : w.cell? ⟨b, k, none⟩ = some (.int .u64 (f k)) := by
  rw [cell_of_row w b k _ _ _ h, row_at n f k hk]
theorem Blk.frozen {w : World} {b n t : Nat} {f : Nat → Int} (h : Blk w b n t f) (o : Nat) : w.frozen? ⟨b, o, none⟩ = false := by
  have : w.heap[b]? = some (Obj.cells (row n f) t (0, 0)) := h
  simp [World.frozen?, this]
theorem Blk.set {w : World} {b n t : Nat} {f : Nat → Int} (h : Blk w b n t f) (j : Nat) (x : Int) : Blk (w.setCell ⟨b, j, none⟩ (.int .u64 x)) b n t (upd f j x) := by
  unfold Blk; rw [heap_setCell_same w b j _ t _ h, row_set]
theorem Blk.setOther {w : World} {b n t : Nat} {f : Nat → Int} (h : Blk w b n t f) (c j : Nat) (v : Value) (hne : b ≠ c) : Blk (w.setCell ⟨c, j, none⟩ v) b n t f := by
  unfold Blk; rw [heap_setCell_other _ _ _ _ hne]; exact h

theorem size26 (m : Nat → Int) : (Tryz.prog.info? 32).map (·.size) = some (row 22 m).size := by
  rw [row_size]; kernel_rfl
theorem size24 (h : Nat → Int) : (Tryz.prog.info? 30).map (·.size) = some (row 11 h).size := by
  rw [row_size]; kernel_rfl

section
variable {ops : Array Oper} {rest : List Oper} {o : Oper} {a : Act} {w : World} {Q : Exit → Act → World → Prop}
/-- A WHOLE MATCH IS LOADED. -/
theorem ld26 (x : Operand) (ho : o.op = .load 32 x) (g : Nat) (hx : a.eval x = .pointer (some ⟨g, 0, none⟩)) (hw : Region.wanted o (yielded ops a.tmps) = true) (m : Nat → Int) (hg : Blk w g 22 32 m)
    (h : wpList Tryz.prog ops Q rest (a.put o.dst (mv m)) w) : wpList Tryz.prog ops Q (o :: rest) a w := by
  unfold wpList
  rw [if_pos hw]
  exact Or.inl (wp_load_row 32 x ho g hx 32 (row 22 m) (0, 0) _ hg Tryz.underlying32 rfl (size26 m) h)
/-- A WHOLE HEADER IS LOADED. -/
theorem ld24 (x : Operand) (ho : o.op = .load 30 x) (g : Nat) (hx : a.eval x = .pointer (some ⟨g, 0, none⟩)) (hw : Region.wanted o (yielded ops a.tmps) = true) (m : Nat → Int) (hg : Blk w g 11 30 m)
    (h : wpList Tryz.prog ops Q rest (a.put o.dst (hv m)) w) : wpList Tryz.prog ops Q (o :: rest) a w := by
  unfold wpList
  rw [if_pos hw]
  exact Or.inl (wp_load_row 30 x ho g hx 30 (row 11 m) (0, 0) _ hg Tryz.underlying30 rfl (size24 m) h)
theorem range_mask {w : World} {b : Nat} {m : Nat → Int} (h : Blk w b 22 32 m) : w.rangeAt b 11 (row 11 fun k => m (11 + k)).toList := fun j v hj => by
  have hj' : (row 11 fun k => m (11 + k))[j]? = some v := by simpa using hj
  by_cases hk : j < 11
  · rw [row_at _ _ _ hk] at hj'
    rw [h.cell (11 + j) (by omega)]; exact hj'
  · rw [row_none _ _ _ hk] at hj'; cases hj'
/-- A MATCH's MASKS ARE LOADED AS ONE ARRAY. -/
theorem ldMask (x : Operand) (ho : o.op = .load 30 x) (g : Nat) (hx : a.eval x = .pointer (some ⟨g, 11, none⟩)) (hw : Region.wanted o (yielded ops a.tmps) = true) (m : Nat → Int) (hg : Blk w g 22 32 m)
    (h : wpList Tryz.prog ops Q rest (a.put o.dst (hv fun k => m (11 + k))) w) : wpList Tryz.prog ops Q (o :: rest) a w := by
  unfold wpList
  rw [if_pos hw]
  refine Or.inl (wp_load_mid 30 x ho g 11 hx (row 11 fun k => m (11 + k)).toList _ (range_mask hg) Tryz.underlying30 rfl (by rw [size24 fun k => m (11 + k)]; simp) ?_)
  simpa using h
end

theorem idx_hv (h : Nat → Int) (k : Nat) (hk : k < 11) (w : World) : (Instr.index 30 (hv h) (.int .i64 (k : Int))).run Tryz.prog w = .ok (.int .u64 (h k)) w := by
  have hk' : k = 0 ∨ k = 1 ∨ k = 2 ∨ k = 3 ∨ k = 4 ∨ k = 5 ∨ k = 6 ∨ k = 7 ∨ k = 8 ∨ k = 9 ∨ k = 10 := by omega
  rcases hk' with rfl | rfl | rfl | rfl | rfl | rfl | rfl | rfl | rfl | rfl | rfl
  all_goals (show _ = _; kernel_rfl)

def allU (p : Nat → Bool) : Nat → Bool
  | 0 => true
  | k + 1 => allU p k && p k
theorem allU_false {p : Nat → Bool} : ∀ {n k : Nat}, k < n → p k = false → allU p n = false
  | 0, _, hk, _ => absurd hk (by omega)
  | n + 1, k, hk, hb => by
    by_cases e : k = n
    · subst e; simp [allU, hb]
    · simp [allU, allU_false (n := n) (by omega) hb]
theorem allU_iff {p : Nat → Bool} : ∀ {n : Nat}, allU p n = true ↔ ∀ k, k < n → p k = true
  | 0 => by simp [allU]
  | n + 1 => by
    simp only [allU, Bool.and_eq_true, allU_iff (n := n)]
    constructor
    · rintro ⟨h1, h2⟩ k hk
      by_cases e : k = n
      · subst e; exact h2
      · exact h1 k (by omega)
    · intro h
      exact ⟨fun k hk => h k (by omega), h n (by omega)⟩
theorem allU_congr {p q : Nat → Bool} {n : Nat} (h : ∀ k, k < n → p k = q k) : allU p n = allU q n := by
  rw [Bool.eq_iff_iff, allU_iff, allU_iff]
  constructor <;> intro ha k hk
  · rw [← h k hk]; exact ha k hk
  · rw [h k hk]; exact ha k hk
end Go.Proofs.YtdehlnaoehjehaaGreatDoor
namespace Go.Proofs.YtdehlnaoehjehaaGreatDoor
set_option maxRecDepth 100000
open Go.RowKit

def bad (m : Nat → Int) (k : Nat) : Bool := m (11 + k) / 2 ^ (wid k).toNat != 0 || bits .andNot .u64 (m k) (m (11 + k)) != 0
def mOk (m : Nat → Int) : Bool := allU (fun k => !bad m k) 11
def chk (m : Nat → Int) : Int := if mOk m then 0 else 20
theorem chk_ok {m : Nat → Int} (h : mOk m = true) : chk m = 0 := by simp [chk, h]
theorem chk_bad {m : Nat → Int} (h : mOk m = false) : chk m = 20 := by simp [chk, h]

set_option maxHeartbeats 800000 in
/-- WHAT Check ANSWERS. -/
theorem check_any (m : Nat → Int) (w : World) (hw : Tab w) :
    Calls Tryz.prog 41 #[mv m] w fun e w' => e = .returned (.int .i64 (chk m)) ∧ Below w.heap.size w w' := by
  have hB : Blk (w.alloc (.cells (row 22 m) 32)) w.heap.size 22 32 m := Blk.new w 22 32 m
  have hlow : Below w.heap.size w (w.alloc (.cells (row 22 m) 32)) := (Below.refl _ _).alloc (Nat.le_refl _) _
  have hT : Hid (Tab (w.alloc (.cells (row 22 m) 32))) := hw.on hlow
  clear hw
  go_enter Tryz.func41, Tryz.ntmps41
  go_wp2_with (refine ldMask (.tmp 5) rfl _ rfl rfl m hB ?_)
  go_loop [7] (fun i => ∃ k : Nat, k ≤ 11 ∧ i = .int .i64 k ∧ allU (fun k => !bad m k) k = true) (fun i => 11 - (intOf i).toNat)
  case atStart => exact ⟨0, by omega, rfl, rfl⟩
  case round =>
    obtain ⟨k, hk, rfl, hall⟩ := hrel
    have HALL : Hid (allU (fun k => !bad m k) k = true) := hall
    clear hall
    by_cases hlt : k < 11
    · have hidx : ∀ W, (Instr.index 30 (hv fun k => m (11 + k)) (.int .i64 (k : Int))).run Tryz.prog W = .ok (.int .u64 (m (11 + k))) W := fun W => idx_hv (fun k => m (11 + k)) k hlt W
      have hc1 : (w.alloc (.cells (row 22 m) 32)).cell? ⟨w.heap.size, k, none⟩ = some (.int .u64 (m k)) := hB.cell k (by omega)
      have hbd := wid_bd k
      have hC := width_any (k : Int) _ hT.out
      rw [widV_nat k hlt] at hC
      have HC : Hid (Calls Tryz.prog 78 #[.int .i8 (k : Int)] (w.alloc (.cells (row 22 m) 32)) fun e w' => e = .returned (.int .i64 (wid k)) ∧ w' = w.alloc (.cells (row 22 m) 32)) := hC
      clear hC
      cases t1 : (m (11 + k) / 2 ^ (wid k).toNat != 0)
      · cases t2 : (bits .andNot .u64 (m k) (m (11 + k)) != 0)
        · have HF : Hid (bad m k = false) := by show bad m k = false; simp [bad, t1, t2]
          go_wp2_with (go_at_call 78; refine (HC.out).mono ?_; rintro e w' ⟨rfl, rfl⟩)
          go_round
          case rel => exact ⟨k + 1, by omega, by go_num, by simp [allU, HALL.out, HF.out]⟩
          case measure => simp [intOf]; omega
        · have HF : Hid (chk m = 20) := by
            show chk m = 20
            exact chk_bad (allU_false hlt (by simp [bad, t2]))
          go_wp2_with (go_at_call 78; refine (HC.out).mono ?_; rintro e w' ⟨rfl, rfl⟩)
          go_ret
          exact ⟨by rw [HF.out]; rfl, hlow⟩
      · have HF : Hid (chk m = 20) := by
          show chk m = 20
          exact chk_bad (allU_false hlt (by simp [bad, t1]))
        go_wp2_with (go_at_call 78; refine (HC.out).mono ?_; rintro e w' ⟨rfl, rfl⟩)
        go_ret
        exact ⟨by rw [HF.out]; rfl, hlow⟩
    · obtain rfl : k = 11 := by omega
      have HF : Hid (chk m = 0) := by
        show chk m = 0
        exact chk_ok HALL.out
      go_wp2
      go_ret
      exact ⟨by rw [HF.out]; rfl, hlow⟩
end Go.Proofs.YtdehlnaoehjehaaGreatDoor
namespace Go.Proofs.YtdehlnaoehjehaaGreatDoor
set_option maxRecDepth 100000
open Go.RowKit

def miss (m h : Nat → Int) (k : Nat) : Bool := bits .and .u64 (h k) (m (11 + k)) != m k
def hit (m h : Nat → Int) : Bool := mOk m && allU (fun k => !miss m h k) 11
end Go.Proofs.YtdehlnaoehjehaaGreatDoor
