/-
  Proved here: Check returns 0 or 10 as 'chk' says for every header, and Width returns 'widV' of every field number; no old memory turns. Condition: the widths' table holds its eleven numbers.
-/
import Derived.Test.YthjgndkcijgfmaaDoorW2
namespace Go.Proofs.YthjgndkcijgfmaaDoor
open Go.RowKit

def wid : Nat → Int
  | 0 => 48 | 1 => 48 | 2 => 16 | 3 => 12 | 4 => 32 | 5 => 32 | 6 => 8 | 7 => 16 | 8 => 16 | 9 => 16 | 10 => 16 | _ => 0
theorem wid_bd (k : Nat) : 0 ≤ wid k ∧ wid k ≤ 48 := by
  unfold wid; split <;> omega
def bar (h : Nat → Int) : Nat → Bool
  | 4 => b45 h | 5 => b45 h | 6 => b6 h | 7 => b78 h | 8 => b78 h | _ => false
def fldBad (h : Nat → Int) (k : Nat) : Bool := h k / 2 ^ (wid k).toNat != 0 || (bar h k && h k != 0)

theorem bcell {W w1 : World} (hb : Below W.heap.size W w1) : (∀ b o, b < W.heap.size → w1.cell? ⟨b, o, none⟩ = W.cell? ⟨b, o, none⟩) ∧ (∀ b o, b < W.heap.size → w1.frozen? ⟨b, o, none⟩ = W.frozen? ⟨b, o, none⟩) :=
  ⟨fun b o h => hb.cell (p := ⟨b, o, none⟩) h, fun b o h => hb.frozen (p := ⟨b, o, none⟩) h⟩

theorem idx_hv (h : Nat → Int) (k : Nat) (hk : k < 11) (w : World) : (Instr.index 24 (hv h) (.int .i64 (k : Int))).run Tryd.prog w = .ok (.int .u64 (h k)) w := by
  have hk' : k = 0 ∨ k = 1 ∨ k = 2 ∨ k = 3 ∨ k = 4 ∨ k = 5 ∨ k = 6 ∨ k = 7 ∨ k = 8 ∨ k = 9 ∨ k = 10 := by omega
  rcases hk' with rfl | rfl | rfl | rfl | rfl | rfl | rfl | rfl | rfl | rfl | rfl
  all_goals (show _ = _; kernel_rfl)

abbrev hcs (h : Nat → Int) : Array Value := #[.int .u64 (h 0), .int .u64 (h 1), .int .u64 (h 2), .int .u64 (h 3), .int .u64 (h 4), .int .u64 (h 5), .int .u64 (h 6), .int .u64 (h 7), .int .u64 (h 8), .int .u64 (h 9), .int .u64 (h 10)]
abbrev bcs (h : Nat → Int) : Array Value := #[.bool false, .bool false, .bool false, .bool false, .bool (b45 h), .bool (b45 h), .bool (b6 h), .bool (b78 h), .bool (b78 h), .bool false, .bool false]
theorem size24 (h : Nat → Int) : (Tryd.prog.info? 24).map (·.size) = some (hcs h).size := by kernel_rfl

def okUpto (h : Nat → Int) : Nat → Bool
  | 0 => true
  | k + 1 => okUpto h k && !fldBad h k
def hOk (h : Nat → Int) : Bool := kindOk (h 2) && okUpto h 11
def chk (h : Nat → Int) : Int := if hOk h then 0 else 10
def chkF (h : Nat → Int) : Int := if okUpto h 11 then 0 else 10
theorem okUpto_mono (h : Nat → Int) : ∀ n k, k < n → fldBad h k = true → okUpto h n = false
  | 0, _, hk, _ => absurd hk (by omega)
  | n + 1, k, hk, hb => by
    by_cases e : k = n
    · subst e; simp [okUpto, hb]
    · simp [okUpto, okUpto_mono h n k (by omega) hb]
theorem cell_bcs (h : Nat → Int) (w1 : World) (k : Nat) (hk : k < 11) : (w1.alloc (.cells (bcs h) 38)).cell? ⟨w1.heap.size, k, none⟩ = some (.bool (bar h k)) := by
  rw [World.cell?_alloc_new]
  have hk' : k = 0 ∨ k = 1 ∨ k = 2 ∨ k = 3 ∨ k = 4 ∨ k = 5 ∨ k = 6 ∨ k = 7 ∨ k = 8 ∨ k = 9 ∨ k = 10 := by omega
  rcases hk' with rfl | rfl | rfl | rfl | rfl | rfl | rfl | rfl | rfl | rfl | rfl <;> rfl

set_option maxHeartbeats 400000 in
theorem check_kind (h : Nat → Int) (w : World) (hok : kindOk (h 2) = false) :
    Calls Tryd.prog 8 #[hv h] w fun e w' => e = .returned (.int .i64 10) ∧ Below w.heap.size w w' := by
  go_enter Tryd.func8, Tryd.ntmps8
  go_wp2_with (go_at_call 15; refine (kindFits_any _ _).mono ?_; rintro e w' ⟨rfl, rfl⟩)
  go_ret
  exact ⟨rfl, (Below.refl _ _).alloc (Nat.le_refl _) _⟩

set_option maxHeartbeats 800000 in
theorem check_fields (h : Nat → Int) (w : World) (hok : kindOk (h 2) = true) (hw : ∀ k : Nat, k < 11 → w.cell? ⟨0, k, none⟩ = some (.int .i64 (wid k))) :
    Calls Tryd.prog 8 #[hv h] w fun e w' => e = .returned (.int .i64 (chkF h)) ∧ Below w.heap.size w w' := by
  have h0 : 0 < w.heap.size := by
    rcases Nat.eq_zero_or_pos w.heap.size with h' | h'
    · have := hw 0 (by omega)
      simp [World.cell?, h'] at this
    · exact h'
  go_enter Tryd.func8, Tryd.ntmps8
  go_wp2_with (go_at_call 15; refine (kindFits_any _ _).mono ?_; rintro e w' ⟨rfl, rfl⟩)
  refine (barred_any h _).mono ?_
  rintro e w1 ⟨rfl, hb⟩
  have hh : w1.heap[w.heap.size]? = some (Obj.cells (hcs h) 24) := by rw [hb.block _ (by simp), heap_alloc_new]
  have hsz : w.heap.size < w1.heap.size := by have := hb.size; simp at this; omega
  have hw1 : ∀ k : Nat, k < 11 → w1.cell? ⟨0, k, none⟩ = some (.int .i64 (wid k)) := fun k hk => by rw [hb.cell (p := ⟨0, k, none⟩) (by simp), ← hw k hk]; exact World.cell?_alloc_past _ _ _ h0
  have hlow : Below w.heap.size w w1 := ((Below.refl _ _).alloc (Nat.le_refl _) _).trans (hb.mono (by simp))
  clear hb hw
  have hh2 : (w1.alloc (.cells (bcs h) 38)).heap[w.heap.size]? = some (Obj.cells (hcs h) 24 (0, 0)) := by rw [Below.heap_alloc _ _ _ hsz]; exact hh
  go_wp2_with (refine wpList_load_row rfl 24 (.tmp 1) rfl w.heap.size rfl 24 (hcs h) (0, 0) _ hh2 Tryd.underlying24 rfl (size24 h) ?_)
  clear hh2
  have hfin : Below w.heap.size w (w1.alloc (.cells (bcs h) 38)) := hlow.alloc (by omega) _
  go_loop [13] (fun i => ∃ k : Nat, k ≤ 11 ∧ i = .int .i64 k ∧ okUpto h k = true) (fun i => 11 - (intOf i).toNat)
  case atStart => exact ⟨0, by omega, rfl, rfl⟩
  case round =>
    obtain ⟨k, hk, rfl, hall⟩ := hrel
    have HALL : Hid (okUpto h k = true) := hall
    clear hall
    by_cases hlt : k < 11
    · have hidx : ∀ W, (Instr.index 24 (.agg (hcs h)) (.int .i64 (k : Int))).run Tryd.prog W = .ok (.int .u64 (h k)) W := fun W => idx_hv h k hlt W
      have hc1 : (w1.alloc (.cells (bcs h) 38)).cell? ⟨0, k, none⟩ = some (.int .i64 (wid k)) := by rw [World.cell?_alloc_past _ _ _ (by omega)]; exact hw1 k hlt
      have hc2 := cell_bcs h w1 k hlt
      have hbd := wid_bd k
      clear hw1
      cases t1 : (h k / 2 ^ (wid k).toNat != 0)
      · cases t2 : bar h k
        · have HF : Hid (fldBad h k = false) := by show fldBad h k = false; simp [fldBad, t1, t2]
          go_wp2
          go_round
          case rel => exact ⟨k + 1, by omega, by go_num, by simp [okUpto, HALL.out, HF.out]⟩
          case measure => simp [intOf]; omega
        · cases t3 : (h k != 0)
          · have HF : Hid (fldBad h k = false) := by show fldBad h k = false; simp [fldBad, t1, t2, t3]
            go_wp2
            go_round
            case rel => exact ⟨k + 1, by omega, by go_num, by simp [okUpto, HALL.out, HF.out]⟩
            case measure => simp [intOf]; omega
          · have HF : Hid (chkF h = 10) := by
              show chkF h = 10
              simp [chkF, okUpto_mono h 11 k hlt (by simp [fldBad, t2, t3])]
            go_wp2
            go_ret
            exact ⟨by rw [HF.out]; rfl, hfin⟩
      · have HF : Hid (chkF h = 10) := by
          show chkF h = 10
          simp [chkF, okUpto_mono h 11 k hlt (by simp [fldBad, t1])]
        go_wp2
        go_ret
        exact ⟨by rw [HF.out]; rfl, hfin⟩
    · obtain rfl : k = 11 := by omega
      have HF : Hid (chkF h = 0) := by
        show chkF h = 0
        simp [chkF, HALL.out]
      go_wp2
      go_ret
      exact ⟨by rw [HF.out]; rfl, hfin⟩

/-- WHAT Check ANSWERS. -/
theorem check_any (h : Nat → Int) (w : World) (hw : ∀ k : Nat, k < 11 → w.cell? ⟨0, k, none⟩ = some (.int .i64 (wid k))) :
    Calls Tryd.prog 8 #[hv h] w fun e w' => e = .returned (.int .i64 (chk h)) ∧ Below w.heap.size w w' := by
  unfold chk hOk
  cases hk : kindOk (h 2)
  · exact check_kind h w hk
  · exact check_fields h w hk hw

def widV (f : Int) : Int := if 0 ≤ f ∧ f < 11 then wid f.toNat else 0
set_option maxHeartbeats 400000 in
/-- WHAT Width ANSWERS. -/
theorem width_any (f : Int) (w : World) (hw : ∀ k : Nat, k < 11 → w.cell? ⟨0, k, none⟩ = some (.int .i64 (wid k))) :
    Calls Tryd.prog 12 #[.int .i8 f] w fun e w' => e = .returned (.int .i64 (widV f)) ∧ w' = w := by
  by_cases h1 : f < 0
  · have e1 : widV f = 0 := by unfold widV; rw [if_neg (by omega)]
    rw [e1]; clear e1
    go_enter Tryd.func12, Tryd.ntmps12
    go_wp2
    go_ret
    exact ⟨rfl, rfl⟩
  · have d1 : decide (f < 0) = false := by simpa using h1
    by_cases h2 : 11 ≤ f
    · have e1 : widV f = 0 := by unfold widV; rw [if_neg (by omega)]
      rw [e1]; clear e1
      go_enter Tryd.func12, Tryd.ntmps12
      go_wp2
      go_ret
      exact ⟨rfl, rfl⟩
    · have d2 : decide (11 ≤ f) = false := by simpa using h2
      have e1 : widV f = wid f.toNat := by unfold widV; rw [if_pos (by omega)]
      rw [e1]; clear e1
      have hc := hw f.toNat (by omega)
      have g0 : 0 ≤ f := by omega
      have g1 : f < 11 := by omega
      clear hw
      go_enter Tryd.func12, Tryd.ntmps12
      go_wp2
      go_ret
      exact ⟨rfl, rfl⟩
end Go.Proofs.YthjgndkcijgfmaaDoor
