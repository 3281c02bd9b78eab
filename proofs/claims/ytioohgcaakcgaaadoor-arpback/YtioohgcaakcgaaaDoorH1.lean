/-
  Proved here: Check of package header returns 0 or 10 as 'chk' says for every header; no old memory turns. Condition: the widths' table holds its eleven numbers.
-/
import Derived.Test.YtioohgcaakcgaaaDoorB1
namespace Go.Proofs.YtioohgcaakcgaaaDoor
open Go.RowKit


def kindOk (k : Int) : Bool := decide (1536 ≤ k) && !(k == 33024)
def portsOk (p : Int) : Bool := p == 6 || p == 17

set_option maxHeartbeats 400000 in
theorem kindFits_any (k : Int) (w : World) :
    Calls Tryd.prog 41 #[.int .u64 k] w fun e w' => e = .returned (.bool (kindOk k)) ∧ w' = w := by
  unfold kindOk
  by_cases h : 1536 ≤ k
  · go_enter Tryd.func41, Tryd.ntmps41
    go_wp2
    go_ret
    exact ⟨by simp [h, bne], rfl⟩
  · have hd : decide (1536 ≤ k) = false := by simpa using h
    go_enter Tryd.func41, Tryd.ntmps41
    go_wp2
    go_ret
    exact ⟨by simp, rfl⟩

set_option maxHeartbeats 400000 in
theorem hasPorts_any (k : Int) (w : World) :
    Calls Tryd.prog 49 #[.int .u64 k] w fun e w' => e = .returned (.bool (portsOk k)) ∧ w' = w := by
  unfold portsOk
  cases h : (k == 6)
  · go_enter Tryd.func49, Tryd.ntmps49
    go_wp2
    go_ret
    exact ⟨by simp, rfl⟩
  · go_enter Tryd.func49, Tryd.ntmps49
    go_wp2
    go_ret
    exact ⟨by simp, rfl⟩


def b45 (h : Nat → Int) : Bool := !(h 2 == 2048 || h 2 == 2054)
def b6 (h : Nat → Int) : Bool := !(h 2 == 2048)
def b78 (h : Nat → Int) : Bool := !(h 2 == 2048 && portsOk (h 6))
abbrev barV (h : Nat → Int) : Value := .agg #[.bool false, .bool false, .bool false, .bool false, .bool (b45 h), .bool (b45 h), .bool (b6 h), .bool (b78 h), .bool (b78 h), .bool false, .bool false]

set_option maxHeartbeats 400000 in
theorem barred_any (h : Nat → Int) (w : World) :
    Calls Tryd.prog 42 #[hv h] w fun e w' => e = .returned (barV h) ∧ Below w.heap.size w w' := by
  have r2 := row_at 11 h 2 (by omega)
  have r6 := row_at 11 h 6 (by omega)
  cases h1 : (h 2 == 2048)
  · cases h2 : (h 2 == 2054)
    · have e1 : b45 h = true := by simp [b45, h1, h2]
      have e2 : b6 h = true := by simp [b6, h1]
      have e3 : b78 h = true := by simp [b78, h1]
      rw [show barV h = .agg #[.bool false, .bool false, .bool false, .bool false, .bool true, .bool true, .bool true, .bool true, .bool true, .bool false, .bool false] by simp only [barV, e1, e2, e3]]
      clear e1 e2 e3
      go_enter Tryd.func42, Tryd.ntmps42
      go_wp2
      refine bodyPost_ret (v := .agg #[.bool false, .bool false, .bool false, .bool false, .bool true, .bool true, .bool true, .bool true, .bool true, .bool false, .bool false]) (by simp [results, Tryd.results42, go_sem]) rfl ⟨rfl, ?_⟩
      exact (((Below.refl _ _).alloc (Nat.le_refl _) _).alloc (by simp) _).alloc (by simp; omega) _
    · have e1 : b45 h = false := by simp [b45, h1, h2]
      have e2 : b6 h = true := by simp [b6, h1]
      have e3 : b78 h = true := by simp [b78, h1]
      rw [show barV h = .agg #[.bool false, .bool false, .bool false, .bool false, .bool false, .bool false, .bool true, .bool true, .bool true, .bool false, .bool false] by simp only [barV, e1, e2, e3]]
      clear e1 e2 e3
      go_enter Tryd.func42, Tryd.ntmps42
      go_wp2
      refine bodyPost_ret (v := .agg #[.bool false, .bool false, .bool false, .bool false, .bool false, .bool false, .bool true, .bool true, .bool true, .bool false, .bool false]) (by simp [results, Tryd.results42, go_sem]) rfl ⟨rfl, ?_⟩
      exact (((Below.refl _ _).alloc (Nat.le_refl _) _).alloc (by simp) _).alloc (by simp; omega) _
  · have e1 : b45 h = false := by simp [b45, h1]
    have e2 : b6 h = false := by simp [b6, h1]
    have e3 : b78 h = !portsOk (h 6) := by simp [b78, h1]
    cases hp : portsOk (h 6)
    · rw [show barV h = .agg #[.bool false, .bool false, .bool false, .bool false, .bool false, .bool false, .bool false, .bool true, .bool true, .bool false, .bool false] by simp only [barV, e1, e2, e3, hp]; rfl]
      clear e1 e2 e3
      go_enter Tryd.func42, Tryd.ntmps42
      go_wp2_with (go_at_call 49; refine (hasPorts_any _ _).mono ?_; rintro e w' ⟨rfl, rfl⟩)
      refine bodyPost_ret (v := .agg #[.bool false, .bool false, .bool false, .bool false, .bool false, .bool false, .bool false, .bool true, .bool true, .bool false, .bool false]) (by simp [results, Tryd.results42, go_sem]) rfl ⟨rfl, ?_⟩
      exact (((Below.refl _ _).alloc (Nat.le_refl _) _).alloc (by simp) _).alloc (by simp; omega) _
    · rw [show barV h = .agg #[.bool false, .bool false, .bool false, .bool false, .bool false, .bool false, .bool false, .bool false, .bool false, .bool false, .bool false] by simp only [barV, e1, e2, e3, hp]; rfl]
      clear e1 e2 e3
      go_enter Tryd.func42, Tryd.ntmps42
      go_wp2_with (go_at_call 49; refine (hasPorts_any _ _).mono ?_; rintro e w' ⟨rfl, rfl⟩)
      refine bodyPost_ret (v := .agg #[.bool false, .bool false, .bool false, .bool false, .bool false, .bool false, .bool false, .bool false, .bool false, .bool false, .bool false]) (by simp [results, Tryd.results42, go_sem]) rfl ⟨rfl, ?_⟩
      exact (((Below.refl _ _).alloc (Nat.le_refl _) _).alloc (by simp) _).alloc (by simp; omega) _


def bar (h : Nat → Int) : Nat → Bool
  | 4 => b45 h | 5 => b45 h | 6 => b6 h | 7 => b78 h | 8 => b78 h | _ => false
def fldBad (h : Nat → Int) (k : Nat) : Bool := h k / 2 ^ (wid k).toNat != 0 || (bar h k && h k != 0)

theorem bcell {W w1 : World} (hb : Below W.heap.size W w1) : (∀ b o, b < W.heap.size → w1.cell? ⟨b, o, none⟩ = W.cell? ⟨b, o, none⟩) ∧ (∀ b o, b < W.heap.size → w1.frozen? ⟨b, o, none⟩ = W.frozen? ⟨b, o, none⟩) :=
  ⟨fun b o h => hb.cell (p := ⟨b, o, none⟩) h, fun b o h => hb.frozen (p := ⟨b, o, none⟩) h⟩

abbrev bcs (h : Nat → Int) : Array Value := #[.bool false, .bool false, .bool false, .bool false, .bool (b45 h), .bool (b45 h), .bool (b6 h), .bool (b78 h), .bool (b78 h), .bool false, .bool false]

def okUpto (h : Nat → Int) : Nat → Bool
  | 0 => true
  | k + 1 => okUpto h k && !fldBad h k
def hOk (h : Nat → Int) : Bool := kindOk (h 2) && okUpto h 11
def chk (h : Nat → Int) : Int := if hOk h then 0 else 10
def chkF (h : Nat → Int) : Int := if okUpto h 11 then 0 else 10
theorem okUpto_mono (h : Nat → Int) : ∀ n k, k < n → fldBad h k = true → okUpto h n = false
  | 0, _, hk, _ => absurd hk (by omega)
  | n + 1, k, hk, hb => by
    by_cases e : k = n
    · subst e; simp [okUpto, hb]
    · simp [okUpto, okUpto_mono h n k (by omega) hb]
theorem cell_bcs (h : Nat → Int) (w1 : World) (k : Nat) (hk : k < 11) : (w1.alloc (.cells (bcs h) 72)).cell? ⟨w1.heap.size, k, none⟩ = some (.bool (bar h k)) := by
  rw [World.cell?_alloc_new]
  have hk' : k = 0 ∨ k = 1 ∨ k = 2 ∨ k = 3 ∨ k = 4 ∨ k = 5 ∨ k = 6 ∨ k = 7 ∨ k = 8 ∨ k = 9 ∨ k = 10 := by omega
  rcases hk' with rfl | rfl | rfl | rfl | rfl | rfl | rfl | rfl | rfl | rfl | rfl <;> rfl

set_option maxHeartbeats 400000 in
theorem check_kind (h : Nat → Int) (w : World) (hok : kindOk (h 2) = false) :
    Calls Tryd.prog 32 #[hv h] w fun e w' => e = .returned (.int .i64 10) ∧ Below w.heap.size w w' := by
  have r2 := row_at 11 h 2 (by omega)
  have r6 := row_at 11 h 6 (by omega)
  go_enter Tryd.func32, Tryd.ntmps32
  go_wp2_with (go_at_call 41; refine (kindFits_any _ _).mono ?_; rintro e w' ⟨rfl, rfl⟩)
  go_ret
  exact ⟨rfl, (Below.refl _ _).alloc (Nat.le_refl _) _⟩

set_option maxHeartbeats 800000 in
theorem check_fields (h : Nat → Int) (w : World) (hok : kindOk (h 2) = true) (hw : ∀ k : Nat, k < 11 → w.cell? ⟨0, k, none⟩ = some (.int .i64 (wid k))) :
    Calls Tryd.prog 32 #[hv h] w fun e w' => e = .returned (.int .i64 (chkF h)) ∧ Below w.heap.size w w' := by
  have r2 := row_at 11 h 2 (by omega)
  have r6 := row_at 11 h 6 (by omega)
  have h0 : 0 < w.heap.size := by
    rcases Nat.eq_zero_or_pos w.heap.size with h' | h'
    · have := hw 0 (by omega)
      simp [World.cell?, h'] at this
    · exact h'
  go_enter Tryd.func32, Tryd.ntmps32
  go_wp2_with (first | (go_at_call 41; refine (kindFits_any _ _).mono ?_; rintro e w' ⟨rfl, rfl⟩) | (refine ld25 (.tmp 1) rfl _ rfl rfl h (Blk.new w 11 30 h) ?_))
  refine (barred_any h _).mono ?_
  rintro e w1 ⟨rfl, hb⟩
  have hh : w1.heap[w.heap.size]? = some (Obj.cells (row 11 h) 30) := by rw [hb.block _ (by simp), heap_alloc_new]
  have hsz : w.heap.size < w1.heap.size := by have := hb.size; simp at this; omega
  have hw1 : ∀ k : Nat, k < 11 → w1.cell? ⟨0, k, none⟩ = some (.int .i64 (wid k)) := fun k hk => by rw [hb.cell (p := ⟨0, k, none⟩) (by simp), ← hw k hk]; exact World.cell?_alloc_past _ _ _ h0
  have hlow : Below w.heap.size w w1 := ((Below.refl _ _).alloc (Nat.le_refl _) _).trans (hb.mono (by simp))
  clear hb hw
  have hh2 : (w1.alloc (.cells (bcs h) 72)).heap[w.heap.size]? = some (Obj.cells (row 11 h) 30 (0, 0)) := by rw [Below.heap_alloc _ _ _ hsz]; exact hh
  go_wp2_with (refine ld25 (.tmp 1) rfl w.heap.size rfl rfl h hh2 ?_)
  clear hh2
  have hfin : Below w.heap.size w (w1.alloc (.cells (bcs h) 72)) := hlow.alloc (by omega) _
  go_loop [13] (fun i => ∃ k : Nat, k ≤ 11 ∧ i = .int .i64 k ∧ okUpto h k = true) (fun i => 11 - (intOf i).toNat)
  case atStart => exact ⟨0, by omega, rfl, rfl⟩
  case round =>
    obtain ⟨k, hk, rfl, hall⟩ := hrel
    have HALL : Hid (okUpto h k = true) := hall
    clear hall
    by_cases hlt : k < 11
    · have hidx : ∀ W, (Instr.index 30 (hv h) (.int .i64 (k : Int))).run Tryd.prog W = .ok (.int .u64 (h k)) W := fun W => idx_hv h k hlt W
      have hc1 : (w1.alloc (.cells (bcs h) 72)).cell? ⟨0, k, none⟩ = some (.int .i64 (wid k)) := by rw [World.cell?_alloc_past _ _ _ (by omega)]; exact hw1 k hlt
      have hc2 := cell_bcs h w1 k hlt
      have hbd := wid_bd k
      clear hw1
      cases t1 : (h k / 2 ^ (wid k).toNat != 0)
      · cases t2 : bar h k
        · have HF : Hid (fldBad h k = false) := by show fldBad h k = false; simp [fldBad, t1, t2]
          go_wp2
          go_round
          case rel => exact ⟨k + 1, by omega, by go_num, by simp [okUpto, HALL.out, HF.out]⟩
          case measure => simp [intOf]; omega
        · cases t3 : (h k != 0)
          · have HF : Hid (fldBad h k = false) := by show fldBad h k = false; simp [fldBad, t1, t2, t3]
            go_wp2
            go_round
            case rel => exact ⟨k + 1, by omega, by go_num, by simp [okUpto, HALL.out, HF.out]⟩
            case measure => simp [intOf]; omega
          · have HF : Hid (chkF h = 10) := by
              show chkF h = 10
              simp [chkF, okUpto_mono h 11 k hlt (by simp [fldBad, t2, t3])]
            go_wp2
            go_ret
            exact ⟨by rw [HF.out]; rfl, hfin⟩
      · have HF : Hid (chkF h = 10) := by
          show chkF h = 10
          simp [chkF, okUpto_mono h 11 k hlt (by simp [fldBad, t1])]
        go_wp2
        go_ret
        exact ⟨by rw [HF.out]; rfl, hfin⟩
    · obtain rfl : k = 11 := by omega
      have HF : Hid (chkF h = 0) := by
        show chkF h = 0
        simp [chkF, HALL.out]
      go_wp2
      go_ret
      exact ⟨by rw [HF.out]; rfl, hfin⟩

/-- WHAT Check ANSWERS. -/
theorem check_any (h : Nat → Int) (w : World) (hw : ∀ k : Nat, k < 11 → w.cell? ⟨0, k, none⟩ = some (.int .i64 (wid k))) :
    Calls Tryd.prog 32 #[hv h] w fun e w' => e = .returned (.int .i64 (chk h)) ∧ Below w.heap.size w w' := by
  unfold chk hOk
  cases hk : kindOk (h 2)
  · exact check_kind h w hk
  · exact check_fields h w hk hw

end Go.Proofs.YtioohgcaakcgaaaDoor
