/-
  Proved here: partsOf answers a Type's parts, or panics with ErrMessage where there is no such Type; where a message's fields lie; what a store into a message's block makes of it. No condition.
-/
import Derived.Test.YtllbbbfkdgjffaaGreatDoorT2
namespace Go.Proofs.YtllbbbfkdgjffaaGreatDoor
open Go.RowKit

def offF : Fk → Nat
  | .sw => 30
  | .ps => 31
  | .ed => 32
  | .dw => 2
  | .rl => 3
  | .po => 28
  | .mo => 28
  | .fr => 33
  | .hs => 34
  | .up => 29
  | .co => 35
theorem idxT0 (x0 x1 x2 x3 x4 x5 x6 x7 x8 x9 x10 x11 x12 x13 : Value) (W : World) : (Instr.index 95 (.agg #[x0, x1, x2, x3, x4, x5, x6, x7, x8, x9, x10, x11, x12, x13]) (.int .i8 0)).run Tryz.prog W = .ok x0 W := by show _ = _; kernel_rfl
theorem idxT1 (x0 x1 x2 x3 x4 x5 x6 x7 x8 x9 x10 x11 x12 x13 : Value) (W : World) : (Instr.index 95 (.agg #[x0, x1, x2, x3, x4, x5, x6, x7, x8, x9, x10, x11, x12, x13]) (.int .i8 1)).run Tryz.prog W = .ok x1 W := by show _ = _; kernel_rfl
theorem idxT2 (x0 x1 x2 x3 x4 x5 x6 x7 x8 x9 x10 x11 x12 x13 : Value) (W : World) : (Instr.index 95 (.agg #[x0, x1, x2, x3, x4, x5, x6, x7, x8, x9, x10, x11, x12, x13]) (.int .i8 2)).run Tryz.prog W = .ok x2 W := by show _ = _; kernel_rfl
theorem idxT3 (x0 x1 x2 x3 x4 x5 x6 x7 x8 x9 x10 x11 x12 x13 : Value) (W : World) : (Instr.index 95 (.agg #[x0, x1, x2, x3, x4, x5, x6, x7, x8, x9, x10, x11, x12, x13]) (.int .i8 3)).run Tryz.prog W = .ok x3 W := by show _ = _; kernel_rfl
theorem idxT4 (x0 x1 x2 x3 x4 x5 x6 x7 x8 x9 x10 x11 x12 x13 : Value) (W : World) : (Instr.index 95 (.agg #[x0, x1, x2, x3, x4, x5, x6, x7, x8, x9, x10, x11, x12, x13]) (.int .i8 4)).run Tryz.prog W = .ok x4 W := by show _ = _; kernel_rfl
theorem idxT5 (x0 x1 x2 x3 x4 x5 x6 x7 x8 x9 x10 x11 x12 x13 : Value) (W : World) : (Instr.index 95 (.agg #[x0, x1, x2, x3, x4, x5, x6, x7, x8, x9, x10, x11, x12, x13]) (.int .i8 5)).run Tryz.prog W = .ok x5 W := by show _ = _; kernel_rfl
theorem idxT6 (x0 x1 x2 x3 x4 x5 x6 x7 x8 x9 x10 x11 x12 x13 : Value) (W : World) : (Instr.index 95 (.agg #[x0, x1, x2, x3, x4, x5, x6, x7, x8, x9, x10, x11, x12, x13]) (.int .i8 6)).run Tryz.prog W = .ok x6 W := by show _ = _; kernel_rfl
theorem idxT7 (x0 x1 x2 x3 x4 x5 x6 x7 x8 x9 x10 x11 x12 x13 : Value) (W : World) : (Instr.index 95 (.agg #[x0, x1, x2, x3, x4, x5, x6, x7, x8, x9, x10, x11, x12, x13]) (.int .i8 7)).run Tryz.prog W = .ok x7 W := by show _ = _; kernel_rfl
theorem idxT8 (x0 x1 x2 x3 x4 x5 x6 x7 x8 x9 x10 x11 x12 x13 : Value) (W : World) : (Instr.index 95 (.agg #[x0, x1, x2, x3, x4, x5, x6, x7, x8, x9, x10, x11, x12, x13]) (.int .i8 8)).run Tryz.prog W = .ok x8 W := by show _ = _; kernel_rfl
theorem idxT9 (x0 x1 x2 x3 x4 x5 x6 x7 x8 x9 x10 x11 x12 x13 : Value) (W : World) : (Instr.index 95 (.agg #[x0, x1, x2, x3, x4, x5, x6, x7, x8, x9, x10, x11, x12, x13]) (.int .i8 9)).run Tryz.prog W = .ok x9 W := by show _ = _; kernel_rfl
theorem idxT10 (x0 x1 x2 x3 x4 x5 x6 x7 x8 x9 x10 x11 x12 x13 : Value) (W : World) : (Instr.index 95 (.agg #[x0, x1, x2, x3, x4, x5, x6, x7, x8, x9, x10, x11, x12, x13]) (.int .i8 10)).run Tryz.prog W = .ok x10 W := by show _ = _; kernel_rfl
theorem idxT11 (x0 x1 x2 x3 x4 x5 x6 x7 x8 x9 x10 x11 x12 x13 : Value) (W : World) : (Instr.index 95 (.agg #[x0, x1, x2, x3, x4, x5, x6, x7, x8, x9, x10, x11, x12, x13]) (.int .i8 11)).run Tryz.prog W = .ok x11 W := by show _ = _; kernel_rfl
theorem idxT12 (x0 x1 x2 x3 x4 x5 x6 x7 x8 x9 x10 x11 x12 x13 : Value) (W : World) : (Instr.index 95 (.agg #[x0, x1, x2, x3, x4, x5, x6, x7, x8, x9, x10, x11, x12, x13]) (.int .i8 12)).run Tryz.prog W = .ok x12 W := by show _ = _; kernel_rfl
theorem idxT13 (x0 x1 x2 x3 x4 x5 x6 x7 x8 x9 x10 x11 x12 x13 : Value) (W : World) : (Instr.index 95 (.agg #[x0, x1, x2, x3, x4, x5, x6, x7, x8, x9, x10, x11, x12, x13]) (.int .i8 13)).run Tryz.prog W = .ok x13 W := by show _ = _; kernel_rfl

set_option maxHeartbeats 1600000 in
set_option maxRecDepth 100000 in
theorem partsOf_yes (ty : Int) (w : World) (h : isTy ty = true) :
    Calls Tryz.prog 29 #[.int .i8 ty] w fun e w' => ∃ v, e = .returned v ∧ Below w.heap.size w w' ∧ Pts (fun x => w.heap.size ≤ x) w' v (pts ty) := by
  have hb := isTy_bd h
  have h' : ty = 0 ∨ ty = 1 ∨ ty = 2 ∨ ty = 3 ∨ ty = 4 ∨ ty = 5 ∨ ty = 6 ∨ ty = 7 ∨ ty = 8 ∨ ty = 9 ∨ ty = 10 ∨ ty = 11 ∨ ty = 12 ∨ ty = 13 := by omega
  clear h hb
  rcases h' with rfl | rfl | rfl | rfl | rfl | rfl | rfl | rfl | rfl | rfl | rfl | rfl | rfl | rfl
  · have hidx := idxT0
    go_enter Tryz.func29, Tryz.ntmps29
    go_wp2_with (first
      | (go_at_call 30; refine (must_true _).mono ?_; rintro e w' ⟨rfl, hw⟩; rw [hw]; clear hw w')
      | (go_at_call 44; refine (table_any _).mono ?_; rintro e w1 ⟨s4, s5, s6, s7, s11, s12, s13, rfl, hb, f⟩; have HB := hid hb; have HF := hid f; clear hb f))
    go_ret
    exact ⟨_, rfl, HB.out, Lst.nil _ _ _ _⟩
  · have hidx := idxT1
    go_enter Tryz.func29, Tryz.ntmps29
    go_wp2_with (first
      | (go_at_call 30; refine (must_true _).mono ?_; rintro e w' ⟨rfl, hw⟩; rw [hw]; clear hw w')
      | (go_at_call 44; refine (table_any _).mono ?_; rintro e w1 ⟨s4, s5, s6, s7, s11, s12, s13, rfl, hb, f⟩; have HB := hid hb; have HF := hid f; clear hb f))
    go_ret
    exact ⟨_, rfl, HB.out, Lst.nil _ _ _ _⟩
  · have hidx := idxT2
    go_enter Tryz.func29, Tryz.ntmps29
    go_wp2_with (first
      | (go_at_call 30; refine (must_true _).mono ?_; rintro e w' ⟨rfl, hw⟩; rw [hw]; clear hw w')
      | (go_at_call 44; refine (table_any _).mono ?_; rintro e w1 ⟨s4, s5, s6, s7, s11, s12, s13, rfl, hb, f⟩; have HB := hid hb; have HF := hid f; clear hb f))
    go_ret
    exact ⟨_, rfl, HB.out, Lst.nil _ _ _ _⟩
  · have hidx := idxT3
    go_enter Tryz.func29, Tryz.ntmps29
    go_wp2_with (first
      | (go_at_call 30; refine (must_true _).mono ?_; rintro e w' ⟨rfl, hw⟩; rw [hw]; clear hw w')
      | (go_at_call 44; refine (table_any _).mono ?_; rintro e w1 ⟨s4, s5, s6, s7, s11, s12, s13, rfl, hb, f⟩; have HB := hid hb; have HF := hid f; clear hb f))
    go_ret
    exact ⟨_, rfl, HB.out, Lst.nil _ _ _ _⟩
  · have hidx := idxT4
    go_enter Tryz.func29, Tryz.ntmps29
    go_wp2_with (first
      | (go_at_call 30; refine (must_true _).mono ?_; rintro e w' ⟨rfl, hw⟩; rw [hw]; clear hw w')
      | (go_at_call 44; refine (table_any _).mono ?_; rintro e w1 ⟨s4, s5, s6, s7, s11, s12, s13, rfl, hb, f⟩; have HB := hid hb; have HF := hid f; clear hb f))
    go_ret
    exact ⟨_, rfl, HB.out, HF.out.1⟩
  · have hidx := idxT5
    go_enter Tryz.func29, Tryz.ntmps29
    go_wp2_with (first
      | (go_at_call 30; refine (must_true _).mono ?_; rintro e w' ⟨rfl, hw⟩; rw [hw]; clear hw w')
      | (go_at_call 44; refine (table_any _).mono ?_; rintro e w1 ⟨s4, s5, s6, s7, s11, s12, s13, rfl, hb, f⟩; have HB := hid hb; have HF := hid f; clear hb f))
    go_ret
    exact ⟨_, rfl, HB.out, HF.out.2.1⟩
  · have hidx := idxT6
    go_enter Tryz.func29, Tryz.ntmps29
    go_wp2_with (first
      | (go_at_call 30; refine (must_true _).mono ?_; rintro e w' ⟨rfl, hw⟩; rw [hw]; clear hw w')
      | (go_at_call 44; refine (table_any _).mono ?_; rintro e w1 ⟨s4, s5, s6, s7, s11, s12, s13, rfl, hb, f⟩; have HB := hid hb; have HF := hid f; clear hb f))
    go_ret
    exact ⟨_, rfl, HB.out, HF.out.2.2.1⟩
  · have hidx := idxT7
    go_enter Tryz.func29, Tryz.ntmps29
    go_wp2_with (first
      | (go_at_call 30; refine (must_true _).mono ?_; rintro e w' ⟨rfl, hw⟩; rw [hw]; clear hw w')
      | (go_at_call 44; refine (table_any _).mono ?_; rintro e w1 ⟨s4, s5, s6, s7, s11, s12, s13, rfl, hb, f⟩; have HB := hid hb; have HF := hid f; clear hb f))
    go_ret
    exact ⟨_, rfl, HB.out, HF.out.2.2.2.1⟩
  · have hidx := idxT8
    go_enter Tryz.func29, Tryz.ntmps29
    go_wp2_with (first
      | (go_at_call 30; refine (must_true _).mono ?_; rintro e w' ⟨rfl, hw⟩; rw [hw]; clear hw w')
      | (go_at_call 44; refine (table_any _).mono ?_; rintro e w1 ⟨s4, s5, s6, s7, s11, s12, s13, rfl, hb, f⟩; have HB := hid hb; have HF := hid f; clear hb f))
    go_ret
    exact ⟨_, rfl, HB.out, Lst.nil _ _ _ _⟩
  · have hidx := idxT9
    go_enter Tryz.func29, Tryz.ntmps29
    go_wp2_with (first
      | (go_at_call 30; refine (must_true _).mono ?_; rintro e w' ⟨rfl, hw⟩; rw [hw]; clear hw w')
      | (go_at_call 44; refine (table_any _).mono ?_; rintro e w1 ⟨s4, s5, s6, s7, s11, s12, s13, rfl, hb, f⟩; have HB := hid hb; have HF := hid f; clear hb f))
    go_ret
    exact ⟨_, rfl, HB.out, Lst.nil _ _ _ _⟩
  · have hidx := idxT10
    go_enter Tryz.func29, Tryz.ntmps29
    go_wp2_with (first
      | (go_at_call 30; refine (must_true _).mono ?_; rintro e w' ⟨rfl, hw⟩; rw [hw]; clear hw w')
      | (go_at_call 44; refine (table_any _).mono ?_; rintro e w1 ⟨s4, s5, s6, s7, s11, s12, s13, rfl, hb, f⟩; have HB := hid hb; have HF := hid f; clear hb f))
    go_ret
    exact ⟨_, rfl, HB.out, Lst.nil _ _ _ _⟩
  · have hidx := idxT11
    go_enter Tryz.func29, Tryz.ntmps29
    go_wp2_with (first
      | (go_at_call 30; refine (must_true _).mono ?_; rintro e w' ⟨rfl, hw⟩; rw [hw]; clear hw w')
      | (go_at_call 44; refine (table_any _).mono ?_; rintro e w1 ⟨s4, s5, s6, s7, s11, s12, s13, rfl, hb, f⟩; have HB := hid hb; have HF := hid f; clear hb f))
    go_ret
    exact ⟨_, rfl, HB.out, HF.out.2.2.2.2.1⟩
  · have hidx := idxT12
    go_enter Tryz.func29, Tryz.ntmps29
    go_wp2_with (first
      | (go_at_call 30; refine (must_true _).mono ?_; rintro e w' ⟨rfl, hw⟩; rw [hw]; clear hw w')
      | (go_at_call 44; refine (table_any _).mono ?_; rintro e w1 ⟨s4, s5, s6, s7, s11, s12, s13, rfl, hb, f⟩; have HB := hid hb; have HF := hid f; clear hb f))
    go_ret
    exact ⟨_, rfl, HB.out, HF.out.2.2.2.2.2.1⟩
  · have hidx := idxT13
    go_enter Tryz.func29, Tryz.ntmps29
    go_wp2_with (first
      | (go_at_call 30; refine (must_true _).mono ?_; rintro e w' ⟨rfl, hw⟩; rw [hw]; clear hw w')
      | (go_at_call 44; refine (table_any _).mono ?_; rintro e w1 ⟨s4, s5, s6, s7, s11, s12, s13, rfl, hb, f⟩; have HB := hid hb; have HF := hid f; clear hb f))
    go_ret
    exact ⟨_, rfl, HB.out, HF.out.2.2.2.2.2.2⟩
theorem partsOf_no (ty : Int) (w : World) (h : isTy ty = false) :
    Calls Tryz.prog 29 #[.int .i8 ty] w fun e w' => e = .panicked PC ∧ w' = w := by
  have hb : ¬ (0 ≤ ty ∧ ty < 14) := of_decide_eq_false h
  clear h
  by_cases h0 : 0 ≤ ty
  · have h1 : ¬ ty < 14 := fun h => hb ⟨h0, h⟩
    have d1 : decide (ty < 14) = false := by simpa using h1
    clear hb
    go_enter Tryz.func29, Tryz.ntmps29
    go_wp2_with (go_at_call 30; refine (must_false _).mono ?_; rintro e w' ⟨rfl, hw⟩; rw [hw]; clear hw w')
    exact ⟨rfl, rfl, rfl⟩
  · have d1 : decide (0 ≤ ty) = false := by simpa using h0
    clear hb
    go_enter Tryz.func29, Tryz.ntmps29
    go_wp2_with (go_at_call 30; refine (must_false _).mono ?_; rintro e w' ⟨rfl, hw⟩; rw [hw]; clear hw w')
    exact ⟨rfl, rfl, rfl⟩
/-- WHERE A FIELD LIES. -/
theorem of_any (k : Fk) (b : Nat) (w : World) : Calls Tryz.prog (fnO k) #[ptr b] w fun e w' => e = .returned (.pointer (some ⟨b, offF k, none⟩)) ∧ w' = w := by
  cases k
  · show Calls Tryz.prog 54 _ _ _
    go_enter Tryz.func54, Tryz.ntmps54
    go_wp2
    go_ret
    exact ⟨rfl, rfl⟩
  · show Calls Tryz.prog 58 _ _ _
    go_enter Tryz.func58, Tryz.ntmps58
    go_wp2
    go_ret
    exact ⟨rfl, rfl⟩
  · show Calls Tryz.prog 61 _ _ _
    go_enter Tryz.func61, Tryz.ntmps61
    go_wp2
    go_ret
    exact ⟨rfl, rfl⟩
  · show Calls Tryz.prog 63 _ _ _
    go_enter Tryz.func63, Tryz.ntmps63
    go_wp2
    go_ret
    exact ⟨rfl, rfl⟩
  · show Calls Tryz.prog 67 _ _ _
    go_enter Tryz.func67, Tryz.ntmps67
    go_wp2
    go_ret
    exact ⟨rfl, rfl⟩
  · show Calls Tryz.prog 70 _ _ _
    go_enter Tryz.func70, Tryz.ntmps70
    go_wp2
    go_ret
    exact ⟨rfl, rfl⟩
  · show Calls Tryz.prog 71 _ _ _
    go_enter Tryz.func71, Tryz.ntmps71
    go_wp2
    go_ret
    exact ⟨rfl, rfl⟩
  · show Calls Tryz.prog 75 _ _ _
    go_enter Tryz.func75, Tryz.ntmps75
    go_wp2
    go_ret
    exact ⟨rfl, rfl⟩
  · show Calls Tryz.prog 79 _ _ _
    go_enter Tryz.func79, Tryz.ntmps79
    go_wp2
    go_ret
    exact ⟨rfl, rfl⟩
  · show Calls Tryz.prog 83 _ _ _
    go_enter Tryz.func83, Tryz.ntmps83
    go_wp2
    go_ret
    exact ⟨rfl, rfl⟩
  · show Calls Tryz.prog 86 _ _ _
    go_enter Tryz.func86, Tryz.ntmps86
    go_wp2
    go_ret
    exact ⟨rfl, rfl⟩

/-- Block b is a message's. -/
abbrev MB (w : World) (b : Nat) (m : Ms) (s : Sls) : Prop := w.heap[b]? = some (.cells (msc m s) 37 (0, 0))
theorem msc_ext {A : Array Value} {m : Ms} {s : Sls} (hs : A.size = 36) (h0 : A[0]? = some (.int .i8 m.ty)) (h1 : A[1]? = some (.int .u32 m.id)) (h2 : A[2]? = some (.int .i8 m.dw)) (hr : ∀ k, k < 25 → A[3 + k]? = (rlc m.r s.cp)[k]?) (h28 : A[28]? = some (.int .u16 m.po)) (h29 : A[29]? = some (.bool m.up)) (h30 : A[30]? = some (.int .u16 m.sw)) (h31 : A[31]? = some s.ps) (h32 : A[32]? = some s.ed) (h33 : A[33]? = some s.fr) (h34 : A[34]? = some s.hs) (h35 : A[35]? = some (.int .u16 m.co)) : A = msc m s := by
  apply Array.ext_getElem?
  intro i
  obtain ⟨a0, a1, a2, a28, a29, a30, a31, a32, a33, a34, a35⟩ := msc_at m s
  by_cases hi : 36 ≤ i
  · rw [Array.getElem?_eq_none (by omega), Array.getElem?_eq_none (by rw [msc_size]; exact hi)]
  · by_cases hm : 3 ≤ i ∧ i < 28
    · have e1 := hr (i - 3) (by omega)
      have e2 := msc_rl m s (i - 3) (by omega)
      rw [show 3 + (i - 3) = i by omega] at e1 e2
      rw [e1, e2]
    · have : i = 0 ∨ i = 1 ∨ i = 2 ∨ i = 28 ∨ i = 29 ∨ i = 30 ∨ i = 31 ∨ i = 32 ∨ i = 33 ∨ i = 34 ∨ i = 35 := by omega
      rcases this with rfl | rfl | rfl | rfl | rfl | rfl | rfl | rfl | rfl | rfl | rfl
      · rw [h0, a0]
      · rw [h1, a1]
      · rw [h2, a2]
      · rw [h28, a28]
      · rw [h29, a29]
      · rw [h30, a30]
      · rw [h31, a31]
      · rw [h32, a32]
      · rw [h33, a33]
      · rw [h34, a34]
      · rw [h35, a35]
/-- One cell of a message is set. -/
theorem msc_set (m m' : Ms) (s s' : Sls) (j : Nat) (v : Value) (hj : j = 2 ∨ (28 ≤ j ∧ j < 36)) (hv : (msc m' s')[j]? = some v) (hr : m'.r = m.r) (hc : s'.cp = s.cp) (hk : ∀ i, i < 36 → i ≠ j → ¬ (3 ≤ i ∧ i < 28) → (msc m' s')[i]? = (msc m s)[i]?) : (msc m s).setIfInBounds j v = msc m' s' := by
  apply Array.ext_getElem?
  intro i
  rw [Array.getElem?_setIfInBounds]
  by_cases e : j = i
  · subst e
    rw [if_pos rfl, if_pos (by rw [msc_size]; omega), hv]
  · rw [if_neg e]
    by_cases hi : 36 ≤ i
    · rw [Array.getElem?_eq_none (by rw [msc_size]; exact hi), Array.getElem?_eq_none (by rw [msc_size]; exact hi)]
    · by_cases hm : 3 ≤ i ∧ i < 28
      · have e1 := msc_rl m s (i - 3) (by omega)
        have e2 := msc_rl m' s' (i - 3) (by omega)
        rw [show 3 + (i - 3) = i by omega] at e1 e2
        rw [e1, e2, hr, hc]
      · rw [hk i (by omega) (fun h => e h.symm) hm]
theorem msc_keep {m m' : Ms} {s s' : Sls} {i : Nat} (hi : i < 36) (hm : ¬ (3 ≤ i ∧ i < 28)) (h : i = 0 ∧ m'.ty = m.ty ∨ i = 1 ∧ m'.id = m.id ∨ i = 2 ∧ m'.dw = m.dw ∨ i = 28 ∧ m'.po = m.po ∨ i = 29 ∧ m'.up = m.up ∨ i = 30 ∧ m'.sw = m.sw ∨ i = 31 ∧ s'.ps = s.ps ∨ i = 32 ∧ s'.ed = s.ed ∨ i = 33 ∧ s'.fr = s.fr ∨ i = 34 ∧ s'.hs = s.hs ∨ i = 35 ∧ m'.co = m.co) : (msc m' s')[i]? = (msc m s)[i]? := by
  obtain ⟨a0, a1, a2, a28, a29, a30, a31, a32, a33, a34, a35⟩ := msc_at m s
  obtain ⟨b0, b1, b2, b28, b29, b30, b31, b32, b33, b34, b35⟩ := msc_at m' s'
  rcases h with ⟨rfl, h⟩ | ⟨rfl, h⟩ | ⟨rfl, h⟩ | ⟨rfl, h⟩ | ⟨rfl, h⟩ | ⟨rfl, h⟩ | ⟨rfl, h⟩ | ⟨rfl, h⟩ | ⟨rfl, h⟩ | ⟨rfl, h⟩ | ⟨rfl, h⟩
  · rw [a0, b0, h]
  · rw [a1, b1, h]
  · rw [a2, b2, h]
  · rw [a28, b28, h]
  · rw [a29, b29, h]
  · rw [a30, b30, h]
  · rw [a31, b31, h]
  · rw [a32, b32, h]
  · rw [a33, b33, h]
  · rw [a34, b34, h]
  · rw [a35, b35, h]
theorem set_dw (m : Ms) (s : Sls) (x : Int) : (msc m s).setIfInBounds 2 (.int .i8 x) = msc { m with dw := x } s :=
  msc_set m _ s _ 2 _ (by omega) (by have := msc_at { m with dw := x } s; simp only [this]) rfl rfl fun i hi hne hm => msc_keep hi hm (by simp; omega)
theorem set_po (m : Ms) (s : Sls) (x : Int) : (msc m s).setIfInBounds 28 (.int .u16 x) = msc { m with po := x } s :=
  msc_set m _ s _ 28 _ (by omega) (by have := msc_at { m with po := x } s; simp only [this]) rfl rfl fun i hi hne hm => msc_keep hi hm (by simp; omega)
theorem set_up (m : Ms) (s : Sls) (x : Bool) : (msc m s).setIfInBounds 29 (.bool x) = msc { m with up := x } s :=
  msc_set m _ s _ 29 _ (by omega) (by have := msc_at { m with up := x } s; simp only [this]) rfl rfl fun i hi hne hm => msc_keep hi hm (by simp; omega)
theorem set_sw (m : Ms) (s : Sls) (x : Int) : (msc m s).setIfInBounds 30 (.int .u16 x) = msc { m with sw := x } s :=
  msc_set m _ s _ 30 _ (by omega) (by have := msc_at { m with sw := x } s; simp only [this]) rfl rfl fun i hi hne hm => msc_keep hi hm (by simp; omega)
theorem set_ps (m : Ms) (s : Sls) (x : List Int) (v : Value) : (msc m s).setIfInBounds 31 v = msc { m with ps := x } { s with ps := v } :=
  msc_set m _ s _ 31 _ (by omega) (by have := msc_at { m with ps := x } { s with ps := v }; simp only [this]) rfl rfl fun i hi hne hm => msc_keep hi hm (by simp; omega)
theorem set_ed (m : Ms) (s : Sls) (x : List Int) (v : Value) : (msc m s).setIfInBounds 32 v = msc { m with ed := x } { s with ed := v } :=
  msc_set m _ s _ 32 _ (by omega) (by have := msc_at { m with ed := x } { s with ed := v }; simp only [this]) rfl rfl fun i hi hne hm => msc_keep hi hm (by simp; omega)
theorem set_fr (m : Ms) (s : Sls) (x : List Int) (v : Value) : (msc m s).setIfInBounds 33 v = msc { m with fr := x } { s with fr := v } :=
  msc_set m _ s _ 33 _ (by omega) (by have := msc_at { m with fr := x } { s with fr := v }; simp only [this]) rfl rfl fun i hi hne hm => msc_keep hi hm (by simp; omega)
theorem set_hs (m : Ms) (s : Sls) (x : List Hd) (v : Value) : (msc m s).setIfInBounds 34 v = msc { m with hs := x } { s with hs := v } :=
  msc_set m _ s _ 34 _ (by omega) (by have := msc_at { m with hs := x } { s with hs := v }; simp only [this]) rfl rfl fun i hi hne hm => msc_keep hi hm (by simp; omega)
theorem set_co (m : Ms) (s : Sls) (x : Int) : (msc m s).setIfInBounds 35 (.int .u16 x) = msc { m with co := x } s :=
  msc_set m _ s _ 35 _ (by omega) (by have := msc_at { m with co := x } s; simp only [this]) rfl rfl fun i hi hne hm => msc_keep hi hm (by simp; omega)
/-- A message's block: its cells, and that none is frozen. -/
theorem mb_cells {w : World} {b : Nat} {m : Ms} {s : Sls} (h : MB w b m s) : w.cell? ⟨b, 0, none⟩ = some (.int .i8 m.ty) ∧ w.cell? ⟨b, 1, none⟩ = some (.int .u32 m.id) ∧ w.cell? ⟨b, 2, none⟩ = some (.int .i8 m.dw) ∧ w.cell? ⟨b, 28, none⟩ = some (.int .u16 m.po) ∧ w.cell? ⟨b, 29, none⟩ = some (.bool m.up) ∧ w.cell? ⟨b, 30, none⟩ = some (.int .u16 m.sw) ∧ w.cell? ⟨b, 31, none⟩ = some s.ps ∧ w.cell? ⟨b, 32, none⟩ = some s.ed ∧ w.cell? ⟨b, 33, none⟩ = some s.fr ∧ w.cell? ⟨b, 34, none⟩ = some s.hs ∧ w.cell? ⟨b, 35, none⟩ = some (.int .u16 m.co) := by
  obtain ⟨b0, b1, b2, b28, b29, b30, b31, b32, b33, b34, b35⟩ := msc_at m s
  exact ⟨(cell_of_row w b 0 _ _ _ h).trans b0, (cell_of_row w b 1 _ _ _ h).trans b1, (cell_of_row w b 2 _ _ _ h).trans b2, (cell_of_row w b 28 _ _ _ h).trans b28, (cell_of_row w b 29 _ _ _ h).trans b29, (cell_of_row w b 30 _ _ _ h).trans b30, (cell_of_row w b 31 _ _ _ h).trans b31, (cell_of_row w b 32 _ _ _ h).trans b32, (cell_of_row w b 33 _ _ _ h).trans b33, (cell_of_row w b 34 _ _ _ h).trans b34, (cell_of_row w b 35 _ _ _ h).trans b35⟩
theorem mb_free {w : World} {b : Nat} {m : Ms} {s : Sls} (h : MB w b m s) (o : Nat) : w.frozen? ⟨b, o, none⟩ = false := by
  have : w.heap[b]? = some (.cells (msc m s) 37 (0, 0)) := h
  simp [World.frozen?, this]
theorem mb_range {w : World} {b : Nat} {m : Ms} {s : Sls} (h : MB w b m s) : w.rangeAt b 3 (rlc m.r s.cp).toList := range_of fun i hi => by
  rw [rlc_size] at hi
  rw [cell_of_row w b (3 + i) _ _ _ h, msc_rl m s i hi]
theorem mb_set {w : World} {b : Nat} {m m' : Ms} {s s' : Sls} {j : Nat} {v : Value} (h : MB w b m s) (he : (msc m s).setIfInBounds j v = msc m' s') : MB (w.setCell ⟨b, j, none⟩ v) b m' s' := by
  show _ = _
  rw [heap_setCell_same w b j _ _ _ h, he]
end Go.Proofs.YtllbbbfkdgjffaaGreatDoor
