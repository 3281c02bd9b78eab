/-
  Proved here: what Width of package header and Check of package match answer; how a whole match or header is loaded out of its block; isMatch, isAction of package message. Condition: the tables hold their numbers.
-/
import Derived.Test.YtllbbbfkdgjffaaDoorW3
namespace Go.Proofs.YtllbbbfkdgjffaaDoor
open Go.RowKit

set_option maxHeartbeats 400000 in
/-- WHAT Width ANSWERS. -/
theorem width_any (f : Int) (w : World) (hw : Tab w) :
    Calls Tryd.prog 99 #[.int .i8 f] w fun e w' => e = .returned (.int .i64 (widV f)) ∧ w' = w := by
  by_cases h1 : f < 0
  · have e1 : widV f = 0 := by unfold widV; rw [if_neg (by omega)]
    rw [e1]; clear e1
    go_enter Tryd.func99, Tryd.ntmps99
    go_wp2
    go_ret
    exact ⟨rfl, rfl⟩
  · have d1 : decide (f < 0) = false := by simpa using h1
    by_cases h2 : 11 ≤ f
    · have e1 : widV f = 0 := by unfold widV; rw [if_neg (by omega)]
      rw [e1]; clear e1
      go_enter Tryd.func99, Tryd.ntmps99
      go_wp2
      go_ret
      exact ⟨rfl, rfl⟩
    · have d2 : decide (11 ≤ f) = false := by simpa using h2
      have e1 : widV f = wid f.toNat := by unfold widV; rw [if_pos (by omega)]
      rw [e1]; clear e1
      have hc := hw.2 f.toNat (by omega)
      have g0 : 0 ≤ f := by omega
      have g1 : f < 11 := by omega
      clear hw
      go_enter Tryd.func99, Tryd.ntmps99
      go_wp2
      go_ret
      exact ⟨rfl, rfl⟩

theorem size26 (m : Nat → Int) : (Tryd.prog.info? 28).map (·.size) = some (row 22 m).size := by
  rw [row_size]; kernel_rfl
theorem size24 (h : Nat → Int) : (Tryd.prog.info? 26).map (·.size) = some (row 11 h).size := by
  rw [row_size]; kernel_rfl

section
variable {ops : Array Oper} {rest : List Oper} {o : Oper} {a : Act} {w : World} {Q : Exit → Act → World → Prop}
/-- A WHOLE MATCH IS LOADED. -/
theorem ld26 (x : Operand) (ho : o.op = .load 28 x) (g : Nat) (hx : a.eval x = .pointer (some ⟨g, 0, none⟩)) (hw : Region.wanted o (yielded ops a.tmps) = true) (m : Nat → Int) (hg : Blk w g 22 28 m)
    (h : wpList Tryd.prog ops Q rest (a.put o.dst (mv m)) w) : wpList Tryd.prog ops Q (o :: rest) a w := by
  unfold wpList
  rw [if_pos hw]
  exact Or.inl (wp_load_row 28 x ho g hx 28 (row 22 m) (0, 0) _ hg Tryd.underlying28 rfl (size26 m) h)
/-- A WHOLE HEADER IS LOADED. -/
theorem ld24 (x : Operand) (ho : o.op = .load 26 x) (g : Nat) (hx : a.eval x = .pointer (some ⟨g, 0, none⟩)) (hw : Region.wanted o (yielded ops a.tmps) = true) (m : Nat → Int) (hg : Blk w g 11 26 m)
    (h : wpList Tryd.prog ops Q rest (a.put o.dst (hv m)) w) : wpList Tryd.prog ops Q (o :: rest) a w := by
  unfold wpList
  rw [if_pos hw]
  exact Or.inl (wp_load_row 26 x ho g hx 26 (row 11 m) (0, 0) _ hg Tryd.underlying26 rfl (size24 m) h)
theorem range_mask {w : World} {b : Nat} {m : Nat → Int} (h : Blk w b 22 28 m) : w.rangeAt b 11 (row 11 fun k => m (11 + k)).toList := fun j v hj => by
  have hj' : (row 11 fun k => m (11 + k))[j]? = some v := by simpa using hj
  by_cases hk : j < 11
  · rw [row_at _ _ _ hk] at hj'
    rw [h.cell (11 + j) (by omega)]; exact hj'
  · rw [row_none _ _ _ hk] at hj'; cases hj'
/-- A MATCH's MASKS ARE LOADED AS ONE ARRAY. -/
theorem ldMask (x : Operand) (ho : o.op = .load 26 x) (g : Nat) (hx : a.eval x = .pointer (some ⟨g, 11, none⟩)) (hw : Region.wanted o (yielded ops a.tmps) = true) (m : Nat → Int) (hg : Blk w g 22 28 m)
    (h : wpList Tryd.prog ops Q rest (a.put o.dst (hv fun k => m (11 + k))) w) : wpList Tryd.prog ops Q (o :: rest) a w := by
  unfold wpList
  rw [if_pos hw]
  refine Or.inl (wp_load_mid 26 x ho g 11 hx (row 11 fun k => m (11 + k)).toList _ (range_mask hg) Tryd.underlying26 rfl (by rw [size24 fun k => m (11 + k)]; simp) ?_)
  simpa using h
end

theorem idx_hv (h : Nat → Int) (k : Nat) (hk : k < 11) (w : World) : (Instr.index 26 (hv h) (.int .i64 (k : Int))).run Tryd.prog w = .ok (.int .u64 (h k)) w := by
  have hk' : k = 0 ∨ k = 1 ∨ k = 2 ∨ k = 3 ∨ k = 4 ∨ k = 5 ∨ k = 6 ∨ k = 7 ∨ k = 8 ∨ k = 9 ∨ k = 10 := by omega
  rcases hk' with rfl | rfl | rfl | rfl | rfl | rfl | rfl | rfl | rfl | rfl | rfl
  all_goals (show _ = _; kernel_rfl)

set_option maxHeartbeats 800000 in
/-- WHAT Check ANSWERS. -/
theorem check_any (m : Nat → Int) (w : World) (hw : Tab w) :
    Calls Tryd.prog 97 #[mv m] w fun e w' => e = .returned (.int .i64 (chk m)) ∧ Below w.heap.size w w' := by
  have hB : Blk (w.alloc (.cells (row 22 m) 28)) w.heap.size 22 28 m := Blk.new w 22 28 m
  have hlow : Below w.heap.size w (w.alloc (.cells (row 22 m) 28)) := (Below.refl _ _).alloc (Nat.le_refl _) _
  have hT : Hid (Tab (w.alloc (.cells (row 22 m) 28))) := hw.on hlow
  clear hw
  go_enter Tryd.func97, Tryd.ntmps97
  go_wp2_with (refine ldMask (.tmp 5) rfl _ rfl rfl m hB ?_)
  go_loop [7] (fun i => ∃ k : Nat, k ≤ 11 ∧ i = .int .i64 k ∧ allU (fun k => !bad m k) k = true) (fun i => 11 - (intOf i).toNat)
  case atStart => exact ⟨0, by omega, rfl, rfl⟩
  case round =>
    obtain ⟨k, hk, rfl, hall⟩ := hrel
    have HALL : Hid (allU (fun k => !bad m k) k = true) := hall
    clear hall
    by_cases hlt : k < 11
    · have hidx : ∀ W, (Instr.index 26 (hv fun k => m (11 + k)) (.int .i64 (k : Int))).run Tryd.prog W = .ok (.int .u64 (m (11 + k))) W := fun W => idx_hv (fun k => m (11 + k)) k hlt W
      have hc1 : (w.alloc (.cells (row 22 m) 28)).cell? ⟨w.heap.size, k, none⟩ = some (.int .u64 (m k)) := hB.cell k (by omega)
      have hbd := wid_bd k
      have hC := width_any (k : Int) _ hT.out
      rw [widV_nat k hlt] at hC
      have HC : Hid (Calls Tryd.prog 99 #[.int .i8 (k : Int)] (w.alloc (.cells (row 22 m) 28)) fun e w' => e = .returned (.int .i64 (wid k)) ∧ w' = w.alloc (.cells (row 22 m) 28)) := hC
      clear hC
      cases t1 : (m (11 + k) / 2 ^ (wid k).toNat != 0)
      · cases t2 : (bits .andNot .u64 (m k) (m (11 + k)) != 0)
        · have HF : Hid (bad m k = false) := by show bad m k = false; simp [bad, t1, t2]
          go_wp2_with (go_at_call 99; refine (HC.out).mono ?_; rintro e w' ⟨rfl, rfl⟩)
          go_round
          case rel => exact ⟨k + 1, by omega, by go_num, by simp [allU, HALL.out, HF.out]⟩
          case measure => simp [intOf]; omega
        · have HF : Hid (chk m = 20) := by
            show chk m = 20
            exact chk_bad (allU_false hlt (by simp [bad, t2]))
          go_wp2_with (go_at_call 99; refine (HC.out).mono ?_; rintro e w' ⟨rfl, rfl⟩)
          go_ret
          exact ⟨by rw [HF.out]; rfl, hlow⟩
      · have HF : Hid (chk m = 20) := by
          show chk m = 20
          exact chk_bad (allU_false hlt (by simp [bad, t1]))
        go_wp2_with (go_at_call 99; refine (HC.out).mono ?_; rintro e w' ⟨rfl, rfl⟩)
        go_ret
        exact ⟨by rw [HF.out]; rfl, hlow⟩
    · obtain rfl : k = 11 := by omega
      have HF : Hid (chk m = 0) := by
        show chk m = 0
        exact chk_ok HALL.out
      go_wp2
      go_ret
      exact ⟨by rw [HF.out]; rfl, hlow⟩

theorem isMatch_any (m : Nat → Int) (w : World) (hw : Tab w) :
    Calls Tryd.prog 92 #[mv m] w fun e w' => e = .returned (.bool (mOk m)) ∧ Below w.heap.size w w' := by
  have hB : Blk (w.alloc (.cells (row 22 m) 28)) w.heap.size 22 28 m := Blk.new w 22 28 m
  have hlow : Below w.heap.size w (w.alloc (.cells (row 22 m) 28)) := (Below.refl _ _).alloc (Nat.le_refl _) _
  have HC := hid (check_any m _ (hw.on hlow))
  have HL := hid hlow
  clear hw hlow
  have hk : chk m = if mOk m then 0 else 20 := rfl
  cases ho : mOk m with
  | true =>
    rw [chk_ok ho] at HC
    clear hk ho
    go_enter Tryd.func92, Tryd.ntmps92
    go_wp2_with (first
      | (refine ld26 (.tmp 1) rfl _ rfl rfl m hB ?_)
      | (go_at_call 97; refine (HC.out).mono ?_; rintro e w' ⟨rfl, hb⟩; have HB2 := hid hb; clear hb))
    go_ret
    exact ⟨rfl, HL.out.trans (HB2.out.mono HL.out.size)⟩
  | false =>
    rw [chk_bad ho] at HC
    clear hk ho
    go_enter Tryd.func92, Tryd.ntmps92
    go_wp2_with (first
      | (refine ld26 (.tmp 1) rfl _ rfl rfl m hB ?_)
      | (go_at_call 97; refine (HC.out).mono ?_; rintro e w' ⟨rfl, hb⟩; have HB2 := hid hb; clear hb))
    go_ret
    exact ⟨rfl, HL.out.trans (HB2.out.mono HL.out.size)⟩

abbrev av (a : Ac) : Value := .agg #[.int .i8 a.dw, .int .i8 a.fd, .int .u64 a.n]
theorem isAction_any (a : Ac) (w : World) :
    Calls Tryd.prog 98 #[av a] w fun e w' => e = .returned (.bool (okAc a)) ∧ Below w.heap.size w w' := by
  obtain ⟨x, y, z⟩ := a
  have hlow := hid ((Below.refl w.heap.size w).alloc (Nat.le_refl _) (.cells #[.int .i8 x, .int .i8 y, .int .u64 z] 147))
  by_cases h0 : x = 0
  · subst h0
    by_cases h1 : 0 ≤ y
    · have e : okAc ⟨0, y, z⟩ = true := by simp [okAc, h1]
      rw [e]
      go_enter Tryd.func98, Tryd.ntmps98
      go_wp2
      go_ret
      exact ⟨rfl, hlow.out⟩
    · have e : okAc ⟨0, y, z⟩ = false := by simp [okAc]; omega
      have d : decide (0 ≤ y) = false := by simpa using h1
      rw [e]
      go_enter Tryd.func98, Tryd.ntmps98
      go_wp2
      go_ret
      exact ⟨rfl, hlow.out⟩
  · have t0 : (x == 0) = false := beq_eq_false_iff_ne.2 h0
    by_cases h1 : x = 1
    · subst h1
      by_cases h2 : y = 0
      · subst h2
        have e : okAc ⟨1, 0, z⟩ = true := by simp [okAc]
        rw [e]
        go_enter Tryd.func98, Tryd.ntmps98
        go_wp2
        go_ret
        exact ⟨rfl, hlow.out⟩
      · have t1 : (y == 0) = false := beq_eq_false_iff_ne.2 h2
        have e : okAc ⟨1, y, z⟩ = false := by simp [okAc, h2]
        rw [e]
        go_enter Tryd.func98, Tryd.ntmps98
        go_wp2
        go_ret
        exact ⟨rfl, hlow.out⟩
    · have t1 : (x == 1) = false := beq_eq_false_iff_ne.2 h1
      by_cases h2 : x = 2
      · subst h2
        by_cases h3 : y = 0
        · subst h3
          by_cases h4 : z = 0
          · subst h4
            have e : okAc ⟨2, 0, 0⟩ = true := by simp [okAc]
            rw [e]
            go_enter Tryd.func98, Tryd.ntmps98
            go_wp2
            go_ret
            exact ⟨rfl, hlow.out⟩
          · have t2 : (z == 0) = false := beq_eq_false_iff_ne.2 h4
            have e : okAc ⟨2, 0, z⟩ = false := by simp [okAc, h4]
            rw [e]
            go_enter Tryd.func98, Tryd.ntmps98
            go_wp2
            go_ret
            exact ⟨rfl, hlow.out⟩
        · have t2 : (y == 0) = false := beq_eq_false_iff_ne.2 h3
          have e : okAc ⟨2, y, z⟩ = false := by simp [okAc, h3]
          rw [e]
          go_enter Tryd.func98, Tryd.ntmps98
          go_wp2
          go_ret
          exact ⟨rfl, hlow.out⟩
      · have t2 : (x == 2) = false := beq_eq_false_iff_ne.2 h2
        have e : okAc ⟨x, y, z⟩ = false := by simp [okAc, h0, h1, h2]
        rw [e]
        go_enter Tryd.func98, Tryd.ntmps98
        go_wp2
        go_ret
        exact ⟨rfl, hlow.out⟩
end Go.Proofs.YtllbbbfkdgjffaaDoor
