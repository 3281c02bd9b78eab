/-
  Proved here: the writer's methods count, short, do, more, up, frame, action write what the document says, or panic with ErrMessage where what is written is not right. Conditions: numbers are of their types.
-/
/-
  Proved here: what Width of package header and Check of package match answer; how a whole match or header is loaded out of its block; isMatch, isAction of package message. Condition: the tables hold their numbers.
-/
/-
  Proved here: the writer's method action; lists written by writeList, at uint16, Action, []Action; shorts, actions. Conditions: what is written lies in blocks that the writer does not turn.
-/
import Derived.Test.YtllbbbfkdgjffaaGreatDoorW2
import Derived.Test.YtllbbbfkdgjffaaGreatDoorV1
import Derived.Test.YtllbbbfkdgjffaaGreatDoorJ3
namespace Go.Proofs.YtllbbbfkdgjffaaGreatDoor
open Go.RowKit

section
variable {S : Nat → Prop} {w : World} {c m : Nat} {xs : List Int}
theorem WrP.yes {zs : List Int} {w' : World} (h : Only (OS c S) w w') (h2 : Wt S w' c m (xs ++ zs)) : WrP S c m xs zs true w (.returned (.tuple #[])) w' := ⟨h, Or.inl ⟨rfl, rfl, h2⟩⟩
theorem WrP.no {zs : List Int} {w' : World} (h : Only (OS c S) w w') : WrP S c m xs zs false w (.panicked PC) w' := ⟨h, Or.inr ⟨rfl, rfl⟩⟩
theorem wcount_any (hW : Wt S w c m xs) (n : Nat) (hn : n ≤ 140737488355328) :
    Calls Tryz.prog 111 #[.pointer (some ⟨c, 0, none⟩), .int .i64 n] w fun e w' => e = .returned (.tuple #[]) ∧ Only (OS c S) w w' ∧ Wt S w' c m (xs ++ dg n 2) := by
  have HN := hid (wnumber_any hW 2 n (by omega) (by omega))
  clear hW
  go_enter Tryz.func111, Tryz.ntmps111
  go_wp2_with (go_at_call 32; refine (HN.out).mono ?_; rintro e w' ⟨rfl, hq⟩; have HQ : Hid _ := hq; clear hq)
  first | go_end0 | refine bodyPost_ret (results_none rfl _ _ _) rfl ?_
  exact ⟨rfl, HQ.out⟩
theorem wshort_any (hW : Wt S w c m xs) (x : Int) (hx : In16 x) :
    Calls Tryz.prog 55 #[.pointer (some ⟨c, 0, none⟩), .int .u16 x] w (WrP S c m xs (dg x 2) true w) := by
  have HN := hid (wnumber_any hW 2 x (by omega) (by omega))
  clear hW
  obtain ⟨h0, h1⟩ := hx
  go_enter Tryz.func55, Tryz.ntmps55
  go_wp2_with (go_at_call 32; refine (HN.out).mono ?_; rintro e w' ⟨rfl, hq⟩; have HQ : Hid _ := hq; clear hq)
  first | go_end0 | refine bodyPost_ret (results_none rfl _ _ _) rfl ?_
  exact WrP.yes HQ.out.1 HQ.out.2
theorem isDo_any (x : Int) (w : World) (_ : -128 ≤ x) (_ : x < 128) : Calls Tryz.prog 98 #[.int .i8 x] w fun e w' => e = .returned (.bool (okDo x)) ∧ w' = w := by
  by_cases h : 0 ≤ x
  · by_cases h2 : x ≤ 3
    · have e : okDo x = true := by simp [okDo, h, h2]
      rw [e]
      go_enter Tryz.func98, Tryz.ntmps98
      go_wp2
      go_ret
      exact ⟨rfl, rfl⟩
    · have e : okDo x = false := by simp [okDo]; omega
      have d : decide (x ≤ 3) = false := by simpa using h2
      rw [e]
      go_enter Tryz.func98, Tryz.ntmps98
      go_wp2
      go_ret
      exact ⟨rfl, rfl⟩
  · have e : okDo x = false := by simp [okDo]; omega
    have d : decide (0 ≤ x) = false := by simpa using h
    rw [e]
    go_enter Tryz.func98, Tryz.ntmps98
    go_wp2
    go_ret
    exact ⟨rfl, rfl⟩
theorem wdo_any (hW : Wt S w c m xs) (x : Int) (hx : -128 ≤ x ∧ x < 128) :
    Calls Tryz.prog 64 #[.pointer (some ⟨c, 0, none⟩), .int .i8 x] w (WrP S c m xs (dg x 1) (okDo x) w) := by
  have HN := hid (wnumber_any hW 1 x (by omega) (by omega))
  have HD := hid (isDo_any x w hx.1 hx.2)
  clear hW
  cases hd : okDo x with
  | false =>
    rw [hd] at HD
    clear hd hx
    go_enter Tryz.func64, Tryz.ntmps64
    go_wp2_with (first
      | (go_at_call 98; refine (HD.out).mono ?_; rintro e w' ⟨rfl, hw⟩; rw [hw]; clear hw w')
      | (go_at_call 30; refine (must_false _).mono ?_; rintro e w' ⟨rfl, hw⟩; rw [hw]; clear hw w'))
    exact ⟨rfl, WrP.no (Only.refl _ _)⟩
  | true =>
    have hq := of_decide_eq_true hd
    obtain ⟨h0, h1⟩ := hq
    rw [hd] at HD
    clear hd hx
    go_enter Tryz.func64, Tryz.ntmps64
    go_wp2_with (first
      | (go_at_call 98; refine (HD.out).mono ?_; rintro e w' ⟨rfl, hw⟩; rw [hw]; clear hw w')
      | (go_at_call 30; refine (must_true _).mono ?_; rintro e w' ⟨rfl, hw⟩; rw [hw]; clear hw w')
      | (go_at_call 32; refine (HN.out).mono ?_; rintro e w' ⟨rfl, hq⟩; have HQ : Hid _ := hq; clear hq))
    first | go_end0 | refine bodyPost_ret (results_none rfl _ _ _) rfl ?_
    exact WrP.yes HQ.out.1 HQ.out.2
theorem wmore_any (hW : Wt S w c m xs) (x : Int) (hx : In16 x) :
    Calls Tryz.prog 72 #[.pointer (some ⟨c, 0, none⟩), .int .u16 x] w (WrP S c m xs (dg x 2) (okMo x) w) := by
  have HN := hid (wshort_any hW x hx)
  clear hW
  obtain ⟨h0, h1⟩ := hx
  cases hd : okMo x with
  | false =>
    have d : decide (x ≤ 1) = false := hd
    clear hd
    go_enter Tryz.func72, Tryz.ntmps72
    go_wp2_with (go_at_call 30; refine (must_false _).mono ?_; rintro e w' ⟨rfl, hw⟩; rw [hw]; clear hw w')
    exact ⟨rfl, WrP.no (Only.refl _ _)⟩
  | true =>
    have d : x ≤ 1 := of_decide_eq_true hd
    clear hd
    go_enter Tryz.func72, Tryz.ntmps72
    go_wp2_with (first
      | (go_at_call 30; refine (must_true _).mono ?_; rintro e w' ⟨rfl, hw⟩; rw [hw]; clear hw w')
      | (go_at_call 55; refine (HN.out).mono ?_; rintro e w' ⟨ho, ⟨_, rfl, hq⟩ | ⟨hno, _⟩⟩; rotate_left; cases hno; have HQ : Hid _ := And.intro ho hq; clear hq ho))
    first | go_end0 | refine bodyPost_ret (results_none rfl _ _ _) rfl ?_
    exact WrP.yes HQ.out.1 HQ.out.2
theorem wup_any (hW : Wt S w c m xs) (b : Bool) :
    Calls Tryz.prog 84 #[.pointer (some ⟨c, 0, none⟩), .bool b] w (WrP S c m xs (dg (flag b) 1) true w) := by
  have HN := hid (wnumber_any hW 1 (flag b) (by omega) (by omega))
  clear hW
  cases b with
  | false =>
    go_enter Tryz.func84, Tryz.ntmps84
    go_wp2_with (go_at_call 32; refine (HN.out).mono ?_; rintro e w' ⟨rfl, hq⟩; have HQ : Hid _ := hq; clear hq)
    first | go_end0 | refine bodyPost_ret (results_none rfl _ _ _) rfl ?_
    exact WrP.yes HQ.out.1 HQ.out.2
  | true =>
    go_enter Tryz.func84, Tryz.ntmps84
    go_wp2_with (go_at_call 32; refine (HN.out).mono ?_; rintro e w' ⟨rfl, hq⟩; have HQ : Hid _ := hq; clear hq)
    first | go_end0 | refine bodyPost_ret (results_none rfl _ _ _) rfl ?_
    exact WrP.yes HQ.out.1 HQ.out.2
theorem wframe_any {T : Nat → Prop} (hW : Wt S w c m xs) (u : Value) (bs : List Int) (hu : SlC T w u bs) (hT : ∀ k, T k → ¬ S k ∧ k ≠ c) :
    Calls Tryz.prog 76 #[.pointer (some ⟨c, 0, none⟩), u] w (WrP S c m xs (dg bs.length 2 ++ bs) true w) := by
  have HN := hid (wcount_any hW bs.length hu.len)
  have HB : Hid (∀ w', Only (OS c S) w w' → Wt S w' c m (xs ++ dg bs.length 2) → Calls Tryz.prog 46 #[.pointer (some ⟨c, 0, none⟩), u] w' fun e w2 => e = .returned (.tuple #[]) ∧ Only (OS c S) w w2 ∧ Wt S w2 c m (xs ++ (dg bs.length 2 ++ bs))) := by
    show ∀ _, _
    intro w' ho hW'
    refine (wbytes_any hW' (hu.carry (T := T) fun k _ hk => ⟨hk, ho.block k (by rintro (e | e); exact (hT k hk).2 e; exact (hT k hk).1 e)⟩) (fun h => (hT c h).2 rfl)).mono ?_
    rintro e w2 ⟨rfl, ho2, h2⟩
    exact ⟨rfl, ho.trans ho2, by rw [← List.append_assoc]; exact h2⟩
  obtain ⟨ua, uc, rfl, -⟩ := hu
  clear hW hT
  go_enter Tryz.func76, Tryz.ntmps76
  go_wp2_with (first
    | (go_at_call 46; refine (HB.out _ HQ.out.1 HQ.out.2).mono ?_; rintro e w' ⟨rfl, hq⟩; have HQ2 : Hid _ := hq; clear hq)
    | (go_at_call 111; refine (HN.out).mono ?_; rintro e w' ⟨rfl, hq⟩; have HQ : Hid (Only (OS c S) w w' ∧ Wt S w' c m (xs ++ dg bs.length 2)) := hq; clear hq))
  first | go_end0 | refine bodyPost_ret (results_none rfl _ _ _) rfl ?_
  exact WrP.yes HQ2.out.1 HQ2.out.2
end
end Go.Proofs.YtllbbbfkdgjffaaGreatDoor
namespace Go.Proofs.YtllbbbfkdgjffaaGreatDoor
open Go.RowKit

set_option maxHeartbeats 400000 in
/-- WHAT Width ANSWERS. -/
theorem width_any (f : Int) (w : World) (hw : Tab w) :
    Calls Tryz.prog 129 #[.int .i8 f] w fun e w' => e = .returned (.int .i64 (widV f)) ∧ w' = w := by
  by_cases h1 : f < 0
  · have e1 : widV f = 0 := by unfold widV; rw [if_neg (by omega)]
    rw [e1]; clear e1
    go_enter Tryz.func129, Tryz.ntmps129
    go_wp2
    go_ret
    exact ⟨rfl, rfl⟩
  · have d1 : decide (f < 0) = false := by simpa using h1
    by_cases h2 : 11 ≤ f
    · have e1 : widV f = 0 := by unfold widV; rw [if_neg (by omega)]
      rw [e1]; clear e1
      go_enter Tryz.func129, Tryz.ntmps129
      go_wp2
      go_ret
      exact ⟨rfl, rfl⟩
    · have d2 : decide (11 ≤ f) = false := by simpa using h2
      have e1 : widV f = wid f.toNat := by unfold widV; rw [if_pos (by omega)]
      rw [e1]; clear e1
      have hc := hw.2 f.toNat (by omega)
      have g0 : 0 ≤ f := by omega
      have g1 : f < 11 := by omega
      clear hw
      go_enter Tryz.func129, Tryz.ntmps129
      go_wp2
      go_ret
      exact ⟨rfl, rfl⟩

theorem size26 (m : Nat → Int) : (Tryz.prog.info? 28).map (·.size) = some (row 22 m).size := by
  rw [row_size]; kernel_rfl
theorem size24 (h : Nat → Int) : (Tryz.prog.info? 26).map (·.size) = some (row 11 h).size := by
  rw [row_size]; kernel_rfl

section
variable {ops : Array Oper} {rest : List Oper} {o : Oper} {a : Act} {w : World} {Q : Exit → Act → World → Prop}
/-- A WHOLE MATCH IS LOADED. -/
theorem ld26 (x : Operand) (ho : o.op = .load 28 x) (g : Nat) (hx : a.eval x = .pointer (some ⟨g, 0, none⟩)) (hw : Region.wanted o (yielded ops a.tmps) = true) (m : Nat → Int) (hg : Blk w g 22 28 m)
    (h : wpList Tryz.prog ops Q rest (a.put o.dst (mv m)) w) : wpList Tryz.prog ops Q (o :: rest) a w := by
  unfold wpList
  rw [if_pos hw]
  exact Or.inl (wp_load_row 28 x ho g hx 28 (row 22 m) (0, 0) _ hg Tryz.underlying28 rfl (size26 m) h)
/-- A WHOLE HEADER IS LOADED. -/
theorem ld24 (x : Operand) (ho : o.op = .load 26 x) (g : Nat) (hx : a.eval x = .pointer (some ⟨g, 0, none⟩)) (hw : Region.wanted o (yielded ops a.tmps) = true) (m : Nat → Int) (hg : Blk w g 11 26 m)
    (h : wpList Tryz.prog ops Q rest (a.put o.dst (hv m)) w) : wpList Tryz.prog ops Q (o :: rest) a w := by
  unfold wpList
  rw [if_pos hw]
  exact Or.inl (wp_load_row 26 x ho g hx 26 (row 11 m) (0, 0) _ hg Tryz.underlying26 rfl (size24 m) h)
theorem range_mask {w : World} {b : Nat} {m : Nat → Int} (h : Blk w b 22 28 m) : w.rangeAt b 11 (row 11 fun k => m (11 + k)).toList := fun j v hj => by
  have hj' : (row 11 fun k => m (11 + k))[j]? = some v := by simpa using hj
  by_cases hk : j < 11
  · rw [row_at _ _ _ hk] at hj'
    rw [h.cell (11 + j) (by omega)]; exact hj'
  · rw [row_none _ _ _ hk] at hj'; cases hj'
/-- A MATCH's MASKS ARE LOADED AS ONE ARRAY. -/
theorem ldMask (x : Operand) (ho : o.op = .load 26 x) (g : Nat) (hx : a.eval x = .pointer (some ⟨g, 11, none⟩)) (hw : Region.wanted o (yielded ops a.tmps) = true) (m : Nat → Int) (hg : Blk w g 22 28 m)
    (h : wpList Tryz.prog ops Q rest (a.put o.dst (hv fun k => m (11 + k))) w) : wpList Tryz.prog ops Q (o :: rest) a w := by
  unfold wpList
  rw [if_pos hw]
  refine Or.inl (wp_load_mid 26 x ho g 11 hx (row 11 fun k => m (11 + k)).toList _ (range_mask hg) Tryz.underlying26 rfl (by rw [size24 fun k => m (11 + k)]; simp) ?_)
  simpa using h
end

theorem idx_hv (h : Nat → Int) (k : Nat) (hk : k < 11) (w : World) : (Instr.index 26 (hv h) (.int .i64 (k : Int))).run Tryz.prog w = .ok (.int .u64 (h k)) w := by
  have hk' : k = 0 ∨ k = 1 ∨ k = 2 ∨ k = 3 ∨ k = 4 ∨ k = 5 ∨ k = 6 ∨ k = 7 ∨ k = 8 ∨ k = 9 ∨ k = 10 := by omega
  rcases hk' with rfl | rfl | rfl | rfl | rfl | rfl | rfl | rfl | rfl | rfl | rfl
  all_goals (show _ = _; kernel_rfl)

set_option maxHeartbeats 800000 in
/-- WHAT Check ANSWERS. -/
theorem check_any (m : Nat → Int) (w : World) (hw : Tab w) :
    Calls Tryz.prog 127 #[mv m] w fun e w' => e = .returned (.int .i64 (chk m)) ∧ Below w.heap.size w w' := by
  have hB : Blk (w.alloc (.cells (row 22 m) 28)) w.heap.size 22 28 m := Blk.new w 22 28 m
  have hlow : Below w.heap.size w (w.alloc (.cells (row 22 m) 28)) := (Below.refl _ _).alloc (Nat.le_refl _) _
  have hT : Hid (Tab (w.alloc (.cells (row 22 m) 28))) := hw.on hlow
  clear hw
  go_enter Tryz.func127, Tryz.ntmps127
  go_wp2_with (refine ldMask (.tmp 5) rfl _ rfl rfl m hB ?_)
  go_loop [7] (fun i => ∃ k : Nat, k ≤ 11 ∧ i = .int .i64 k ∧ allU (fun k => !bad m k) k = true) (fun i => 11 - (intOf i).toNat)
  case atStart => exact ⟨0, by omega, rfl, rfl⟩
  case round =>
    obtain ⟨k, hk, rfl, hall⟩ := hrel
    have HALL : Hid (allU (fun k => !bad m k) k = true) := hall
    clear hall
    by_cases hlt : k < 11
    · have hidx : ∀ W, (Instr.index 26 (hv fun k => m (11 + k)) (.int .i64 (k : Int))).run Tryz.prog W = .ok (.int .u64 (m (11 + k))) W := fun W => idx_hv (fun k => m (11 + k)) k hlt W
      have hc1 : (w.alloc (.cells (row 22 m) 28)).cell? ⟨w.heap.size, k, none⟩ = some (.int .u64 (m k)) := hB.cell k (by omega)
      have hbd := wid_bd k
      have hC := width_any (k : Int) _ hT.out
      rw [widV_nat k hlt] at hC
      have HC : Hid (Calls Tryz.prog 129 #[.int .i8 (k : Int)] (w.alloc (.cells (row 22 m) 28)) fun e w' => e = .returned (.int .i64 (wid k)) ∧ w' = w.alloc (.cells (row 22 m) 28)) := hC
      clear hC
      cases t1 : (m (11 + k) / 2 ^ (wid k).toNat != 0)
      · cases t2 : (bits .andNot .u64 (m k) (m (11 + k)) != 0)
        · have HF : Hid (bad m k = false) := by show bad m k = false; simp [bad, t1, t2]
          go_wp2_with (go_at_call 129; refine (HC.out).mono ?_; rintro e w' ⟨rfl, rfl⟩)
          go_round
          case rel => exact ⟨k + 1, by omega, by go_num, by simp [allU, HALL.out, HF.out]⟩
          case measure => simp [intOf]; omega
        · have HF : Hid (chk m = 20) := by
            show chk m = 20
            exact chk_bad (allU_false hlt (by simp [bad, t2]))
          go_wp2_with (go_at_call 129; refine (HC.out).mono ?_; rintro e w' ⟨rfl, rfl⟩)
          go_ret
          exact ⟨by rw [HF.out]; rfl, hlow⟩
      · have HF : Hid (chk m = 20) := by
          show chk m = 20
          exact chk_bad (allU_false hlt (by simp [bad, t1]))
        go_wp2_with (go_at_call 129; refine (HC.out).mono ?_; rintro e w' ⟨rfl, rfl⟩)
        go_ret
        exact ⟨by rw [HF.out]; rfl, hlow⟩
    · obtain rfl : k = 11 := by omega
      have HF : Hid (chk m = 0) := by
        show chk m = 0
        exact chk_ok HALL.out
      go_wp2
      go_ret
      exact ⟨by rw [HF.out]; rfl, hlow⟩

theorem isMatch_any (m : Nat → Int) (w : World) (hw : Tab w) :
    Calls Tryz.prog 122 #[mv m] w fun e w' => e = .returned (.bool (mOk m)) ∧ Below w.heap.size w w' := by
  have hB : Blk (w.alloc (.cells (row 22 m) 28)) w.heap.size 22 28 m := Blk.new w 22 28 m
  have hlow : Below w.heap.size w (w.alloc (.cells (row 22 m) 28)) := (Below.refl _ _).alloc (Nat.le_refl _) _
  have HC := hid (check_any m _ (hw.on hlow))
  have HL := hid hlow
  clear hw hlow
  have hk : chk m = if mOk m then 0 else 20 := rfl
  cases ho : mOk m with
  | true =>
    rw [chk_ok ho] at HC
    clear hk ho
    go_enter Tryz.func122, Tryz.ntmps122
    go_wp2_with (first
      | (refine ld26 (.tmp 1) rfl _ rfl rfl m hB ?_)
      | (go_at_call 127; refine (HC.out).mono ?_; rintro e w' ⟨rfl, hb⟩; have HB2 := hid hb; clear hb))
    go_ret
    exact ⟨rfl, HL.out.trans (HB2.out.mono HL.out.size)⟩
  | false =>
    rw [chk_bad ho] at HC
    clear hk ho
    go_enter Tryz.func122, Tryz.ntmps122
    go_wp2_with (first
      | (refine ld26 (.tmp 1) rfl _ rfl rfl m hB ?_)
      | (go_at_call 127; refine (HC.out).mono ?_; rintro e w' ⟨rfl, hb⟩; have HB2 := hid hb; clear hb))
    go_ret
    exact ⟨rfl, HL.out.trans (HB2.out.mono HL.out.size)⟩

abbrev av (a : Ac) : Value := .agg #[.int .i8 a.dw, .int .i8 a.fd, .int .u64 a.n]
theorem isAction_any (a : Ac) (w : World) :
    Calls Tryz.prog 128 #[av a] w fun e w' => e = .returned (.bool (okAc a)) ∧ Below w.heap.size w w' := by
  obtain ⟨x, y, z⟩ := a
  have hlow := hid ((Below.refl w.heap.size w).alloc (Nat.le_refl _) (.cells #[.int .i8 x, .int .i8 y, .int .u64 z] 93))
  by_cases h0 : x = 0
  · subst h0
    by_cases h1 : 0 ≤ y
    · have e : okAc ⟨0, y, z⟩ = true := by simp [okAc, h1]
      rw [e]
      go_enter Tryz.func128, Tryz.ntmps128
      go_wp2
      go_ret
      exact ⟨rfl, hlow.out⟩
    · have e : okAc ⟨0, y, z⟩ = false := by simp [okAc]; omega
      have d : decide (0 ≤ y) = false := by simpa using h1
      rw [e]
      go_enter Tryz.func128, Tryz.ntmps128
      go_wp2
      go_ret
      exact ⟨rfl, hlow.out⟩
  · have t0 : (x == 0) = false := beq_eq_false_iff_ne.2 h0
    by_cases h1 : x = 1
    · subst h1
      by_cases h2 : y = 0
      · subst h2
        have e : okAc ⟨1, 0, z⟩ = true := by simp [okAc]
        rw [e]
        go_enter Tryz.func128, Tryz.ntmps128
        go_wp2
        go_ret
        exact ⟨rfl, hlow.out⟩
      · have t1 : (y == 0) = false := beq_eq_false_iff_ne.2 h2
        have e : okAc ⟨1, y, z⟩ = false := by simp [okAc, h2]
        rw [e]
        go_enter Tryz.func128, Tryz.ntmps128
        go_wp2
        go_ret
        exact ⟨rfl, hlow.out⟩
    · have t1 : (x == 1) = false := beq_eq_false_iff_ne.2 h1
      by_cases h2 : x = 2
      · subst h2
        by_cases h3 : y = 0
        · subst h3
          by_cases h4 : z = 0
          · subst h4
            have e : okAc ⟨2, 0, 0⟩ = true := by simp [okAc]
            rw [e]
            go_enter Tryz.func128, Tryz.ntmps128
            go_wp2
            go_ret
            exact ⟨rfl, hlow.out⟩
          · have t2 : (z == 0) = false := beq_eq_false_iff_ne.2 h4
            have e : okAc ⟨2, 0, z⟩ = false := by simp [okAc, h4]
            rw [e]
            go_enter Tryz.func128, Tryz.ntmps128
            go_wp2
            go_ret
            exact ⟨rfl, hlow.out⟩
        · have t2 : (y == 0) = false := beq_eq_false_iff_ne.2 h3
          have e : okAc ⟨2, y, z⟩ = false := by simp [okAc, h3]
          rw [e]
          go_enter Tryz.func128, Tryz.ntmps128
          go_wp2
          go_ret
          exact ⟨rfl, hlow.out⟩
      · have t2 : (x == 2) = false := beq_eq_false_iff_ne.2 h2
        have e : okAc ⟨x, y, z⟩ = false := by simp [okAc, h0, h1, h2]
        rw [e]
        go_enter Tryz.func128, Tryz.ntmps128
        go_wp2
        go_ret
        exact ⟨rfl, hlow.out⟩
end Go.Proofs.YtllbbbfkdgjffaaGreatDoor
namespace Go.Proofs.YtllbbbfkdgjffaaGreatDoor
open Go.RowKit

section
variable {S : Nat → Prop} {c m : Nat}
theorem wnumber_on {w w' : World} {xs : List Int} (ho : Only (OS c S) w w') (hW : Wt S w' c m xs) (k : Nat) (n : Int) (hk : k ≤ 8) (hk0 : 0 < k) :
    Calls Tryz.prog 32 #[.pointer (some ⟨c, 0, none⟩), .int .i64 k, .int .u64 n] w' fun e w2 => e = .returned (.tuple #[]) ∧ Only (OS c S) w w2 ∧ Wt S w2 c m (xs ++ dg n k) :=
  (wnumber_any hW k n hk hk0).mono fun _e _w2 ⟨h1, h2, h3⟩ => ⟨h1, ho.trans h2, h3⟩
theorem three_cells {w : World} {g : Nat} {x y z : Value} {t : TypeId} (h : w.heap[g]? = some (.cells #[x, y, z] t (0, 0))) : w.cell? ⟨g, 0, none⟩ = some x ∧ w.cell? ⟨g, 1, none⟩ = some y ∧ w.cell? ⟨g, 2, none⟩ = some z := by
  refine ⟨?_, ?_, ?_⟩
  · rw [cell_of_row w g 0 _ _ _ h]; rfl
  · rw [cell_of_row w g 1 _ _ _ h]; rfl
  · rw [cell_of_row w g 2 _ _ _ h]; rfl

set_option maxHeartbeats 800000 in
theorem waction_any {w : World} {xs : List Int} (hW : Wt S w c m xs) (a : Ac) (ha : a.Fit) :
    Calls Tryz.prog 124 #[.pointer (some ⟨c, 0, none⟩), av a] w (WrP S c m xs (encAc a) (okAc a) w) := by
  have hb1 : Below w.heap.size w (w.alloc (.cells #[.int .i8 a.dw, .int .i8 a.fd, .int .u64 a.n] 93)) := (Below.refl _ _).alloc (Nat.le_refl _) _
  have hg1 : (w.alloc (.cells #[.int .i8 a.dw, .int .i8 a.fd, .int .u64 a.n] 93)).heap[w.heap.size]? = some (.cells #[.int .i8 a.dw, .int .i8 a.fd, .int .u64 a.n] 93 (0, 0)) := heap_alloc_new _ _
  have hs1 : (w.alloc (.cells #[.int .i8 a.dw, .int .i8 a.fd, .int .u64 a.n] 93)).heap.size = w.heap.size + 1 := by simp
  have HA := hid (isAction_any a (w.alloc (.cells #[.int .i8 a.dw, .int .i8 a.fd, .int .u64 a.n] 93)))
  have HG := hid hW.gd
  have HM : Hid (∀ w2, Below (w.alloc (.cells #[.int .i8 a.dw, .int .i8 a.fd, .int .u64 a.n] 93)).heap.size (w.alloc (.cells #[.int .i8 a.dw, .int .i8 a.fd, .int .u64 a.n] 93)) w2 → Below w.heap.size w w2 ∧ Wt (Sx S w.heap.size w2.heap.size) w2 c m xs ∧ ∀ w3, Only (OS c (Sx S w.heap.size w2.heap.size)) w2 w3 → w3.cell? ⟨w.heap.size, 0, none⟩ = some (.int .i8 a.dw) ∧ w3.cell? ⟨w.heap.size, 1, none⟩ = some (.int .i8 a.fd) ∧ w3.cell? ⟨w.heap.size, 2, none⟩ = some (.int .u64 a.n)) := by
    show ∀ _, _
    intro w2 h2
    have hb := hb1.trans (h2.mono (by rw [hs1]; omega))
    refine ⟨hb, hW.hide hb, fun w3 ho => three_cells (t := 93) ?_⟩
    have hsz := h2.size
    rw [only_mid hW.gd ho _ (Nat.le_refl _) (by omega), h2.block _ (by omega)]
    exact hg1
  obtain ⟨⟨f1, f2⟩, ⟨f3, f4⟩, f5, f6⟩ := ha
  clear hb1 hg1 hs1 hW
  cases ho : okAc a with
  | false =>
    rw [ho] at HA
    clear ho
    obtain ⟨x, y, z⟩ := a
    simp only at HA HM f1 f2 f3 f4 f5 f6
    go_enter Tryz.func124, Tryz.ntmps124
    go_wp2_with (first
      | (go_at_call 128; refine (HA.out).mono ?_; rintro e w2 ⟨rfl, hb⟩; have HQ := hid (HM.out w2 hb).1; clear hb)
      | (go_at_call 30; refine (must_false _).mono ?_; rintro e w' ⟨rfl, hw⟩; rw [hw]; clear hw w'))
    exact ⟨rfl, WrP.no (Only.of HQ.out fun k hk => Or.inr (HG.out.fresh k hk))⟩
  | true =>
    rw [ho] at HA
    have hq := okAc_iff.1 ho
    have h0 : 0 ≤ a.dw := by omega
    have h1 : 0 ≤ a.fd := by omega
    clear ho hq
    obtain ⟨x, y, z⟩ := a
    simp only at HA HM f1 f2 f3 f4 f5 f6 h0 h1
    go_enter Tryz.func124, Tryz.ntmps124
    go_wp2_with (first
      | (go_at_call 128; refine (HA.out).mono ?_; rintro e w2 ⟨rfl, hb⟩; have HQ := hid (HM.out w2 hb); obtain ⟨q0, q1, q2⟩ := HQ.out.2.2 w2 (Only.refl _ _); clear hb)
      | (go_at_call 30; refine (must_true _).mono ?_; rintro e w' ⟨rfl, hw⟩; rw [hw]; clear hw w')
      | (go_at_call 32; refine (wnumber_on H2.out.1 H2.out.2 8 z (by omega) (by omega)).mono ?_; rintro e w5 ⟨rfl, hq⟩; have H3 := hid hq; clear hq)
      | (go_at_call 32; refine (wnumber_on H1.out.1 H1.out.2 1 y (by omega) (by omega)).mono ?_; rintro e w4 ⟨rfl, hq⟩; obtain ⟨u0, u1, u2⟩ := HQ.out.2.2 w4 hq.1; have H2 := hid hq; clear hq)
      | (go_at_call 32; refine (wnumber_on (Only.refl _ _) HQ.out.2.1 1 x (by omega) (by omega)).mono ?_; rintro e w3 ⟨rfl, hq⟩; obtain ⟨t0, t1, t2⟩ := HQ.out.2.2 w3 hq.1; have H1 := hid hq; clear hq))
    first | go_end0 | refine bodyPost_ret (results_none rfl _ _ _) rfl ?_
    have hf := H3.out
    rw [List.append_assoc, List.append_assoc] at hf
    have ho2 := only_back HG.out HQ.out.1 hf.1
    exact WrP.yes ho2 (hf.2.back HG.out ho2.size)
end
end Go.Proofs.YtllbbbfkdgjffaaGreatDoor
