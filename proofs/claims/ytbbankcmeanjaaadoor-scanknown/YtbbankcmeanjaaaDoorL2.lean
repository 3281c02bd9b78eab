/-
  Proved here: the statement ScanStands says true of every text. Condition: the laid variables; a text is no longer than there can be.
-/
import Derived.Test.YtbbankcmeanjaaaDoorL1
namespace Go.Proofs.YtbbankcmeanjaaaDoor
open Go.RowKit
set_option maxRecDepth 100000

theorem wfields : (Tryd.prog.fieldsOf 31).toList.map (fun f => (f.name, f.type, f.offset)) = [("Kind", 28, 0), ("Text", 9, 1), ("N", 29, 2), ("At", 3, 3)] := by kernel_rfl
theorem wstruct : Tryd.prog.underlying 31 = some (.struct (Tryd.prog.fieldsOf 31)) := by kernel_rfl
theorem wstood : Tryd.prog.stoodInHeld 31 = false := by kernel_rfl
theorem wguard : Tryd.prog.eqGuardType Tryd.prog.depth 31 = false := by kernel_rfl
theorem plI8 : Tryd.prog.plainKey 28 = true := by kernel_rfl
theorem plS : Tryd.prog.plainKey 9 = true := by kernel_rfl
theorem plU : Tryd.prog.plainKey 29 = true := by kernel_rfl
theorem plI : Tryd.prog.plainKey 3 = true := by kernel_rfl
theorem eqFs (d : Nat) (x : Wd) (w : World) : ∀ fs : List Field, fs.map (fun f => (f.name, f.type, f.offset)) = [("Kind", 28, 0), ("Text", 9, 1), ("N", 29, 2), ("At", 3, 3)] → (Op.eqFields (d + 1) (wdc x) (wdc x) fs).run Tryd.prog w = .ok true w := by
  intro fs h
  rcases fs with _ | ⟨f1, _ | ⟨f2, _ | ⟨f3, _ | ⟨f4, _ | ⟨f5, fs⟩⟩⟩⟩⟩
  · exact absurd (congrArg List.length h) (by simp)
  · exact absurd (congrArg List.length h) (by simp)
  · exact absurd (congrArg List.length h) (by simp)
  · exact absurd (congrArg List.length h) (by simp)
  · simp only [List.map_cons, List.map_nil, List.cons.injEq, Prod.mk.injEq, and_true] at h
    obtain ⟨⟨a1, a2, a3⟩, ⟨b1, b2, b3⟩, ⟨c1, c2, c3⟩, d1, d2, d3⟩ := h
    have p1 : (part 28 (wdc x) 0).run Tryd.prog w = .ok (.int .i8 ((x.k : Nat) : Int)) w := run_part_plain w plI8 rfl
    have p2 : (part 9 (wdc x) 1).run Tryd.prog w = .ok (.string x.t) w := run_part_plain w plS rfl
    have p3 : (part 29 (wdc x) 2).run Tryd.prog w = .ok (.int .u64 ((x.n : Nat) : Int)) w := run_part_plain w plU rfl
    have p4 : (part 3 (wdc x) 3).run Tryd.prog w = .ok (.int .i64 ((x.at' : Nat) : Int)) w := run_part_plain w plI rfl
    simp [Op.eqFields, a1, a2, a3, b1, b2, b3, c1, c2, c3, d1, d2, d3, p1, p2, p3, p4, Result.andThen, run_equalIn_int w d 28 .i8 .i8 _ _ Tryd.underlying28, run_equalIn_string w d 9 _ _ Tryd.underlying9, run_equalIn_int w d 29 .u64 .u64 _ _ Tryd.underlying29, run_equalIn_int w d 3 .i64 .i64 _ _ Tryd.underlying3]
  · exact absurd (congrArg List.length h) (by simp)
theorem neq_same {o : Oper} {a : Act} {w : World} (x y : Operand) (ho : o.op = .binOp .neq 31 x y 31) (p : Wd) (hx : a.eval x = .agg (wdc p)) (hy : a.eval y = .agg (wdc p)) : (execOp a.eval o).run Tryd.prog w = .ok (.value (.bool false)) w := by
  unfold execOp
  simp only [ho, hx, hy, Sem.run_bind, Sem.run_pure, Result.andThen_ok, run_eqGuard_agg w _ _ _ _ _ _ wguard, run_neq_struct, show (10000 : Nat) = 9998 + 1 + 1 from rfl, run_equalIn_agg w _ _ _ _ wstruct wstood, eqFs 9998 p w _ wfields]
  rfl
theorem wcs_at (l : List Wd) : ∀ (i j : Nat) (hi : i < l.length), j < 4 → (wcs l)[i * 4 + j]? = (wdc l[i])[j]? := by
  induction l with
  | nil => intro i j hi _; exact absurd hi (by simp)
  | cons x l ih =>
    intro i j hi hj
    show ((wdc x).toList ++ wcs l)[i * 4 + j]? = _
    cases i with
    | zero => rw [List.getElem?_append_left (by simp; omega)]; simp
    | succ i =>
      rw [List.getElem?_append_right (by simp; omega)]
      have := ih i j (by simpa using hi) hj
      rw [show (i + 1) * 4 + j - (wdc x).toList.length = i * 4 + j by simp; omega, this]
      simp
theorem wd_range {W : World} {l : List Wd} {b o : Nat} (h : ∀ j, j < l.length * 4 → W.cell? ⟨b, o + j, none⟩ = (wcs l)[j]?) {i : Nat} (hi : i < l.length) : W.rangeAt b (o + i * 4) (wdc l[i]).toList :=
  range_of fun j hj => by
    have hj4 : j < 4 := hj
    rw [Nat.add_assoc, h _ (by omega), wcs_at l i j hi hj4]
section
variable {ops : Array Oper} {rest : List Oper} {o : Oper} {a : Act} {w : World} {Q : Exit → Act → World → Prop}
/-- An operation that yields a value and turns nothing. -/
theorem stepVal (v : Value) (hw : Region.wanted o (yielded ops a.tmps) = true) (hr : (execOp a.eval o).run Tryd.prog w = .ok (.value v) w) (hk : wpList Tryd.prog ops Q rest (a.put o.dst v) w) : wpList Tryd.prog ops Q (o :: rest) a w := by
  unfold wpList
  rw [if_pos hw]
  refine Or.inl ?_
  unfold Oper.wp
  rw [hr]
  exact hk
end
theorem szW (x : Wd) : (Tryd.prog.info? 31).map (·.size) = some (wdc x).size := by kernel_rfl
theorem wd1a (x : Wd) : (wdc x).all (·.oneCell') = true := by simp [wdc, Value.oneCell']

set_option maxHeartbeats 3200000 in
theorem stands_any (s : ByteArray) (w : World) (hT : Tab w) (hbig : s.size ≤ 9223372036854775806) : Calls Tryd.prog 3 #[.string s] w fun e w' => e = .returned (.bool true) ∧ Below w.heap.size w w' := by
  have H1 := hid (all_any s w hT hbig)
  have HWk : Hid (∀ W, Below w.heap.size w W → Calls Tryd.prog 7 #[] W fun e w' => e = .returned (.bool true) ∧ Below W.heap.size W w') := fun W hb => wakes_any W (hT.on hb)
  cases hr : all s with
  | no c a t =>
    go_enter Tryd.func3, Tryd.ntmps3
    go_wp2_with (first
      | (go_at_call 6; refine (H1.out).mono ?_; rintro e W1 ⟨hb1, hr1⟩; rw [hr] at hr1; obtain ⟨N, rfl, -, -⟩ := hr1; have HB1 := hid hb1; have HWk1 := hid (HWk.out W1 hb1); clear hb1 H1 HWk)
      | (go_at_call 7; refine (HWk1.out).mono ?_; rintro e W2 ⟨rfl, hb2⟩; have HB2 := hid (HB1.out.trans (hb2.mono HB1.out.size)); clear hb2 HWk1))
    go_ret
    exact ⟨rfl, HB2.out⟩
  | ok l =>
    obtain ⟨ws, rfl, hst, hs⟩ := all_stand hr
    go_enter Tryd.func3, Tryd.ntmps3
    go_upto_region 2 with (go_at_call 6; refine (H1.out).mono ?_; rintro e W1 ⟨hb1, hr1⟩; rw [hr] at hr1; obtain ⟨v1, rfl, hw1⟩ := hr1; have HB1 := hid hb1; have HW1 := hid hw1; clear hb1 hw1 H1)
    obtain ⟨b, o, cap, rfl, hcap, -, hbl, hcl⟩ := HW1.out.cells (by simp)
    have hln : (ws ++ [wEnd s]).length = ws.length + 1 := by simp
    have HRl : Hid (W1.rangeAt b (o + ws.length * 4) (wdc (wEnd s)).toList) := by
      have := wd_range hcl (i := ws.length) (by simp)
      show W1.rangeAt b (o + ws.length * 4) (wdc (wEnd s)).toList
      simpa using this
    have HRi : Hid (∀ i, (h : i < ws.length) → W1.rangeAt b (o + i * 4) (wdc ws[i]).toList) := fun i h => by
      have := wd_range hcl (i := i) (by simp; omega)
      rw [List.getElem_append_left h] at this
      exact this
    have HBL := hid hbl
    rw [hln] at hcap
    rw [hln]
    have HST := hid hst
    clear hcl hbl HW1 hln hst
    obtain ⟨n, hn⟩ : ∃ n, n = ws.length := ⟨_, rfl⟩
    obtain ⟨m, hm⟩ : ∃ m, m = n + 1 := ⟨_, rfl⟩
    have hnl : n ≤ 65536 := by
      have : ∀ l a, Stand s a l → a ≤ s.size → l.length + a ≤ s.size := by
        intro l
        induction l with
        | nil => intro a _ h; simpa using h
        | cons x l ih =>
          intro a h ha
          have ok := one_ok h.2.1
          rw [h.2.2.1] at ok
          have h1 : x.at' < x.at' + x.t.size := ok.gt
          have := ih _ h.2.2.2.2 ok.le
          have := h.1
          simp; omega
      have := this ws 0 HST.out (by omega)
      omega
    rw [← hn] at hcap HRl
    rw [← hn, ← hm]
    have g1 : (((m : Nat) : Int) == 0) = false := by simp; omega
    have hw1 : IntKind.i64.wrap ((m : Int) - 1) = ((n : Nat) : Int) := by rw [IntKind.wrap_i64]; omega
    have hnm : n < m := by omega
    have hmc : m ≤ cap := by omega
    have HNM := hid (And.intro hm hn)
    clear hcap hm hn
    go_upto_region 7 with (first
      | (show wpList _ _ _ ({ dst := some 30, op := _, type := _, pos := _, after := _, guard := _ } :: _) _ _; refine ldMid 31 (.tmp 29) rfl rfl b (o + n * 4) rfl (wdc (wEnd s)) _ Tryd.underlying31 rfl (szW _) HRl.out ?_)
      | (show wpList _ _ _ ({ dst := some 34, op := _, type := _, pos := _, after := _, guard := _ } :: _) _ _; refine stepVal (.bool false) rfl (neq_same (.tmp 30) (.tmp 33) rfl (wEnd s) rfl rfl) ?_))
    have hnc : n ≤ cap := by omega
    go_upto_region 8 with fail
    clear g1 hw1
    go_loopw [5, 42] (fun va vi wr => ∃ at' i : Nat, va = .int .i64 at' ∧ vi = .int .i64 i ∧ i ≤ n ∧ Hid (Stand s at' (ws.drop i)) ∧ Hid (Below W1.heap.size W1 wr)) (fun _ vi _ => n - (intOf vi).toNat)
    case atStart => exact ⟨0, 0, rfl, rfl, by omega, HST.out, Below.refl _ _⟩
    case round =>
      clear HST
      obtain ⟨a0, i, rfl, rfl, hi, HS, HB⟩ := hrel
      by_cases hl : i < n
      · have g1 : decide ((i : Int) < (n : Int)) = true := by simp; omega
        have hil : i < ws.length := by rw [← HNM.out.2]; exact hl
        have hsd := HS.out
        rw [List.drop_eq_getElem_cons hil] at hsd
        obtain ⟨h1, h2, h3, h4, h5⟩ := hsd
        have HR : Hid (wr.rangeAt b (o + i * 4) (wdc ws[i]).toList) := fun j v hj => by
          have hc := HRi.out i hil j v hj
          rw [HB.out.cell (p := ⟨b, _, none⟩) HBL.out]; exact hc
        have ok := one_ok h2
        rw [h3] at ok
        have hw1 : IntKind.i64.wrap ((i : Int) + 1) = (i : Int) + 1 := by rw [IntKind.wrap_i64]; omega
        generalize ws[i] = x at h1 h2 h3 h4 h5 HR ok
        obtain ⟨k, t, nn, p⟩ := x
        replace h1 : a0 ≤ p := h1
        replace h4 : t = s.extract p (p + t.size) := h4
        have hge0 : p < p + t.size := ok.gt
        have hle0 : p + t.size ≤ s.size := ok.le
        obtain ⟨e, he⟩ : ∃ e, e = p + t.size := ⟨_, rfl⟩
        rw [← he] at h4
        have HS2 : Hid (Stand s e (ws.drop (i + 1))) := by rw [he]; exact h5
        have hge : p ≤ e := by omega
        have hle : e ≤ s.size := by omega
        have hn0 : k ≠ 2 → nn = 0 := ok.nn
        have f1 : decide ((p : Int) < (a0 : Int)) = false := by simp; omega
        have f1n : decide (p < a0) = false := by simp; omega
        have f2 : (t.toList == []) = false := by
          rw [Bool.eq_false_iff]; intro h
          have h' : t.toList = [] := eq_of_beq h
          rw [ByteArray.toList_eq] at h'
          have : t.size = 0 := by rw [Lib.size_eq, h']; rfl
          omega
        have f3 : IntKind.i64.wrap ((s.size : Int) - (t.size : Int)) = (s.size : Int) - (t.size : Int) := by rw [IntKind.wrap_i64]; omega
        have f4 : decide ((s.size : Int) - (t.size : Int) < (p : Int)) = false := by simp; omega
        have f5 : IntKind.i64.wrap ((p : Int) + (t.size : Int)) = ((e : Nat) : Int) := by rw [IntKind.wrap_i64]; omega
        have HB3 : Hid (Below W1.heap.size W1 (wr.alloc (.cells (wdc ⟨k, t, nn, p⟩) 31))) := HB.out.alloc HB.out.size _
        have H4 := hid h4
        clear ok h1 h2 h3 h4 h5 HS he hge0 hle0
        go_upto_region 10 with (first
          | (show wpList _ _ _ ({ dst := some 45, op := _, type := _, pos := _, after := _, guard := _ } :: _) _ _; refine ldMid 31 (.tmp 44) rfl rfl b (o + i * 4) rfl (wdc ⟨k, t, nn, p⟩) _ Tryd.underlying31 rfl (szW _) HR.out ?_))
        clear HR
        obtain ⟨W3, hW3⟩ : ∃ W3, W3 = wr.alloc (.cells (wdc ⟨k, t, nn, p⟩) 31) := ⟨_, rfl⟩
        have HW3 : Hid (wr.alloc (.cells #[.int .i8 (k : Int), .string t, .int .u64 (nn : Int), .int .i64 (p : Int)] 31) = W3) := hW3.symm
        have hb3 : W3.drew.heap[wr.heap.size]? = some (.cells (wdc ⟨k, t, nn, p⟩) 31 (0, 0)) := by rw [hW3]; exact heap_alloc_new _ _
        have c0 : W3.cell? ⟨wr.heap.size, 0, none⟩ = some (.int .i8 (k : Int)) := (cell_of_row _ _ _ _ _ _ hb3).trans rfl
        have c1 : W3.cell? ⟨wr.heap.size, 1, none⟩ = some (.string t) := (cell_of_row _ _ _ _ _ _ hb3).trans rfl
        have c2 : W3.cell? ⟨wr.heap.size, 2, none⟩ = some (.int .u64 (nn : Int)) := (cell_of_row _ _ _ _ _ _ hb3).trans rfl
        have c3 : W3.cell? ⟨wr.heap.size, 3, none⟩ = some (.int .i64 (p : Int)) := (cell_of_row _ _ _ _ _ _ hb3).trans rfl
        rw [← hW3] at HB3
        rw [HW3.out]
        clear hW3 HW3 hb3
        have h4 : s.extract p e = t := H4.out.symm
        clear HB H4 hil HRi HRl HBL HNM
        by_cases hk : k = 2
        · subst hk
          clear hn0
          go_quiet (fail)
          go_wp2
          refine ⟨?_, ?_⟩
          · first
              | exact ⟨e, i + 1, rfl, by go_num, by omega, HS2, bel_drewN HB3.out _⟩
              | ((repeat apply Exists.intro); refine ⟨?_, rfl⟩; exact ⟨e, i + 1, rfl, by go_num, by omega, HS2, bel_drewN HB3.out _⟩)
          · first | (simp [intOf]; done) | (simp [intOf]; omega)
        · obtain rfl := hn0 hk
          have f6 : (((k : Nat) : Int) == 2) = false := by simp; omega
          have f7 : (((k : Nat) : Int) != 2) = true := by simp; omega
          clear hn0 hk
          go_quiet (fail)
          go_wp2
          refine ⟨?_, ?_⟩
          · first
              | exact ⟨e, i + 1, rfl, by go_num, by omega, HS2, bel_drewN HB3.out _⟩
              | ((repeat apply Exists.intro); refine ⟨?_, rfl⟩; exact ⟨e, i + 1, rfl, by go_num, by omega, HS2, bel_drewN HB3.out _⟩)
          · first | (simp [intOf]; done) | (simp [intOf]; omega)
      · obtain rfl : i = n := by omega
        have g1 : decide ((i : Int) < (i : Int)) = false := by simp
        have HBr := hid (HB1.out.trans (HB.out.mono HB1.out.size))
        have HWk1 := hid (HWk.out wr HBr.out)
        clear HS HWk HB HRi HRl HBL HNM
        go_wp2_with (go_at_call 7; refine (HWk1.out).mono ?_; rintro e W2 ⟨rfl, hb2⟩; have HB2 := hid (HBr.out.trans (hb2.mono HBr.out.size)); clear hb2 HWk1)
        go_ret
        exact ⟨rfl, HB2.out⟩
end Go.Proofs.YtbbankcmeanjaaaDoor
