/-
  Proved here: FrameBack's body returns true for every packet and every bytes; no old memory turns. Conditions: the widths' table holds its eleven numbers; no number of the header is negative.
-/
import Derived.Test.YtgjglbailgeneaaDoorX3
import Derived.Test.YtgjglbailgeneaaDoorL2
namespace Go.Proofs.YtgjglbailgeneaaDoor
open Go.RowKit

theorem prow_set (h : Nat → Int) (v : Value) (j : Nat) (hj : j < 11) (x : Int) : (prow h v).setIfInBounds j (.int .u64 x) = prow (upd h j x) v := by
  apply Array.ext_getElem?
  intro k
  rw [Array.getElem?_setIfInBounds]
  by_cases e : j = k
  · subst e
    rw [if_pos rfl, if_pos (by rw [prow_size]; omega), prow_at _ _ j hj, upd_same]
  · rw [if_neg e]
    by_cases hk : k < 11
    · rw [prow_at _ _ k hk, prow_at _ _ k hk, upd_other _ _ _ _ (fun q => e q.symm)]
    · by_cases hk2 : k = 11
      · subst hk2; rw [prow_last, prow_last]
      · rw [Array.getElem?_eq_none (by rw [prow_size]; omega), Array.getElem?_eq_none (by rw [prow_size]; omega)]
theorem PBlk.set {w : World} {b : Nat} {h : Nat → Int} {v : Value} (hh : PBlk w b h v) (j : Nat) (hj : j < 11) (x : Int) : PBlk (w.setCell ⟨b, j, none⟩ (.int .u64 x)) b (upd h j x) v := by
  unfold PBlk; rw [heap_setCell_same w b j _ 27 _ hh, prow_set h v j hj x]
theorem PBlk.setOther {w : World} {b : Nat} {h : Nat → Int} {v : Value} (hh : PBlk w b h v) (c j : Nat) (u : Value) (hne : b ≠ c) : PBlk (w.setCell ⟨c, j, none⟩ u) b h v := by
  unfold PBlk; rw [heap_setCell_other _ _ _ _ hne]; exact hh
theorem PBlk.frozen {w : World} {b : Nat} {h : Nat → Int} {v : Value} (hh : PBlk w b h v) (o : Nat) : w.frozen? ⟨b, o, none⟩ = false := by
  have : w.heap[b]? = some (Obj.cells (prow h v) 27 (0, 0)) := hh
  simp [World.frozen?, this]
/-- A number of a packet's header is stored. -/
theorem st23P {ops : Array Oper} {rest : List Oper} {o : Oper} {a : Act} {w : World} {Q : Exit → Act → World → Prop} (x y : Operand) (ho : o.op = .store 23 x y) (g j : Nat) (hx : a.eval x = .pointer (some ⟨g, j, none⟩)) (v : Int) (hy : a.eval y = .int .u64 v) (hw : Region.wanted o (yielded ops a.tmps) = true) (f : Nat → Int) (u : Value) (hg : PBlk w g f u) (hj : j < 11)
    (h : wpList Tryd.prog ops Q rest (a.put o.dst undef) (w.setCell ⟨g, j, none⟩ (.int .u64 v))) : wpList Tryd.prog ops Q (o :: rest) a w := by
  unfold wpList
  rw [if_pos hw]
  refine Or.inl ?_
  have hs : (sizeOf 23).run Tryd.prog w = .ok 1 w := by
    have h1 : (Tryd.prog.info? 23).map (·.size) = some 1 := by kernel_rfl
    cases hq : Tryd.prog.info? 23 with
    | none => simp [hq] at h1
    | some i =>
      have hs : i.size = 1 := by simpa [hq] using h1
      simp [sizeOf, typeInfo, hq, hs]
  have hc := run_storeCells_cells (P := Tryd.prog) g j [.int .u64 v] 0 w (fun i hi => by
    have : i = 0 := by simpa using hi
    subst this; simp [hg.cell j hj]) (fun i _ => hg.frozen _) (fun u hu => by
    have : u = .int .u64 v := by simpa using hu
    subst this; rfl)
  simp only [Nat.add_zero] at hc
  unfold Oper.wp execOp
  simp only [ho, hx, hy, Instr.storeAt, Instr.sureAddr, storeVar, Value.cells, Sem.run_bind, Sem.run_pure, Result.andThen_ok, hs, hc, List.size_toArray, List.length_cons, List.length_nil, Nat.zero_add, ne_eq, not_true_eq_false, if_false, Sem.run_ite]
  exact h
theorem bOut_isB {h : Nat → Int} {bs : List Int} (h0 : ∀ k, 0 ≤ h k) (hB : IsB bs) : IsB (bOut h bs) := by
  by_cases e : bErr h bs = 0
  · have c := can_of h0 hB e
    rw [can_out c]; exact can_isB c
  · unfold bOut; rw [if_neg e]; exact IsB.nil
theorem pktL_len {h : Nat → Int} {bs : List Int} (c : Can h bs) : (pktL h bs).length ≤ 2000 := by
  have h1 := ethL_len h
  have h2 := c.short
  have h3 := ipL_len h (ahead h + bs.length)
  have h4 := ahead_bd h
  unfold pktL
  rw [List.length_append]
  split
  · rw [arpL_len]; omega
  · split
    · rw [List.length_append]; omega
    · omega
theorem bOut_len {h : Nat → Int} {bs : List Int} (h0 : ∀ k, 0 ≤ h k) (hB : IsB bs) : (bOut h bs).length ≤ 2000 := by
  by_cases e : bErr h bs = 0
  · have c := can_of h0 hB e
    rw [can_out c]; exact pktL_len c
  · unfold bOut; rw [if_neg e]; simp
/-- What is read of what is built. -/
theorem back1 {h : Nat → Int} {bs : List Int} (c : Can h bs) : prE (pktL h bs) = 0 ∧ prB (pktL h bs) = bs ∧ eqR 11 (upd (upd h 9 0) 10 0) (prH (pktL h bs)) = true := by
  obtain ⟨F, hF, hk⟩ := parse_build c
  obtain ⟨e1, e2, e3⟩ := prE_some hF
  refine ⟨e1, e3, ?_⟩
  rw [e2]
  refine eqR_iff.2 (eleven ?_ ?_ ?_ ?_ ?_ ?_ ?_ ?_ ?_ ?_ ?_)
  all_goals (rw [hk _ (by omega)]; rfl)
/-- What is built of what is read. -/
theorem back2 {l : List Int} (hl : IsB l) (e : prE l = 0) : (∀ k, 0 ≤ prH l k) ∧ IsB (prB l) ∧ (prB l).length ≤ 1500 ∧ bErr (prH l) (prB l) = 0 ∧ bOut (prH l) (prB l) = l := by
  cases hp : pPkt l with
  | none => rw [(prE_none hp).1] at e; cases e
  | some q =>
    obtain ⟨F, b⟩ := q
    obtain ⟨_, e2, e3⟩ := prE_some hp
    obtain ⟨c, hk, _⟩ := build_parse hl hp
    rw [e2, e3]
    refine ⟨c.nn, c.isB, ?_, can_err c, by rw [can_out c]; exact hk⟩
    have h1 := c.short
    have h2 := ahead_bd F
    omega

set_option maxHeartbeats 3200000 in
/-- FrameBack. -/
theorem back_any (B : Nat) (h : Nat → Int) (vb : Value) (bs : List Int) (vr : Value) (raw : List Int) (w : World) (hs : Sl B w vb bs) (hr : Sl B w vr raw) (hB : B ≤ w.heap.size) (hw : Tab w) (h0 : ∀ k, 0 ≤ h k ∧ h k < 18446744073709551616) :
    Calls Tryd.prog 5 #[pv h vb, vr] w fun e w' => e = .returned (.bool true) ∧ Below w.heap.size w w' := by
  have h0' : ∀ k, 0 ≤ h k := fun k => (h0 k).1
  have hiB := hs.isB
  have hol := bOut_len h0' hiB
  have hoB := bOut_isB h0' hiB
  have hwpos := hw.pos
  have hl0 : Below w.heap.size w (w.alloc (.cells (prow h vb) 27)) := (Below.refl _ _).alloc (Nat.le_refl _) _
  have hP0 : Hid (PBlk (w.alloc (.cells (prow h vb) 27)) w.heap.size h vb) := PBlk.new _ _ _
  have hS0 : Hid (Sl B (w.alloc (.cells (prow h vb) 27)) vb bs) := hs.on (hl0.mono hB)
  have hR0 : Hid (Sl B (w.alloc (.cells (prow h vb) 27)) vr raw) := hr.on (hl0.mono hB)
  have hT0 : Hid (Tab (w.alloc (.cells (prow h vb) 27))) := hw.on hl0
  clear hs hr hw h0
  go_enter Tryd.func5, Tryd.ntmps5
  go_wp2_with (refine ld27 (.tmp 2) rfl _ rfl rfl h vb hP0.out ?_)
  go_fit (build_any B h vb bs _ hT0.out (Nat.le_trans hB hl0.size) hS0.out)
  rintro e w1 ⟨v1, rfl, hb1, hO1⟩
  have hl1 : Hid (Below w.heap.size w w1) := hl0.trans (hb1.mono hl0.size)
  have hT1 : Hid (Tab w1) := hT0.out.on hb1
  have hR1 : Hid (Sl B w1 vr raw) := hR0.out.on (hb1.mono (Nat.le_trans hB hl0.size))
  have hS1 : Hid (Sl B w1 vb bs) := hS0.out.on (hb1.mono (Nat.le_trans hB hl0.size))
  have hP1 : Hid (PBlk w1 w.heap.size h vb) := hP0.out.on hb1
  have hb1s : w.heap.size + 1 ≤ w1.heap.size := by have := hb1.size; simpa using this
  clear hl0 hP0 hS0 hR0 hT0 hb1
  by_cases hE : bErr h bs = 0
  · have cn := can_of h0' hiB hE
    obtain ⟨p1, p2, p3⟩ := back1 cn
    rw [can_out cn] at hO1 hol hoB
    have HO : Hid (Sl w1.heap.size w1 v1 (pktL h bs)) := Sl.own hO1 (by omega) hoB
    rw [hE]
    obtain ⟨l, hl⟩ : ∃ l, l = pktL h bs := ⟨_, rfl⟩
    rw [← hl] at HO p1 p2 p3
    clear hO1 hol hoB hl hE cn
    go_wp2_with fail
    go_fit (parse_any w1.heap.size v1 l w1 HO.out (Nat.le_refl _) hT1.out)
    rintro e w2 ⟨vq, rfl, hb2, hO2⟩
    rw [p1]
    rw [p2] at hO2
    obtain ⟨F, hF⟩ : ∃ F, F = prH l := ⟨_, rfl⟩
    rw [← hF] at p3 ⊢
    have hSq : Sl w2.heap.size w2 vq bs := Sl.own hO2 (by have := hS1.out.len; omega) hiB
    obtain ⟨ao9, n9, c9, rfl⟩ := hO2.slice
    have hl2 : Below w.heap.size w w2 := hl1.out.trans (hb2.mono hl1.out.size)
    have hT2 : Tab w2 := hT1.out.on hb2
    have hP2 : PBlk w2 w.heap.size h vb := hP1.out.on hb2
    have hs2 : w.heap.size + 1 ≤ w2.heap.size := Nat.le_trans hb1s hb2.size
    have hbB : B ≤ w1.heap.size := Nat.le_trans hB hl1.out.size
    have hS2 : Sl B w2 vb bs := hS1.out.on (hb2.mono hbB)
    have hR2 : Sl B w2 vr raw := hR1.out.on (hb2.mono hbB)
    have hl3 : Below w.heap.size w (w2.alloc (.cells (prow F (.slice ao9 n9 c9)) 27)) := hl2.alloc hl2.size _
    have q3 : Below w2.heap.size w2 (w2.alloc (.cells (prow F (.slice ao9 n9 c9)) 27)) := (Below.refl _ _).alloc (Nat.le_refl _) _
    have hP3 : PBlk (w2.alloc (.cells (prow F (.slice ao9 n9 c9)) 27)) w.heap.size h vb := hP2.alloc _
    have hQ3 : PBlk (w2.alloc (.cells (prow F (.slice ao9 n9 c9)) 27)) w2.heap.size F (.slice ao9 n9 c9) := PBlk.new _ _ _
    have hP4 := hP3.set 9 (by omega) 0
    have hQ4 := hQ3.setOther w.heap.size 9 (.int .u64 0) (by omega)
    have hP5 := hP4.set 10 (by omega) 0
    have hQ5 := hQ4.setOther w.heap.size 10 (.int .u64 0) (by omega)
    have hl5 : Hid (Below w.heap.size w (((w2.alloc (.cells (prow F (.slice ao9 n9 c9)) 27)).setCell ⟨w.heap.size, 9, none⟩ (.int .u64 0)).setCell ⟨w.heap.size, 10, none⟩ (.int .u64 0))) := (hl3.setCell (Nat.le_refl _) _).setCell (Nat.le_refl _) _
    have q5 : Below w.heap.size w2 (((w2.alloc (.cells (prow F (.slice ao9 n9 c9)) 27)).setCell ⟨w.heap.size, 9, none⟩ (.int .u64 0)).setCell ⟨w.heap.size, 10, none⟩ (.int .u64 0)) := ((q3.mono (B' := w.heap.size) (by omega)).setCell (Nat.le_refl _) _).setCell (Nat.le_refl _) _
    have hS5 : Sl B (((w2.alloc (.cells (prow F (.slice ao9 n9 c9)) 27)).setCell ⟨w.heap.size, 9, none⟩ (.int .u64 0)).setCell ⟨w.heap.size, 10, none⟩ (.int .u64 0)) vb bs := hS2.on (q5.mono hB)
    have hT5 : Hid (Tab (((w2.alloc (.cells (prow F (.slice ao9 n9 c9)) 27)).setCell ⟨w.heap.size, 9, none⟩ (.int .u64 0)).setCell ⟨w.heap.size, 10, none⟩ (.int .u64 0))) := fun k hk => by rw [q5.cell (p := ⟨0, k, none⟩) hwpos]; exact hT2 k hk
    have hR5 : Hid (Sl B (((w2.alloc (.cells (prow F (.slice ao9 n9 c9)) 27)).setCell ⟨w.heap.size, 9, none⟩ (.int .u64 0)).setCell ⟨w.heap.size, 10, none⟩ (.int .u64 0)) vr raw) := hR2.on (q5.mono hB)
    have hne : Value.ownBlock (.slice ao9 n9 c9) ≠ some w.heap.size := fun e => by have := (hO2.lt _ e).1; omega
    have hO5 : Owns w1.heap.size (((w2.alloc (.cells (prow F (.slice ao9 n9 c9)) 27)).setCell ⟨w.heap.size, 9, none⟩ (.int .u64 0)).setCell ⟨w.heap.size, 10, none⟩ (.int .u64 0)) (.slice ao9 n9 c9) bs := ownsRow_setCell_other (ownsRow_setCell_other (hO2.alloc _) hne _) hne _
    have hSq5 := Sl.own hO5 (by have := hS2.len; omega) hiB
    have HSame : Hid (Calls Tryd.prog 10 #[pv (upd (upd h 9 0) 10 0) vb, pv F (.slice ao9 n9 c9)] (((w2.alloc (.cells (prow F (.slice ao9 n9 c9)) 27)).setCell ⟨w.heap.size, 9, none⟩ (.int .u64 0)).setCell ⟨w.heap.size, 10, none⟩ (.int .u64 0)) fun e w' => e = .returned (.bool true) ∧ Below (((w2.alloc (.cells (prow F (.slice ao9 n9 c9)) 27)).setCell ⟨w.heap.size, 9, none⟩ (.int .u64 0)).setCell ⟨w.heap.size, 10, none⟩ (.int .u64 0)).heap.size (((w2.alloc (.cells (prow F (.slice ao9 n9 c9)) 27)).setCell ⟨w.heap.size, 9, none⟩ (.int .u64 0)).setCell ⟨w.heap.size, 10, none⟩ (.int .u64 0)) w') := by
      have := same_any B _ (upd (upd h 9 0) 10 0) F vb (.slice ao9 n9 c9) bs bs (((w2.alloc (.cells (prow F (.slice ao9 n9 c9)) 27)).setCell ⟨w.heap.size, 9, none⟩ (.int .u64 0)).setCell ⟨w.heap.size, 10, none⟩ (.int .u64 0)) hS5 hSq5 (Nat.le_trans hB hl5.out.size) (Nat.le_refl _)
      rwa [p3, show (bs == bs) = true by simp] at this
    have HP3 : Hid (PBlk (w2.alloc (.cells (prow F (.slice ao9 n9 c9)) 27)) w.heap.size h vb) := hP3
    have HP4 : Hid (PBlk ((w2.alloc (.cells (prow F (.slice ao9 n9 c9)) 27)).setCell ⟨w.heap.size, 9, none⟩ (.int .u64 0)) w.heap.size (upd h 9 0) vb) := hP4
    have HP5 : Hid (PBlk (((w2.alloc (.cells (prow F (.slice ao9 n9 c9)) 27)).setCell ⟨w.heap.size, 9, none⟩ (.int .u64 0)).setCell ⟨w.heap.size, 10, none⟩ (.int .u64 0)) w.heap.size (upd (upd h 9 0) 10 0) vb) := hP5
    have HQ5 : Hid (PBlk (((w2.alloc (.cells (prow F (.slice ao9 n9 c9)) 27)).setCell ⟨w.heap.size, 9, none⟩ (.int .u64 0)).setCell ⟨w.heap.size, 10, none⟩ (.int .u64 0)) w2.heap.size F (.slice ao9 n9 c9)) := hQ5
    clear HO p1 p2 p3 hb2 hO2 hF hl2 hT2 hP2 hs2 hbB hS2 hR2 hl3 q3 hP3 hQ3 hP4 hQ4 hP5 hQ5 q5 hS5 hne hO5 hSq5 hSq hl1 hT1 hR1 hS1 hP1
    go_wp2_with (first | (refine alc27 rfl rfl ?_) | (refine st27n (.tmp 7) (.tmp 23) rfl w2 zf nilS rfl rfl F _ rfl rfl rfl ?_) | (refine st23P (.tmp 26) (.const (.int .u64 0)) rfl _ _ rfl 0 rfl rfl h vb HP3.out (by omega) ?_) | (refine st23P (.tmp 28) (.const (.int .u64 0)) rfl _ _ rfl 0 rfl rfl _ vb HP4.out (by omega) ?_) | (refine ld27 (.tmp 2) rfl _ rfl rfl _ vb HP5.out ?_) | (refine ld27 (.tmp 7) rfl _ rfl rfl F _ HQ5.out ?_))
    go_fit HSame.out
    rintro e w6 ⟨rfl, hb6⟩
    have hl : Hid (Below w.heap.size w w6) := hl5.out.trans (hb6.mono hl5.out.size)
    have hT : Hid (Tab w6) := hT5.out.on hb6
    have hS : Hid (Sl B w6 vr raw) := hR5.out.on (hb6.mono (Nat.le_trans hB hl5.out.size))
    clear HSame HP3 HP4 HP5 HQ5 hl5 hT5 hR5 hb6
    go_wp2_with (fail)
    go_fit (parse_any B vr raw w6 hS.out (Nat.le_trans hB hl.out.size) hT.out)
    rintro e w5 ⟨vq, rfl, hb5, hO5⟩
    have hl5 : Hid (Below w.heap.size w w5) := hl.out.trans (hb5.mono hl.out.size)
    have hT5 : Hid (Tab w5) := hT.out.on hb5
    have hS5 : Hid (Sl B w5 vr raw) := hS.out.on (hb5.mono (Nat.le_trans hB hl.out.size))
    have hiB := hS.out.isB
    obtain ⟨ao, n, c, rfl⟩ := hO5.slice
    have hl6 : Hid (Below w.heap.size w (w5.alloc (.cells (prow (prH raw) (.slice ao n c)) 27))) := hl5.out.alloc hl5.out.size _
    have hT6 : Hid (Tab (w5.alloc (.cells (prow (prH raw) (.slice ao n c)) 27))) := hT5.out.on ((Below.refl _ _).alloc (Nat.le_refl _) _)
    have hP6 : Hid (PBlk (w5.alloc (.cells (prow (prH raw) (.slice ao n c)) 27)) w5.heap.size (prH raw) (.slice ao n c)) := PBlk.new _ _ _
    have hq6 : w5.heap.size ≤ (w5.alloc (.cells (prow (prH raw) (.slice ao n c)) 27)).heap.size := by simp
    by_cases hE : prE raw = 0
    · obtain ⟨hn, hbB, hbl, be, bo⟩ := back2 hiB hE
      have hE0 : (prE raw != 0) = false := by simp [hE]
      have hSq : Sl w5.heap.size w5 (.slice ao n c) (prB raw) := Sl.own hO5 (by omega) hbB
      have hS6 : Hid (Sl w5.heap.size (w5.alloc (.cells (prow (prH raw) (.slice ao n c)) 27)) (.slice ao n c) (prB raw)) := hSq.on ((Below.refl _ _).alloc (Nat.le_refl _) _)
      have hSr : Hid (Sl B (w5.alloc (.cells (prow (prH raw) (.slice ao n c)) 27)) vr raw) := hS5.out.on (((Below.refl _ _).alloc (Nat.le_refl _) _).mono (Nat.le_trans hB hl5.out.size))
      clear hS5 hl5 hT5 hO5 hb5 hS hl hT hSq hE hn hbB hbl
      go_wp2_with (first | (refine alc27 rfl rfl ?_) | (refine st27n (.tmp 9) (.tmp 40) rfl w5 zf nilS rfl rfl (prH raw) _ rfl rfl rfl ?_) | (refine ld27 (.tmp 9) rfl _ rfl rfl (prH raw) _ hP6.out ?_))
      go_fit (build_any w5.heap.size (prH raw) (.slice ao n c) (prB raw) _ hT6.out hq6 hS6.out)
      rintro e w7 ⟨v7, rfl, hb7, hO7⟩
      rw [be]
      rw [bo] at hO7
      have hl7 : Hid (Below w.heap.size w w7) := hl6.out.trans (hb7.mono hl6.out.size)
      have hT7 : Hid (Tab w7) := hT6.out.on hb7
      have hS7 := hSr.out.on (hb7.mono (Nat.le_trans hB hl6.out.size))
      have HY : Hid (Calls Tryd.prog 16 #[v7, vr] w7 fun e w' => e = .returned (.bool true) ∧ w' = w7) := by
        have := bytes_any _ _ v7 vr raw raw w7 (Sl.own hO7 hS7.len hS7.isB) hS7
        rwa [show (raw == raw) = true by simp] at this
      clear hl6 hT6 hP6 hS6 hSr hb7 hO7 hS7 be bo
      go_wp2_with (go_at_call 16; refine (HY.out).mono ?_; rintro e w7 ⟨rfl, rfl⟩)
      go_fit (wakes_any _ hT7.out)
      rintro e w8 ⟨rfl, hb8⟩
      have hl8 := hl7.out.trans (hb8.mono hl7.out.size)
      clear HY hb8 hT7
      go_wp2
      go_ret
      exact ⟨rfl, hl8⟩
    · have hE0 : (prE raw != 0) = true := by simp [hE]
      clear hS5 hl5 hT5 hO5 hb5 hS hl hT hE
      go_wp2_with (first | (refine alc27 rfl rfl ?_) | (refine st27n (.tmp 9) (.tmp 40) rfl w5 zf nilS rfl rfl (prH raw) _ rfl rfl rfl ?_))
      go_fit (wakes_any _ hT6.out)
      rintro e w8 ⟨rfl, hb8⟩
      have hl8 := hl6.out.trans (hb8.mono hl6.out.size)
      clear hb8 hT6 hl6 hP6
      go_wp2
      go_ret
      exact ⟨rfl, hl8⟩
  · have hE0 : (bErr h bs == 0) = false := by simp [hE]
    have hl := hl1
    have hT := hT1
    have hS := hR1
    clear hl1 hT1 hR1 hS1 hP1 hO1 hol hoB hE
    go_wp2_with (fail)
    go_fit (parse_any B vr raw w1 hS.out (Nat.le_trans hB hl.out.size) hT.out)
    rintro e w5 ⟨vq, rfl, hb5, hO5⟩
    have hl5 : Hid (Below w.heap.size w w5) := hl.out.trans (hb5.mono hl.out.size)
    have hT5 : Hid (Tab w5) := hT.out.on hb5
    have hS5 : Hid (Sl B w5 vr raw) := hS.out.on (hb5.mono (Nat.le_trans hB hl.out.size))
    have hiB := hS.out.isB
    obtain ⟨ao, n, c, rfl⟩ := hO5.slice
    have hl6 : Hid (Below w.heap.size w (w5.alloc (.cells (prow (prH raw) (.slice ao n c)) 27))) := hl5.out.alloc hl5.out.size _
    have hT6 : Hid (Tab (w5.alloc (.cells (prow (prH raw) (.slice ao n c)) 27))) := hT5.out.on ((Below.refl _ _).alloc (Nat.le_refl _) _)
    have hP6 : Hid (PBlk (w5.alloc (.cells (prow (prH raw) (.slice ao n c)) 27)) w5.heap.size (prH raw) (.slice ao n c)) := PBlk.new _ _ _
    have hq6 : w5.heap.size ≤ (w5.alloc (.cells (prow (prH raw) (.slice ao n c)) 27)).heap.size := by simp
    by_cases hE : prE raw = 0
    · obtain ⟨hn, hbB, hbl, be, bo⟩ := back2 hiB hE
      have hE0 : (prE raw != 0) = false := by simp [hE]
      have hSq : Sl w5.heap.size w5 (.slice ao n c) (prB raw) := Sl.own hO5 (by omega) hbB
      have hS6 : Hid (Sl w5.heap.size (w5.alloc (.cells (prow (prH raw) (.slice ao n c)) 27)) (.slice ao n c) (prB raw)) := hSq.on ((Below.refl _ _).alloc (Nat.le_refl _) _)
      have hSr : Hid (Sl B (w5.alloc (.cells (prow (prH raw) (.slice ao n c)) 27)) vr raw) := hS5.out.on (((Below.refl _ _).alloc (Nat.le_refl _) _).mono (Nat.le_trans hB hl5.out.size))
      clear hS5 hl5 hT5 hO5 hb5 hS hl hT hSq hE hn hbB hbl
      go_wp2_with (first | (refine alc27 rfl rfl ?_) | (refine st27n (.tmp 9) (.tmp 40) rfl w5 zf nilS rfl rfl (prH raw) _ rfl rfl rfl ?_) | (refine ld27 (.tmp 9) rfl _ rfl rfl (prH raw) _ hP6.out ?_))
      go_fit (build_any w5.heap.size (prH raw) (.slice ao n c) (prB raw) _ hT6.out hq6 hS6.out)
      rintro e w7 ⟨v7, rfl, hb7, hO7⟩
      rw [be]
      rw [bo] at hO7
      have hl7 : Hid (Below w.heap.size w w7) := hl6.out.trans (hb7.mono hl6.out.size)
      have hT7 : Hid (Tab w7) := hT6.out.on hb7
      have hS7 := hSr.out.on (hb7.mono (Nat.le_trans hB hl6.out.size))
      have HY : Hid (Calls Tryd.prog 16 #[v7, vr] w7 fun e w' => e = .returned (.bool true) ∧ w' = w7) := by
        have := bytes_any _ _ v7 vr raw raw w7 (Sl.own hO7 hS7.len hS7.isB) hS7
        rwa [show (raw == raw) = true by simp] at this
      clear hl6 hT6 hP6 hS6 hSr hb7 hO7 hS7 be bo
      go_wp2_with (go_at_call 16; refine (HY.out).mono ?_; rintro e w7 ⟨rfl, rfl⟩)
      go_fit (wakes_any _ hT7.out)
      rintro e w8 ⟨rfl, hb8⟩
      have hl8 := hl7.out.trans (hb8.mono hl7.out.size)
      clear HY hb8 hT7
      go_wp2
      go_ret
      exact ⟨rfl, hl8⟩
    · have hE0 : (prE raw != 0) = true := by simp [hE]
      clear hS5 hl5 hT5 hO5 hb5 hS hl hT hE
      go_wp2_with (first | (refine alc27 rfl rfl ?_) | (refine st27n (.tmp 9) (.tmp 40) rfl w5 zf nilS rfl rfl (prH raw) _ rfl rfl rfl ?_))
      go_fit (wakes_any _ hT6.out)
      rintro e w8 ⟨rfl, hb8⟩
      have hl8 := hl6.out.trans (hb8.mono hl6.out.size)
      clear hb8 hT6 hl6 hP6
      go_wp2
      go_ret
      exact ⟨rfl, hl8⟩
end Go.Proofs.YtgjglbailgeneaaDoor
