/-
  Proved here: a rule that came in holds what its cells read as, within the reach of every row (open_rule). No further condition.
-/
/-
  Proved here: FlowsNil says true for every rule and number. Condition: the widths' table holds its numbers.
-/
import Derived.Test.YtfbehaodhooaaaaGreatDoorEM
namespace Go.Proofs.YtfbehaodhooaaaaGreatDoor
set_option maxRecDepth 100000
open Go.ChangeShapes Go.WideShapes Go.ChangeAt Go.RowKit Go.Deep

theorem ok_struct {P : Program} {w : World} {r : Reach} {base : Nat} {params : Array TypeId} {args : Array Value} {t : TypeId} {fs : Array Field} (hval : ∀ (j : Nat) t v, params[j]? = some t → args[j]? = some v → Value.okWide P w r base t v) (hu : P.underlying t = some (.struct fs)) (j : Nat) (v : Value) (hp : params[j]? = some t) (ha : args[j]? = some v) : ∃ cs, v = .agg cs ∧ cs.size = P.cellsOf t := by
  have h := hval j t v hp ha
  unfold Value.okWide at h
  rw [hu] at h
  obtain ⟨cs, h1, h2, _⟩ := h
  exact ⟨cs, h1, h2⟩
/-- A RULE THAT CAME IN. -/
theorem open_rule {H : Type} {enc : TypeId × Value → H} {W : World} {v : Value} {d : DataW H} {p : List MemPlace} (hv0 : ∃ cs, v = .agg cs ∧ cs.size = Tryz.prog.cellsOf 35) (h0 : DataW.Trod enc Tryz.prog W 0 (fun _ => true) true 35 v d p) (hlt : ∀ y ∈ p, y.block < W.heap.size) (hw : ∀ n ∈ d.weights Tryz.prog 35, n ≤ reachBytes) :
    ∃ (x : Rl) (u : Value), v = .agg (rlc x u) ∧ x.Fit ∧ Cps (fun b => b < W.heap.size) W u x.cp := by
  obtain ⟨fuel, hf⟩ := h0
  obtain ⟨cs, rfl, hs⟩ := hv0
  obtain ⟨r, u, h1, h2, h3⟩ := open_rul hf hlt hw
  refine ⟨r, u, ?_, h3, h2⟩
  have : cs = rlc r u := by
    apply Array.ext_getElem?
    intro i
    rw [cellsRULE] at hs
    by_cases hi : i < 25
    · have := h1 i hi
      rw [← Array.getElem?_toList]; simpa [Value.cells] using this
    · rw [Array.getElem?_eq_none (by omega), Array.getElem?_eq_none (by rw [rc_size]; omega)]
  rw [this]
end Go.Proofs.YtfbehaodhooaaaaGreatDoor
namespace Go.Proofs.YtfbehaodhooaaaaGreatDoor
set_option maxRecDepth 100000
open Go.RowKit Go.Maps

theorem hvz : (Value.agg #[.int .u64 0, .int .u64 0, .int .u64 0, .int .u64 0, .int .u64 0, .int .u64 0, .int .u64 0, .int .u64 0, .int .u64 0, .int .u64 0, .int .u64 0]) = hv zf := by kernel_rfl
theorem one_new (w : World) (o : Obj) : Below w.heap.size w (w.alloc o) := (Below.refl _ _).alloc (Nat.le_refl _) _
set_option maxHeartbeats 800000 in
set_option maxRecDepth 100000 in
theorem nil_do (w : World) (r : Rl) (u : Value) : Calls Tryz.prog 11 #[.pointer none, .int .i8 0, .agg (rlc r u)] w fun e w' => e = .returned (.tuple #[.int .i64 0, .int .i64 1]) ∧ Below w.heap.size w w' := by
  have HB := hid (one_new w (.cells (rlc r u) 35))
  go_enter Tryz.func11, Tryz.ntmps11
  go_wp2
  refine bodyPost_ret (results_tmp2 rfl _ _ _) rfl ?_
  exact ⟨rfl, HB.out⟩
set_option maxHeartbeats 800000 in
set_option maxRecDepth 100000 in
theorem nil_helds (w : World) : Calls Tryz.prog 14 #[.pointer none] w fun e w' => e = .returned (.slice none 0 0) ∧ w' = w := by
  go_enter Tryz.func14, Tryz.ntmps14
  go_wp2
  go_ret
  exact ⟨rfl, rfl⟩
set_option maxHeartbeats 800000 in
set_option maxRecDepth 100000 in
theorem nil_gone (w : World) : Calls Tryz.prog 16 #[.pointer none] w fun e w' => e = .returned (.slice none 0 0) ∧ w' = w := by
  go_enter Tryz.func16, Tryz.ntmps16
  go_wp2
  go_ret
  exact ⟨rfl, rfl⟩
set_option maxHeartbeats 800000 in
set_option maxRecDepth 100000 in
theorem nil_find (w : World) (h : Nat → Int) (n : Int) : Calls Tryz.prog 8 #[.pointer none, hv h, .int .i64 n] w fun e w' => e = .returned (.tuple #[.agg (rc 0 zf nilS 0), .bool false]) ∧ Below w.heap.size w w' := by
  obtain ⟨W0, hW0⟩ : ∃ W0, W0 = (w.alloc (.cells (row 11 h) 30)).alloc (.cells (rc 0 zf nilS 0) 35) := ⟨_, rfl⟩
  have hB0 : Below w.heap.size w W0 := by rw [hW0]; exact ((Below.refl _ _).alloc (Nat.le_refl _) _).alloc (by simp) _
  have hY0 : W0.heap[w.heap.size + 1]? = some (.cells (rc 0 zf nilS 0) 35 (0, 0)) := by
    have := heap_alloc_new (w.alloc (.cells (row 11 h) 30)) (.cells (rc 0 zf nilS 0) 35)
    rw [World.size_alloc] at this
    rw [hW0]; exact this
  have HY0 := hid hY0
  have HWr : Hid ((W0.setRow (w.heap.size + 1) (rc 0 zf nilS 0)).heap[w.heap.size + 1]? = some (.cells (rc 0 zf nilS 0) 35 (0, 0))) := setRow_heap W0 _ _ _ _ _ hY0
  have HB : Hid (Below w.heap.size w (W0.setRow (w.heap.size + 1) (rc 0 zf nilS 0))) := below_setRow hB0 (by omega) _
  have HW0 := hid hW0
  clear hB0 hY0 hW0
  go_enter Tryz.func8, Tryz.ntmps8
  go_upto_region 1 with fail
  rw [← zero_rc, ← HW0.out]
  clear HW0
  go_wp2_with (first
    | (refine bldZ rfl rfl ?_)
    | (refine stRow 35 (.tmp 6) (.tmp 12) rfl rfl (w.heap.size + 1) (rc 0 zf nilS 0) rfl rfl 35 (rc 0 zf nilS 0) HY0.out (size_rl ⟨0, zf, [], 0⟩ nilS) rfl (rc_one rfl) ?_))
  exact bodyPost_ret (v := .tuple #[.agg (rc 0 zf nilS 0), .bool false]) (resFi _ _ (w.heap.size + 1) (rc 0 zf nilS 0) _ rfl rfl HWr.out (rc_size _ _ _ _)) rfl ⟨rfl, HB.out⟩
set_option maxHeartbeats 800000 in
set_option maxRecDepth 100000 in
theorem nil_copies (w : World) : Calls Tryz.prog 27 #[nilS, nilS] w fun e w' => e = .returned (.bool true) ∧ w' = w := by
  go_enter Tryz.func27, Tryz.ntmps27
  go_upto_region 4 with fail
  go_loopw [14] (fun i wr => i = .int .i64 0 ∧ wr = w) (fun _ _ => 0)
  case atStart => exact ⟨rfl, rfl⟩
  case round =>
    obtain ⟨rfl, rfl⟩ := hrel
    go_wp2
    go_ret
    exact ⟨rfl, rfl⟩
theorem eqM_refl (a : Nat → Int) : eqM a a = true := eqM_iff.2 fun _ _ => rfl
theorem eqlMat {ops : Array Oper} {rest : List Oper} {o : Oper} {a : Act} {w : World} {Q : Exit → Act → World → Prop} (x y : Operand) (ho : o.op = .binOp .eql 32 x y 32) (p q : Nat → Int) (hx : a.eval x = mv p) (hy : a.eval y = mv q) (hw : Region.wanted o (yielded ops a.tmps) = true)
    (h : wpList Tryz.prog ops Q rest (a.put o.dst (.bool (eqM p q))) w) : wpList Tryz.prog ops Q (o :: rest) a w := by
  unfold wpList
  rw [if_pos hw]
  refine Or.inl ?_
  unfold Oper.wp
  rw [runEqM x y ho p q hx hy]
  exact h
set_option maxHeartbeats 1600000 in
set_option maxRecDepth 100000 in
theorem nil_rule (w : World) : Calls Tryz.prog 10 #[.agg (rc 0 zf nilS 0), .agg (rc 0 zf nilS 0)] w fun e w' => e = .returned (.bool true) ∧ Below w.heap.size w w' := by
  obtain ⟨W0, hW0⟩ : ∃ W0, W0 = (w.alloc (.cells (rc 0 zf nilS 0) 35)).alloc (.cells (rc 0 zf nilS 0) 35) := ⟨_, rfl⟩
  have hB0 : Below w.heap.size w W0 := by rw [hW0]; exact ((Below.refl _ _).alloc (Nat.le_refl _) _).alloc (by simp) _
  have hX : W0.heap[w.heap.size]? = some (.cells (rc 0 zf nilS 0) 35 (0, 0)) := by rw [hW0, heap_alloc_old _ _ (by simp)]; exact heap_alloc_new _ _
  have hY : W0.heap[w.heap.size + 1]? = some (.cells (rc 0 zf nilS 0) 35 (0, 0)) := by
    have := heap_alloc_new (w.alloc (.cells (rc 0 zf nilS 0) 35)) (.cells (rc 0 zf nilS 0) 35)
    rw [World.size_alloc] at this
    rw [hW0]; exact this
  have cf : ∀ b, W0.heap[b]? = some (.cells (rc 0 zf nilS 0) 35 (0, 0)) → W0.cell? ⟨b, 0, none⟩ = some (.int .i64 0) ∧ W0.cell? ⟨b, 23, none⟩ = some nilS ∧ W0.cell? ⟨b, 24, none⟩ = some (.int .u64 0) ∧ W0.rangeAt b 1 (row 22 zf).toList := fun b hb => by
    refine ⟨?_, ?_, ?_, range_of fun i hi => ?_⟩
    · rw [cell_of_row _ _ _ _ _ _ hb]; exact rc_rank _ _ _ _
    · rw [cell_of_row _ _ _ _ _ _ hb]; exact (rc_cp _ _ _ _).1
    · rw [cell_of_row _ _ _ _ _ _ hb]; exact (rc_cp _ _ _ _).2
    · rw [row_size] at hi
      rw [cell_of_row _ _ _ _ _ _ hb, row_at 22 _ _ hi]; exact rc_mat _ _ _ _ _ hi
  obtain ⟨a0, a1, a2, A3⟩ := cf _ hX
  obtain ⟨b0, b1, b2, B3⟩ := cf _ hY
  have HA3 := hid A3
  have HB3 := hid B3
  have HB := hid hB0
  have HW0 := hid hW0
  clear A3 B3 hB0 hX hY cf hW0
  go_enter Tryz.func10, Tryz.ntmps10
  go_upto_region 1 with fail
  rw [← HW0.out]
  clear HW0
  go_wp2_with (first
    | (refine ldMid 32 (.tmp 11) rfl rfl w.heap.size 1 rfl (row 22 zf) _ Tryz.underlying32 rfl (size26 zf) HA3.out ?_)
    | (refine ldMid 32 (.tmp 13) rfl rfl (w.heap.size + 1) 1 rfl (row 22 zf) _ Tryz.underlying32 rfl (size26 zf) HB3.out ?_)
    | (refine eqlMat (.tmp 12) (.tmp 14) rfl zf zf rfl rfl rfl ?_; rw [eqM_refl])
    | (go_at_call 27; refine (nil_copies W0).mono ?_; rintro e w1 ⟨rfl, rfl⟩))
  go_ret
  exact ⟨rfl, HB.out⟩
set_option maxHeartbeats 1600000 in
set_option maxRecDepth 100000 in
theorem nil_any (w : World) (r : Rl) (u : Value) (n : Int) (ht : Tab w) : Calls Tryz.prog 4 #[.agg (rlc r u), .int .i64 n] w fun e w' => e = .returned (.bool true) ∧ Below w.heap.size w w' := by
  have HT := hid ht
  obtain ⟨W0, hW0⟩ : ∃ W0, W0 = w.alloc (.cells (rlc r u) 35) := ⟨_, rfl⟩
  have hB0 : Below w.heap.size w W0 := by rw [hW0]; exact one_new _ _
  have hX : W0.heap[w.heap.size]? = some (.cells (rlc r u) 35 (0, 0)) := by rw [hW0]; exact heap_alloc_new _ _
  have HX := hid hX
  have H1 : Hid (∀ x, Below W0.heap.size W0 x → Below w.heap.size w x) := fun x hb => hB0.trans (hb.mono hB0.size)
  have HF : Hid (∀ x, Below w.heap.size w x → Calls Tryz.prog 8 #[.pointer none, .agg #[.int .u64 0, .int .u64 0, .int .u64 0, .int .u64 0, .int .u64 0, .int .u64 0, .int .u64 0, .int .u64 0, .int .u64 0, .int .u64 0, .int .u64 0], .int .i64 n] x fun e w' => e = .returned (.tuple #[.agg (rc 0 zf nilS 0), .bool false]) ∧ Below w.heap.size w w') := fun x hb => by
    rw [hvz]
    exact (nil_find x zf n).mono fun e w' ⟨q1, q2⟩ => ⟨q1, hb.trans (q2.mono hb.size)⟩
  have HR : Hid (∀ x, Below w.heap.size w x → Calls Tryz.prog 10 #[.agg (rc 0 zf nilS 0), .agg (rc 0 zf nilS 0)] (x.alloc (.cells (rc 0 zf nilS 0) 35)) fun e w' => e = .returned (.bool true) ∧ Below w.heap.size w w') := fun x hb => (nil_rule _).mono fun e w' ⟨q1, q2⟩ => ⟨q1, (hb.alloc hb.size _).trans (q2.mono (hb.alloc hb.size _).size)⟩
  have HW : Hid (∀ x, Below w.heap.size w x → Calls Tryz.prog 18 #[] x fun e w' => e = .returned (.bool true) ∧ Below w.heap.size w w') := fun x hb => (wakes_any x (HT.out.on hb)).mono fun e w' ⟨q1, q2⟩ => ⟨q1, hb.trans (q2.mono hb.size)⟩
  have HW0 := hid hW0
  clear ht hB0 hX hW0
  go_enter Tryz.func4, Tryz.ntmps4
  go_upto_region 1 with fail
  rw [← HW0.out]
  clear HW0
  go_wp2_with (first
    | (refine ldRow 35 (.tmp 2) rfl rfl w.heap.size rfl 35 (rlc r u) _ Tryz.underlying35 rfl (size_rl _ _) HX.out ?_)
    | (go_at_call 11; refine (nil_do W0 r u).mono ?_; rintro e x1 ⟨rfl, h1⟩; have HB1 := hid (H1.out x1 h1); clear h1)
    | (go_at_call 8; refine (HF.out x1 HB1.out).mono ?_; rintro e x2 ⟨rfl, h2⟩; have HB2 := hid h2; clear h2)
    | (refine stNew 35 (.tmp 8) (.tmp 21) rfl rfl x2 35 _ (rc 0 zf nilS 0) rfl rfl rfl (size_rl ⟨0, zf, [], 0⟩ nilS) rfl (rc_one rfl) ?_)
    | (refine ldRow 35 (.tmp 8) rfl rfl x2.heap.size rfl 35 (rc 0 zf nilS 0) _ Tryz.underlying35 rfl (size_rl ⟨0, zf, [], 0⟩ nilS) (heap_alloc_new _ _) ?_)
    | (refine bldZ rfl rfl ?_)
    | (go_at_call 10; refine (HR.out x2 HB2.out).mono ?_; rintro e x3 ⟨rfl, h3⟩; have HB3 := hid h3; clear h3)
    | (go_at_call 14; refine (nil_helds x3).mono ?_; rintro e x4 ⟨rfl, rfl⟩)
    | (go_at_call 16; refine (nil_gone _).mono ?_; rintro e x5 ⟨rfl, rfl⟩)
    | (go_at_call 18; refine (HW.out _ HB3.out).mono ?_; rintro e x6 ⟨rfl, h6⟩; have HB6 := hid h6; clear h6))
  go_ret
  exact ⟨rfl, HB6.out⟩
end Go.Proofs.YtfbehaodhooaaaaGreatDoor
