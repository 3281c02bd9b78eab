/-
  Proved here: the reader's methods word, takes, expect; must; over. Conditions: the reader stands at one of its words.
-/
import Derived.Test.YtoncogkamlgjhaaGreatDoorFB1
namespace Go.Proofs.YtoncogkamlgjhaaGreatDoor
set_option maxRecDepth 100000
open Go.RowKit
set_option maxRecDepth 100000

theorem szWd (x : Wd) : (Tryz.prog.info? 52).map (·.size) = some (wdc x).size := by kernel_rfl
theorem wd1b (x : Wd) : (wdc x).all (·.oneCell') = true := by simp [Value.oneCell']
theorem runLd {o : Oper} {a : Act} {w' : World} (ty : TypeId) (x : Operand) (ho : o.op = .load ty x) (g p : Nat) (hx : a.eval x = .pointer (some ⟨g, p, none⟩)) (cs : Array Value) (d : TypeDesc) (hg : w'.rangeAt g p cs.toList) (hu : Tryz.prog.underlying ty = some d) (hd : d.isRow = true) (hi : (Tryz.prog.info? ty).map (·.size) = some cs.size) : (execOp a.eval o).run Tryz.prog w' = .ok (.value (.agg cs)) w' := by
  unfold execOp
  simp only [ho, hx, Instr.loadAt, Instr.sureAddr, Sem.run_bind, Sem.run_pure, Result.andThen_ok, run_loadVar_mid w' g p ty cs.toList d hg hu hd (by rw [hi]; simp), Array.toArray_toList]
theorem ready_stt {md : Region.Mode} {ops : Array Oper} {Q : Exit → Act → World → Prop} {S : World → Prop} {fuel : Nat} {listed : Array Bool} {a : Act} {w : World} (i : Nat) (o : Oper) (hr : Region.ready md ops listed = [i]) (ho : ops[i]? = some o) (ty : TypeId) (x y : Operand) (hop : o.op = .store ty x y) (hg : o.guard = none)
    (g : Nat) (cs : Array Value) (hx : a.eval x = .pointer (some ⟨g, 0, none⟩)) (hy : a.eval y = .agg cs) (t : TypeId) (zs : Array Value) (hgb : w.heap[g]? = some (.cells zs t (0, 0))) (hi : (Tryz.prog.info? ty).map (·.size) = some cs.size) (hz : zs.size = cs.size) (h1 : cs.all (·.oneCell') = true)
    (hk : S (w.setRow g cs) ∧ wpAnyH Tryz.prog md ops Q S fuel (listed.setIfInBounds i true) (a.put o.dst undef) (w.setRow g cs)) : wpAnyH Tryz.prog md ops Q S (fuel + 1) listed a w := by
  refine ready_one i o hr ho ?_
  have hw : Region.wanted o (yielded ops a.tmps) = true := by simp [Region.wanted, hg]
  rw [if_pos hw]
  exact wp_store_row ty x y hop g cs hx hy t zs hgb hi hz h1 hk
theorem bel_row {B : Nat} {w w' : World} (h : Below B w w') {g : Nat} (hg : B ≤ g) (cs : Array Value) : Below B w (w'.setRow g cs) :=
  h.trans ⟨rfl, rfl, rfl, by simp [World.setRow], fun k hk => setRow_other w' g k _ (by omega)⟩
theorem bel_drew {b : Nat} {w w' : World} (h : Below b w w') : Below b w w'.drew := ⟨h.os, h.tape, h.output, h.size, h.block⟩
/-- what the method word looks at -/
structure Wr (r g p i n cap o : Nat) (x : Wd) (W : World) : Prop where
  c0 : W.cell? ⟨r, 0, none⟩ = some (.slice (some ⟨g, o, none⟩) n cap)
  c1 : W.cell? ⟨r, 1, none⟩ = some (.int .i64 ((i : Nat) : Int))
  ra : W.rangeAt g p (wdc x).toList
theorem Wr.on {r g p i n cap o : Nat} {x : Wd} {W W' : World} (h : Wr r g p i n cap o x W) (hr : W'.heap[r]? = W.heap[r]?) (hg : W'.heap[g]? = W.heap[g]?) : Wr r g p i n cap o x W' :=
  ⟨(cell_same hr).trans h.c0, (cell_same hr).trans h.c1, fun j v hj => (cell_same hg).trans (h.ra j v hj)⟩
set_option maxHeartbeats 1600000 in
theorem word_any {l : List Wd} {r m : Nat} {ws : Value} {i : Nat} {W : World} (h : RdM l r m ws i W) (hi : i < l.length) (_hb : l.length ≤ 2147483648) : Calls Tryz.prog 14 #[ptr r] W fun e W' => e = .returned (.agg (wdc (wat l i))) ∧ Below W.heap.size W W' := by
  obtain ⟨g, o, cap, rfl, hc, hg, hra⟩ := h.word hi
  have hlt := h.lt
  obtain ⟨W1, hW1⟩ : ∃ W1, W1 = W.alloc (.cells (wdc wz) 52) := ⟨_, rfl⟩
  have HB1 : Hid (Below W.heap.size W W1) := by rw [hW1]; exact (Below.refl _ _).alloc (Nat.le_refl _) _
  have hW : Wr r g (o + i * 4) i l.length cap o (wat l i) W := ⟨h.c0, h.c1, hra⟩
  have HW1 : Hid (Wr r g (o + i * 4) i l.length cap o (wat l i) W1) := hW.on (HB1.out.block _ hlt) (HB1.out.block _ (by omega))
  have HN : Hid (W1.heap[W.heap.size]? = some (.cells (wdc wz) 52 (0, 0))) := by rw [hW1]; exact heap_alloc_new _ _
  have HE : Hid (W.alloc (.cells #[.int .i8 0, .string ⟨#[]⟩, .int .u64 0, .int .i64 0] 52) = W1) := hW1.symm
  clear hW1
  generalize wat l i = x at HW1 ⊢
  generalize l.length = n at hi hc HW1 ⊢
  clear hW hra h
  have hic : i < cap := by omega
  go_enter Tryz.func14, Tryz.ntmps14
  go_upto_region 1 with fail
  rw [show W.alloc (.cells #[.int .i8 0, .string ⟨#[]⟩, .int .u64 0, .int .i64 0] 52) = W1 from HE.out]
  clear HE
  refine wp_region_held_drew (S := Wr r g (o + i * 4) i n cap o x) (by kernel_rfl) (HW1.out.on rfl rfl) (fun hHeld => ?_)
  refine wpAnyH_take (i := 0) (v := ?_) rfl (by kernel_rfl) (by kernel_rfl) (by kernel_rfl) (fun _ _ _ h => h) (Or.inl ⟨by rfl, ?_⟩) hHeld ?_
  rotate_left
  · intro w' hSw
    have c0 := hSw.c0
    have c1 := hSw.c1
    clear hSw
    go_simp
    first | done | with_reducible rfl
  simp only [Act.put, List.getElem_toArray, List.getElem_cons_zero, List.setIfInBounds_toArray, List.set_cons_zero, List.set_cons_succ]
  refine wpAnyH_take (i := 1) (v := ?_) rfl (by kernel_rfl) (by kernel_rfl) (by kernel_rfl) (fun _ _ _ h => h) (Or.inl ⟨by rfl, ?_⟩) hHeld ?_
  rotate_left
  · intro w' hSw
    have c0 := hSw.c0
    have c1 := hSw.c1
    clear hSw
    go_simp
    first | done | with_reducible rfl
  simp only [Act.put, List.getElem_toArray, List.getElem_cons_succ, List.getElem_cons_zero, List.setIfInBounds_toArray, List.set_cons_zero, List.set_cons_succ]
  refine wpAnyH_take (i := 2) (v := ?_) rfl (by kernel_rfl) (by kernel_rfl) (by kernel_rfl) (fun _ _ _ h => h) (Or.inl ⟨by rfl, ?_⟩) hHeld ?_
  rotate_left
  · intro w' hSw
    have c0 := hSw.c0
    have c1 := hSw.c1
    clear hSw
    go_simp
    first | done | with_reducible rfl
  simp only [Act.put, List.getElem_toArray, List.getElem_cons_succ, List.getElem_cons_zero, List.setIfInBounds_toArray, List.set_cons_zero, List.set_cons_succ]
  refine wpAnyH_take (i := 3) (v := ?_) rfl (by kernel_rfl) (by kernel_rfl) (by kernel_rfl) (fun _ _ _ h => h) (Or.inl ⟨by rfl, ?_⟩) hHeld ?_
  rotate_left
  · intro w' hSw
    have c0 := hSw.c0
    have c1 := hSw.c1
    clear hSw
    go_simp
    first | done | with_reducible rfl
  simp only [Act.put, List.getElem_toArray, List.getElem_cons_succ, List.getElem_cons_zero, List.setIfInBounds_toArray, List.set_cons_zero, List.set_cons_succ]
  refine wpAnyH_take (i := 4) (v := ?_) rfl (by kernel_rfl) (by kernel_rfl) (by kernel_rfl) (fun _ _ _ h => h) (Or.inl ⟨by rfl, ?_⟩) hHeld ?_
  rotate_left
  · intro w' hSw
    have c0 := hSw.c0
    have c1 := hSw.c1
    clear hSw
    go_simp
    first | done | with_reducible rfl
  simp only [Act.put, List.getElem_toArray, List.getElem_cons_succ, List.getElem_cons_zero, List.setIfInBounds_toArray, List.set_cons_zero, List.set_cons_succ]
  refine wpAnyH_take (i := 5) (v := ?_) rfl (by kernel_rfl) (by kernel_rfl) (by kernel_rfl) (fun _ _ _ h => h) (Or.inl ⟨by rfl, ?_⟩) hHeld ?_
  rotate_left
  · intro w' hSw
    have c0 := hSw.c0
    have c1 := hSw.c1
    clear hSw
    go_simp
    first | done | with_reducible rfl
  simp only [Act.put, List.getElem_toArray, List.getElem_cons_succ, List.getElem_cons_zero, List.setIfInBounds_toArray, List.set_cons_zero, List.set_cons_succ]
  refine wpAnyH_take (i := 6) (v := ?_) rfl (by kernel_rfl) (by kernel_rfl) (by kernel_rfl) (fun _ _ _ h => h) (Or.inl ⟨by rfl, ?_⟩) hHeld ?_
  rotate_left
  · intro w' hSw
    have c0 := hSw.c0
    have c1 := hSw.c1
    clear hSw
    go_simp
    first | done | with_reducible rfl
  simp only [Act.put, List.getElem_toArray, List.getElem_cons_succ, List.getElem_cons_zero, List.setIfInBounds_toArray, List.set_cons_zero, List.set_cons_succ]
  refine wpAnyH_take (i := 7) (v := ?_) rfl (by kernel_rfl) (by kernel_rfl) (by kernel_rfl) (fun _ _ _ h => h) (Or.inl ⟨by rfl, ?_⟩) hHeld ?_
  rotate_left
  · intro w' hSw
    have c0 := hSw.c0
    have c1 := hSw.c1
    clear hSw
    go_simp
    first | done | with_reducible rfl
  simp only [Act.put, List.getElem_toArray, List.getElem_cons_succ, List.getElem_cons_zero, List.setIfInBounds_toArray, List.set_cons_zero, List.set_cons_succ]
  refine wpAnyH_take (i := 8) (v := ?_) rfl (by kernel_rfl) (by kernel_rfl) (by kernel_rfl) (fun _ _ _ h => h) (Or.inl ⟨by rfl, ?_⟩) hHeld ?_
  rotate_left
  · intro w' hSw
    clear hSw
    go_simp
    first | done | with_reducible rfl
  simp only [Act.put, List.getElem_toArray, List.getElem_cons_succ, List.getElem_cons_zero, List.setIfInBounds_toArray, List.set_cons_zero, List.set_cons_succ]
  refine wpAnyH_take (i := 9) (v := .agg (wdc x)) rfl (by kernel_rfl) (by kernel_rfl) (by kernel_rfl) (fun _ _ _ h => h) (Or.inl ⟨by rfl, ?_⟩) hHeld ?_
  · intro w' hSw
    exact runLd 52 (.tmp 11) rfl g (o + i * 4) rfl (wdc x) _ hSw.ra Tryz.underlying52 rfl (szWd x)
  simp only [Act.put, List.getElem_toArray, List.getElem_cons_succ, List.getElem_cons_zero, List.setIfInBounds_toArray, List.set_cons_zero, List.set_cons_succ]
  refine ready_stt 10 _ (by kernel_rfl) rfl 52 (.tmp 2) (.tmp 12) rfl rfl W.heap.size (wdc x) rfl rfl 52 _ HN.out (szWd _) rfl (wd1b _) ?_
  refine ⟨HW1.out.on (setRow_other W1.drew W.heap.size r _ (by omega)) (setRow_other W1.drew W.heap.size g _ (by omega)), ?_⟩
  simp only [Act.put, List.getElem_toArray, List.getElem_cons_succ, List.getElem_cons_zero]
  refine wpAnyH_done (by kernel_rfl) ?_ _
  have hF := setRow_heap W1.drew W.heap.size (wdc wz) (wdc x) 52 _ HN.out
  have hBF : Below W.heap.size W (W1.drew.setRow W.heap.size (wdc x)) := bel_row (bel_drew HB1.out) (Nat.le_refl _) _
  go_wp2
  exact bodyPost_ret (v := .agg (wdc x)) (results_cell_row Tryz.results14 _ _ W.heap.size 52 (wdc x) (0, 0) _ rfl hF Tryz.underlying52 rfl (szWd x)) rfl ⟨rfl, hBF⟩

abbrev PC : List PanicEntry := [{ v := .iface 30 (.int .i64 160), recovered := false }]
theorem must_true (w : World) : Calls Tryz.prog 34 #[.bool true] w fun e w' => e = .returned (.tuple #[]) ∧ w' = w := by
  go_enter Tryz.func34, Tryz.ntmps34
  go_wp2
  first | go_end0 | refine bodyPost_ret (results_none rfl _ _ _) rfl ?_
  exact ⟨rfl, rfl⟩
theorem must_false (w : World) : Calls Tryz.prog 34 #[.bool false] w fun e w' => e = .panicked PC ∧ w' = w := by
  go_enter Tryz.func34, Tryz.ntmps34
  go_wp2
  exact ⟨rfl, rfl, rfl⟩
/-- the same, spelt out -/
theorem word_at {l : List Wd} {r m : Nat} {ws : Value} {i : Nat} {W : World} (h : RdM l r m ws i W) (hi : i < l.length) (hb : l.length ≤ 2147483648) : Calls Tryz.prog 14 #[ptr r] W fun e W' => e = .returned (.agg #[.int .i8 (((wat l i).k : Nat) : Int), .string (wat l i).t, .int .u64 (((wat l i).n : Nat) : Int), .int .i64 (((wat l i).at' : Nat) : Int)]) ∧ Below W.heap.size W W' := word_any h hi hb
theorem run_w0 (k n a : Int) (t : ByteArray) (W : World) : (Instr.field 52 (.agg #[.int .i8 k, .string t, .int .u64 n, .int .i64 a]) 0).run Tryz.prog W = .ok (.int .i8 k) W := by kernel_rfl
theorem run_w1 (k n a : Int) (t : ByteArray) (W : World) : (Instr.field 52 (.agg #[.int .i8 k, .string t, .int .u64 n, .int .i64 a]) 1).run Tryz.prog W = .ok (.string t) W := by kernel_rfl
theorem str_t {s t : ByteArray} (h : decide (s = t) = true) : (s.toList == t.toList) = true := by rw [of_decide_eq_true h]; exact beq_self_eq_true _
theorem str_f {s t : ByteArray} (h : decide (s = t) = false) : (s.toList == t.toList) = false := by
  rw [Bool.eq_false_iff]; intro e
  have e' : s.toList = t.toList := eq_of_beq e
  rw [ByteArray.toList_eq, ByteArray.toList_eq] at e'
  exact of_decide_eq_false h (ByteArray.ext (Array.ext' e'))
theorem str_b {s t : ByteArray} {b : Bool} (h : decide (s = t) = b) : (s.toList == t.toList) = b := by
  cases b
  · exact str_f h
  · exact str_t h
set_option maxHeartbeats 1600000 in
theorem takes_any {l : List Wd} {r m : Nat} {ws : Value} {i : Nat} {W : World} (h : RdM l r m ws i W) (hi : i < l.length) (hb : l.length ≤ 2147483648) (q : ByteArray) : Calls Tryz.prog 30 #[ptr r, .string q] W fun e W' => e = .returned (.bool (tk l i q)) ∧ Only (Rn r W) W W' ∧ RdM l r m ws (if tk l i q = true then i + 1 else i) W' := by
  have HW := hid (word_at h hi hb)
  have HR := hid h
  have hw1 : IntKind.i64.wrap ((i : Int) + 1) = (i : Int) + 1 := by rw [IntKind.wrap_i64]; omega
  have hk : ∀ b, tk l i q = b → ((wat l i).t.toList == q.toList) = b := fun b hb => str_b hb
  generalize wat l i = x at HW hk
  obtain ⟨xk, xt, xn, xa⟩ := x
  simp only at HW hk
  have hfd := fun W => run_w1 (xk : Int) (xn : Int) (xa : Int) xt W
  cases ht : tk l i q with
  | true =>
    have hs := hk _ ht
    clear ht h hi hk
    go_enter Tryz.func30, Tryz.ntmps30
    go_wp2_with (go_at_call 14; refine (HW.out).mono ?_; rintro e w' ⟨rfl, hw⟩; have HR2 := hid (HR.out.on hw); have hc1 := HR2.out.c1; have hf1 := HR2.out.f1; have HB := hid hw; clear hw)
    go_ret
    have hq := HR2.out.go (i + 1)
    rw [show (((i + 1 : Nat) : Nat) : Int) = (i : Int) + 1 by omega] at hq
    exact ⟨rfl, ((Only.refl _ W).bel HB.out).thn hq.2, hq.1⟩
  | false =>
    have hs := hk _ ht
    clear ht h hi hk
    go_enter Tryz.func30, Tryz.ntmps30
    go_wp2_with (go_at_call 14; refine (HW.out).mono ?_; rintro e w' ⟨rfl, hw⟩; have HR2 := hid (HR.out.on hw); have HB := hid hw; clear hw)
    go_ret
    exact ⟨rfl, (Only.refl _ W).bel HB.out, HR2.out⟩
end Go.Proofs.YtoncogkamlgjhaaGreatDoor
