/-
  Proved here: the reader's method fieldAndNumber. Conditions: the reader stands at one of its words; no word has more than 65536 bytes.
-/
import Derived.Test.YtoncogkamlgjhaaGreatDoorFB5
namespace Go.Proofs.YtoncogkamlgjhaaGreatDoor
set_option maxRecDepth 100000
open Go.RowKit
set_option maxRecDepth 100000

section
variable {ops : Array Oper} {o : Oper} {a : Act} {w : World} {K : Act → World → Prop} {Q : Exit → Act → World → Prop} {E : Prop}
/-- A call of a Go function as a step of a region that draws its order. -/
theorem stepFnW (f : FuncId) (y : Operand) (xs : List Operand) (ts : Array TypeId) (args : List Value) (hop : o.op = .call { callee := .value y, args := xs.toArray, argTypes := ts }) (hw : Region.wanted o (yielded ops a.tmps) = true) (hy : a.eval y = .func (.func f) #[] #[]) (hx : xs.map a.eval = args) (hE : ∀ w, (callFunc f args.toArray).run Tryz.prog w = .ok (.enter f args.toArray) w)
    (Φ : Ending → World → Prop) (hC : Calls Tryz.prog f args.toArray w Φ) (hK : ∀ e w', Φ e w' → (∃ v, e = .returned v ∧ K (a.put o.dst v) w') ∨ ∃ ch, e = .panicked ch ∧ Q (.panic ch) a w') : if Region.wanted o (yielded ops a.tmps) = true then Oper.wp Tryz.prog o a w K Q else E := by
  rw [if_pos hw]
  have hrun : (execOp a.eval o).run Tryz.prog w = .ok (.enter f args.toArray) w := by
    unfold execOp
    simp only [hop, resolve, invoke, Deferred.ofValue, hy, Sem.run_bind, Sem.run_pure, Result.andThen_ok, List.map_toArray, hx, Array.append_empty, Array.empty_append, hE]
  show Oper.upon Tryz.prog o a K Q ((execOp a.eval o).run Tryz.prog w)
  rw [hrun, Oper.upon_enter]
  refine hC.mono ?_
  intro e w' h
  rcases hK e w' h with ⟨v, rfl, hk⟩ | ⟨ch, rfl, hk⟩
  · exact hk
  · exact hk
end
theorem runLk {o : Oper} {a : Act} {w' : World} {t : TypeId} (m x : Operand) (ho : o.op = .lookup t m x true) {b : Nat} {s : ByteArray} {v : Value} (hm : a.eval m = .map (some b)) (hx : a.eval x = .string s) (h : (Instr.lookup t (.map (some b)) (.string s) true).run Tryz.prog w' = .ok v w') : (execOp a.eval o).run Tryz.prog w' = .ok (.value v) w' := by
  unfold execOp
  simp [ho, hm, hx, h, Result.andThen]
theorem runFd {o : Oper} {a : Act} {w' : World} {t : TypeId} (x : Operand) (k : Nat) (ho : o.op = .field t x k) {u v : Value} (hx : a.eval x = u) (h : (Instr.field t u k).run Tryz.prog w' = .ok v w') : (execOp a.eval o).run Tryz.prog w' = .ok (.value v) w' := by
  unfold execOp
  simp [ho, hx, h, Result.andThen]
theorem zero8 (w : World) : (zeroValue 22).run Tryz.prog w = .ok (.int .i8 0) w := by kernel_rfl
theorem RdM.look {l : List Wd} {r m : Nat} {ws : Value} {i : Nat} {W : World} (h : RdM l r m ws i W) (s : ByteArray) (hs : s.size ≤ 65536) : (Instr.lookup 47 (.map (some m)) (.string s) true).run Tryz.prog W = .ok (.tuple #[((fdOf s).map fun f => Value.int .i8 ((f : Nat) : Int)).getD (.int .i8 0), .bool (fdOf s).isSome]) W := by
  obtain ⟨n, hm⟩ := h.mp
  have := hm.look_ok lawS Tryz.underlying47 (zero8 W) (key_s (s := s) (by unfold maxLen; omega))
  rw [this, fT_lay]
  simp
theorem pair_bad1 {l : List Wd} {op : Nat} {sg : ByteArray} {i : Nat} (h : fdOf (wat l i).t = none) : pair l op sg i = .bad i := by unfold pair; rw [h]
theorem pair_bad2 {l : List Wd} {op : Nat} {sg : ByteArray} {i f : Nat} (h : fdOf (wat l i).t = some f) (ht : tk l (i + 1) sg = false) : pair l op sg i = .bad (i + 1) := by unfold pair; rw [h]; simp [ht]
theorem pair_bad3 {l : List Wd} {op : Nat} {sg : ByteArray} {i f : Nat} (h : fdOf (wat l i).t = some f) (ht : tk l (i + 1) sg = true) (hk : ¬ (wat l (i + 2)).k = 2) : pair l op sg i = .bad (i + 2) := by unfold pair; rw [h]; simp [ht, hk]
theorem pair_ok {l : List Wd} {op : Nat} {sg : ByteArray} {i f : Nat} (h : fdOf (wat l i).t = some f) (ht : tk l (i + 1) sg = true) (hk : (wat l (i + 2)).k = 2) : pair l op sg i = .ok (.mk op f (wat l (i + 2)).n []) (i + 3) := by unfold pair; rw [h]; simp [ht, hk]
theorem run_bt012 (op f n : Int) (W : World) : (Instr.build 26 #[(0, .int .i8 op), (1, .int .i8 f), (2, .int .u64 n)]).run Tryz.prog W = .ok (.agg #[.int .i8 op, .int .i8 f, .int .u64 n, .slice none 0 0]) W := by kernel_rfl
/-- four cells of a block -/
theorem four_cells {w : World} {b t : Nat} {x0 x1 x2 x3 : Value} (h : w.heap[b]? = some (.cells #[x0, x1, x2, x3] t (0, 0))) : w.cell? ⟨b, 0, none⟩ = some x0 ∧ w.cell? ⟨b, 1, none⟩ = some x1 ∧ w.cell? ⟨b, 2, none⟩ = some x2 ∧ w.cell? ⟨b, 3, none⟩ = some x3 :=
  ⟨(cell_of_row _ _ _ _ _ _ h).trans rfl, (cell_of_row _ _ _ _ _ _ h).trans rfl, (cell_of_row _ _ _ _ _ _ h).trans rfl, (cell_of_row _ _ _ _ _ _ h).trans rfl⟩
set_option maxHeartbeats 6400000 in
theorem pair_any {l : List Wd} {r m : Nat} {ws : Value} {i : Nat} {W : World} (h : RdM l r m ws i W) (hi : i < l.length) (hb : l.length ≤ 100000) (hcl : Cl l) (hts : ∀ k, (wat l k).t.size ≤ 65536) (op : Nat) (sg : ByteArray) (hsg : sg ≠ ⟨#[]⟩) :
    Calls Tryz.prog 84 #[ptr r, .int .i8 ((op : Nat) : Int), .string sg] W (RdP l r m ws (pair l op sg i) W) := by
  have hlt := h.lt
  obtain ⟨W1, hW1⟩ : ∃ W1, W1 = W.alloc (.cells (tmc 0 0 0 nilS) 26) := ⟨_, rfl⟩
  have hB1 : Below W.heap.size W W1 := by rw [hW1]; exact (Below.refl _ _).alloc (Nat.le_refl _) _
  have HZ1 : Hid (W1.heap[W.heap.size]? = some (.cells (tmc 0 0 0 nilS) 26 (0, 0))) := by rw [hW1]; exact heap_alloc_new _ _
  have hz1 : W1.heap.size = W.heap.size + 1 := by rw [hW1]; simp
  have HE : Hid (W.alloc (.cells #[.int .i8 0, .int .i8 0, .int .u64 0, .slice none 0 0] 26) = W1) := hW1.symm
  have HR1 := hid (h.on hB1)
  have HO1 : Hid (Only (Rn r W) W W1) := Only.of hB1 fun _ hk => Or.inr hk
  have HRD : Hid (RdM l r m ws i W1.drew) := ⟨HR1.out.blk, HR1.out.wds, HR1.out.mp, HR1.out.mlt⟩
  have HWd := hid (word_at HRD.out hi (by omega))
  have HLk : Hid (∀ w', RdM l r m ws i w' → (Instr.lookup 47 (.map (some m)) (.string (wat l i).t) true).run Tryz.prog w' = .ok (.tuple #[((fdOf (wat l i).t).map fun f => Value.int .i8 ((f : Nat) : Int)).getD (.int .i8 0), .bool (fdOf (wat l i).t).isSome]) w') := fun w' hw => hw.look _ (hts i)
  have HB0 : Hid (fdOf (wat l i).t = none → pair l op sg i = .bad i) := pair_bad1
  have HB2 : Hid (∀ f, fdOf (wat l i).t = some f → tk l (i + 1) sg = false → pair l op sg i = .bad (i + 1)) := fun f => pair_bad2
  have HB3 : Hid (∀ f, fdOf (wat l i).t = some f → tk l (i + 1) sg = true → ¬ (wat l (i + 2)).k = 2 → pair l op sg i = .bad (i + 2)) := fun f => pair_bad3
  have HB4 : Hid (∀ f, fdOf (wat l i).t = some f → tk l (i + 1) sg = true → (wat l (i + 2)).k = 2 → pair l op sg i = .ok (.mk op f (wat l (i + 2)).n []) (i + 3)) := fun f => pair_ok
  have HFl : Hid (∀ f, fdOf (wat l i).t = some f → i + 1 < l.length) := fun f hf => fd_lt hcl hi hf
  have HCl := hid hcl
  have HSg := hid hsg
  generalize wat l i = x at HWd HLk HB0 HB2 HB3 HB4 HFl
  obtain ⟨xk, xt, xn, xa⟩ := x
  simp only at HWd HLk HB0 HB2 HB3 HB4 HFl
  clear h hts hcl hsg hB1 hW1
  cases hfd : fdOf xt with
  | none =>
    simp only [hfd, Option.map_none, Option.getD_none, Option.isSome_none] at HLk
    have HJ := hid (HB0.out hfd)
    rw [HJ.out]
    clear HB0 HB2 HB3 HB4 HFl hfd
    go_enter Tryz.func84, Tryz.ntmps84
    go_upto_region 1 with fail
    rw [show W.alloc (.cells #[.int .i8 0, .int .i8 0, .int .u64 0, .slice none 0 0] 26) = W1 from HE.out]
    refine wp_region_held_drew (S := RdM l r m ws i) (by kernel_rfl) HRD.out (fun hHeld => ?_)
    refine wpAnyH_take (i := 0) (v := ?_) rfl (by kernel_rfl) (by kernel_rfl) (by kernel_rfl) (fun _ _ _ h => h) (Or.inl ⟨by rfl, ?_⟩) hHeld ?_
    rotate_left
    · intro w' hSw
      have c2 := hSw.c2
      clear hSw
      go_simp
      first | done | with_reducible rfl
    simp only [Act.put, List.getElem_toArray, List.getElem_cons_zero, List.setIfInBounds_toArray, List.set_cons_zero, List.set_cons_succ]
    refine wpAnyH_take (i := 1) (v := ?_) rfl (by kernel_rfl) (by kernel_rfl) (by kernel_rfl) (fun _ _ _ h => h) (Or.inl ⟨by rfl, ?_⟩) hHeld ?_
    rotate_left
    · intro w' hSw
      have c2 := hSw.c2
      clear hSw
      go_simp
      first | done | with_reducible rfl
    simp only [Act.put, List.getElem_toArray, List.getElem_cons_succ, List.getElem_cons_zero, List.setIfInBounds_toArray, List.set_cons_zero, List.set_cons_succ]
    refine wpAnyH_take (i := 2) (v := ?_) rfl (by kernel_rfl) (by kernel_rfl) (by kernel_rfl) (fun _ _ _ h => h) (Or.inl ⟨by rfl, ?_⟩) hHeld ?_
    rotate_left
    · intro w' hSw
      have c2 := hSw.c2
      clear hSw
      go_simp
      first | done | with_reducible rfl
    simp only [Act.put, List.getElem_toArray, List.getElem_cons_succ, List.getElem_cons_zero, List.setIfInBounds_toArray, List.set_cons_zero, List.set_cons_succ]
    refine wpAnyH_take (i := 3) (v := ?_) rfl (by kernel_rfl) (by kernel_rfl) (by kernel_rfl) (fun _ _ _ h => h) (Or.inl ⟨by rfl, ?_⟩) hHeld ?_
    rotate_left
    · intro w' hSw
      have c2 := hSw.c2
      clear hSw
      go_simp
      first | done | with_reducible rfl
    simp only [Act.put, List.getElem_toArray, List.getElem_cons_succ, List.getElem_cons_zero, List.setIfInBounds_toArray, List.set_cons_zero, List.set_cons_succ]
    refine wpAnyH_take (i := 4) (v := ?_) rfl (by kernel_rfl) (by kernel_rfl) (by kernel_rfl) (fun _ _ _ h => h) (Or.inl ⟨by rfl, ?_⟩) hHeld ?_
    rotate_left
    · intro w' hSw
      have c2 := hSw.c2
      clear hSw
      go_simp
      first | done | with_reducible rfl
    simp only [Act.put, List.getElem_toArray, List.getElem_cons_succ, List.getElem_cons_zero, List.setIfInBounds_toArray, List.set_cons_zero, List.set_cons_succ]
    refine ready_one 5 _ (by kernel_rfl) rfl (stepFnW 14 (.func 14) [.tmp 15] _ [ptr r] rfl rfl rfl rfl (fun _ => rfl) _ HWd.out ?_)
    rintro e w2 ⟨rfl, hw⟩
    refine Or.inl ⟨_, rfl, ?_⟩
    have hHeld := HRD.out.on hw
    have HB := hid hw
    clear hw
    refine ⟨hHeld, ?_⟩
    simp only [Act.put, List.getElem_toArray, List.getElem_cons_succ, List.getElem_cons_zero, List.setIfInBounds_toArray, List.set_cons_zero, List.set_cons_succ]
    refine wpAnyH_take (i := 6) (v := .string xt) rfl (by kernel_rfl) (by kernel_rfl) (by kernel_rfl) (fun _ _ _ h => h) (Or.inl ⟨by rfl, ?_⟩) hHeld ?_
    · intro w' hSw
      exact runFd (.tmp 16) 1 rfl rfl (run_w1 _ _ _ _ _)
    simp only [Act.put, List.getElem_toArray, List.getElem_cons_succ, List.getElem_cons_zero, List.setIfInBounds_toArray, List.set_cons_zero, List.set_cons_succ]
    refine wpAnyH_take (i := 7) (v := .tuple #[.int .i8 0, .bool false]) rfl (by kernel_rfl) (by kernel_rfl) (by kernel_rfl) (fun _ _ _ h => h) (Or.inl ⟨by rfl, ?_⟩) hHeld ?_
    · intro w' hSw
      exact runLk (.tmp 14) (.tmp 17) rfl rfl rfl (HLk.out _ hSw)
    simp only [Act.put, List.getElem_toArray, List.getElem_cons_succ, List.getElem_cons_zero, List.setIfInBounds_toArray, List.set_cons_zero, List.set_cons_succ]
    refine wpAnyH_take (i := 8) (v := ?_) rfl (by kernel_rfl) (by kernel_rfl) (by kernel_rfl) (fun _ _ _ h => h) (Or.inl ⟨by rfl, ?_⟩) hHeld ?_
    rotate_left
    · intro w' hSw
      clear hSw
      go_simp
      first | done | with_reducible rfl
    simp only [Act.put, List.getElem_toArray, List.getElem_cons_succ, List.getElem_cons_zero, List.setIfInBounds_toArray, List.set_cons_zero, List.set_cons_succ]
    refine wpAnyH_take (i := 9) (v := ?_) rfl (by kernel_rfl) (by kernel_rfl) (by kernel_rfl) (fun _ _ _ h => h) (Or.inl ⟨by rfl, ?_⟩) hHeld ?_
    rotate_left
    · intro w' hSw
      clear hSw
      go_simp
      first | done | with_reducible rfl
    simp only [Act.put, List.getElem_toArray, List.getElem_cons_succ, List.getElem_cons_zero, List.setIfInBounds_toArray, List.set_cons_zero, List.set_cons_succ]
    refine wpAnyH_take (i := 10) (v := ?_) rfl (by kernel_rfl) (by kernel_rfl) (by kernel_rfl) (fun _ _ _ h => h) (Or.inl ⟨by rfl, ?_⟩) hHeld ?_
    rotate_left
    · intro w' hSw
      clear hSw
      go_simp
      first | done | with_reducible rfl
    simp only [Act.put, List.getElem_toArray, List.getElem_cons_succ, List.getElem_cons_zero, List.setIfInBounds_toArray, List.set_cons_zero, List.set_cons_succ]
    refine wpAnyH_take (i := 11) (v := ?_) rfl (by kernel_rfl) (by kernel_rfl) (by kernel_rfl) (fun _ _ _ h => h) (Or.inl ⟨by rfl, ?_⟩) hHeld ?_
    rotate_left
    · intro w' hSw
      clear hSw
      go_simp
      first | done | with_reducible rfl
    simp only [Act.put, List.getElem_toArray, List.getElem_cons_succ, List.getElem_cons_zero, List.setIfInBounds_toArray, List.set_cons_zero, List.set_cons_succ]
    refine wpAnyH_take (i := 12) (v := ?_) rfl (by kernel_rfl) (by kernel_rfl) (by kernel_rfl) (fun _ _ _ h => h) (Or.inl ⟨by rfl, ?_⟩) hHeld ?_
    rotate_left
    · intro w' hSw
      clear hSw
      go_simp
      first | done | with_reducible rfl
    simp only [Act.put, List.getElem_toArray, List.getElem_cons_succ, List.getElem_cons_zero, List.setIfInBounds_toArray, List.set_cons_zero, List.set_cons_succ]
    refine wpAnyH_done (by kernel_rfl) ?_ _
    go_wp2_with (go_at_call 34; refine (must_false _).mono ?_; rintro e w'' ⟨rfl, hw⟩; rw [hw]; clear hw w'')
    exact ⟨rfl, (HO1.out.trans (Only.refl _ _).drew).bel HB.out, rfl, hHeld⟩
  | some f =>
    simp only [hfd, Option.map_some, Option.getD_some, Option.isSome_some] at HLk
    have hil := HFl.out f hfd
    have HB2' := hid (HB2.out f hfd)
    have HB3' := hid (HB3.out f hfd)
    have HB4' := hid (HB4.out f hfd)
    have hw1 : IntKind.i64.wrap ((i : Int) + 1) = (i : Int) + 1 := by rw [IntKind.wrap_i64]; omega
    clear HB0 HB2 HB3 HB4 HFl hfd
    go_enter Tryz.func84, Tryz.ntmps84
    go_upto_region 1 with fail
    rw [show W.alloc (.cells #[.int .i8 0, .int .i8 0, .int .u64 0, .slice none 0 0] 26) = W1 from HE.out]
    refine wp_region_held_drew (S := RdM l r m ws i) (by kernel_rfl) HRD.out (fun hHeld => ?_)
    refine wpAnyH_take (i := 0) (v := ?_) rfl (by kernel_rfl) (by kernel_rfl) (by kernel_rfl) (fun _ _ _ h => h) (Or.inl ⟨by rfl, ?_⟩) hHeld ?_
    rotate_left
    · intro w' hSw
      have c2 := hSw.c2
      clear hSw
      go_simp
      first | done | with_reducible rfl
    simp only [Act.put, List.getElem_toArray, List.getElem_cons_zero, List.setIfInBounds_toArray, List.set_cons_zero, List.set_cons_succ]
    refine wpAnyH_take (i := 1) (v := ?_) rfl (by kernel_rfl) (by kernel_rfl) (by kernel_rfl) (fun _ _ _ h => h) (Or.inl ⟨by rfl, ?_⟩) hHeld ?_
    rotate_left
    · intro w' hSw
      have c2 := hSw.c2
      clear hSw
      go_simp
      first | done | with_reducible rfl
    simp only [Act.put, List.getElem_toArray, List.getElem_cons_succ, List.getElem_cons_zero, List.setIfInBounds_toArray, List.set_cons_zero, List.set_cons_succ]
    refine wpAnyH_take (i := 2) (v := ?_) rfl (by kernel_rfl) (by kernel_rfl) (by kernel_rfl) (fun _ _ _ h => h) (Or.inl ⟨by rfl, ?_⟩) hHeld ?_
    rotate_left
    · intro w' hSw
      have c2 := hSw.c2
      clear hSw
      go_simp
      first | done | with_reducible rfl
    simp only [Act.put, List.getElem_toArray, List.getElem_cons_succ, List.getElem_cons_zero, List.setIfInBounds_toArray, List.set_cons_zero, List.set_cons_succ]
    refine wpAnyH_take (i := 3) (v := ?_) rfl (by kernel_rfl) (by kernel_rfl) (by kernel_rfl) (fun _ _ _ h => h) (Or.inl ⟨by rfl, ?_⟩) hHeld ?_
    rotate_left
    · intro w' hSw
      have c2 := hSw.c2
      clear hSw
      go_simp
      first | done | with_reducible rfl
    simp only [Act.put, List.getElem_toArray, List.getElem_cons_succ, List.getElem_cons_zero, List.setIfInBounds_toArray, List.set_cons_zero, List.set_cons_succ]
    refine wpAnyH_take (i := 4) (v := ?_) rfl (by kernel_rfl) (by kernel_rfl) (by kernel_rfl) (fun _ _ _ h => h) (Or.inl ⟨by rfl, ?_⟩) hHeld ?_
    rotate_left
    · intro w' hSw
      have c2 := hSw.c2
      clear hSw
      go_simp
      first | done | with_reducible rfl
    simp only [Act.put, List.getElem_toArray, List.getElem_cons_succ, List.getElem_cons_zero, List.setIfInBounds_toArray, List.set_cons_zero, List.set_cons_succ]
    refine ready_one 5 _ (by kernel_rfl) rfl (stepFnW 14 (.func 14) [.tmp 15] _ [ptr r] rfl rfl rfl rfl (fun _ => rfl) _ HWd.out ?_)
    rintro e w2 ⟨rfl, hw⟩
    refine Or.inl ⟨_, rfl, ?_⟩
    have hHeld := HRD.out.on hw
    have HR2 := hid hHeld
    have hBd : Below W1.heap.size W1 w2 := (bel_drew (Below.refl _ W1)).trans hw
    have HO2 := hid (HO1.out.bel hBd)
    have HZ2 : Hid (w2.heap[W.heap.size]? = some (.cells (tmc 0 0 0 nilS) 26 (0, 0))) := (hBd.block _ (by omega)).trans HZ1.out
    have hz2 : W1.heap.size ≤ w2.heap.size := hBd.size
    have hq := HR2.out.go (i + 1)
    rw [show (((i + 1 : Nat) : Nat) : Int) = (i : Int) + 1 by omega] at hq
    have hc1 := HR2.out.c1
    have hf1 := HR2.out.f1
    have HQ := hid hq
    clear hw hBd hq
    refine ⟨hHeld, ?_⟩
    simp only [Act.put, List.getElem_toArray, List.getElem_cons_succ, List.getElem_cons_zero, List.setIfInBounds_toArray, List.set_cons_zero, List.set_cons_succ]
    refine wpAnyH_take (i := 6) (v := .string xt) rfl (by kernel_rfl) (by kernel_rfl) (by kernel_rfl) (fun _ _ _ h => h) (Or.inl ⟨by rfl, ?_⟩) hHeld ?_
    · intro w' hSw
      exact runFd (.tmp 16) 1 rfl rfl (run_w1 _ _ _ _ _)
    simp only [Act.put, List.getElem_toArray, List.getElem_cons_succ, List.getElem_cons_zero, List.setIfInBounds_toArray, List.set_cons_zero, List.set_cons_succ]
    refine wpAnyH_take (i := 7) (v := .tuple #[.int .i8 ((f : Nat) : Int), .bool true]) rfl (by kernel_rfl) (by kernel_rfl) (by kernel_rfl) (fun _ _ _ h => h) (Or.inl ⟨by rfl, ?_⟩) hHeld ?_
    · intro w' hSw
      exact runLk (.tmp 14) (.tmp 17) rfl rfl rfl (HLk.out _ hSw)
    simp only [Act.put, List.getElem_toArray, List.getElem_cons_succ, List.getElem_cons_zero, List.setIfInBounds_toArray, List.set_cons_zero, List.set_cons_succ]
    refine wpAnyH_take (i := 8) (v := ?_) rfl (by kernel_rfl) (by kernel_rfl) (by kernel_rfl) (fun _ _ _ h => h) (Or.inl ⟨by rfl, ?_⟩) hHeld ?_
    rotate_left
    · intro w' hSw
      clear hSw
      go_simp
      first | done | with_reducible rfl
    simp only [Act.put, List.getElem_toArray, List.getElem_cons_succ, List.getElem_cons_zero, List.setIfInBounds_toArray, List.set_cons_zero, List.set_cons_succ]
    refine wpAnyH_take (i := 9) (v := ?_) rfl (by kernel_rfl) (by kernel_rfl) (by kernel_rfl) (fun _ _ _ h => h) (Or.inl ⟨by rfl, ?_⟩) hHeld ?_
    rotate_left
    · intro w' hSw
      clear hSw
      go_simp
      first | done | with_reducible rfl
    simp only [Act.put, List.getElem_toArray, List.getElem_cons_succ, List.getElem_cons_zero, List.setIfInBounds_toArray, List.set_cons_zero, List.set_cons_succ]
    refine wpAnyH_take (i := 10) (v := ?_) rfl (by kernel_rfl) (by kernel_rfl) (by kernel_rfl) (fun _ _ _ h => h) (Or.inl ⟨by rfl, ?_⟩) hHeld ?_
    rotate_left
    · intro w' hSw
      clear hSw
      go_simp
      first | done | with_reducible rfl
    simp only [Act.put, List.getElem_toArray, List.getElem_cons_succ, List.getElem_cons_zero, List.setIfInBounds_toArray, List.set_cons_zero, List.set_cons_succ]
    refine wpAnyH_take (i := 11) (v := ?_) rfl (by kernel_rfl) (by kernel_rfl) (by kernel_rfl) (fun _ _ _ h => h) (Or.inl ⟨by rfl, ?_⟩) hHeld ?_
    rotate_left
    · intro w' hSw
      clear hSw
      go_simp
      first | done | with_reducible rfl
    simp only [Act.put, List.getElem_toArray, List.getElem_cons_succ, List.getElem_cons_zero, List.setIfInBounds_toArray, List.set_cons_zero, List.set_cons_succ]
    refine wpAnyH_take (i := 12) (v := ?_) rfl (by kernel_rfl) (by kernel_rfl) (by kernel_rfl) (fun _ _ _ h => h) (Or.inl ⟨by rfl, ?_⟩) hHeld ?_
    rotate_left
    · intro w' hSw
      clear hSw
      go_simp
      first | done | with_reducible rfl
    simp only [Act.put, List.getElem_toArray, List.getElem_cons_succ, List.getElem_cons_zero, List.setIfInBounds_toArray, List.set_cons_zero, List.set_cons_succ]
    refine wpAnyH_done (by kernel_rfl) ?_ _
    clear hHeld HLk HWd HRD HR1 HO1 HZ1 HE
    go_upto_region 4 with (go_at_call 34; refine (must_true _).mono ?_; rintro e w'' ⟨rfl, hw⟩; rw [hw]; clear hw w'')
    have HZ3 : Hid ((w2.setCell ⟨r, 1, none⟩ (.int .i64 ((i : Int) + 1))).heap[W.heap.size]? = some (.cells (tmc 0 0 0 nilS) 26 (0, 0))) := (heap_setCell_other w2 ⟨r, 1, none⟩ W.heap.size _ (show W.heap.size ≠ r by omega)).trans HZ2.out
    have HO3 := hid (HO2.out.thn HQ.out.2)
    have HR3 := hid HQ.out.1
    have hz3 := HQ.out.2.size
    clear hc1 hf1 HQ HR2 HO2 HZ2
    generalize w2.setCell ⟨r, 1, none⟩ (.int .i64 ((i : Int) + 1)) = w3 at HZ3 HO3 HR3 hz3 ⊢
    cases ht : tk l (i + 1) sg with
    | false =>
      have HX := hid (exp_no HR3.out hil (by omega) ht)
      have HJ := hid (HB2'.out ht)
      clear ht
      go_wp2_with (go_at_call 32; refine (HX.out).mono ?_; rintro e w4 ⟨rfl, h1, h2⟩; have H4 := hid (And.intro h1 h2); clear h1 h2)
      refine ⟨rfl, (show RdP l r m ws (pair l op sg i) W _ _ from ?_)⟩
      rw [HJ.out]
      exact ⟨HO3.out.thn H4.out.1, rfl, H4.out.2⟩
    | true =>
      have HX := hid (exp_yes HR3.out hil (by omega) ht)
      have hil2 := tk_lt HCl.out hil HSg.out ht
      have HB3 := hid (HB3'.out ht)
      have HB4 := hid (HB4'.out ht)
      clear ht HB2' HB3' HB4'
      go_upto_region 5 with (go_at_call 32; refine (HX.out).mono ?_; rintro e w4 ⟨rfl, h1, h2⟩; have H4 := hid (And.intro h1 h2); clear h1 h2)
      have hz4 := H4.out.1.size
      have HW4 := hid (word_at H4.out.2 hil2 (by omega))
      have HZ4 : Hid (w4.heap[W.heap.size]? = some (.cells (tmc 0 0 0 nilS) 26 (0, 0))) := (H4.out.1.block _ (by rintro (e | e) <;> omega)).trans HZ3.out
      have HO4 := hid (HO3.out.thn H4.out.1)
      have HKl := hid (k_lt HCl.out hil2)
      generalize wat l (i + 1 + 1) = y at HW4 HB3 HB4 HKl
      obtain ⟨yk, yt, yn, ya⟩ := y
      simp only at HW4 HB3 HB4 HKl
      go_upto_region 6 with (go_at_call 14; refine (HW4.out).mono ?_; rintro e w5 ⟨rfl, hw⟩; have HB5 := hid hw; clear hw)
      have hbA : Below w4.heap.size w4 (w5.alloc (.cells #[.int .i8 ((yk : Nat) : Int), .string yt, .int .u64 ((yn : Nat) : Int), .int .i64 ((ya : Nat) : Int)] 52)) := HB5.out.alloc HB5.out.size _
      have hN : (w5.alloc (.cells #[.int .i8 ((yk : Nat) : Int), .string yt, .int .u64 ((yn : Nat) : Int), .int .i64 ((ya : Nat) : Int)] 52)).heap[w5.heap.size]? = some (.cells #[.int .i8 ((yk : Nat) : Int), .string yt, .int .u64 ((yn : Nat) : Int), .int .i64 ((ya : Nat) : Int)] 52 (0, 0)) := heap_alloc_new _ _
      obtain ⟨d0, -, d2, -⟩ := four_cells hN
      have hz5 := HB5.out.size
      have HN := hid hN
      have HO6 := hid (HO4.out.bel hbA)
      have HR6 := hid (H4.out.2.on hbA)
      have HZ6 : Hid ((w5.alloc (.cells #[.int .i8 ((yk : Nat) : Int), .string yt, .int .u64 ((yn : Nat) : Int), .int .i64 ((ya : Nat) : Int)] 52)).heap[W.heap.size]? = some (.cells (tmc 0 0 0 nilS) 26 (0, 0))) := (hbA.block _ (by omega)).trans HZ4.out
      clear hbA hN HO4 H4 HZ4 HW4 HB5 HX HZ3 HR3 HO3
      generalize w5.alloc (.cells #[.int .i8 ((yk : Nat) : Int), .string yt, .int .u64 ((yn : Nat) : Int), .int .i64 ((ya : Nat) : Int)] 52) = w6 at HN HO6 HR6 HZ6 d0 d2 ⊢
      generalize w5.heap.size = G at HN d0 d2 hz5 ⊢
      by_cases hk : yk = 2
      · have hk2 : (((yk : Nat) : Int) == 2) = true := by simp; omega
        have HJ := hid (HB4.out hk)
        have hi3 := HKl.out (by omega)
        have hc1 : w6.cell? ⟨r, 1, none⟩ = some (.int .i64 ((i : Int) + 2)) := by
          have := HR6.out.c1
          rw [show (((i + 1 + 1 : Nat) : Nat) : Int) = (i : Int) + 2 by omega] at this
          exact this
        have hf1 := HR6.out.f1
        have hw3 : IntKind.i64.wrap ((i : Int) + 2 + 1) = (i : Int) + 2 + 1 := by rw [IntKind.wrap_i64]; omega
        have hq := HR6.out.go (i + 3)
        rw [show (((i + 3 : Nat) : Nat) : Int) = (i : Int) + 2 + 1 by omega] at hq
        have HQ := hid hq
        have hbt := fun W => run_bt012 ((op : Nat) : Int) ((f : Nat) : Int) ((yn : Nat) : Int) W
        have e2 : (w6.setCell ⟨r, 1, none⟩ (.int .i64 ((i : Int) + 2 + 1))).cell? ⟨G, 2, none⟩ = some (.int .u64 ((yn : Nat) : Int)) := (cell_same (heap_setCell_other w6 ⟨r, 1, none⟩ G _ (show G ≠ r by omega))).trans d2
        have HZ7 : Hid ((w6.setCell ⟨r, 1, none⟩ (.int .i64 ((i : Int) + 2 + 1))).heap[W.heap.size]? = some (.cells (tmc 0 0 0 nilS) 26 (0, 0))) := (heap_setCell_other w6 ⟨r, 1, none⟩ W.heap.size _ (show W.heap.size ≠ r by omega)).trans HZ6.out
        have HO7 := hid (HO6.out.thn HQ.out.2)
        clear hq hk HB3 HB4 HKl
        go_upto_region 8 with (go_at_call 34; refine (must_true _).mono ?_; rintro e w'' ⟨rfl, hw⟩; rw [hw]; clear hw w'')
        have HR7 := hid HQ.out.1
        clear HQ hc1 hf1 d0 d2
        generalize w6.setCell ⟨r, 1, none⟩ (.int .i64 ((i : Int) + 2 + 1)) = w7 at HZ7 HO7 HR7 e2 ⊢
        go_wp2_with (refine stRow 26 (.tmp 6) (.tmp 50) rfl rfl W.heap.size (tmc op f yn nilS) rfl rfl 26 _ HZ7.out rfl rfl (by simp [Value.oneCell']) ?_)
        have hF := setRow_heap w7 W.heap.size (tmc 0 0 0 nilS) (tmc op f yn nilS) 26 _ HZ7.out
        have hko : ∀ k, k ≠ W.heap.size → (w7.setRow W.heap.size (tmc op f yn nilS)).heap[k]? = w7.heap[k]? := fun k hk => setRow_other w7 W.heap.size k _ hk
        have hsz : (w7.setRow W.heap.size (tmc op f yn nilS)).heap.size = w7.heap.size := by simp [World.setRow]
        refine bodyPost_ret (v := .agg (tmc op f yn nilS)) (res_tm Tryz.results84 _ _ W.heap.size _ rfl rfl hF) rfl (show RdP l r m ws (pair l op sg i) W _ _ from ?_)
        rw [HJ.out]
        exact ⟨HO7.out.trans ⟨rfl, rfl, rfl, by omega, fun k hk => hko k (fun e => hk (Or.inr (by omega)))⟩, _, rfl, HR7.out.keep fun b hb => hko b (by omega), TmV.leaf _ _ _ _ _⟩
      · have hk2 : (((yk : Nat) : Int) == 2) = false := by simp; omega
        have HJ := hid (HB3.out hk)
        clear hk HB3 HB4 HKl
        go_wp2_with (go_at_call 34; refine (must_false _).mono ?_; rintro e w'' ⟨rfl, hw⟩; rw [hw]; clear hw w'')
        refine ⟨rfl, (show RdP l r m ws (pair l op sg i) W _ _ from ?_)⟩
        rw [HJ.out]
        exact ⟨HO6.out, rfl, HR6.out⟩
end Go.Proofs.YtoncogkamlgjhaaGreatDoor
