/-
  Proved here: Fault of the statements tells no error as no fault, and a fault in memory as that fault. Condition: error's type is laid.
-/
import Derived.Test.YtcifeankgnjndaaGreatDoorFE2
import Derived.Test.YtcifeankgnjndaaGreatDoorFQA
import Derived.Test.YtcifeankgnjndaaGreatDoorFRY
namespace Go.Proofs.YtcifeankgnjndaaGreatDoor
set_option maxRecDepth 100000
open Go.RowKit
set_option maxRecDepth 100000

/-- The one operation that is ready yields a value. -/
theorem ready_val {md : Region.Mode} {ops : Array Oper} {Q : Exit → Act → World → Prop} {S : World → Prop} {fuel : Nat} {listed : Array Bool} {a : Act} {w : World} (i : Nat) (o : Oper) (hr : Region.ready md ops listed = [i]) (ho : ops[i]? = some o) (v : Value) (hw : Region.wanted o (yielded ops a.tmps) = true) (hrun : (execOp a.eval o).run Tryz.prog w = .ok (.value v) w)
    (hk : S w ∧ wpAnyH Tryz.prog md ops Q S fuel (listed.setIfInBounds i true) (a.put o.dst v) w) : wpAnyH Tryz.prog md ops Q S (fuel + 1) listed a w := by
  refine ready_one i o hr ho ?_
  rw [if_pos hw]
  unfold Oper.wp
  rw [hrun]
  exact hk
theorem runBx {o : Oper} {a : Act} {w' : World} {t : TypeId} (ps : Array (Nat × Operand)) (ho : o.op = .build t ps) {us : Array (Nat × Value)} {v : Value} (hu : (ps.map fun (i, x) => (i, a.eval x)) = us) (h : (Instr.build t us).run Tryz.prog w' = .ok v w') : (execOp a.eval o).run Tryz.prog w' = .ok (.value v) w' := by
  unfold execOp
  simp only [ho, hu, h, Sem.run_bind, Result.andThen_ok, Sem.run_pure]
theorem ready_stx {md : Region.Mode} {ops : Array Oper} {Q : Exit → Act → World → Prop} {S : World → Prop} {fuel : Nat} {listed : Array Bool} {a : Act} {w : World} (i : Nat) (o : Oper) (hr : Region.ready md ops listed = [i]) (ho : ops[i]? = some o) (ty : TypeId) (x y : Operand) (hop : o.op = .store ty x y) (hg : o.guard = none)
    (g : Nat) (cs : Array Value) (hx : a.eval x = .pointer (some ⟨g, 0, none⟩)) (hy : a.eval y = .agg cs) (t : TypeId) (zs : Array Value) (hgb : w.heap[g]? = some (.cells zs t (0, 0))) (hi : (Tryz.prog.info? ty).map (·.size) = some cs.size) (hz : zs.size = cs.size) (h1 : cs.all (·.oneCell') = true)
    (hk : S (w.setRow g cs) ∧ wpAnyH Tryz.prog md ops Q S fuel (listed.setIfInBounds i true) (a.put o.dst undef) (w.setRow g cs)) : wpAnyH Tryz.prog md ops Q S (fuel + 1) listed a w := by
  refine ready_one i o hr ho ?_
  have hw : Region.wanted o (yielded ops a.tmps) = true := by simp [Region.wanted, hg]
  rw [if_pos hw]
  exact wp_store_row ty x y hop g cs hx hy t zs hgb hi hz h1 hk
abbrev dfc (c a : Nat) (t : ByteArray) : Array Value := #[.int .i64 ((c : Nat) : Int), .int .i64 ((a : Nat) : Int), .string t]
theorem szDF (c a : Nat) (t : ByteArray) : (Tryz.prog.info? 37).map (·.size) = some (dfc c a t).size := by kernel_rfl
theorem df1a (c a : Nat) (t : ByteArray) : (dfc c a t).all (·.oneCell') = true := by simp [Value.oneCell']
theorem run_bdz (W : World) : (Instr.build 37 #[]).run Tryz.prog W = .ok (.agg #[.int .i64 0, .int .i64 0, .string ⟨#[]⟩]) W := by kernel_rfl
theorem run_bdf (c a : Int) (t : ByteArray) (W : World) : (Instr.build 37 #[(0, .int .i64 c), (1, .int .i64 a), (2, .string t)]).run Tryz.prog W = .ok (.agg #[.int .i64 c, .int .i64 a, .string t]) W := by kernel_rfl
theorem res_df {fn : Func} {p u : Tmp} (h : fn.results = #[.cell p 37, .tmp u]) (tmps : Array Value) (w : World) (g c a : Nat) (t : ByteArray)
    (hp : tmps.getD p undef = .pointer (some ⟨g, 0, none⟩)) (hg : w.heap[g]? = some (.cells (dfc c a t) 37 (0, 0))) :
    (results fn tmps).run Tryz.prog w = .ok (.tuple #[.agg (dfc c a t), tmps.getD u undef]) w := by
  rw [results_cell_tmp h, hp]
  simp [asAddr, Result.andThen, run_loadVar_row w g 37 37 (dfc c a t) (0, 0) _ hg Tryz.underlying37 rfl (szDF c a t)]
theorem fault_nil (w : World) : Calls Tryz.prog 11 #[.nilIface] w fun e w' => e = .returned (.tuple #[.agg (dfc 0 0 ⟨#[]⟩), .bool true]) ∧ Below w.heap.size w w' := by
  have hbz := fun W => run_bdz W
  go_enter Tryz.func11, Tryz.ntmps11
  go_wp2
  exact bodyPost_ret (v := .tuple #[.agg (dfc 0 0 ⟨#[]⟩), .bool true]) (res_df Tryz.results11 _ _ w.heap.size 0 0 ⟨#[]⟩ rfl (heap_alloc_new _ _)) rfl ⟨rfl, (Below.refl _ _).alloc (Nat.le_refl _) _⟩
/-- what Fault reads -/
structure Tf (b N c a : Nat) (t : ByteArray) (W : World) : Prop where
  b0 : W.cell? ⟨b, 0, none⟩ = some (.pointer (some ⟨N, 0, none⟩))
  n0 : W.cell? ⟨N, 0, none⟩ = some (.int .i64 ((c : Nat) : Int))
  n1 : W.cell? ⟨N, 1, none⟩ = some (.int .i64 ((a : Nat) : Int))
  n2 : W.cell? ⟨N, 2, none⟩ = some (.string t)
set_option maxHeartbeats 3200000 in
theorem fault_hit (N c a : Nat) (t : ByteArray) (w : World) (hT : Tab w) (hc : c ≠ 0) (hN : w.heap[N]? = some (.cells (flc c a t) 68 (0, 0))) :
    Calls Tryz.prog 11 #[.iface 66 (.pointer (some ⟨N, 0, none⟩))] w fun e w' => e = .returned (.tuple #[.agg (dfc c a t), .bool true]) ∧ Below w.heap.size w w' := by
  have g1 : (((c : Nat) : Int) == 0) = false := by simp; omega
  have hNl : N < w.heap.size := (Array.getElem?_eq_some_iff.1 hN).1
  obtain ⟨W1, hW1⟩ : ∃ W1, W1 = (w.alloc (.cells (dfc 0 0 ⟨#[]⟩) 37)).alloc (.cells #[.pointer none] 66) := ⟨_, rfl⟩
  have HW1 : Hid ((w.alloc (.cells #[.int .i64 0, .int .i64 0, .string ⟨#[]⟩] 37)).alloc (.cells #[.pointer none] 66) = W1) := hW1.symm
  have hb1 : Below w.heap.size w W1 := by rw [hW1]; exact ((Below.refl _ _).alloc (Nat.le_refl _) _).alloc (by simp) _
  have hbx : W1.heap[w.heap.size]? = some (.cells (dfc 0 0 ⟨#[]⟩) 37 (0, 0)) := by rw [hW1]; exact heap_alloc2_old _ _ _
  have hfv : W1.heap[w.heap.size + 1]? = some (.cells #[.pointer none] 66 (0, 0)) := by rw [hW1]; exact heap_alloc2_new _ _ _
  have hnb : W1.heap[N]? = some (.cells (flc c a t) 68 (0, 0)) := (hb1.block N hNl).trans hN
  have hcf : W1.cell? ⟨w.heap.size + 1, 0, none⟩ = some (.pointer none) := (cell_of_row _ _ _ _ _ _ hfv).trans rfl
  have hff : W1.frozen? ⟨w.heap.size + 1, 0, none⟩ = false := by
    unfold World.frozen?; rw [hfv]; rfl
  have HAs := hid (as_hit ⟨N, 0, none⟩ ⟨w.heap.size + 1, 0, none⟩ (.pointer none) W1 (hT.on hb1) hcf hff)
  have hlt : w.heap.size + 1 < W1.heap.size := (Array.getElem?_eq_some_iff.1 hfv).1
  have HM : Hid (∀ W, Below W1.heap.size W1 W → Tf (w.heap.size + 1) N c a t (W.setCell ⟨w.heap.size + 1, 0, none⟩ (.pointer (some ⟨N, 0, none⟩))) ∧ (W.setCell ⟨w.heap.size + 1, 0, none⟩ (.pointer (some ⟨N, 0, none⟩))).heap[w.heap.size]? = some (.cells (dfc 0 0 ⟨#[]⟩) 37 (0, 0)) ∧ Below w.heap.size w (W.setCell ⟨w.heap.size + 1, 0, none⟩ (.pointer (some ⟨N, 0, none⟩)))) := fun W hb => by
    have qf := (hb.block _ hlt).trans hfv
    have qn : (W.setCell ⟨w.heap.size + 1, 0, none⟩ (.pointer (some ⟨N, 0, none⟩))).heap[N]? = some (.cells (flc c a t) 68 (0, 0)) := by
      rw [heap_setCell_other _ _ _ _ (by simp; omega), hb.block _ (by have := hb1.size; omega)]; exact hnb
    refine ⟨⟨?_, (cell_of_row _ _ _ _ _ _ qn).trans rfl, (cell_of_row _ _ _ _ _ _ qn).trans rfl, (cell_of_row _ _ _ _ _ _ qn).trans rfl⟩, ?_, (hb1.trans (hb.mono hb1.size)).setCell (by simp) _⟩
    · rw [setCell_eq_setRow _ _ _ _ _ _ _ qf, cell_setRow_same _ _ _ _ _ _ _ qf]; rfl
    · rw [heap_setCell_other _ _ _ _ (by simp), hb.block _ (by omega)]; exact hbx
  clear hcf hff hT hN hb1 hbx hfv hnb hlt hW1
  go_enter Tryz.func11, Tryz.ntmps11
  go_upto_region 4 with fail
  rw [HW1.out]
  clear HW1
  go_upto_region 5 with (go_at_call 31; refine (HAs.out).mono ?_; rintro e W2 ⟨rfl, W, hbW, hW2⟩
                         obtain ⟨s2, d2, l2⟩ := HM.out W hbW
                         rw [← hW2] at s2 d2 l2
                         have b0 := s2.b0
                         have n0 := s2.n0
                         have HS2 := hid s2
                         have HD2 := hid d2
                         have HL2 := hid l2
                         clear HM HAs hbW hW2 s2 d2 l2)
  clear b0 n0
  have HSd : Hid (Tf (w.heap.size + 1) N c a t W2.drew) := ⟨HS2.out.b0, HS2.out.n0, HS2.out.n1, HS2.out.n2⟩
  refine wp_region_held_drew (S := Tf (w.heap.size + 1) N c a t) (by kernel_rfl) HSd.out (fun hHeld => ?_)
  refine wpAnyH_take (i := 0) (v := ?_) rfl (by kernel_rfl) (by kernel_rfl) (by kernel_rfl) (fun _ _ _ h => h) (Or.inl ⟨by rfl, ?_⟩) hHeld ?_
  rotate_left
  · intro w' hSw
    have b0 := hSw.b0
    have n0 := hSw.n0
    have n1 := hSw.n1
    have n2 := hSw.n2
    clear hSw
    go_simp
    first | done | with_reducible rfl
  simp only [Act.put, List.getElem_toArray, List.getElem_cons_zero, List.setIfInBounds_toArray, List.set_cons_zero, List.set_cons_succ]
  refine wpAnyH_take (i := 1) (v := ?_) rfl (by kernel_rfl) (by kernel_rfl) (by kernel_rfl) (fun _ _ _ h => h) (Or.inl ⟨by rfl, ?_⟩) hHeld ?_
  rotate_left
  · intro w' hSw
    have b0 := hSw.b0
    have n0 := hSw.n0
    have n1 := hSw.n1
    have n2 := hSw.n2
    clear hSw
    go_simp
    first | done | with_reducible rfl
  simp only [Act.put, List.getElem_toArray, List.getElem_cons_succ, List.getElem_cons_zero, List.setIfInBounds_toArray, List.set_cons_zero, List.set_cons_succ]
  refine wpAnyH_take (i := 2) (v := ?_) rfl (by kernel_rfl) (by kernel_rfl) (by kernel_rfl) (fun _ _ _ h => h) (Or.inl ⟨by rfl, ?_⟩) hHeld ?_
  rotate_left
  · intro w' hSw
    have b0 := hSw.b0
    have n0 := hSw.n0
    have n1 := hSw.n1
    have n2 := hSw.n2
    clear hSw
    go_simp
    first | done | with_reducible rfl
  simp only [Act.put, List.getElem_toArray, List.getElem_cons_succ, List.getElem_cons_zero, List.setIfInBounds_toArray, List.set_cons_zero, List.set_cons_succ]
  refine wpAnyH_take (i := 3) (v := ?_) rfl (by kernel_rfl) (by kernel_rfl) (by kernel_rfl) (fun _ _ _ h => h) (Or.inl ⟨by rfl, ?_⟩) hHeld ?_
  rotate_left
  · intro w' hSw
    have b0 := hSw.b0
    have n0 := hSw.n0
    have n1 := hSw.n1
    have n2 := hSw.n2
    clear hSw
    go_simp
    first | done | with_reducible rfl
  simp only [Act.put, List.getElem_toArray, List.getElem_cons_succ, List.getElem_cons_zero, List.setIfInBounds_toArray, List.set_cons_zero, List.set_cons_succ]
  refine wpAnyH_take (i := 4) (v := ?_) rfl (by kernel_rfl) (by kernel_rfl) (by kernel_rfl) (fun _ _ _ h => h) (Or.inl ⟨by rfl, ?_⟩) hHeld ?_
  rotate_left
  · intro w' hSw
    have b0 := hSw.b0
    have n0 := hSw.n0
    have n1 := hSw.n1
    have n2 := hSw.n2
    clear hSw
    go_simp
    first | done | with_reducible rfl
  simp only [Act.put, List.getElem_toArray, List.getElem_cons_succ, List.getElem_cons_zero, List.setIfInBounds_toArray, List.set_cons_zero, List.set_cons_succ]
  refine wpAnyH_take (i := 5) (v := ?_) rfl (by kernel_rfl) (by kernel_rfl) (by kernel_rfl) (fun _ _ _ h => h) (Or.inl ⟨by rfl, ?_⟩) hHeld ?_
  rotate_left
  · intro w' hSw
    have b0 := hSw.b0
    have n0 := hSw.n0
    have n1 := hSw.n1
    have n2 := hSw.n2
    clear hSw
    go_simp
    first | done | with_reducible rfl
  simp only [Act.put, List.getElem_toArray, List.getElem_cons_succ, List.getElem_cons_zero, List.setIfInBounds_toArray, List.set_cons_zero, List.set_cons_succ]
  refine wpAnyH_take (i := 6) (v := ?_) rfl (by kernel_rfl) (by kernel_rfl) (by kernel_rfl) (fun _ _ _ h => h) (Or.inl ⟨by rfl, ?_⟩) hHeld ?_
  rotate_left
  · intro w' hSw
    have b0 := hSw.b0
    have n0 := hSw.n0
    have n1 := hSw.n1
    have n2 := hSw.n2
    clear hSw
    go_simp
    first | done | with_reducible rfl
  simp only [Act.put, List.getElem_toArray, List.getElem_cons_succ, List.getElem_cons_zero, List.setIfInBounds_toArray, List.set_cons_zero, List.set_cons_succ]
  refine wpAnyH_take (i := 7) (v := ?_) rfl (by kernel_rfl) (by kernel_rfl) (by kernel_rfl) (fun _ _ _ h => h) (Or.inl ⟨by rfl, ?_⟩) hHeld ?_
  rotate_left
  · intro w' hSw
    have b0 := hSw.b0
    have n0 := hSw.n0
    have n1 := hSw.n1
    have n2 := hSw.n2
    clear hSw
    go_simp
    first | done | with_reducible rfl
  simp only [Act.put, List.getElem_toArray, List.getElem_cons_succ, List.getElem_cons_zero, List.setIfInBounds_toArray, List.set_cons_zero, List.set_cons_succ]
  refine wpAnyH_take (i := 8) (v := ?_) rfl (by kernel_rfl) (by kernel_rfl) (by kernel_rfl) (fun _ _ _ h => h) (Or.inl ⟨by rfl, ?_⟩) hHeld ?_
  rotate_left
  · intro w' hSw
    have b0 := hSw.b0
    have n0 := hSw.n0
    have n1 := hSw.n1
    have n2 := hSw.n2
    clear hSw
    go_simp
    first | done | with_reducible rfl
  simp only [Act.put, List.getElem_toArray, List.getElem_cons_succ, List.getElem_cons_zero, List.setIfInBounds_toArray, List.set_cons_zero, List.set_cons_succ]
  refine wpAnyH_take (i := 9) (v := ?_) rfl (by kernel_rfl) (by kernel_rfl) (by kernel_rfl) (fun _ _ _ h => h) (Or.inl ⟨by rfl, ?_⟩) hHeld ?_
  rotate_left
  · intro w' hSw
    have b0 := hSw.b0
    have n0 := hSw.n0
    have n1 := hSw.n1
    have n2 := hSw.n2
    clear hSw
    go_simp
    first | done | with_reducible rfl
  simp only [Act.put, List.getElem_toArray, List.getElem_cons_succ, List.getElem_cons_zero, List.setIfInBounds_toArray, List.set_cons_zero, List.set_cons_succ]
  refine wpAnyH_take (i := 10) (v := ?_) rfl (by kernel_rfl) (by kernel_rfl) (by kernel_rfl) (fun _ _ _ h => h) (Or.inl ⟨by rfl, ?_⟩) hHeld ?_
  rotate_left
  · intro w' hSw
    have b0 := hSw.b0
    have n0 := hSw.n0
    have n1 := hSw.n1
    have n2 := hSw.n2
    clear hSw
    go_simp
    first | done | with_reducible rfl
  simp only [Act.put, List.getElem_toArray, List.getElem_cons_succ, List.getElem_cons_zero, List.setIfInBounds_toArray, List.set_cons_zero, List.set_cons_succ]
  refine wpAnyH_take (i := 11) (v := ?_) rfl (by kernel_rfl) (by kernel_rfl) (by kernel_rfl) (fun _ _ _ h => h) (Or.inl ⟨by rfl, ?_⟩) hHeld ?_
  rotate_left
  · intro w' hSw
    have b0 := hSw.b0
    have n0 := hSw.n0
    have n1 := hSw.n1
    have n2 := hSw.n2
    clear hSw
    go_simp
    first | done | with_reducible rfl
  simp only [Act.put, List.getElem_toArray, List.getElem_cons_succ, List.getElem_cons_zero, List.setIfInBounds_toArray, List.set_cons_zero, List.set_cons_succ]
  refine wpAnyH_take (i := 12) (v := .agg (dfc c a t)) rfl (by kernel_rfl) (by kernel_rfl) (by kernel_rfl) (fun _ _ _ h => h) (Or.inl ⟨by rfl, ?_⟩) hHeld ?_
  · intro w' hSw
    exact runBx (us := #[(0, .int .i64 ((c : Nat) : Int)), (1, .int .i64 ((a : Nat) : Int)), (2, .string t)]) _ rfl (by kernel_rfl) (run_bdf _ _ _ _)
  simp only [Act.put, List.getElem_toArray, List.getElem_cons_succ, List.getElem_cons_zero, List.setIfInBounds_toArray, List.set_cons_zero, List.set_cons_succ]
  have hS3 : Tf (w.heap.size + 1) N c a t (W2.drew.setRow w.heap.size (dfc c a t)) := ⟨(cell_same (setRow_other _ _ _ _ (by omega))).trans HSd.out.b0, (cell_same (setRow_other _ _ _ _ (by omega))).trans HSd.out.n0, (cell_same (setRow_other _ _ _ _ (by omega))).trans HSd.out.n1, (cell_same (setRow_other _ _ _ _ (by omega))).trans HSd.out.n2⟩
  refine ready_stx 13 _ (by kernel_rfl) rfl 37 (.tmp 2) (.tmp 34) rfl rfl w.heap.size (dfc c a t) rfl rfl 37 _ HD2.out (szDF _ _ _) rfl (df1a _ _ _) ?_
  have hHeld := hS3
  refine ⟨hHeld, ?_⟩
  simp only [Act.put, List.getElem_toArray, List.getElem_cons_succ, List.getElem_cons_zero]
  refine wpAnyH_take (i := 14) (v := ?_) rfl (by kernel_rfl) (by kernel_rfl) (by kernel_rfl) (fun _ _ _ h => h) (Or.inl ⟨by rfl, ?_⟩) hHeld ?_
  rotate_left
  · intro w' hSw
    clear hSw
    go_simp
    first | done | with_reducible rfl
  simp only [Act.put, List.getElem_toArray, List.getElem_cons_succ, List.getElem_cons_zero, List.setIfInBounds_toArray, List.set_cons_zero, List.set_cons_succ]
  refine wpAnyH_done (by kernel_rfl) ?_ _
  clear hS3 hHeld
  go_wp2
  have hF := setRow_heap W2.drew w.heap.size (dfc 0 0 ⟨#[]⟩) (dfc c a t) 37 _ HD2.out
  have hb : Below w.heap.size w (W2.drew.setRow w.heap.size (dfc c a t)) := (⟨HL2.out.os, HL2.out.tape, HL2.out.output, HL2.out.size, HL2.out.block⟩ : Below w.heap.size w W2.drew).trans ⟨rfl, rfl, rfl, by simp [World.setRow], fun k hk => setRow_other _ _ k _ (by omega)⟩
  exact bodyPost_ret (v := .tuple #[.agg (dfc c a t), .bool true]) (res_df Tryz.results11 _ _ w.heap.size c a t rfl hF) rfl ⟨rfl, hb⟩
end Go.Proofs.YtcifeankgnjndaaGreatDoor
