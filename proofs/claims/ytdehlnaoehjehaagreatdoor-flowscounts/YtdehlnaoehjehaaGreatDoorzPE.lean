/-
  Proved here: placed at entries puts one to its place. Condition: fewer than 2 to 31 entries.
-/
import Derived.Test.YtdehlnaoehjehaaGreatDoorzEN
namespace Go.Proofs.YtdehlnaoehjehaaGreatDoor
set_option maxRecDepth 100000
open Go.RowKit

section
variable {ops : Array Oper} {o : Oper} {a : Act} {w : World} {K : Act → World → Prop} {Q : Exit → Act → World → Prop} {E : Prop}
/-- A call of a Go function as a step of a region that draws its order. -/
theorem stepFnW (f : FuncId) (y : Operand) (xs : List Operand) (ts : Array TypeId) (args : List Value) (hop : o.op = .call { callee := .value y, args := xs.toArray, argTypes := ts }) (hw : Region.wanted o (yielded ops a.tmps) = true) (hy : a.eval y = .func (.func f) #[] #[]) (hx : xs.map a.eval = args) (hE : ∀ w, (callFunc f args.toArray).run Tryz.prog w = .ok (.enter f args.toArray) w)
    (Φ : Ending → World → Prop) (hC : Calls Tryz.prog f args.toArray w Φ) (hK : ∀ e w', Φ e w' → (∃ v, e = .returned v ∧ K (a.put o.dst v) w') ∨ ∃ ch, e = .panicked ch ∧ Q (.panic ch) a w') : if Region.wanted o (yielded ops a.tmps) = true then Oper.wp Tryz.prog o a w K Q else E := by
  rw [if_pos hw]
  have hrun : (execOp a.eval o).run Tryz.prog w = .ok (.enter f args.toArray) w := by
    unfold execOp
    simp only [hop, resolve, invoke, Deferred.ofValue, hy, Sem.run_bind, Sem.run_pure, Result.andThen_ok, List.map_toArray, hx, Array.append_empty, Array.empty_append, hE]
  show Oper.upon Tryz.prog o a K Q ((execOp a.eval o).run Tryz.prog w)
  rw [hrun, Oper.upon_enter]
  refine hC.mono ?_
  intro e w' h
  rcases hK e w' h with ⟨v, rfl, hk⟩ | ⟨ch, rfl, hk⟩
  · exact hk
  · exact hk
end
/-- A load in the middle of a block, under a draw. -/
theorem runLd {o : Oper} {a : Act} {w' : World} (ty : TypeId) (x : Operand) (ho : o.op = .load ty x) (g p : Nat) (hx : a.eval x = .pointer (some ⟨g, p, none⟩)) (cs : Array Value) (d : TypeDesc) (hg : w'.rangeAt g p cs.toList) (hu : Tryz.prog.underlying ty = some d) (hd : d.isRow = true) (hi : (Tryz.prog.info? ty).map (·.size) = some cs.size) : (execOp a.eval o).run Tryz.prog w' = .ok (.value (.agg cs)) w' := by
  unfold execOp
  simp only [ho, hx, Instr.loadAt, Instr.sureAddr, Sem.run_bind, Sem.run_pure, Result.andThen_ok, run_loadVar_mid w' g p ty cs.toList d hg hu hd (by rw [hi]; simp), Array.toArray_toList]
theorem sizeE2 {x y : Value} : (Tryz.prog.info? 217).map (·.size) = some (#[x, y] : Array Value).size := by kernel_rfl
/-- Two entries, in two places. -/
structure He (b : Nat) (x y : Int) (b' p' : Nat) (x' y' : Int) (w : World) : Prop where
  rA : w.rangeAt b 0 (#[.int .i64 x, .int .i64 y] : Array Value).toList
  rB : w.rangeAt b' p' (#[.int .i64 x', .int .i64 y'] : Array Value).toList
theorem range2 {w : World} {b p : Nat} {x y : Value} (h0 : w.cell? ⟨b, p, none⟩ = some x) (h1 : w.cell? ⟨b, p + 1, none⟩ = some y) : w.rangeAt b p (#[x, y] : Array Value).toList := range_of fun i hi => by
  have hi2 : i < 2 := hi
  have : i = 0 ∨ i = 1 := by omega
  rcases this with rfl | rfl
  · exact h0
  · exact h1
set_option maxHeartbeats 3200000 in
set_option maxRecDepth 100000 in
theorem placedE_any {S : Nat → Prop} (w : World) (v : Value) (l : List En) (e : En) (h : Rw S 2 217 w v l.length (ces l)) (hn : l.length < 2147483647) :
    Calls Tryz.prog 183 #[v, ev e, .func (.func 120) #[] #[]] w fun r w' => PlE S w v (place l e) r w' := by
  obtain ⟨er, ek⟩ := e
  obtain ⟨W0, hW0⟩ : ∃ W0, W0 = w.alloc (.cells #[.int .i64 er, .int .i64 ek] 217) := ⟨_, rfl⟩
  have hB0 : Below w.heap.size w W0 := by rw [hW0]; exact (Below.refl _ _).alloc (Nat.le_refl _) _
  have hs0 : W0.heap.size = w.heap.size + 1 := by rw [hW0]; simp
  have hG0 : W0.heap[w.heap.size]? = some (.cells #[.int .i64 er, .int .i64 ek] 217 (0, 0)) := by rw [hW0]; exact heap_alloc_new _ _
  have HB0 := hid (And.intro hB0 (And.intro hs0 hG0))
  have HFin : Hid (∀ (wr : World) (q : Nat), Below w.heap.size w wr → posd l ⟨er, ek⟩ l.length = q → q ≤ l.length → Calls Tryz.prog 211 #[v, .int .i64 (q : Nat), .slice (some ⟨wr.heap.size, 0, none⟩) 1 1] (wr.alloc (.cells #[.int .i64 er, .int .i64 ek] 217)) fun r w' => PlE S w v (place l ⟨er, ek⟩) r w') := fun wr q h1 h2 h3 => plE_fin (e := ⟨er, ek⟩) h h1 h2 h3 hn
  obtain ⟨ao, cap, rfl⟩ := h.form
  have H := hid h
  have HW0 := hid hW0
  clear h hB0 hs0 hG0 hW0
  go_enter Tryz.func183, Tryz.ntmps183
  go_upto_region 2 with fail
  rw [← HW0.out]
  clear HW0
  go_loopw [7] (fun i wr => ∃ q : Nat, q ≤ l.length ∧ i = .int .i64 q ∧ Below W0.heap.size W0 wr ∧ posd l ⟨er, ek⟩ l.length = posd l ⟨er, ek⟩ q) (fun i _ => (intOf i).toNat)
  case atStart => exact ⟨l.length, by omega, rfl, Below.refl _ _, rfl⟩
  case round =>
    obtain ⟨q, hq, rfl, hlow, hpos⟩ := hrel
    generalize wr = wx at *
    have hx9 : wx.heap[w.heap.size]? = some (.cells #[.int .i64 er, .int .i64 ek] 217 (0, 0)) := (hlow.block _ (by have := HB0.out.2.1; omega)).trans HB0.out.2.2
    have c0 : wx.cell? ⟨w.heap.size, 0, none⟩ = some (.int .i64 er) := by rw [cell_of_row _ _ _ _ _ _ hx9]; rfl
    have c1 : wx.cell? ⟨w.heap.size, 1, none⟩ = some (.int .i64 ek) := by rw [cell_of_row _ _ _ _ _ _ hx9]; rfl
    have HX9 := hid hx9
    have HBx : Hid (Below w.heap.size w wx) := HB0.out.1.trans (hlow.mono (by have := HB0.out.2.1; omega))
    have HLo := hid hlow
    clear hlow hx9
    by_cases hq0 : q = 0
    · subst hq0
      have HI := hid (HFin.out wx.drew 0 (HBx.out.drew) hpos (Nat.zero_le _))
      have d00 : decide ((0 : Int) < ((0 : Nat) : Int)) = false := rfl
      clear hpos HFin
      go_wp2_with fail
      refine wp_region_held_drew (S := fun _ => True) (by kernel_rfl) trivial (fun hHeld => ?_)
      refine wpAnyH_take (i := 0) (v := ?_) rfl (by kernel_rfl) (by kernel_rfl) (by kernel_rfl) (fun _ _ _ h => h) (Or.inl ⟨by rfl, ?_⟩) hHeld ?_
      rotate_left
      · intro w' hSw
        clear hSw
        go_simp
        first | done | with_reducible rfl
      simp only [Act.put, List.getElem_toArray, List.getElem_cons_zero, List.setIfInBounds_toArray, List.set_cons_zero, List.set_cons_succ]
      refine wpAnyH_take (i := 1) (v := ?_) rfl (by kernel_rfl) (by kernel_rfl) (by kernel_rfl) (fun _ _ _ h => h) (Or.inl ⟨by rfl, ?_⟩) hHeld ?_
      rotate_left
      · intro w' hSw
        clear hSw
        go_simp
        first | done | with_reducible rfl
      simp only [Act.put, List.getElem_toArray, List.getElem_cons_succ, List.getElem_cons_zero, List.setIfInBounds_toArray, List.set_cons_zero, List.set_cons_succ]
      refine wpAnyH_take (i := 2) (v := ?_) rfl (by kernel_rfl) (by kernel_rfl) (by kernel_rfl) (fun _ _ _ h => h) (Or.inl ⟨by rfl, ?_⟩) hHeld ?_
      rotate_left
      · intro w' hSw
        clear hSw
        go_simp
        first | done | with_reducible rfl
      simp only [Act.put, List.getElem_toArray, List.getElem_cons_succ, List.getElem_cons_zero, List.setIfInBounds_toArray, List.set_cons_zero, List.set_cons_succ]
      refine wpAnyH_take (i := 3) (v := undef) rfl (by kernel_rfl) (by kernel_rfl) (by kernel_rfl) (fun _ _ _ h => h) (Or.inr ⟨by rfl, rfl⟩) hHeld ?_
      simp only [Act.put, List.getElem_toArray, List.getElem_cons_succ, List.getElem_cons_zero, List.setIfInBounds_toArray, List.set_cons_zero, List.set_cons_succ]
      refine wpAnyH_take (i := 4) (v := undef) rfl (by kernel_rfl) (by kernel_rfl) (by kernel_rfl) (fun _ _ _ h => h) (Or.inr ⟨by rfl, rfl⟩) hHeld ?_
      simp only [Act.put, List.getElem_toArray, List.getElem_cons_succ, List.getElem_cons_zero, List.setIfInBounds_toArray, List.set_cons_zero, List.set_cons_succ]
      refine wpAnyH_take (i := 5) (v := undef) rfl (by kernel_rfl) (by kernel_rfl) (by kernel_rfl) (fun _ _ _ h => h) (Or.inr ⟨by rfl, rfl⟩) hHeld ?_
      simp only [Act.put, List.getElem_toArray, List.getElem_cons_succ, List.getElem_cons_zero, List.setIfInBounds_toArray, List.set_cons_zero, List.set_cons_succ]
      refine wpAnyH_take (i := 6) (v := undef) rfl (by kernel_rfl) (by kernel_rfl) (by kernel_rfl) (fun _ _ _ h => h) (Or.inr ⟨by rfl, rfl⟩) hHeld ?_
      simp only [Act.put, List.getElem_toArray, List.getElem_cons_succ, List.getElem_cons_zero, List.setIfInBounds_toArray, List.set_cons_zero, List.set_cons_succ]
      refine wpAnyH_take (i := 7) (v := undef) rfl (by kernel_rfl) (by kernel_rfl) (by kernel_rfl) (fun _ _ _ h => h) (Or.inr ⟨by rfl, rfl⟩) hHeld ?_
      simp only [Act.put, List.getElem_toArray, List.getElem_cons_succ, List.getElem_cons_zero, List.setIfInBounds_toArray, List.set_cons_zero, List.set_cons_succ]
      refine wpAnyH_take (i := 8) (v := undef) rfl (by kernel_rfl) (by kernel_rfl) (by kernel_rfl) (fun _ _ _ h => h) (Or.inr ⟨by rfl, rfl⟩) hHeld ?_
      simp only [Act.put, List.getElem_toArray, List.getElem_cons_succ, List.getElem_cons_zero, List.setIfInBounds_toArray, List.set_cons_zero, List.set_cons_succ]
      refine wpAnyH_take (i := 9) (v := undef) rfl (by kernel_rfl) (by kernel_rfl) (by kernel_rfl) (fun _ _ _ h => h) (Or.inr ⟨by rfl, rfl⟩) hHeld ?_
      simp only [Act.put, List.getElem_toArray, List.getElem_cons_succ, List.getElem_cons_zero, List.setIfInBounds_toArray, List.set_cons_zero, List.set_cons_succ]
      refine wpAnyH_take (i := 10) (v := undef) rfl (by kernel_rfl) (by kernel_rfl) (by kernel_rfl) (fun _ _ _ h => h) (Or.inr ⟨by rfl, rfl⟩) hHeld ?_
      simp only [Act.put, List.getElem_toArray, List.getElem_cons_succ, List.getElem_cons_zero, List.setIfInBounds_toArray, List.set_cons_zero, List.set_cons_succ]
      refine wpAnyH_take (i := 11) (v := ?_) rfl (by kernel_rfl) (by kernel_rfl) (by kernel_rfl) (fun _ _ _ h => h) (Or.inl ⟨by rfl, ?_⟩) hHeld ?_
      rotate_left
      · intro w' hSw
        clear hSw
        go_simp
        first | done | with_reducible rfl
      simp only [Act.put, List.getElem_toArray, List.getElem_cons_succ, List.getElem_cons_zero, List.setIfInBounds_toArray, List.set_cons_zero, List.set_cons_succ]
      refine wpAnyH_done (by kernel_rfl) ?_ _
      go_wp2_with (go_at_call 211; refine (HI.out).mono ?_; rintro r w5 ⟨v', rfl, h1, h2⟩; have HF := hid (And.intro h1 h2); clear h1 h2)
      go_ret
      exact ⟨_, rfl, HF.out⟩
    · obtain ⟨j, hqj⟩ : ∃ j, q = j + 1 := ⟨q - 1, by omega⟩
      have hj : j < l.length := by omega
      rcases H.out with ⟨hx, ⟨_, hz0⟩ | ⟨g, o, cap', cur, he, hb1, hb2, hb3, hb4, hb5⟩⟩
      · omega
      obtain ⟨rfl, rfl⟩ : ao = some ⟨g, o, none⟩ ∧ cap = cap' := by simpa using he
      obtain ⟨⟨yr, yk⟩, hy⟩ : ∃ y : En, y = l[j] := ⟨_, rfl⟩
      have hgl := (Array.getElem?_eq_some_iff.1 hb2).1
      have hgx : wx.heap[g]? = some (.cells cur 217 (0, 0)) := (HBx.out.block g hgl).trans hb2
      have d0 : wx.cell? ⟨g, o + j * 2, none⟩ = some (.int .i64 yr) := by
        rw [cell_of_row _ _ _ _ _ _ hgx]
        have := cells_at hb5 (j := j * 2 + 0) (by omega)
        rw [ces_at l j 0 hj (by omega), ← hy] at this
        exact this
      have d1 : wx.cell? ⟨g, o + j * 2 + 1, none⟩ = some (.int .i64 yk) := by
        rw [cell_of_row _ _ _ _ _ _ hgx]
        have := cells_at hb5 (j := j * 2 + 1) (by omega)
        rw [ces_at l j 1 hj (by omega), ← hy] at this
        exact this
      have hgd : l.getD j ⟨0, 0⟩ = ⟨yr, yk⟩ := by rw [List.getD_eq_getElem?_getD, List.getElem?_eq_getElem hj, hy]; rfl
      have hpd : posd l ⟨er, ek⟩ q = if ahd ⟨er, ek⟩ ⟨yr, yk⟩ then posd l ⟨er, ek⟩ j else j + 1 := by
        rw [hqj]
        show (if ahd ⟨er, ek⟩ (l.getD j ⟨0, 0⟩) then _ else _) = _
        rw [hgd]
      have HC := hid (ahead_any ⟨er, ek⟩ ⟨yr, yk⟩ wx.drew)
      have hw1 : IntKind.i64.wrap ((q : Int) - 1) = (j : Int) := by rw [IntKind.wrap_i64]; omega
      have hjl : decide ((j : Int) < (l.length : Int)) = true := decide_eq_true (by omega)
      have hq1 : decide ((0 : Int) < (q : Int)) = true := decide_eq_true (by omega)
      have hq2 : 0 < q := by omega
      have hbx9 := cell_lt c0
      have hbg := cell_lt d0
      have HS0 : Hid (He w.heap.size er ek g (o + j * 2) yr yk wx.drew) := ⟨range2 c0 c1, range2 d0 d1⟩
      have HS : Hid (∀ w5, Below wx.drew.heap.size wx.drew w5 → He w.heap.size er ek g (o + j * 2) yr yk w5) := fun w5 hb => ⟨range2 (by rw [hb.cell (p := ⟨w.heap.size, 0, none⟩) hbx9]; exact c0) (by rw [hb.cell (p := ⟨w.heap.size, 0 + 1, none⟩) hbx9]; exact c1), range2 (by rw [hb.cell (p := ⟨g, o + j * 2, none⟩) hbg]; exact d0) (by rw [hb.cell (p := ⟨g, o + j * 2 + 1, none⟩) hbg]; exact d1)⟩
      obtain ⟨qq, hqq⟩ : ∃ qq, qq = ahd ⟨er, ek⟩ ⟨yr, yk⟩ := ⟨_, rfl⟩
      rw [← hqq] at HC hpd
      have HHy := hid (And.intro hy hqq)
      have HPd := hid (hpos.trans hpd)
      have HQj := hid hqj
      have HBr : Hid (∀ w5, Below wx.drew.heap.size wx.drew w5 → Below W0.heap.size W0 w5 ∧ Below w.heap.size w w5) := fun w5 hb => ⟨HLo.out.trans ((show Below W0.heap.size wx wx.drew from (Below.refl _ _).drew).trans (hb.mono HLo.out.size)), HBx.out.trans ((show Below w.heap.size wx wx.drew from (Below.refl _ _).drew).trans (hb.mono HBx.out.size))⟩
      clear hx he hb1 hb2 hb3 hb4 hb5 hgl hgx hgd hpd hy hqq hpos hqj
      cases qq with
      | true =>
        go_wp2_with fail
        refine wp_region_held_drew (S := He w.heap.size er ek g (o + j * 2) yr yk) (by kernel_rfl) HS0.out (fun hHeld => ?_)
        refine wpAnyH_take (i := 0) (v := ?_) rfl (by kernel_rfl) (by kernel_rfl) (by kernel_rfl) (fun _ _ _ h => h) (Or.inl ⟨by rfl, ?_⟩) hHeld ?_
        rotate_left
        · intro w' hSw
          clear hSw
          go_simp
          first | done | with_reducible rfl
        simp only [Act.put, List.getElem_toArray, List.getElem_cons_zero, List.setIfInBounds_toArray, List.set_cons_zero, List.set_cons_succ]
        refine wpAnyH_take (i := 1) (v := ?_) rfl (by kernel_rfl) (by kernel_rfl) (by kernel_rfl) (fun _ _ _ h => h) (Or.inl ⟨by rfl, ?_⟩) hHeld ?_
        rotate_left
        · intro w' hSw
          clear hSw
          go_simp
          first | done | with_reducible rfl
        simp only [Act.put, List.getElem_toArray, List.getElem_cons_succ, List.getElem_cons_zero, List.setIfInBounds_toArray, List.set_cons_zero, List.set_cons_succ]
        refine wpAnyH_take (i := 2) (v := ?_) rfl (by kernel_rfl) (by kernel_rfl) (by kernel_rfl) (fun _ _ _ h => h) (Or.inl ⟨by rfl, ?_⟩) hHeld ?_
        rotate_left
        · intro w' hSw
          clear hSw
          go_simp
          first | done | with_reducible rfl
        simp only [Act.put, List.getElem_toArray, List.getElem_cons_succ, List.getElem_cons_zero, List.setIfInBounds_toArray, List.set_cons_zero, List.set_cons_succ]
        refine wpAnyH_take (i := 3) (v := ?_) rfl (by kernel_rfl) (by kernel_rfl) (by kernel_rfl) (fun _ _ _ h => h) (Or.inl ⟨by rfl, ?_⟩) hHeld ?_
        rotate_left
        · intro w' hSw
          clear hSw
          go_simp
          first | done | with_reducible rfl
        simp only [Act.put, List.getElem_toArray, List.getElem_cons_succ, List.getElem_cons_zero, List.setIfInBounds_toArray, List.set_cons_zero, List.set_cons_succ]
        refine wpAnyH_take (i := 4) (v := (.agg #[.int .i64 er, .int .i64 ek])) rfl (by kernel_rfl) (by kernel_rfl) (by kernel_rfl) (fun _ _ _ h => h) (Or.inl ⟨by rfl, ?_⟩) hHeld ?_
        · intro w' hSw
          exact runLd 217 (.tmp 4) rfl w.heap.size (0) rfl #[.int .i64 er, .int .i64 ek] _ hSw.rA Tryz.underlying217 rfl sizeE2
        simp only [Act.put, List.getElem_toArray, List.getElem_cons_succ, List.getElem_cons_zero, List.setIfInBounds_toArray, List.set_cons_zero, List.set_cons_succ]
        refine wpAnyH_take (i := 5) (v := ?_) rfl (by kernel_rfl) (by kernel_rfl) (by kernel_rfl) (fun _ _ _ h => h) (Or.inl ⟨by rfl, ?_⟩) hHeld ?_
        rotate_left
        · intro w' hSw
          clear hSw
          go_simp
          first | done | with_reducible rfl
        simp only [Act.put, List.getElem_toArray, List.getElem_cons_succ, List.getElem_cons_zero, List.setIfInBounds_toArray, List.set_cons_zero, List.set_cons_succ]
        refine wpAnyH_take (i := 6) (v := ?_) rfl (by kernel_rfl) (by kernel_rfl) (by kernel_rfl) (fun _ _ _ h => h) (Or.inl ⟨by rfl, ?_⟩) hHeld ?_
        rotate_left
        · intro w' hSw
          clear hSw
          go_simp
          first | done | with_reducible rfl
        simp only [Act.put, List.getElem_toArray, List.getElem_cons_succ, List.getElem_cons_zero, List.setIfInBounds_toArray, List.set_cons_zero, List.set_cons_succ]
        refine wpAnyH_take (i := 7) (v := ?_) rfl (by kernel_rfl) (by kernel_rfl) (by kernel_rfl) (fun _ _ _ h => h) (Or.inl ⟨by rfl, ?_⟩) hHeld ?_
        rotate_left
        · intro w' hSw
          clear hSw
          go_simp
          first | done | with_reducible rfl
        simp only [Act.put, List.getElem_toArray, List.getElem_cons_succ, List.getElem_cons_zero, List.setIfInBounds_toArray, List.set_cons_zero, List.set_cons_succ]
        refine wpAnyH_take (i := 8) (v := ?_) rfl (by kernel_rfl) (by kernel_rfl) (by kernel_rfl) (fun _ _ _ h => h) (Or.inl ⟨by rfl, ?_⟩) hHeld ?_
        rotate_left
        · intro w' hSw
          clear hSw
          go_simp
          first | done | with_reducible rfl
        simp only [Act.put, List.getElem_toArray, List.getElem_cons_succ, List.getElem_cons_zero, List.setIfInBounds_toArray, List.set_cons_zero, List.set_cons_succ]
        refine wpAnyH_take (i := 9) (v := (.agg #[.int .i64 yr, .int .i64 yk])) rfl (by kernel_rfl) (by kernel_rfl) (by kernel_rfl) (fun _ _ _ h => h) (Or.inl ⟨by rfl, ?_⟩) hHeld ?_
        · intro w' hSw
          exact runLd 217 (.tmp 18) rfl g (o + j * 2) rfl #[.int .i64 yr, .int .i64 yk] _ hSw.rB Tryz.underlying217 rfl sizeE2
        simp only [Act.put, List.getElem_toArray, List.getElem_cons_succ, List.getElem_cons_zero, List.setIfInBounds_toArray, List.set_cons_zero, List.set_cons_succ]
        refine wpAnyH_ready (rs := [10]) (by kernel_rfl) (by simp) ?_
        refine AllReadyH.cons rfl (fun K hK => ?_) AllReadyH.nil
        refine stepFnW 120 (.tmp 13) [.tmp 14, .tmp 19] _ [ev ⟨er, ek⟩, ev ⟨yr, yk⟩] rfl rfl rfl rfl (fun _ => rfl) _ HC.out ?_
        rintro r w5 ⟨rfl, hb5⟩
        refine Or.inl ⟨_, rfl, ?_⟩
        have HB5 := hid hb5
        refine hK.out _ _ (HS.out w5 HB5.out) (fun hHeld => ?_)
        clear hK K hb5
        simp only [Act.put, List.getElem_toArray, List.getElem_cons_succ, List.getElem_cons_zero, List.setIfInBounds_toArray, List.set_cons_zero, List.set_cons_succ]
        refine wpAnyH_take (i := 11) (v := ?_) rfl (by kernel_rfl) (by kernel_rfl) (by kernel_rfl) (fun _ _ _ h => h) (Or.inl ⟨by rfl, ?_⟩) hHeld ?_
        rotate_left
        · intro w' hSw
          clear hSw
          go_simp
          first | done | with_reducible rfl
        simp only [Act.put, List.getElem_toArray, List.getElem_cons_succ, List.getElem_cons_zero, List.setIfInBounds_toArray, List.set_cons_zero, List.set_cons_succ]
        refine wpAnyH_done (by kernel_rfl) ?_ _
        go_wp2
        go_roundw
        case rel => exact ⟨j, by have := HQj.out; omega, by go_num, (HBr.out _ HB5.out).1, HPd.out⟩
        case measure => simp [intOf]; have := HQj.out; omega
      | false =>
        go_wp2_with fail
        refine wp_region_held_drew (S := He w.heap.size er ek g (o + j * 2) yr yk) (by kernel_rfl) HS0.out (fun hHeld => ?_)
        refine wpAnyH_take (i := 0) (v := ?_) rfl (by kernel_rfl) (by kernel_rfl) (by kernel_rfl) (fun _ _ _ h => h) (Or.inl ⟨by rfl, ?_⟩) hHeld ?_
        rotate_left
        · intro w' hSw
          clear hSw
          go_simp
          first | done | with_reducible rfl
        simp only [Act.put, List.getElem_toArray, List.getElem_cons_zero, List.setIfInBounds_toArray, List.set_cons_zero, List.set_cons_succ]
        refine wpAnyH_take (i := 1) (v := ?_) rfl (by kernel_rfl) (by kernel_rfl) (by kernel_rfl) (fun _ _ _ h => h) (Or.inl ⟨by rfl, ?_⟩) hHeld ?_
        rotate_left
        · intro w' hSw
          clear hSw
          go_simp
          first | done | with_reducible rfl
        simp only [Act.put, List.getElem_toArray, List.getElem_cons_succ, List.getElem_cons_zero, List.setIfInBounds_toArray, List.set_cons_zero, List.set_cons_succ]
        refine wpAnyH_take (i := 2) (v := ?_) rfl (by kernel_rfl) (by kernel_rfl) (by kernel_rfl) (fun _ _ _ h => h) (Or.inl ⟨by rfl, ?_⟩) hHeld ?_
        rotate_left
        · intro w' hSw
          clear hSw
          go_simp
          first | done | with_reducible rfl
        simp only [Act.put, List.getElem_toArray, List.getElem_cons_succ, List.getElem_cons_zero, List.setIfInBounds_toArray, List.set_cons_zero, List.set_cons_succ]
        refine wpAnyH_take (i := 3) (v := ?_) rfl (by kernel_rfl) (by kernel_rfl) (by kernel_rfl) (fun _ _ _ h => h) (Or.inl ⟨by rfl, ?_⟩) hHeld ?_
        rotate_left
        · intro w' hSw
          clear hSw
          go_simp
          first | done | with_reducible rfl
        simp only [Act.put, List.getElem_toArray, List.getElem_cons_succ, List.getElem_cons_zero, List.setIfInBounds_toArray, List.set_cons_zero, List.set_cons_succ]
        refine wpAnyH_take (i := 4) (v := (.agg #[.int .i64 er, .int .i64 ek])) rfl (by kernel_rfl) (by kernel_rfl) (by kernel_rfl) (fun _ _ _ h => h) (Or.inl ⟨by rfl, ?_⟩) hHeld ?_
        · intro w' hSw
          exact runLd 217 (.tmp 4) rfl w.heap.size (0) rfl #[.int .i64 er, .int .i64 ek] _ hSw.rA Tryz.underlying217 rfl sizeE2
        simp only [Act.put, List.getElem_toArray, List.getElem_cons_succ, List.getElem_cons_zero, List.setIfInBounds_toArray, List.set_cons_zero, List.set_cons_succ]
        refine wpAnyH_take (i := 5) (v := ?_) rfl (by kernel_rfl) (by kernel_rfl) (by kernel_rfl) (fun _ _ _ h => h) (Or.inl ⟨by rfl, ?_⟩) hHeld ?_
        rotate_left
        · intro w' hSw
          clear hSw
          go_simp
          first | done | with_reducible rfl
        simp only [Act.put, List.getElem_toArray, List.getElem_cons_succ, List.getElem_cons_zero, List.setIfInBounds_toArray, List.set_cons_zero, List.set_cons_succ]
        refine wpAnyH_take (i := 6) (v := ?_) rfl (by kernel_rfl) (by kernel_rfl) (by kernel_rfl) (fun _ _ _ h => h) (Or.inl ⟨by rfl, ?_⟩) hHeld ?_
        rotate_left
        · intro w' hSw
          clear hSw
          go_simp
          first | done | with_reducible rfl
        simp only [Act.put, List.getElem_toArray, List.getElem_cons_succ, List.getElem_cons_zero, List.setIfInBounds_toArray, List.set_cons_zero, List.set_cons_succ]
        refine wpAnyH_take (i := 7) (v := ?_) rfl (by kernel_rfl) (by kernel_rfl) (by kernel_rfl) (fun _ _ _ h => h) (Or.inl ⟨by rfl, ?_⟩) hHeld ?_
        rotate_left
        · intro w' hSw
          clear hSw
          go_simp
          first | done | with_reducible rfl
        simp only [Act.put, List.getElem_toArray, List.getElem_cons_succ, List.getElem_cons_zero, List.setIfInBounds_toArray, List.set_cons_zero, List.set_cons_succ]
        refine wpAnyH_take (i := 8) (v := ?_) rfl (by kernel_rfl) (by kernel_rfl) (by kernel_rfl) (fun _ _ _ h => h) (Or.inl ⟨by rfl, ?_⟩) hHeld ?_
        rotate_left
        · intro w' hSw
          clear hSw
          go_simp
          first | done | with_reducible rfl
        simp only [Act.put, List.getElem_toArray, List.getElem_cons_succ, List.getElem_cons_zero, List.setIfInBounds_toArray, List.set_cons_zero, List.set_cons_succ]
        refine wpAnyH_take (i := 9) (v := (.agg #[.int .i64 yr, .int .i64 yk])) rfl (by kernel_rfl) (by kernel_rfl) (by kernel_rfl) (fun _ _ _ h => h) (Or.inl ⟨by rfl, ?_⟩) hHeld ?_
        · intro w' hSw
          exact runLd 217 (.tmp 18) rfl g (o + j * 2) rfl #[.int .i64 yr, .int .i64 yk] _ hSw.rB Tryz.underlying217 rfl sizeE2
        simp only [Act.put, List.getElem_toArray, List.getElem_cons_succ, List.getElem_cons_zero, List.setIfInBounds_toArray, List.set_cons_zero, List.set_cons_succ]
        refine wpAnyH_ready (rs := [10]) (by kernel_rfl) (by simp) ?_
        refine AllReadyH.cons rfl (fun K hK => ?_) AllReadyH.nil
        refine stepFnW 120 (.tmp 13) [.tmp 14, .tmp 19] _ [ev ⟨er, ek⟩, ev ⟨yr, yk⟩] rfl rfl rfl rfl (fun _ => rfl) _ HC.out ?_
        rintro r w5 ⟨rfl, hb5⟩
        refine Or.inl ⟨_, rfl, ?_⟩
        have HB5 := hid hb5
        refine hK.out _ _ (HS.out w5 HB5.out) (fun hHeld => ?_)
        clear hK K hb5
        simp only [Act.put, List.getElem_toArray, List.getElem_cons_succ, List.getElem_cons_zero, List.setIfInBounds_toArray, List.set_cons_zero, List.set_cons_succ]
        refine wpAnyH_take (i := 11) (v := ?_) rfl (by kernel_rfl) (by kernel_rfl) (by kernel_rfl) (fun _ _ _ h => h) (Or.inl ⟨by rfl, ?_⟩) hHeld ?_
        rotate_left
        · intro w' hSw
          clear hSw
          go_simp
          first | done | with_reducible rfl
        simp only [Act.put, List.getElem_toArray, List.getElem_cons_succ, List.getElem_cons_zero, List.setIfInBounds_toArray, List.set_cons_zero, List.set_cons_succ]
        refine wpAnyH_done (by kernel_rfl) ?_ _
        have HI := hid (HFin.out w5 q (HBr.out _ HB5.out).2 (HPd.out.trans HQj.out.symm) hq)
        obtain ⟨k0, k1⟩ : w5.cell? ⟨w.heap.size, 0, none⟩ = some (.int .i64 er) ∧ w5.cell? ⟨w.heap.size, 1, none⟩ = some (.int .i64 ek) := ⟨by rw [HB5.out.cell (p := ⟨w.heap.size, 0, none⟩) hbx9]; exact c0, by rw [HB5.out.cell (p := ⟨w.heap.size, 1, none⟩) hbx9]; exact c1⟩
        go_wp2_with (go_at_call 211; refine (HI.out).mono ?_; rintro r w6 ⟨v', rfl, h1, h2⟩; have HF := hid (And.intro h1 h2); clear h1 h2)
        go_ret
        exact ⟨_, rfl, HF.out⟩
end Go.Proofs.YtdehlnaoehjehaaGreatDoor
