/-
  Proved here: MessageWrites' body says true. Conditions: the tables hold their numbers; the message's memory is old and as it says, its numbers of their types.
-/
/-
  Plain: reading by a reader that is good, with bytes left, or bad (Got): how readings one behind the other make the whole's. No program is spoken of.
-/
import Derived.Test.YtllbbbfkdgjffaaGreatDoorCK
import Derived.Test.YtllbbbfkdgjffaaGreatDoorJ3
namespace Go.Proofs.YtllbbbfkdgjffaaGreatDoor
open Go.RowKit

section
variable {ops : Array Oper} {o : Oper} {a : Act} {w : World} {K : Act → World → Prop} {Q : Exit → Act → World → Prop} {E : Prop}
/-- A call of a Go function as a step of a region that draws its order. -/
theorem stepFnW7 (f : FuncId) (y : Operand) (xs : List Operand) (ts : Array TypeId) (args : List Value) (hop : o.op = .call { callee := .value y, args := xs.toArray, argTypes := ts }) (hw : Region.wanted o (yielded ops a.tmps) = true) (hy : a.eval y = .func (.func f) #[] #[]) (hx : xs.map a.eval = args) (hE : ∀ w, (callFunc f args.toArray).run Tryz.prog w = .ok (.enter f args.toArray) w)
    (Φ : Ending → World → Prop) (hC : Calls Tryz.prog f args.toArray w Φ) (hK : ∀ e w', Φ e w' → (∃ v, e = .returned v ∧ K (a.put o.dst v) w') ∨ ∃ ch, e = .panicked ch ∧ Q (.panic ch) a w') : if Region.wanted o (yielded ops a.tmps) = true then Oper.wp Tryz.prog o a w K Q else E := by
  rw [if_pos hw]
  have hrun : (execOp a.eval o).run Tryz.prog w = .ok (.enter f args.toArray) w := by
    unfold execOp
    simp only [hop, resolve, invoke, Deferred.ofValue, hy, Sem.run_bind, Sem.run_pure, Result.andThen_ok, List.map_toArray, hx, Array.append_empty, Array.empty_append, hE]
  show Oper.upon Tryz.prog o a K Q ((execOp a.eval o).run Tryz.prog w)
  rw [hrun, Oper.upon_enter]
  refine hC.mono ?_
  intro e w' h
  rcases hK e w' h with ⟨v, rfl, hk⟩ | ⟨ch, rfl, hk⟩
  · exact hk
  · exact hk
end
theorem runLd7 {o : Oper} {a : Act} {w' : World} (ty : TypeId) (x : Operand) (ho : o.op = .load ty x) (g p : Nat) (hx : a.eval x = .pointer (some ⟨g, p, none⟩)) (cs : Array Value) (d : TypeDesc) (hg : w'.rangeAt g p cs.toList) (hu : Tryz.prog.underlying ty = some d) (hd : d.isRow = true) (hi : (Tryz.prog.info? ty).map (·.size) = some cs.size) : (execOp a.eval o).run Tryz.prog w' = .ok (.value (.agg cs)) w' := by
  unfold execOp
  simp only [ho, hx, Instr.loadAt, Instr.sureAddr, Sem.run_bind, Sem.run_pure, Result.andThen_ok, run_loadVar_mid w' g p ty cs.toList d hg hu hd (by rw [hi]; simp), Array.toArray_toList]
theorem runConv7 {o : Oper} {a : Act} {w' : World} {S : Nat → Prop} {v : Value} {bs : List Int} (x : Operand) (ho : o.op = .convert 34 9 x) (hx : a.eval x = v) (h : SlC S w' v bs) : (execOp a.eval o).run Tryz.prog w' = .ok (.value (.string (str bs))) w' := by
  have hc := conv_sl h.sl
  unfold execOp
  simp only [ho, hx, Sem.run_bind, Sem.run_pure, Result.andThen_ok, hc]
theorem runStr7 {o : Oper} {a : Act} {w' : World} {b : ByteArray} (x y : Operand) (ho : o.op = .binOp .eql 9 x y 9) (hx : a.eval x = .string b) (hy : a.eval y = .string b) : (execOp a.eval o).run Tryz.prog w' = .ok (.value (.bool true)) w' := by
  unfold execOp
  simp only [ho, hx, hy]
  go_simp
/-- What the law's last look holds. -/
structure Hw (g : Nat) (m : Ms) (s : Sls) (v1 v2 : Value) (bs : List Int) (w : World) : Prop where
  mb : MB w g m s
  s1 : SlC (fun _ => True) w v1 bs
  s2 : SlC (fun _ => True) w v2 bs
theorem Hw.rr {g : Nat} {m : Ms} {s : Sls} {v1 v2 : Value} {bs : List Int} {w : World} (h : Hw g m s v1 v2 bs w) : w.rangeAt g 0 (msc m s).toList := range_of fun i _ => by rw [Nat.zero_add, cell_of_row _ _ _ _ _ _ h.mb]
theorem Hw.on {g : Nat} {m : Ms} {s : Sls} {v1 v2 : Value} {bs : List Int} {w w' : World} (h : Hw g m s v1 v2 bs w) (hb : Below w.heap.size w w') : Hw g m s v1 v2 bs w' := ⟨h.mb.on hb, h.s1.carry fun k hk _ => ⟨trivial, hb.block k hk⟩, h.s2.carry fun k hk _ => ⟨trivial, hb.block k hk⟩⟩
theorem Hw.drew {g : Nat} {m : Ms} {s : Sls} {v1 v2 : Value} {bs : List Int} {w : World} (h : Hw g m s v1 v2 bs w) : Hw g m s v1 v2 bs w.drew := ⟨h.mb, h.s1, h.s2⟩
theorem bel_drew7 {b : Nat} {w w' : World} (h : Below b w w') : Below b w w'.drew := ⟨h.os, h.tape, h.output, h.size, h.block⟩
set_option maxHeartbeats 6400000 in
set_option maxRecDepth 100000 in
theorem mwrites_any {T : Nat → Prop} {w : World} (m : Ms) (s : Sls) (hs : Mss T w m s) (hf : m.Fit) (hT : ∀ x, T x → x < w.heap.size) (ht : Tab w) :
    Calls Tryz.prog 3 #[.agg (msc m s)] w fun e w' => e = .returned (.bool true) ∧ Below w.heap.size w w' := by
  have hB := Bx.new hs
  obtain ⟨W1, HW1⟩ : ∃ W, Hid (w.alloc (.cells (msc m s) 37) = W) := ⟨_, rfl⟩
  rw [HW1.out] at hB
  obtain ⟨g, hg⟩ : ∃ g, g = w.heap.size := ⟨_, rfl⟩
  rw [← hg] at hB
  have HG := hid hg
  have HL := hid hB.mb
  have hTx : ∀ V, Bx T w g m s V → ∀ x, T x → x < V.heap.size := fun V hV x hx => Nat.lt_of_lt_of_le (hT x hx) hV.low.size
  have hIs : IsB (enL m) := by
    unfold enL
    split
    · exact encMs_isB hf
    · intro x hx; cases hx
  have hLe : (enL m).length ≤ 140737488355328 := by
    unfold enL
    split
    · rename_i h0
      have := (enE_zero h0).2
      omega
    · simp
  have HE1 : Hid (Calls Tryz.prog 6 #[.agg (msc m s)] W1 fun e w' => ∃ v, e = .returned (.tuple #[v, .int .i64 (enE m)]) ∧ (∃ a c, v = .slice a (enL m).length c) ∧ Bx T w g m s w' ∧ SlC (fun _ => True) w' v (enL m)) := (encode_any m s W1 hB.ms hf (hTx W1 hB) (ht.on hB.low)).mono fun e w' ⟨h1, v, h2, h3⟩ => by
    have hsl : SlC (fun _ => True) w' v (enL m) := SlC.own h3 hLe hIs fun _ _ _ => trivial
    exact ⟨v, h2, slc_form hsl, hB.on h1, hsl⟩
  have HE2 : Hid (∀ V v1, Bx T w g m s V → SlC (fun _ => True) V v1 (enL m) → Calls Tryz.prog 7 #[.agg (msc m s)] V fun e w' => ∃ v, e = .returned (.tuple #[v, .int .i64 (enE m)]) ∧ (∃ a c, v = .slice a (enL m).length c) ∧ Bx T w g m s w' ∧ Hw g m s v1 v (enL m) w') := fun V v1 hV h1 => (rencode_any m s V hV.ms hf (hTx V hV)).mono fun e w' ⟨h2, v, b, h3, _, h4⟩ => by
    have hsl : SlC (fun _ => True) w' v (enL m) := SlC.own h4 hLe hIs fun _ _ _ => trivial
    exact ⟨v, h3, slc_form hsl, hV.on h2, (hV.on h2).mb, h1.carry fun k hk _ => ⟨trivial, h2.block k hk⟩, hsl⟩
  have HC1 : Hid (∀ V, Bx T w g m s V → Calls Tryz.prog 8 #[.agg (msc m s)] V fun e w' => e = .returned (.int .i64 (enE m)) ∧ Below V.heap.size V w') := fun V hV => (check7_any m s V hV.ms hf (hTx V hV) (ht.on hV.low)).mono fun e w' ⟨h1, h2⟩ => ⟨h2, h1⟩
  have HC2 : Hid (∀ V, Bx T w g m s V → Calls Tryz.prog 9 #[.agg (msc m s)] V fun e w' => e = .returned (.int .i64 (enE m)) ∧ Below V.heap.size V w') := fun V hV => rcheck7_any m s V hV.ms hf (hTx V hV)
  have HWk : Hid (∀ V, Bx T w g m s V → Calls Tryz.prog 10 #[] V fun e w' => e = .returned (.bool true) ∧ Below V.heap.size V w') := fun V hV => wakes_any V (ht.on hV.low)
  clear hg hB hs hf hT ht hTx hIs hLe
  generalize enE m = z at HE1 HE2 HC1 HC2
  generalize enL m = bs at HE1 HE2
  go_enter Tryz.func3, Tryz.ntmps3
  go_upto_region 1 with (refine bxMs (.tmp 0) rfl rfl m s rfl W1 HW1 ?_)
  rw [← HG.out]
  go_upto_region 3 with (first
    | (refine ldRow 37 (.tmp 1) rfl rfl g rfl 37 (msc m s) _ Tryz.underlying37 rfl (sizeMs m s) HL.out ?_; clear HL)
    | (go_at_call 6; refine (HE1.out).mono ?_; rintro e x1 ⟨v1, rfl, ⟨a1, c1, rfl⟩, hX, hS⟩; have HX1 := hid (HE2.out x1 _ hX hS); have HL1 := hid hX.mb; clear hX hS HE1 HE2)
    | (refine ldRow 37 (.tmp 1) rfl rfl g rfl 37 (msc m s) _ Tryz.underlying37 rfl (sizeMs m s) HL1.out ?_; clear HL1)
    | (go_at_call 7; refine (HX1.out).mono ?_; rintro e x2 ⟨v2, rfl, ⟨a2, c2, rfl⟩, hX, hH⟩; have HX2 := hid hX; have HH2 := hid hH; clear hX hH HX1))
  have hXd : Bx T w g m s x2.drew := ⟨bel_drew7 HX2.out.low, HX2.out.mb, HX2.out.ms.carry fun b _ hb => ⟨hb, rfl⟩⟩
  have HXd := hid hXd
  have HHd := hid HH2.out.drew
  have H1 := hid (HC1.out _ hXd)
  have hzz : (z == z) = true := by simp
  clear hXd HX2 HH2 HC1
  refine wp_region_held_drew (S := Hw g m s (.slice a1 bs.length c1) (.slice a2 bs.length c2) bs) (by kernel_rfl) HHd.out (fun hHeld => ?_)
  refine wpAnyH_take (i := 0) (v := ?_) rfl (by kernel_rfl) (by kernel_rfl) (by kernel_rfl) (fun _ _ _ h => h) (Or.inl ⟨by rfl, ?_⟩) hHeld ?_
  rotate_left
  · intro w' hSw
    clear hSw
    go_simp
    first | done | with_reducible rfl
  simp only [Act.put, List.getElem_toArray, List.getElem_cons_zero, List.setIfInBounds_toArray, List.set_cons_zero, List.set_cons_succ]
  refine wpAnyH_take (i := 1) (v := ?_) rfl (by kernel_rfl) (by kernel_rfl) (by kernel_rfl) (fun _ _ _ h => h) (Or.inl ⟨by rfl, ?_⟩) hHeld ?_
  rotate_left
  · intro w' hSw
    clear hSw
    go_simp
    first | done | with_reducible rfl
  simp only [Act.put, List.getElem_toArray, List.getElem_cons_succ, List.getElem_cons_zero, List.setIfInBounds_toArray, List.set_cons_zero, List.set_cons_succ]
  refine wpAnyH_take (i := 2) (v := (.bool true)) rfl (by kernel_rfl) (by kernel_rfl) (by kernel_rfl) (fun _ _ _ h => h) (Or.inl ⟨by rfl, ?_⟩) hHeld ?_
  · intro w' hSw
    clear hSw
    go_simp
    first | done | with_reducible rfl
  simp only [Act.put, List.getElem_toArray, List.getElem_cons_succ, List.getElem_cons_zero, List.setIfInBounds_toArray, List.set_cons_zero, List.set_cons_succ]
  refine wpAnyH_take (i := 3) (v := ?_) rfl (by kernel_rfl) (by kernel_rfl) (by kernel_rfl) (fun _ _ _ h => h) (Or.inl ⟨by rfl, ?_⟩) hHeld ?_
  rotate_left
  · intro w' hSw
    clear hSw
    go_simp
    first | done | with_reducible rfl
  simp only [Act.put, List.getElem_toArray, List.getElem_cons_succ, List.getElem_cons_zero, List.setIfInBounds_toArray, List.set_cons_zero, List.set_cons_succ]
  refine wpAnyH_take (i := 4) (v := ?_) rfl (by kernel_rfl) (by kernel_rfl) (by kernel_rfl) (fun _ _ _ h => h) (Or.inl ⟨by rfl, ?_⟩) hHeld ?_
  rotate_left
  · intro w' hSw
    clear hSw
    go_simp
    first | done | with_reducible rfl
  simp only [Act.put, List.getElem_toArray, List.getElem_cons_succ, List.getElem_cons_zero, List.setIfInBounds_toArray, List.set_cons_zero, List.set_cons_succ]
  refine wpAnyH_take (i := 5) (v := (.string (str bs))) rfl (by kernel_rfl) (by kernel_rfl) (by kernel_rfl) (fun _ _ _ h => h) (Or.inl ⟨by rfl, ?_⟩) hHeld ?_
  · intro w' hSw
    exact runConv7 (.tmp 21) rfl rfl hSw.s1
  simp only [Act.put, List.getElem_toArray, List.getElem_cons_succ, List.getElem_cons_zero, List.setIfInBounds_toArray, List.set_cons_zero, List.set_cons_succ]
  refine wpAnyH_take (i := 6) (v := ?_) rfl (by kernel_rfl) (by kernel_rfl) (by kernel_rfl) (fun _ _ _ h => h) (Or.inl ⟨by rfl, ?_⟩) hHeld ?_
  rotate_left
  · intro w' hSw
    clear hSw
    go_simp
    first | done | with_reducible rfl
  simp only [Act.put, List.getElem_toArray, List.getElem_cons_succ, List.getElem_cons_zero, List.setIfInBounds_toArray, List.set_cons_zero, List.set_cons_succ]
  refine wpAnyH_take (i := 7) (v := (.string (str bs))) rfl (by kernel_rfl) (by kernel_rfl) (by kernel_rfl) (fun _ _ _ h => h) (Or.inl ⟨by rfl, ?_⟩) hHeld ?_
  · intro w' hSw
    exact runConv7 (.tmp 23) rfl rfl hSw.s2
  simp only [Act.put, List.getElem_toArray, List.getElem_cons_succ, List.getElem_cons_zero, List.setIfInBounds_toArray, List.set_cons_zero, List.set_cons_succ]
  refine wpAnyH_take (i := 8) (v := (.bool true)) rfl (by kernel_rfl) (by kernel_rfl) (by kernel_rfl) (fun _ _ _ h => h) (Or.inl ⟨by rfl, ?_⟩) hHeld ?_
  · intro w' hSw
    exact runStr7 (.tmp 22) (.tmp 24) rfl rfl rfl
  simp only [Act.put, List.getElem_toArray, List.getElem_cons_succ, List.getElem_cons_zero, List.setIfInBounds_toArray, List.set_cons_zero, List.set_cons_succ]
  refine wpAnyH_take (i := 9) (v := ?_) rfl (by kernel_rfl) (by kernel_rfl) (by kernel_rfl) (fun _ _ _ h => h) (Or.inl ⟨by rfl, ?_⟩) hHeld ?_
  rotate_left
  · intro w' hSw
    clear hSw
    go_simp
    first | done | with_reducible rfl
  simp only [Act.put, List.getElem_toArray, List.getElem_cons_succ, List.getElem_cons_zero, List.setIfInBounds_toArray, List.set_cons_zero, List.set_cons_succ]
  refine wpAnyH_take (i := 10) (v := ?_) rfl (by kernel_rfl) (by kernel_rfl) (by kernel_rfl) (fun _ _ _ h => h) (Or.inl ⟨by rfl, ?_⟩) hHeld ?_
  rotate_left
  · intro w' hSw
    clear hSw
    go_simp
    first | done | with_reducible rfl
  simp only [Act.put, List.getElem_toArray, List.getElem_cons_succ, List.getElem_cons_zero, List.setIfInBounds_toArray, List.set_cons_zero, List.set_cons_succ]
  refine wpAnyH_take (i := 11) (v := (.agg (msc m s))) rfl (by kernel_rfl) (by kernel_rfl) (by kernel_rfl) (fun _ _ _ h => h) (Or.inl ⟨by rfl, ?_⟩) hHeld ?_
  · intro w' hSw
    exact runLd7 37 (.tmp 1) rfl g 0 rfl (msc m s) _ hSw.rr Tryz.underlying37 rfl (sizeMs m s)
  simp only [Act.put, List.getElem_toArray, List.getElem_cons_succ, List.getElem_cons_zero, List.setIfInBounds_toArray, List.set_cons_zero, List.set_cons_succ]
  refine wpAnyH_take (i := 13) (v := (.agg (msc m s))) rfl (by kernel_rfl) (by kernel_rfl) (by kernel_rfl) (fun _ _ _ h => h) (Or.inl ⟨by rfl, ?_⟩) hHeld ?_
  · intro w' hSw
    exact runLd7 37 (.tmp 1) rfl g 0 rfl (msc m s) _ hSw.rr Tryz.underlying37 rfl (sizeMs m s)
  simp only [Act.put, List.getElem_toArray, List.getElem_cons_succ, List.getElem_cons_zero, List.setIfInBounds_toArray, List.set_cons_zero, List.set_cons_succ]
  refine wpAnyH_ready (rs := [12]) (by kernel_rfl) (by simp) ?_
  refine AllReadyH.cons rfl (fun K hK => ?_) AllReadyH.nil
  refine stepFnW7 8 (.func 8) [.tmp 28] _ [.agg (msc m s)] rfl rfl rfl rfl (fun _ => rfl) _ H1.out ?_
  rintro e x3 ⟨rfl, hb3⟩
  refine Or.inl ⟨_, rfl, ?_⟩
  have HX3 := hid (HXd.out.on hb3)
  have HH3 := hid (HHd.out.on hb3)
  have H2 := hid (HC2.out _ HX3.out)
  clear hb3 H1 HXd HC2
  refine hK.out _ _ HH3.out (fun hHeld => ?_)
  clear hK K
  simp only [Act.put, List.getElem_toArray, List.getElem_cons_succ, List.getElem_cons_zero, List.setIfInBounds_toArray, List.set_cons_zero, List.set_cons_succ]
  refine wpAnyH_ready (rs := [14]) (by kernel_rfl) (by simp) ?_
  refine AllReadyH.cons rfl (fun K hK => ?_) AllReadyH.nil
  refine stepFnW7 9 (.func 9) [.tmp 30] _ [.agg (msc m s)] rfl rfl rfl rfl (fun _ => rfl) _ H2.out ?_
  rintro e x4 ⟨rfl, hb4⟩
  refine Or.inl ⟨_, rfl, ?_⟩
  have HX4 := hid (HX3.out.on hb4)
  have HH4 := hid (HH3.out.on hb4)
  have H3 := hid (HWk.out _ HX4.out)
  clear hb4 H2 HX3 HWk
  refine hK.out _ _ HH4.out (fun hHeld => ?_)
  clear hK K
  simp only [Act.put, List.getElem_toArray, List.getElem_cons_succ, List.getElem_cons_zero, List.setIfInBounds_toArray, List.set_cons_zero, List.set_cons_succ]
  refine wpAnyH_take (i := 15) (v := (.bool true)) rfl (by kernel_rfl) (by kernel_rfl) (by kernel_rfl) (fun _ _ _ h => h) (Or.inl ⟨by rfl, ?_⟩) hHeld ?_
  · intro w' hSw
    clear hSw
    go_simp
    first | done | with_reducible rfl
  simp only [Act.put, List.getElem_toArray, List.getElem_cons_succ, List.getElem_cons_zero, List.setIfInBounds_toArray, List.set_cons_zero, List.set_cons_succ]
  refine wpAnyH_take (i := 16) (v := ?_) rfl (by kernel_rfl) (by kernel_rfl) (by kernel_rfl) (fun _ _ _ h => h) (Or.inl ⟨by rfl, ?_⟩) hHeld ?_
  rotate_left
  · intro w' hSw
    clear hSw
    go_simp
    first | done | with_reducible rfl
  simp only [Act.put, List.getElem_toArray, List.getElem_cons_succ, List.getElem_cons_zero, List.setIfInBounds_toArray, List.set_cons_zero, List.set_cons_succ]
  refine wpAnyH_take (i := 17) (v := ?_) rfl (by kernel_rfl) (by kernel_rfl) (by kernel_rfl) (fun _ _ _ h => h) (Or.inl ⟨by rfl, ?_⟩) hHeld ?_
  rotate_left
  · intro w' hSw
    clear hSw
    go_simp
    first | done | with_reducible rfl
  simp only [Act.put, List.getElem_toArray, List.getElem_cons_succ, List.getElem_cons_zero, List.setIfInBounds_toArray, List.set_cons_zero, List.set_cons_succ]
  refine wpAnyH_ready (rs := [18]) (by kernel_rfl) (by simp) ?_
  refine AllReadyH.cons rfl (fun K hK => ?_) AllReadyH.nil
  refine stepFnW7 10 (.func 10) [] _ [] rfl rfl rfl rfl (fun _ => rfl) _ H3.out ?_
  rintro e x5 ⟨rfl, hb5⟩
  refine Or.inl ⟨_, rfl, ?_⟩
  have HX5 := hid (HX4.out.on hb5)
  have HH5 := hid (HH4.out.on hb5)
  clear hb5 H3 HX4
  refine hK.out _ _ HH5.out (fun hHeld => ?_)
  clear hK K
  simp only [Act.put, List.getElem_toArray, List.getElem_cons_succ, List.getElem_cons_zero, List.setIfInBounds_toArray, List.set_cons_zero, List.set_cons_succ]
  refine wpAnyH_take (i := 19) (v := ?_) rfl (by kernel_rfl) (by kernel_rfl) (by kernel_rfl) (fun _ _ _ h => h) (Or.inl ⟨by rfl, ?_⟩) hHeld ?_
  rotate_left
  · intro w' hSw
    clear hSw
    go_simp
    first | done | with_reducible rfl
  simp only [Act.put, List.getElem_toArray, List.getElem_cons_succ, List.getElem_cons_zero, List.setIfInBounds_toArray, List.set_cons_zero, List.set_cons_succ]
  refine wpAnyH_take (i := 20) (v := ?_) rfl (by kernel_rfl) (by kernel_rfl) (by kernel_rfl) (fun _ _ _ h => h) (Or.inl ⟨by rfl, ?_⟩) hHeld ?_
  rotate_left
  · intro w' hSw
    clear hSw
    go_simp
    first | done | with_reducible rfl
  simp only [Act.put, List.getElem_toArray, List.getElem_cons_succ, List.getElem_cons_zero, List.setIfInBounds_toArray, List.set_cons_zero, List.set_cons_succ]
  refine wpAnyH_done (by kernel_rfl) ?_ _
  go_wp2
  go_ret
  exact ⟨rfl, HX5.out.low⟩
end Go.Proofs.YtllbbbfkdgjffaaGreatDoor
namespace Go.Proofs.YtllbbbfkdgjffaaGreatDoor

/-- What was read is what p reads; where it reads nothing, the reader is bad. -/
def Got {α : Type} (p : List Int → Option (α × List Int)) (st : Option (List Int)) (x : α) (st' : Option (List Int)) : Prop := (st.bind p = none ∧ st' = none) ∨ ∃ r', st.bind p = some (x, r') ∧ st' = some r'
section
variable {α β γ : Type} {p : List Int → Option (α × List Int)} {q : α → List Int → Option (β × List Int)}
theorem Got.nil {x : α} {st' : Option (List Int)} (h : Got p none x st') : st' = none := by
  rcases h with ⟨_, h⟩ | ⟨r, h, _⟩
  · exact h
  · cases h
theorem Got.good {st : Option (List Int)} {x : α} {r : List Int} (h : Got p st x (some r)) : st.bind p = some (x, r) := by
  rcases h with ⟨_, h⟩ | ⟨r', h, h2⟩
  · cases h
  · rw [h, Option.some.inj h2]
theorem Got.bad {st : Option (List Int)} {x : α} (h : Got p st x none) : st.bind p = none := by
  rcases h with ⟨h, _⟩ | ⟨r, _, h⟩
  · exact h
  · cases h
theorem Got.of_bad {st : Option (List Int)} (h : st.bind p = none) (x : α) : Got p st x none := Or.inl ⟨h, rfl⟩
theorem Got.of_good {st : Option (List Int)} {x : α} {r : List Int} (h : st.bind p = some (x, r)) : Got p st x (some r) := Or.inr ⟨r, h, rfl⟩
/-- One reading, then another that hangs on the first. -/
theorem Got.bind {st st1 st2 : Option (List Int)} {x : α} {y : β} (h1 : Got p st x st1) (h2 : Got (q x) st1 y st2) : Got (fun r => (p r).bind fun z => q z.1 z.2) st y st2 := by
  cases st with
  | none =>
    have := h1.nil
    subst this
    have := h2.nil
    subst this
    exact Got.of_bad rfl y
  | some r =>
    cases st1 with
    | none =>
      have := h2.nil
      subst this
      refine Got.of_bad ?_ y
      have := h1.bad
      simp only [Option.bind_some] at this ⊢
      rw [this]; rfl
    | some r1 =>
      have e1 := h1.good
      simp only [Option.bind_some] at e1
      cases st2 with
      | none =>
        refine Got.of_bad ?_ y
        have := h2.bad
        simp only [Option.bind_some] at this ⊢
        rw [e1]; exact this
      | some r2 =>
        refine Got.of_good ?_
        have := h2.good
        simp only [Option.bind_some] at this ⊢
        rw [e1]; exact this
theorem Got.map {st st' : Option (List Int)} {x : α} (f : α → γ) (h : Got p st x st') : Got (fun r => (p r).map fun z => (f z.1, z.2)) st (f x) st' := by
  cases st' with
  | none =>
    refine Got.of_bad ?_ _
    have := h.bad
    cases st with
    | none => rfl
    | some r =>
      simp only [Option.bind_some] at this ⊢
      rw [this]; rfl
  | some r' =>
    refine Got.of_good ?_
    have := h.good
    cases st with
    | none => cases this
    | some r =>
      simp only [Option.bind_some] at this ⊢
      rw [this]; rfl
theorem Got.congr {p' : List Int → Option (α × List Int)} {st st' : Option (List Int)} {x : α} (h : Got p st x st') (e : ∀ r, p r = p' r) : Got p' st x st' := by
  have : p = p' := funext e
  rw [← this]; exact h
/-- One more at the end. -/
theorem rdl_snoc : ∀ (n : Nat) (r : List Int), rdl p (n + 1) r = (rdl p n r).bind fun y => (p y.2).map fun x => (y.1 ++ [x.1], x.2)
  | 0, r => by
    simp only [rdl, Option.bind_some]
    cases p r <;> rfl
  | n + 1, r => by
    have ih := fun r => rdl_snoc n r
    rw [show rdl p (n + 1 + 1) r = (p r).bind fun x => (rdl p (n + 1) x.2).map fun q => (x.1 :: q.1, q.2) from rfl]
    rw [show rdl p (n + 1) r = (p r).bind fun x => (rdl p n x.2).map fun q => (x.1 :: q.1, q.2) from rfl]
    cases hp : p r with
    | none => rfl
    | some a =>
      simp only [Option.bind_some, ih]
      cases rdl p n a.2 with
      | none => rfl
      | some b =>
        simp only [Option.bind_some, Option.map_some]
        cases p b.2 <;> rfl
theorem rdl_none {n m : Nat} (h : n ≤ m) {r : List Int} (hn : rdl p n r = none) : rdl p m r = none := by
  induction m with
  | zero =>
    obtain rfl : n = 0 := by omega
    exact hn
  | succ m ih =>
    by_cases e : n = m + 1
    · subst e; exact hn
    · rw [rdl_snoc, ih (by omega)]; rfl
/-- The list so far, and one more. -/
theorem Got.snoc {st st1 st2 : Option (List Int)} {n : Nat} {l : List α} {x : α} (h1 : Got (rdl p n) st l st1) (h2 : Got p st1 x st2) : Got (rdl p (n + 1)) st (l ++ [x]) st2 := by
  have := Got.bind (p := rdl p n) (q := fun l r => (p r).map fun z => (l ++ [z.1], z.2)) h1 (Got.map (fun z => l ++ [z]) h2)
  exact this.congr fun r => by rw [rdl_snoc]
theorem Got.more {st : Option (List Int)} {n m : Nat} {l l' : List α} (hn : n ≤ m) (h : Got (rdl p n) st l none) : Got (rdl p m) st l' none := by
  refine Got.of_bad ?_ l'
  have := h.bad
  cases st with
  | none => rfl
  | some r => exact rdl_none hn this
theorem Got.zero (st : Option (List Int)) : Got (rdl p 0) st [] st := by
  cases st with
  | none => exact Got.of_bad rfl []
  | some r => exact Got.of_good rfl
end
end Go.Proofs.YtllbbbfkdgjffaaGreatDoor
