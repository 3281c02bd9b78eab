/-
  Proved here: the laws' look whether two lists of held rules are the same says true of two readings of one list. No condition.
-/
/-
  Proved here: the laws' look whether two messages are the same says true of two readings of one. No condition.
-/
/-
  Proved here: the document's bare (of package tollbridgeref07) keeps of a message what counts of its type, and tells whether there is that type; no old memory turns. Condition: the message's memory is as it says.
-/
import Derived.Test.YtllbbbfkdgjffaaGreatDoorLR
import Derived.Test.YtllbbbfkdgjffaaGreatDoorW6
import Derived.Test.YtllbbbfkdgjffaaGreatDoorT3
import Derived.Test.YtllbbbfkdgjffaaGreatDoorDJ
import Derived.Test.YtllbbbfkdgjffaaGreatDoorBL
namespace Go.Proofs.YtllbbbfkdgjffaaGreatDoor
open Go.RowKit

/-- A load in the middle of a block, under a draw. -/
theorem runLd {o : Oper} {a : Act} {w' : World} (ty : TypeId) (x : Operand) (ho : o.op = .load ty x) (g p : Nat) (hx : a.eval x = .pointer (some ⟨g, p, none⟩)) (cs : Array Value) (d : TypeDesc) (hg : w'.rangeAt g p cs.toList) (hu : Tryz.prog.underlying ty = some d) (hd : d.isRow = true) (hi : (Tryz.prog.info? ty).map (·.size) = some cs.size) : (execOp a.eval o).run Tryz.prog w' = .ok (.value (.agg cs)) w' := by
  unfold execOp
  simp only [ho, hx, Instr.loadAt, Instr.sureAddr, Sem.run_bind, Sem.run_pure, Result.andThen_ok, run_loadVar_mid w' g p ty cs.toList d hg hu hd (by rw [hi]; simp), Array.toArray_toList]
/-- Two held rules, in two places. -/
structure Hh (b p b' p' : Nat) (A B : Array Value) (pk bt : Int) (w : World) : Prop where
  rA : w.rangeAt b p A.toList
  rB : w.rangeAt b' p' B.toList
  a1 : w.cell? ⟨b, p + 25, none⟩ = some (.int .u64 pk)
  a2 : w.cell? ⟨b, p + 25 + 1, none⟩ = some (.int .u64 bt)
  b1 : w.cell? ⟨b', p' + 25, none⟩ = some (.int .u64 pk)
  b2 : w.cell? ⟨b', p' + 25 + 1, none⟩ = some (.int .u64 bt)
theorem Hh.mk' {b p b' p' : Nat} {x : Hd} {u u' : Value} {w : World} (h : ∀ i, i < 27 → w.cell? ⟨b, p + i, none⟩ = (hdc x u)[i]?) (h' : ∀ i, i < 27 → w.cell? ⟨b', p' + i, none⟩ = (hdc x u')[i]?) (W : World) (hb : W.heap[b]? = w.heap[b]?) (hb' : W.heap[b']? = w.heap[b']?) : Hh b p b' p' (rlc x.r u) (rlc x.r u') x.pk x.bt W :=
  ⟨range_of fun i hi => by rw [rlc_size] at hi; rw [cell_same hb, h i (by omega), hdc_rl x u i hi], range_of fun i hi => by rw [rlc_size] at hi; rw [cell_same hb', h' i (by omega), hdc_rl x u' i hi], by rw [cell_same hb, h 25 (by omega), hdc_pk], by rw [cell_same hb, Nat.add_assoc, h 26 (by omega), hdc_bt], by rw [cell_same hb', h' 25 (by omega), hdc_pk], by rw [cell_same hb', Nat.add_assoc, h' 26 (by omega), hdc_bt]⟩
set_option maxHeartbeats 3200000 in
set_option maxRecDepth 100000 in
theorem lhelds_same {T T' : Nat → Prop} {w : World} {v v' : Value} {l : List Hd} (h : Hds T w v l) (h' : Hds T' w v' l) :
    Calls Tryz.prog 28 #[v, v'] w fun e w' => e = .returned (.bool true) ∧ Below w.heap.size w w' := by
  obtain ⟨ao, cap, rfl, hcap⟩ := Lst.form h
  obtain ⟨ao', cap', rfl, hcap'⟩ := Lst.form h'
  have hlen := Lst.len h
  have H := hid h
  have H' := hid h'
  clear h h'
  go_enter Tryz.func28, Tryz.ntmps28
  go_wp2
  go_loopw [13] (fun i wr => ∃ j : Nat, j ≤ l.length ∧ i = .int .i64 j ∧ Below w.heap.size w wr) (fun i _ => l.length - (intOf i).toNat)
  case atStart => exact ⟨0, by omega, rfl, Below.refl _ _⟩
  case round =>
    obtain ⟨j, hj, rfl, ho⟩ := hrel
    by_cases hlt : j < l.length
    · obtain ⟨b, o, rfl, -, u, hu, hcp, -⟩ := Lst.cell H.out j hlt
      obtain ⟨b', o', rfl, -, u', hu', hcp', -⟩ := Lst.cell H'.out j hlt
      generalize l[j] = x at hu hcp hu' hcp'
      have hbw : b < w.heap.size := cell_lt ((hu 25 (by omega)).trans (hdc_pk x u))
      have hbw' : b' < w.heap.size := cell_lt ((hu' 25 (by omega)).trans (hdc_pk x u'))
      have hbr : b < wr.heap.size := Nat.lt_of_lt_of_le hbw ho.size
      have hbr' : b' < wr.heap.size := Nat.lt_of_lt_of_le hbw' ho.size
      have HS : Hid (∀ W : World, W.heap[b]? = wr.heap[b]? → W.heap[b']? = wr.heap[b']? → Hh b (o + j * 27) b' (o' + j * 27) (rlc x.r u) (rlc x.r u') x.pk x.bt W) := fun W h1 h2 => Hh.mk' hu hu' W (h1.trans (ho.block b hbw)) (h2.trans (ho.block b' hbw'))
      have HC := hid (lrule_same (w := wr.drew) x.r (Cps.carry (T' := T) (fun k hk hT => ⟨hT, ho.block k hk⟩) hcp) (Cps.carry (T' := T') (fun k hk hT => ⟨hT, ho.block k hk⟩) hcp'))
      have HO := hid ho
      clear hu hu' hcp hcp' ho
      go_wp2
      refine wp_region_held_drew (S := Hh b (o + j * 27) b' (o' + j * 27) (rlc x.r u) (rlc x.r u') x.pk x.bt) (by kernel_rfl) (HS.out _ rfl rfl) (fun hHeld => ?_)
      refine wpAnyH_take (i := 0) (v := ?_) rfl (by kernel_rfl) (by kernel_rfl) (by kernel_rfl) (fun _ _ _ h => h) (Or.inl ⟨by rfl, ?_⟩) hHeld ?_
      rotate_left
      · intro w' hSw
        clear hSw
        go_simp
        first | done | with_reducible rfl
      simp only [Act.put, List.getElem_toArray, List.getElem_cons_zero, List.setIfInBounds_toArray, List.set_cons_zero, List.set_cons_succ]
      refine wpAnyH_take (i := 1) (v := ?_) rfl (by kernel_rfl) (by kernel_rfl) (by kernel_rfl) (fun _ _ _ h => h) (Or.inl ⟨by rfl, ?_⟩) hHeld ?_
      rotate_left
      · intro w' hSw
        clear hSw
        go_simp
        first | done | with_reducible rfl
      simp only [Act.put, List.getElem_toArray, List.getElem_cons_succ, List.getElem_cons_zero, List.setIfInBounds_toArray, List.set_cons_zero, List.set_cons_succ]
      refine wpAnyH_take (i := 2) (v := ?_) rfl (by kernel_rfl) (by kernel_rfl) (by kernel_rfl) (fun _ _ _ h => h) (Or.inl ⟨by rfl, ?_⟩) hHeld ?_
      rotate_left
      · intro w' hSw
        clear hSw
        go_simp
        first | done | with_reducible rfl
      simp only [Act.put, List.getElem_toArray, List.getElem_cons_succ, List.getElem_cons_zero, List.setIfInBounds_toArray, List.set_cons_zero, List.set_cons_succ]
      refine wpAnyH_take (i := 3) (v := ?_) rfl (by kernel_rfl) (by kernel_rfl) (by kernel_rfl) (fun _ _ _ h => h) (Or.inl ⟨by rfl, ?_⟩) hHeld ?_
      rotate_left
      · intro w' hSw
        clear hSw
        go_simp
        first | done | with_reducible rfl
      simp only [Act.put, List.getElem_toArray, List.getElem_cons_succ, List.getElem_cons_zero, List.setIfInBounds_toArray, List.set_cons_zero, List.set_cons_succ]
      refine wpAnyH_take (i := 4) (v := (.agg (rlc x.r u))) rfl (by kernel_rfl) (by kernel_rfl) (by kernel_rfl) (fun _ _ _ h => h) (Or.inl ⟨by rfl, ?_⟩) hHeld ?_
      · intro w' hSw
        exact runLd 31 (.tmp 19) rfl b (o + j * 27) rfl (rlc x.r u) _ hSw.rA Tryz.underlying31 rfl (sizeRl _ _)
      simp only [Act.put, List.getElem_toArray, List.getElem_cons_succ, List.getElem_cons_zero, List.setIfInBounds_toArray, List.set_cons_zero, List.set_cons_succ]
      refine wpAnyH_take (i := 5) (v := ?_) rfl (by kernel_rfl) (by kernel_rfl) (by kernel_rfl) (fun _ _ _ h => h) (Or.inl ⟨by rfl, ?_⟩) hHeld ?_
      rotate_left
      · intro w' hSw
        clear hSw
        go_simp
        first | done | with_reducible rfl
      simp only [Act.put, List.getElem_toArray, List.getElem_cons_succ, List.getElem_cons_zero, List.setIfInBounds_toArray, List.set_cons_zero, List.set_cons_succ]
      refine wpAnyH_take (i := 6) (v := ?_) rfl (by kernel_rfl) (by kernel_rfl) (by kernel_rfl) (fun _ _ _ h => h) (Or.inl ⟨by rfl, ?_⟩) hHeld ?_
      rotate_left
      · intro w' hSw
        clear hSw
        go_simp
        first | done | with_reducible rfl
      simp only [Act.put, List.getElem_toArray, List.getElem_cons_succ, List.getElem_cons_zero, List.setIfInBounds_toArray, List.set_cons_zero, List.set_cons_succ]
      refine wpAnyH_take (i := 7) (v := ?_) rfl (by kernel_rfl) (by kernel_rfl) (by kernel_rfl) (fun _ _ _ h => h) (Or.inl ⟨by rfl, ?_⟩) hHeld ?_
      rotate_left
      · intro w' hSw
        clear hSw
        go_simp
        first | done | with_reducible rfl
      simp only [Act.put, List.getElem_toArray, List.getElem_cons_succ, List.getElem_cons_zero, List.setIfInBounds_toArray, List.set_cons_zero, List.set_cons_succ]
      refine wpAnyH_take (i := 8) (v := ?_) rfl (by kernel_rfl) (by kernel_rfl) (by kernel_rfl) (fun _ _ _ h => h) (Or.inl ⟨by rfl, ?_⟩) hHeld ?_
      rotate_left
      · intro w' hSw
        clear hSw
        go_simp
        first | done | with_reducible rfl
      simp only [Act.put, List.getElem_toArray, List.getElem_cons_succ, List.getElem_cons_zero, List.setIfInBounds_toArray, List.set_cons_zero, List.set_cons_succ]
      refine wpAnyH_take (i := 9) (v := (.agg (rlc x.r u'))) rfl (by kernel_rfl) (by kernel_rfl) (by kernel_rfl) (fun _ _ _ h => h) (Or.inl ⟨by rfl, ?_⟩) hHeld ?_
      · intro w' hSw
        exact runLd 31 (.tmp 24) rfl b' (o' + j * 27) rfl (rlc x.r u') _ hSw.rB Tryz.underlying31 rfl (sizeRl _ _)
      simp only [Act.put, List.getElem_toArray, List.getElem_cons_succ, List.getElem_cons_zero, List.setIfInBounds_toArray, List.set_cons_zero, List.set_cons_succ]
      refine wpAnyH_ready (rs := [10]) (by kernel_rfl) (by simp) ?_
      refine AllReadyH.cons rfl (fun K hK => ?_) AllReadyH.nil
      refine stepFn 26 (.func 26) _ _ [.agg (rlc x.r u), .agg (rlc x.r u')] rfl rfl rfl rfl (fun _ => rfl) _ HC.out ?_
      rintro e w4 ⟨rfl, hb4⟩
      refine Or.inl ⟨_, rfl, ?_⟩
      have HB4 := hid hb4
      refine hK.out _ _ (HS.out w4 (HB4.out.block b (by simpa using hbr)) (HB4.out.block b' (by simpa using hbr'))) (fun hHeld => ?_)
      clear hK K hb4
      simp only [Act.put, List.getElem_toArray, List.getElem_cons_succ, List.getElem_cons_zero, List.setIfInBounds_toArray, List.set_cons_zero, List.set_cons_succ]
      refine wpAnyH_take (i := 11) (v := ?_) rfl (by kernel_rfl) (by kernel_rfl) (by kernel_rfl) (fun _ _ _ h => h) (Or.inl ⟨by rfl, ?_⟩) hHeld ?_
      rotate_left
      · intro w' hSw
        clear hSw
        go_simp
        first | done | with_reducible rfl
      simp only [Act.put, List.getElem_toArray, List.getElem_cons_succ, List.getElem_cons_zero, List.setIfInBounds_toArray, List.set_cons_zero, List.set_cons_succ]
      refine wpAnyH_take (i := 12) (v := ?_) rfl (by kernel_rfl) (by kernel_rfl) (by kernel_rfl) (fun _ _ _ h => h) (Or.inl ⟨by rfl, ?_⟩) hHeld ?_
      rotate_left
      · intro w' hSw
        clear hSw
        go_simp
        first | done | with_reducible rfl
      simp only [Act.put, List.getElem_toArray, List.getElem_cons_succ, List.getElem_cons_zero, List.setIfInBounds_toArray, List.set_cons_zero, List.set_cons_succ]
      refine wpAnyH_take (i := 13) (v := ?_) rfl (by kernel_rfl) (by kernel_rfl) (by kernel_rfl) (fun _ _ _ h => h) (Or.inl ⟨by rfl, ?_⟩) hHeld ?_
      rotate_left
      · intro w' hSw
        clear hSw
        go_simp
        first | done | with_reducible rfl
      simp only [Act.put, List.getElem_toArray, List.getElem_cons_succ, List.getElem_cons_zero, List.setIfInBounds_toArray, List.set_cons_zero, List.set_cons_succ]
      refine wpAnyH_take (i := 14) (v := ?_) rfl (by kernel_rfl) (by kernel_rfl) (by kernel_rfl) (fun _ _ _ h => h) (Or.inl ⟨by rfl, ?_⟩) hHeld ?_
      rotate_left
      · intro w' hSw
        clear hSw
        go_simp
        first | done | with_reducible rfl
      simp only [Act.put, List.getElem_toArray, List.getElem_cons_succ, List.getElem_cons_zero, List.setIfInBounds_toArray, List.set_cons_zero, List.set_cons_succ]
      refine wpAnyH_take (i := 15) (v := ?_) rfl (by kernel_rfl) (by kernel_rfl) (by kernel_rfl) (fun _ _ _ h => h) (Or.inl ⟨by rfl, ?_⟩) hHeld ?_
      rotate_left
      · intro w' hSw
        clear hSw
        go_simp
        first | done | with_reducible rfl
      simp only [Act.put, List.getElem_toArray, List.getElem_cons_succ, List.getElem_cons_zero, List.setIfInBounds_toArray, List.set_cons_zero, List.set_cons_succ]
      refine wpAnyH_take (i := 16) (v := ?_) rfl (by kernel_rfl) (by kernel_rfl) (by kernel_rfl) (fun _ _ _ h => h) (Or.inl ⟨by rfl, ?_⟩) hHeld ?_
      rotate_left
      · intro w' hSw
        clear hSw
        go_simp
        first | done | with_reducible rfl
      simp only [Act.put, List.getElem_toArray, List.getElem_cons_succ, List.getElem_cons_zero, List.setIfInBounds_toArray, List.set_cons_zero, List.set_cons_succ]
      refine wpAnyH_take (i := 17) (v := ?_) rfl (by kernel_rfl) (by kernel_rfl) (by kernel_rfl) (fun _ _ _ h => h) (Or.inl ⟨by rfl, ?_⟩) hHeld ?_
      rotate_left
      · intro w' hSw
        have a1 := hSw.a1
        have a2 := hSw.a2
        clear hSw
        go_simp
        first | done | with_reducible rfl
      simp only [Act.put, List.getElem_toArray, List.getElem_cons_succ, List.getElem_cons_zero, List.setIfInBounds_toArray, List.set_cons_zero, List.set_cons_succ]
      refine wpAnyH_take (i := 18) (v := ?_) rfl (by kernel_rfl) (by kernel_rfl) (by kernel_rfl) (fun _ _ _ h => h) (Or.inl ⟨by rfl, ?_⟩) hHeld ?_
      rotate_left
      · intro w' hSw
        clear hSw
        go_simp
        first | done | with_reducible rfl
      simp only [Act.put, List.getElem_toArray, List.getElem_cons_succ, List.getElem_cons_zero, List.setIfInBounds_toArray, List.set_cons_zero, List.set_cons_succ]
      refine wpAnyH_take (i := 19) (v := ?_) rfl (by kernel_rfl) (by kernel_rfl) (by kernel_rfl) (fun _ _ _ h => h) (Or.inl ⟨by rfl, ?_⟩) hHeld ?_
      rotate_left
      · intro w' hSw
        clear hSw
        go_simp
        first | done | with_reducible rfl
      simp only [Act.put, List.getElem_toArray, List.getElem_cons_succ, List.getElem_cons_zero, List.setIfInBounds_toArray, List.set_cons_zero, List.set_cons_succ]
      refine wpAnyH_take (i := 20) (v := ?_) rfl (by kernel_rfl) (by kernel_rfl) (by kernel_rfl) (fun _ _ _ h => h) (Or.inl ⟨by rfl, ?_⟩) hHeld ?_
      rotate_left
      · intro w' hSw
        clear hSw
        go_simp
        first | done | with_reducible rfl
      simp only [Act.put, List.getElem_toArray, List.getElem_cons_succ, List.getElem_cons_zero, List.setIfInBounds_toArray, List.set_cons_zero, List.set_cons_succ]
      refine wpAnyH_take (i := 21) (v := ?_) rfl (by kernel_rfl) (by kernel_rfl) (by kernel_rfl) (fun _ _ _ h => h) (Or.inl ⟨by rfl, ?_⟩) hHeld ?_
      rotate_left
      · intro w' hSw
        clear hSw
        go_simp
        first | done | with_reducible rfl
      simp only [Act.put, List.getElem_toArray, List.getElem_cons_succ, List.getElem_cons_zero, List.setIfInBounds_toArray, List.set_cons_zero, List.set_cons_succ]
      refine wpAnyH_take (i := 22) (v := ?_) rfl (by kernel_rfl) (by kernel_rfl) (by kernel_rfl) (fun _ _ _ h => h) (Or.inl ⟨by rfl, ?_⟩) hHeld ?_
      rotate_left
      · intro w' hSw
        have b1 := hSw.b1
        have b2 := hSw.b2
        clear hSw
        go_simp
        first | done | with_reducible rfl
      simp only [Act.put, List.getElem_toArray, List.getElem_cons_succ, List.getElem_cons_zero, List.setIfInBounds_toArray, List.set_cons_zero, List.set_cons_succ]
      refine wpAnyH_take (i := 23) (v := ?_) rfl (by kernel_rfl) (by kernel_rfl) (by kernel_rfl) (fun _ _ _ h => h) (Or.inl ⟨by rfl, ?_⟩) hHeld ?_
      rotate_left
      · intro w' hSw
        clear hSw
        go_simp
        first | done | with_reducible rfl
      simp only [Act.put, List.getElem_toArray, List.getElem_cons_succ, List.getElem_cons_zero, List.setIfInBounds_toArray, List.set_cons_zero, List.set_cons_succ]
      refine wpAnyH_take (i := 24) (v := ?_) rfl (by kernel_rfl) (by kernel_rfl) (by kernel_rfl) (fun _ _ _ h => h) (Or.inl ⟨by rfl, ?_⟩) hHeld ?_
      rotate_left
      · intro w' hSw
        clear hSw
        go_simp
        first | done | with_reducible rfl
      simp only [Act.put, List.getElem_toArray, List.getElem_cons_succ, List.getElem_cons_zero, List.setIfInBounds_toArray, List.set_cons_zero, List.set_cons_succ]
      refine wpAnyH_done (by kernel_rfl) ?_ _
      go_wp2
      go_roundw
      case rel => exact ⟨j + 1, by omega, by go_num, HO.out.trans ((bel_drewN (Below.refl _ _) 1).trans (HB4.out.mono (by have := HO.out.size; simpa using this)))⟩
      case measure => simp [intOf]; omega
    · obtain rfl : j = l.length := by omega
      have HO := hid ho
      clear ho
      go_wp2
      go_ret
      exact ⟨rfl, HO.out⟩
end Go.Proofs.YtllbbbfkdgjffaaGreatDoor
namespace Go.Proofs.YtllbbbfkdgjffaaGreatDoor
open Go.RowKit

/-- A message is boxed. -/
theorem bxMs {ops : Array Oper} {rest : List Oper} {o : Oper} {a : Act} {w : World} {Q : Exit → Act → World → Prop} (x : Operand) (ho : o.op = .box 37 x) (hw : Region.wanted o (yielded ops a.tmps) = true) (m : Ms) (s : Sls) (hx : a.eval x = .agg (msc m s)) (W : World) (hW : Hid (w.alloc (.cells (msc m s) 37) = W))
    (h : wpList Tryz.prog ops Q rest (a.put o.dst (ptr w.heap.size)) W) : wpList Tryz.prog ops Q (o :: rest) a w := by
  unfold wpList
  rw [if_pos hw]
  refine Or.inl ?_
  unfold Oper.wp execOp
  have hrun : (Instr.box 37 (.agg (msc m s))).run Tryz.prog w = .ok (ptr w.heap.size) (w.alloc (.cells (msc m s) 37)) := rfl
  simp only [ho, hx, Sem.run_bind, Sem.run_pure, Result.andThen_ok, hrun, hW.out]
  exact h
set_option maxHeartbeats 3200000 in
set_option maxRecDepth 100000 in
theorem lsame_same {T T' : Nat → Prop} {w : World} {s s' : Sls} (m : Ms) (h : Mss T w m s) (h' : Mss T' w m s') :
    Calls Tryz.prog 13 #[.agg (msc m s), .agg (msc m s')] w fun e w' => e = .returned (.bool true) ∧ Below w.heap.size w w' := by
  have hb1 : Below w.heap.size w (w.alloc (.cells (msc m s) 37)) := (Below.refl _ _).alloc (Nat.le_refl _) _
  have hm1 : MB (w.alloc (.cells (msc m s) 37)) w.heap.size m s := heap_alloc_new _ _
  have hz1 : (w.alloc (.cells (msc m s) 37)).heap.size = w.heap.size + 1 := by simp
  obtain ⟨W1, HW1⟩ : ∃ W, Hid (w.alloc (.cells (msc m s) 37) = W) := ⟨_, rfl⟩
  rw [HW1.out] at hb1 hm1 hz1
  have hb2 : Below W1.heap.size W1 (W1.alloc (.cells (msc m s') 37)) := (Below.refl _ _).alloc (Nat.le_refl _) _
  have hm2 : MB (W1.alloc (.cells (msc m s') 37)) W1.heap.size m s' := heap_alloc_new _ _
  have hz2 : (W1.alloc (.cells (msc m s') 37)).heap.size = W1.heap.size + 1 := by simp
  obtain ⟨W, HW2⟩ : ∃ W, Hid (W1.alloc (.cells (msc m s') 37) = W) := ⟨_, rfl⟩
  rw [HW2.out] at hb2 hm2 hz2
  have hb : Below w.heap.size w W := hb1.trans (hb2.mono (by omega))
  have h0 : MB W w.heap.size m s := (hb2.block _ (by omega)).trans hm1
  have HM : Hid (∀ V, Below W.heap.size W V → MB V w.heap.size m s ∧ MB V W1.heap.size m s' ∧ Mss T V m s ∧ Mss T' V m s') := by
    show ∀ _, _
    intro V hV
    exact ⟨(hV.block _ (by omega)).trans h0, (hV.block _ (by omega)).trans hm2, h.carry fun b hb' hT => ⟨hT, (hV.block b (by omega)).trans (hb.block b hb')⟩, h'.carry fun b hb' hT => ⟨hT, (hV.block b (by omega)).trans (hb.block b hb')⟩⟩
  have HB := hid hb
  obtain ⟨hA, hA', hs, hs'⟩ := HM.out W (Below.refl _ _)
  obtain ⟨a0, a1, a2, -⟩ := mb_cells hA
  obtain ⟨d0, d1, d2, -⟩ := mb_cells hA'
  have RA := hid (mb_range hA)
  have RD := hid (mb_range hA')
  have HC := hid (lrule_same (w := W) m.r hs.cp hs'.cp)
  have HZ := hid (And.intro hz1 hz2)
  clear hA hA' hs hs' hb h0 h h' hb1 hb2 hm1 hm2 hz1 hz2
  go_enter Tryz.func13, Tryz.ntmps13
  go_upto_region 1 with (first
    | (refine bxMs (.tmp 0) rfl rfl m s rfl W1 HW1 ?_)
    | (refine bxMs (.tmp 1) rfl rfl m s' rfl W HW2 ?_))
  refine wp_region_list ?_
  simp only [List.append_eq, List.cons_append, List.nil_append]
  go_wp2_with (first
    | (refine ldMid 31 (.tmp 25) rfl rfl _ 3 rfl (rlc m.r s.cp) _ Tryz.underlying31 rfl (sizeRl _ _) RA.out ?_)
    | (refine ldMid 31 (.tmp 27) rfl rfl _ 3 rfl (rlc m.r s'.cp) _ Tryz.underlying31 rfl (sizeRl _ _) RD.out ?_)
    | (go_at_call 26; refine (HC.out).mono ?_; rintro e w1 ⟨rfl, hb1⟩
       obtain ⟨hA, hA', hs, hs'⟩ := HM.out w1 hb1
       obtain ⟨-, -, -, p28, p29, p30, p31, -⟩ := mb_cells hA
       obtain ⟨-, -, -, q28, q29, q30, q31, -⟩ := mb_cells hA'
       have HB1 := hid hb1
       have HC1 := hid (lports_same hs.ps hs'.ps)
       clear hA hA' hs hs' hb1)
    | (go_at_call 27; refine (HC2.out).mono ?_; rintro e w3 ⟨rfl, ho3⟩
       have hb3 := HB2.out.trans (ho3.below fun k hk => hk.elim)
       obtain ⟨hA, hA', hs, hs'⟩ := HM.out w3 hb3
       obtain ⟨-, -, -, -, -, -, -, -, v33, v34, v35⟩ := mb_cells hA
       obtain ⟨-, -, -, -, -, -, -, -, x33, x34, x35⟩ := mb_cells hA'
       have cv1 := conv_sl hs.fr.sl
       have cv2 := conv_sl hs'.fr.sl
       have HB3 := hid hb3
       have HC3 := hid (lhelds_same hs.hs hs'.hs)
       clear hA hA' hs hs' hb3 ho3)
    | (go_at_call 27; refine (HC1.out).mono ?_; rintro e w2 ⟨rfl, ho2⟩
       have hb2 := HB1.out.trans (ho2.below fun k hk => hk.elim)
       obtain ⟨hA, hA', hs, hs'⟩ := HM.out w2 hb2
       obtain ⟨-, -, -, -, -, -, -, r32, -⟩ := mb_cells hA
       obtain ⟨-, -, -, -, -, -, -, y32, -⟩ := mb_cells hA'
       have HB2 := hid hb2
       have HC2 := hid (lports_same hs.ed hs'.ed)
       clear hA hA' hs hs' hb2 ho2)
    | (go_at_call 28; refine (HC3.out).mono ?_; rintro e w4 ⟨rfl, hb4⟩
       have hb5 := HB3.out.trans (hb4.mono HB3.out.size)
       obtain ⟨hA, hA', -, -⟩ := HM.out w4 hb5
       obtain ⟨-, -, -, -, -, -, -, -, -, -, z35⟩ := mb_cells hA
       obtain ⟨-, -, -, -, -, -, -, -, -, -, o35⟩ := mb_cells hA'
       have HB4 := hid hb5
       clear hA hA' hb5 hb4))
  go_ret
  exact ⟨rfl, HB.out.trans (HB4.out.mono (by have := HZ.out; omega))⟩
end Go.Proofs.YtllbbbfkdgjffaaGreatDoor
namespace Go.Proofs.YtllbbbfkdgjffaaGreatDoor
open Go.RowKit

/-- The slices that bare keeps. -/
def brS (m : Ms) (s : Sls) : Sls :=
  if m.ty = 4 then { zSl with ps := s.ps, ed := s.ed }
  else if m.ty = 5 then { zSl with cp := s.cp }
  else if m.ty = 6 ∨ m.ty = 7 then { zSl with fr := s.fr }
  else if m.ty = 11 then { zSl with hs := s.hs }
  else zSl
abbrev m1 (m : Ms) : Ms := ⟨m.ty, m.id, 0, zRl, 0, false, 0, [], [], [], [], 0⟩
theorem buildBr (x y : Int) (w : World) : (Instr.build 37 #[(0, .int .i8 x), (1, .int .u32 y)]).run Tryz.prog w = .ok (.agg (msc ⟨x, y, 0, zRl, 0, false, 0, [], [], [], [], 0⟩ zSl)) w := by
  have e : msc ⟨x, y, 0, zRl, 0, false, 0, [], [], [], [], 0⟩ zSl = #[.int .i8 x, .int .u32 y, .int .i8 0, .int .i64 0, .int .u64 0, .int .u64 0, .int .u64 0, .int .u64 0, .int .u64 0, .int .u64 0, .int .u64 0, .int .u64 0, .int .u64 0, .int .u64 0, .int .u64 0, .int .u64 0, .int .u64 0, .int .u64 0, .int .u64 0, .int .u64 0, .int .u64 0, .int .u64 0, .int .u64 0, .int .u64 0, .int .u64 0, .int .u64 0, nilS, .int .u64 0, .int .u16 0, .bool false, .int .u16 0, nilS, nilS, nilS, nilS, .int .u16 0] := by kernel_rfl
  rw [e]
  show _ = _
  kernel_rfl
theorem bldBr {ops : Array Oper} {rest : List Oper} {o : Oper} {a : Act} {w : World} {Q : Exit → Act → World → Prop} (x y : Operand) (p q : Int) (ho : o.op = .build 37 #[(0, x), (1, y)]) (hx : a.eval x = .int .i8 p) (hy : a.eval y = .int .u32 q) (hw : Region.wanted o (yielded ops a.tmps) = true)
    (h : wpList Tryz.prog ops Q rest (a.put o.dst (.agg (msc ⟨p, q, 0, zRl, 0, false, 0, [], [], [], [], 0⟩ zSl))) w) : wpList Tryz.prog ops Q (o :: rest) a w := by
  unfold wpList
  rw [if_pos hw]
  refine Or.inl ?_
  unfold Oper.wp execOp
  have := buildBr p q w
  simp only [ho, List.map_toArray, List.map_cons, List.map_nil, hx, hy, Sem.run_bind, Sem.run_pure, Result.andThen_ok, this]
  exact h
theorem resBr (tmps : Array Value) (w : World) (q : Nat) (m : Ms) (s : Sls) (c : Value) (hp : tmps.getD 2 undef = ptr q) (hc : tmps.getD 3 undef = c) (hg : MB w q m s) :
    (results Tryz.f48 tmps).run Tryz.prog w = .ok (.tuple #[.agg (msc m s), c]) w := by
  have hp' : tmps[2]?.getD undef = ptr q := by simpa using hp
  have hc' : tmps[3]?.getD undef = c := by simpa using hc
  have h0 : (loadVar 37 ⟨q, 0, none⟩).run Tryz.prog w = .ok (.agg (msc m s)) w := run_loadVar_row w q 37 37 _ (0, 0) _ hg Tryz.underlying37 rfl (sizeMs m s)
  simp [results, Tryz.results48, hp', hc', asAddr, h0]
/-- The three blocks of bare. -/
structure Br (w : World) (g : Nat) (m : Ms) (s : Sls) (m' : Ms) (s' : Sls) (V : World) : Prop where
  low : Below w.heap.size w V
  b1 : MB V g m s
  b2 : MB V (g + 1) zMs zSl
  b4 : MB V (g + 2) m' s'
theorem Br.set {w : World} {g : Nat} {m m' m'' : Ms} {s s' s'' : Sls} {V : World} {j : Nat} {v : Value} (h : Br w g m s m' s' V) (hg : w.heap.size ≤ g) (he : (msc m' s').setIfInBounds j v = msc m'' s'') : Br w g m s m'' s'' (V.setCell ⟨g + 2, j, none⟩ v) :=
  ⟨h.low.setCell (p := ⟨g + 2, j, none⟩) (by show w.heap.size ≤ g + 2; omega) _, (heap_setCell_other _ ⟨g + 2, j, none⟩ g _ (show g ≠ g + 2 by omega)).trans h.b1, (heap_setCell_other _ ⟨g + 2, j, none⟩ (g + 1) _ (show g + 1 ≠ g + 2 by omega)).trans h.b2, mb_set h.b4 he⟩
theorem Br.rule {w : World} {g : Nat} {m m' : Ms} {s s' : Sls} {V : World} (h : Br w g m s m' s' V) (hg : w.heap.size ≤ g) : Br w g m s ⟨m'.ty, m'.id, m'.dw, m.r, m'.po, m'.up, m'.sw, m'.ps, m'.ed, m'.fr, m'.hs, m'.co⟩ ⟨s.cp, s'.ps, s'.ed, s'.fr, s'.hs⟩ (V.setCells (g + 2) 3 (rlc m.r s.cp).toList) := by
  have hq := setCells_below (g + 2) (rlc m.r s.cp).toList 3 V
  have hl := h.low.size
  exact ⟨h.low.trans ⟨hq.1, hq.2.1, hq.2.2.1, hq.2.2.2.1, fun k hk => hq.2.2.2.2 k (by omega)⟩, (hq.2.2.2.2 g (by omega)).trans h.b1, (hq.2.2.2.2 (g + 1) (by omega)).trans h.b2, set_rl m' s' m.r s.cp V (g + 2) h.b4⟩
theorem Br.there {w : World} {g : Nat} {m m' : Ms} {s s' : Sls} {V : World} (h : Br w g m s m' s' V) : V.there (g + 2) 3 25 := by
  intro i hi
  have hb : V.heap[g + 2]? = some (.cells (msc m' s') 37 (0, 0)) := h.b4
  refine ⟨?_, mb_free h.b4 _⟩
  rw [cell_of_row V (g + 2) (3 + i) _ _ _ hb, Array.getElem?_eq_getElem (by rw [msc_size]; omega)]
  rfl
/-- What bare leaves. -/
def BrP (w : World) (m : Ms) (s : Sls) (e : Ending) (w' : World) : Prop := Below w.heap.size w w' ∧ e = .returned (.tuple #[.agg (msc (brM m) (brS m s)), .bool (isTy m.ty)])
theorem Br.fin {w : World} {g : Nat} {m m' : Ms} {s s' : Sls} {V : World} (h : Br w g m s m' s' V) (hg : w.heap.size ≤ g) : MB (V.setRow (g + 1) (msc m' s')) (g + 1) m' s' ∧ Below w.heap.size w (V.setRow (g + 1) (msc m' s')) :=
  ⟨setRow_heap V (g + 1) _ _ _ _ h.b2, below_setRow h.low (by omega) _⟩
theorem Br.one {w : World} {g : Nat} {m m' : Ms} {s s' : Sls} {V : World} (_ : Br w g m s m' s' V) (h : s'.cp.oneCell' = true ∧ s'.ps.oneCell' = true ∧ s'.ed.oneCell' = true ∧ s'.fr.oneCell' = true ∧ s'.hs.oneCell' = true) : (msc m' s').all (·.oneCell') = true := msc_one _ _ h.1 h.2.1 h.2.2.1 h.2.2.2.1 h.2.2.2.2
end Go.Proofs.YtllbbbfkdgjffaaGreatDoor
