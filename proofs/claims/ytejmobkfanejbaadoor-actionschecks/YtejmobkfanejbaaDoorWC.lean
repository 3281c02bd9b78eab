/-
  Proved here: ActionsChecks says true of every rule. Condition: the widths' table holds its numbers.
-/
import Derived.Test.YtejmobkfanejbaaDoorSF
import Derived.Test.YtejmobkfanejbaaDoorD1
namespace Go.Proofs.YtejmobkfanejbaaDoor
open Go.RowKit

set_option maxHeartbeats 3200000 in
set_option maxRecDepth 100000 in
theorem checks_any (w : World) (r : Rl) (u : Value) {T : Nat → Prop} (hc : Cps T w u r.cp) (ht : Tab w) : Calls Tryd.prog 3 #[.agg (rlc r u)] w fun e w' => e = .returned (.bool true) ∧ Below w.heap.size w w' := by
  obtain ⟨W0, hW0⟩ : ∃ W0, W0 = w.alloc (.cells (rlc r u) 29) := ⟨_, rfl⟩
  have hB0 : Below w.heap.size w W0 := by rw [hW0]; exact (Below.refl _ _).alloc (Nat.le_refl _) _
  have hR0 : Rb w.heap.size r u W0 := by rw [hW0]; exact ⟨heap_alloc_new _ _⟩
  have c23 := hR0.cp
  have HG := hid (great_any (Cps.on hc hB0))
  have HWk : Hid (∀ x, Below w.heap.size w x → Calls Tryd.prog 10 #[] x fun e w' => e = .returned (.bool true) ∧ Below w.heap.size w w' ∧ Below x.heap.size x w') := fun x hx => (wakes_any x (ht.on hx)).mono fun e w' ⟨h1, h2⟩ => ⟨h1, hx.trans (h2.mono hx.size), h2⟩
  have HA : Hid (∀ x, Below w.heap.size w x → Rb w.heap.size r u x → Calls Tryd.prog 11 #[.agg (rlc r u)] x fun e w' => e = .returned (.int .i64 (ckR r)) ∧ Below w.heap.size w w' ∧ Rb w.heap.size r u w') := fun x hx hr => (acheck_any (Cps.on hc hx) (ht.on hx)).mono fun e w' ⟨h1, h2⟩ => ⟨h1, hx.trans (h2.mono hx.size), hr.on h2⟩
  have HD : Hid (∀ x, Below w.heap.size w x → Rb w.heap.size r u x → Calls Tryd.prog 12 #[.agg (rlc r u)] x fun e w' => e = .returned (.int .i64 (ckR r)) ∧ Below w.heap.size w w' ∧ Rb w.heap.size r u w') := fun x hx hr => (dcheck_any (Cps.on hc hx)).mono fun e w' ⟨h1, h2⟩ => ⟨h1, hx.trans (h2.mono hx.size), hr.on h2⟩
  have HB0 := hid hB0
  have HR0 := hid hR0
  have HW0 := hid hW0
  clear hc ht hB0 hR0 hW0
  generalize ckR r = z at HA HD
  go_enter Tryd.func3, Tryd.ntmps3
  go_upto_region 1 with fail
  rw [← HW0.out]
  clear HW0
  go_upto_region 3 with (first
    | (go_at_call 9; refine (HG.out).mono ?_; rintro e w1 ⟨⟨g, rfl, -⟩, rfl⟩; clear HG; cases g)
    | (go_at_call 10; refine (HWk.out _ HB0.out).mono ?_; rintro e w1 ⟨rfl, hb1, -⟩; have HB1 := hid hb1; clear HWk hb1))
  · have HBd : Hid (Below w.heap.size w w1.drew) := bel_drew HB0.out
    have HRd : Hid (Rb w.heap.size r u w1.drew) := HR0.out.drew
    clear HB0 HR0
    have H1 := hid (HA.out _ HBd.out HRd.out)
    clear HA
    refine wp_region_held_drew (S := Rb w.heap.size r u) (by kernel_rfl) HRd.out (fun hHeld => ?_)
    refine wpAnyH_take (i := 0) (v := (.agg (rlc r u))) rfl (by kernel_rfl) (by kernel_rfl) (by kernel_rfl) (fun _ _ _ h => h) (Or.inl ⟨by rfl, ?_⟩) hHeld ?_
    · intro w' hSw
      exact runLd 29 (.tmp 1) rfl w.heap.size 0 rfl (rlc r u) _ hSw.rr Tryd.underlying29 rfl (size_rl r u)
    simp only [Act.put, List.getElem_toArray, List.getElem_cons_zero, List.setIfInBounds_toArray, List.set_cons_zero, List.set_cons_succ]
    refine wpAnyH_take (i := 2) (v := (.agg (rlc r u))) rfl (by kernel_rfl) (by kernel_rfl) (by kernel_rfl) (fun _ _ _ h => h) (Or.inl ⟨by rfl, ?_⟩) hHeld ?_
    · intro w' hSw
      exact runLd 29 (.tmp 1) rfl w.heap.size 0 rfl (rlc r u) _ hSw.rr Tryd.underlying29 rfl (size_rl r u)
    simp only [Act.put, List.getElem_toArray, List.getElem_cons_succ, List.getElem_cons_zero, List.setIfInBounds_toArray, List.set_cons_zero, List.set_cons_succ]
    refine wpAnyH_ready (rs := [1]) (by kernel_rfl) (by simp) ?_
    refine AllReadyH.cons rfl (fun K hK => ?_) AllReadyH.nil
    refine stepFnW 11 (.func 11) [.tmp 7] _ [.agg (rlc r u)] rfl rfl rfl rfl (fun _ => rfl) _ H1.out ?_
    rintro e w1 ⟨rfl, hb1, hr1⟩
    refine Or.inl ⟨_, rfl, ?_⟩
    have H2 := hid (HD.out w1 hb1 hr1)
    clear HD H1
    refine hK.out _ _ hr1 (fun hHeld => ?_)
    clear hK K
    simp only [Act.put, List.getElem_toArray, List.getElem_cons_succ, List.getElem_cons_zero, List.setIfInBounds_toArray, List.set_cons_zero, List.set_cons_succ]
    refine wpAnyH_ready (rs := [3]) (by kernel_rfl) (by simp) ?_
    refine AllReadyH.cons rfl (fun K hK => ?_) AllReadyH.nil
    refine stepFnW 12 (.func 12) [.tmp 9] _ [.agg (rlc r u)] rfl rfl rfl rfl (fun _ => rfl) _ H2.out ?_
    rintro e w2 ⟨rfl, hb2, hr2⟩
    refine Or.inl ⟨_, rfl, ?_⟩
    have H3 := hid (HWk.out w2 hb2)
    clear HWk H2
    refine hK.out _ _ hr2 (fun hHeld => ?_)
    clear hK K
    simp only [Act.put, List.getElem_toArray, List.getElem_cons_succ, List.getElem_cons_zero, List.setIfInBounds_toArray, List.set_cons_zero, List.set_cons_succ]
    refine wpAnyH_take (i := 4) (v := ?_) rfl (by kernel_rfl) (by kernel_rfl) (by kernel_rfl) (fun _ _ _ h => h) (Or.inl ⟨by rfl, ?_⟩) hHeld ?_
    rotate_left
    · intro w' hSw
      clear hSw
      go_simp
      first | done | with_reducible rfl
    simp only [Act.put, List.getElem_toArray, List.getElem_cons_succ, List.getElem_cons_zero, List.setIfInBounds_toArray, List.set_cons_zero, List.set_cons_succ]
    refine wpAnyH_take (i := 5) (v := ?_) rfl (by kernel_rfl) (by kernel_rfl) (by kernel_rfl) (fun _ _ _ h => h) (Or.inl ⟨by rfl, ?_⟩) hHeld ?_
    rotate_left
    · intro w' hSw
      clear hSw
      go_simp
      first | done | with_reducible rfl
    simp only [Act.put, List.getElem_toArray, List.getElem_cons_succ, List.getElem_cons_zero, List.setIfInBounds_toArray, List.set_cons_zero, List.set_cons_succ]
    refine wpAnyH_ready (rs := [6]) (by kernel_rfl) (by simp) ?_
    refine AllReadyH.cons rfl (fun K hK => ?_) AllReadyH.nil
    refine stepFnW 10 (.func 10) [] _ [] rfl rfl rfl rfl (fun _ => rfl) _ H3.out ?_
    rintro e w3 ⟨rfl, hb3, hb3'⟩
    refine Or.inl ⟨_, rfl, ?_⟩
    have HB3 := hid hb3
    clear H3
    refine hK.out _ _ (hr2.on hb3') (fun hHeld => ?_)
    clear hK K
    simp only [Act.put, List.getElem_toArray, List.getElem_cons_succ, List.getElem_cons_zero, List.setIfInBounds_toArray, List.set_cons_zero, List.set_cons_succ]
    refine wpAnyH_take (i := 7) (v := ?_) rfl (by kernel_rfl) (by kernel_rfl) (by kernel_rfl) (fun _ _ _ h => h) (Or.inl ⟨by rfl, ?_⟩) hHeld ?_
    rotate_left
    · intro w' hSw
      clear hSw
      go_simp
      first | done | with_reducible rfl
    simp only [Act.put, List.getElem_toArray, List.getElem_cons_succ, List.getElem_cons_zero, List.setIfInBounds_toArray, List.set_cons_zero, List.set_cons_succ]
    refine wpAnyH_take (i := 8) (v := ?_) rfl (by kernel_rfl) (by kernel_rfl) (by kernel_rfl) (fun _ _ _ h => h) (Or.inl ⟨by rfl, ?_⟩) hHeld ?_
    rotate_left
    · intro w' hSw
      clear hSw
      go_simp
      first | done | with_reducible rfl
    simp only [Act.put, List.getElem_toArray, List.getElem_cons_succ, List.getElem_cons_zero, List.setIfInBounds_toArray, List.set_cons_zero, List.set_cons_succ]
    refine wpAnyH_done (by kernel_rfl) ?_ _
    go_wp2
    go_ret
    exact ⟨rfl, HB3.out⟩
  · go_ret
    exact ⟨rfl, HB1.out⟩
end Go.Proofs.YtejmobkfanejbaaDoor
