/-
  Proved here: first of a row of package tuples: the first of the entries at a header's masked bits. No condition.
-/
import Derived.Test.YtfbehaodhooaaaaGreatDoorMK
namespace Go.Proofs.YtfbehaodhooaaaaGreatDoor
set_option maxRecDepth 100000
open Go.RowKit

structure Hf (p bc b : Nat) (μ x : Nat → Int) (w : World) : Prop where
  c : w.cell? ⟨p, 12, none⟩ = some (.map (some bc))
  rm : w.rangeAt p 0 (row 11 μ).toList
  rx : w.rangeAt b 0 (row 11 x).toList
theorem Hf.on {p bc b : Nat} {μ x : Nat → Int} {w w' : World} (h : Hf p bc b μ x w) (h1 : w'.heap[p]? = w.heap[p]?) (h2 : w'.heap[b]? = w.heap[b]?) : Hf p bc b μ x w' :=
  ⟨(cell_same h1).trans h.c, fun j v hj => (cell_same h1).trans (h.rm j v hj), fun j v hj => (cell_same h2).trans (h.rx j v hj)⟩
/-- Two cells of a block are set. -/
theorem two_set {w w5 : World} {g : Nat} {a b x y : Value} {t : Nat} (h : w5.heap[g]? = some (.cells #[a, b] t (0, 0))) (hb : Below w.heap.size w w5) (hg : w.heap.size ≤ g := by omega) : ((w5.setCell ⟨g, 0, none⟩ x).setCell ⟨g, 1, none⟩ y).heap[g]? = some (.cells #[x, y] t (0, 0)) ∧ Below w.heap.size w ((w5.setCell ⟨g, 0, none⟩ x).setCell ⟨g, 1, none⟩ y) := by
  have e1 := heap_setCell_same w5 g 0 _ _ x h
  refine ⟨by rw [heap_setCell_same _ g 1 _ _ y e1]; rfl, (hb.setCell (p := ⟨g, 0, none⟩) hg _).setCell (p := ⟨g, 1, none⟩) hg _⟩
/-- The first of the entries of a row at a header. -/
noncomputable def fst (ρ : Ro) (h : Nat → Int) : Option En := (ρ.E (kl (msk h ρ.mask))).head?
def eD (e : Option En) : En := e.getD ⟨0, 0⟩
theorem resF (tmps : Array Value) (w : World) (g : Nat) (x y : Int) (c : Value) (hp : tmps.getD 4 undef = .pointer (some ⟨g, 0, none⟩)) (hc : tmps.getD 5 undef = c) (hg : w.heap[g]? = some (.cells #[.int .i64 x, .int .i64 y] 130 (0, 0))) :
    (results Tryz.f68 tmps).run Tryz.prog w = .ok (.tuple #[.agg #[.int .i64 x, .int .i64 y], c]) w := by
  rw [results_cell_tmp Tryz.results68, hp, hc]
  have := run_loadVar_row (P := Tryz.prog) w g 130 130 #[.int .i64 x, .int .i64 y] (0, 0) _ hg Tryz.underlying130 rfl sizeE2
  simp [asAddr, this, Result.andThen]
set_option maxHeartbeats 3200000 in
set_option maxRecDepth 100000 in
theorem first_any {S : Nat → Prop} {o : Nat → Tag} (w : World) (ρ : Ro) (h : Nat → Int) (hρ : RowM S o w ρ) (hw : Wf h) :
    Calls Tryz.prog 68 #[pv ρ.p, hv h] w fun r w' => r = .returned (.tuple #[ev (eD (fst ρ h)), .bool (fst ρ h).isSome]) ∧ Below w.heap.size w w' := by
  obtain ⟨W0, hW0⟩ : ∃ W0, W0 = (w.alloc (.cells (row 11 h) 30)).alloc (.cells #[.int .i64 0, .int .i64 0] 130) := ⟨_, rfl⟩
  have hB0 : Below w.heap.size w W0 := by rw [hW0]; exact ((Below.refl _ _).alloc (Nat.le_refl _) _).alloc (by simp) _
  have hs0 : W0.heap.size = w.heap.size + 2 := by rw [hW0]; simp
  have hG0 : W0.heap[w.heap.size]? = some (.cells (row 11 h) 30 (0, 0)) := by rw [hW0, heap_alloc_old _ _ (by simp)]; exact heap_alloc_new _ _
  have hG1 : W0.heap[w.heap.size + 1]? = some (.cells #[.int .i64 0, .int .i64 0] 130 (0, 0)) := by
    rw [hW0]
    have := heap_alloc_new (w.alloc (.cells (row 11 h) 30)) (.cells #[.int .i64 0, .int .i64 0] 130)
    simpa using this
  have hpl := (Array.getElem?_eq_some_iff.1 hρ.hp).1
  have hcl := hρ.mp.lt
  obtain ⟨-, q12, -, qm⟩ := hρ.cells
  have hwk : Wf (msk h ρ.mask) := msk_wf hw hρ.wf
  obtain ⟨v0, hv0⟩ : ∃ v0, v0 = (ρ.G (kl (msk h ρ.mask))).getD nilS := ⟨_, rfl⟩
  have hRv : Rw (fun b => b < w.heap.size) 2 130 w v0 (ρ.E (kl (msk h ρ.mask))).length (ces (ρ.E (kl (msk h ρ.mask)))) := by
    rcases hρ.hit (kl (msk h ρ.mask)) with ⟨h1, h2⟩ | ⟨v, h1, h2, h3⟩
    · rw [hv0, h1, h2]; exact Rw.nil _ _ _ _
    · rw [hv0, h1]; exact h3.carry fun b hb _ => ⟨hb, rfl⟩
  have HA0 : Hid (Hf ρ.p ρ.bc w.heap.size ρ.mask h W0.drew) := by
    refine ⟨?_, fun j v hj => ?_, range_of fun i hi => ?_⟩
    · show W0.cell? _ = _; rw [hB0.cell (p := ⟨ρ.p, 12, none⟩) hpl]; exact q12
    · show W0.cell? _ = _; rw [hB0.cell (p := ⟨ρ.p, 0 + j, none⟩) hpl]; exact qm j v hj
    · show W0.cell? _ = _; rw [Nat.zero_add, cell_of_row _ _ _ _ _ _ hG0]
  have HAb : Hid (∀ w5, Below W0.drew.heap.size W0.drew w5 → Hf ρ.p ρ.bc w.heap.size ρ.mask h w5) := fun w5 hb => HA0.out.on (hb.block _ (by show _ < W0.heap.size; omega)) (hb.block _ (by show _ < W0.heap.size; omega))
  have HMp : Hid (∀ w5, Below W0.drew.heap.size W0.drew w5 → Mp w5 30 ρ.bc ρ.n ρ.G) := fun w5 hb => hρ.mp.carry ((hb.block _ (by show _ < W0.heap.size; omega)).trans (hB0.block _ hcl))
  have HFin : Hid (∀ w5, Below W0.drew.heap.size W0.drew w5 → Below w.heap.size w w5 ∧ w5.heap[w.heap.size + 1]? = some (.cells #[.int .i64 0, .int .i64 0] 130 (0, 0)) ∧ Rw (fun b => b < w.heap.size) 2 130 w5 v0 (ρ.E (kl (msk h ρ.mask))).length (ces (ρ.E (kl (msk h ρ.mask))))) := fun w5 hb => by
    have hb' : Below w.heap.size w w5 := hB0.trans ((show Below w.heap.size W0 W0.drew from (Below.refl _ _).drew).trans (hb.mono (by show _ ≤ W0.heap.size; omega)))
    exact ⟨hb', (hb.block _ (by show _ < W0.heap.size; omega)).trans hG1, hRv.carry fun b hb1 hS => ⟨hS, hb'.block b hb1⟩⟩
  have HV0 : Hid ((ρ.G (kl (msk h ρ.mask))).getD nilS = v0) := hv0.symm
  have hfst : fst ρ h = (ρ.E (kl (msk h ρ.mask))).head? := rfl
  obtain ⟨ao, cap, hvf⟩ := hRv.form
  obtain ⟨l, hl⟩ : ∃ l, l = ρ.E (kl (msk h ρ.mask)) := ⟨_, rfl⟩
  rw [← hl] at hfst hvf HFin
  rw [hfst]
  have HW0 := hid hW0
  clear hB0 hs0 hG0 hG1 hRv hW0 hv0 hl hfst q12 qm hρ
  go_enter Tryz.func68, Tryz.ntmps68
  go_upto_region 1 with fail
  rw [← HW0.out]
  clear HW0
  go_wp2_with fail
  refine wp_region_held_drew (S := Hf ρ.p ρ.bc w.heap.size ρ.mask h) (by kernel_rfl) HA0.out (fun hHeld => ?_)
  refine wpAnyH_take (i := 0) (v := ?_) rfl (by kernel_rfl) (by kernel_rfl) (by kernel_rfl) (fun _ _ _ h => h) (Or.inl ⟨by rfl, ?_⟩) hHeld ?_
  rotate_left
  · intro w' hSw
    clear hSw
    go_simp
    first | done | with_reducible rfl
  simp only [Act.put, List.getElem_toArray, List.getElem_cons_zero, List.setIfInBounds_toArray, List.set_cons_zero, List.set_cons_succ]
  refine wpAnyH_take (i := 1) (v := ?_) rfl (by kernel_rfl) (by kernel_rfl) (by kernel_rfl) (fun _ _ _ h => h) (Or.inl ⟨by rfl, ?_⟩) hHeld ?_
  rotate_left
  · intro w' hSw
    clear hSw
    go_simp
    first | done | with_reducible rfl
  simp only [Act.put, List.getElem_toArray, List.getElem_cons_succ, List.getElem_cons_zero, List.setIfInBounds_toArray, List.set_cons_zero, List.set_cons_succ]
  refine wpAnyH_take (i := 2) (v := ?_) rfl (by kernel_rfl) (by kernel_rfl) (by kernel_rfl) (fun _ _ _ h => h) (Or.inl ⟨by rfl, ?_⟩) hHeld ?_
  rotate_left
  · intro w' hSw
    clear hSw
    go_simp
    first | done | with_reducible rfl
  simp only [Act.put, List.getElem_toArray, List.getElem_cons_succ, List.getElem_cons_zero, List.setIfInBounds_toArray, List.set_cons_zero, List.set_cons_succ]
  refine wpAnyH_take (i := 3) (v := ?_) rfl (by kernel_rfl) (by kernel_rfl) (by kernel_rfl) (fun _ _ _ h => h) (Or.inl ⟨by rfl, ?_⟩) hHeld ?_
  rotate_left
  · intro w' hSw
    have c := hSw.c
    clear hSw
    go_simp
    first | done | with_reducible rfl
  simp only [Act.put, List.getElem_toArray, List.getElem_cons_succ, List.getElem_cons_zero, List.setIfInBounds_toArray, List.set_cons_zero, List.set_cons_succ]
  refine wpAnyH_take (i := 4) (v := (hv h)) rfl (by kernel_rfl) (by kernel_rfl) (by kernel_rfl) (fun _ _ _ h => h) (Or.inl ⟨by rfl, ?_⟩) hHeld ?_
  · intro w' hSw
    exact runLd 30 (.tmp 3) rfl w.heap.size 0 rfl (row 11 h) _ hSw.rx Tryz.underlying30 rfl (sizeH h)
  simp only [Act.put, List.getElem_toArray, List.getElem_cons_succ, List.getElem_cons_zero, List.setIfInBounds_toArray, List.set_cons_zero, List.set_cons_succ]
  refine wpAnyH_take (i := 5) (v := ?_) rfl (by kernel_rfl) (by kernel_rfl) (by kernel_rfl) (fun _ _ _ h => h) (Or.inl ⟨by rfl, ?_⟩) hHeld ?_
  rotate_left
  · intro w' hSw
    clear hSw
    go_simp
    first | done | with_reducible rfl
  simp only [Act.put, List.getElem_toArray, List.getElem_cons_succ, List.getElem_cons_zero, List.setIfInBounds_toArray, List.set_cons_zero, List.set_cons_succ]
  refine wpAnyH_take (i := 6) (v := ?_) rfl (by kernel_rfl) (by kernel_rfl) (by kernel_rfl) (fun _ _ _ h => h) (Or.inl ⟨by rfl, ?_⟩) hHeld ?_
  rotate_left
  · intro w' hSw
    clear hSw
    go_simp
    first | done | with_reducible rfl
  simp only [Act.put, List.getElem_toArray, List.getElem_cons_succ, List.getElem_cons_zero, List.setIfInBounds_toArray, List.set_cons_zero, List.set_cons_succ]
  refine wpAnyH_take (i := 7) (v := ?_) rfl (by kernel_rfl) (by kernel_rfl) (by kernel_rfl) (fun _ _ _ h => h) (Or.inl ⟨by rfl, ?_⟩) hHeld ?_
  rotate_left
  · intro w' hSw
    clear hSw
    go_simp
    first | done | with_reducible rfl
  simp only [Act.put, List.getElem_toArray, List.getElem_cons_succ, List.getElem_cons_zero, List.setIfInBounds_toArray, List.set_cons_zero, List.set_cons_succ]
  refine wpAnyH_take (i := 8) (v := (hv ρ.mask)) rfl (by kernel_rfl) (by kernel_rfl) (by kernel_rfl) (fun _ _ _ h => h) (Or.inl ⟨by rfl, ?_⟩) hHeld ?_
  · intro w' hSw
    exact runLd 30 (.tmp 14) rfl ρ.p 0 rfl (row 11 ρ.mask) _ hSw.rm Tryz.underlying30 rfl (sizeH ρ.mask)
  simp only [Act.put, List.getElem_toArray, List.getElem_cons_succ, List.getElem_cons_zero, List.setIfInBounds_toArray, List.set_cons_zero, List.set_cons_succ]
  refine wpAnyH_ready (rs := [9]) (by kernel_rfl) (by simp) ?_
  refine AllReadyH.cons rfl (fun K hK => ?_) AllReadyH.nil
  refine stepFnW 82 (.func 82) [.tmp 11, .tmp 15] _ [hv h, hv ρ.mask] rfl rfl rfl rfl (fun _ => rfl) _ (masked_any h ρ.mask W0.drew) ?_
  rintro r5 w5 ⟨rfl, hb5⟩
  refine Or.inl ⟨_, rfl, ?_⟩
  have HB5 := hid hb5
  refine hK.out _ _ (HAb.out w5 hb5) (fun hHeld => ?_)
  clear hK K hb5
  simp only [Act.put, List.getElem_toArray, List.getElem_cons_succ, List.getElem_cons_zero, List.setIfInBounds_toArray, List.set_cons_zero, List.set_cons_succ]
  refine wpAnyH_ready (rs := [10]) (by kernel_rfl) (by simp) ?_
  refine AllReadyH.cons rfl (fun K hK => ?_) AllReadyH.nil
  refine stepLook (.tmp 10) (.tmp 16) 134 rfl rfl rfl rfl (HMp.out w5 HB5.out) lawH Tryz.underlying134 (zeroEs _) (key_h hwk) ?_
  refine hK.out _ _ (HAb.out w5 HB5.out) (fun hHeld => ?_)
  clear hK K
  rw [HV0.out]
  simp only [Act.put, List.getElem_toArray, List.getElem_cons_succ, List.getElem_cons_zero, List.setIfInBounds_toArray, List.set_cons_zero, List.set_cons_succ]
  refine wpAnyH_take (i := 11) (v := ?_) rfl (by kernel_rfl) (by kernel_rfl) (by kernel_rfl) (fun _ _ _ h => h) (Or.inl ⟨by rfl, ?_⟩) hHeld ?_
  rotate_left
  · intro w' hSw
    clear hSw
    go_simp
    first | done | with_reducible rfl
  simp only [Act.put, List.getElem_toArray, List.getElem_cons_succ, List.getElem_cons_zero, List.setIfInBounds_toArray, List.set_cons_zero, List.set_cons_succ]
  refine wpAnyH_done (by kernel_rfl) ?_ _
  obtain ⟨f1, f2, f3⟩ := HFin.out w5 HB5.out
  have HF1 := hid f1
  clear f1 HFin HA0 HAb HMp HV0
  subst hvf
  cases l with
  | nil =>
    have c0 : w5.cell? ⟨w.heap.size + 1, 0, none⟩ = some (.int .i64 0) := by rw [cell_of_row _ _ _ _ _ _ f2]; rfl
    have c1 : w5.cell? ⟨w.heap.size + 1, 1, none⟩ = some (.int .i64 0) := by rw [cell_of_row _ _ _ _ _ _ f2]; rfl
    have HS : Hid (((w5.setCell ⟨w.heap.size + 1, 0, none⟩ (.int .i64 0)).setCell ⟨w.heap.size + 1, 1, none⟩ (.int .i64 0)).heap[w.heap.size + 1]? = some (.cells #[.int .i64 0, .int .i64 0] 130 (0, 0)) ∧ Below w.heap.size w ((w5.setCell ⟨w.heap.size + 1, 0, none⟩ (.int .i64 0)).setCell ⟨w.heap.size + 1, 1, none⟩ (.int .i64 0))) := two_set f2 HF1.out
    have fz : ∀ i, w5.frozen? ⟨w.heap.size + 1, i, none⟩ = false := fun i => by simp [World.frozen?, f2]
    clear f3
    go_wp2
    refine bodyPost_ret (resF _ _ (w.heap.size + 1) 0 0 _ rfl rfl HS.out.1) rfl ⟨rfl, HS.out.2⟩
  | cons e l =>
    obtain ⟨er, ek⟩ := e
    rcases f3 with ⟨hx, ⟨_, hz0⟩ | ⟨g, of, cap', cur, he, hb1, hb2, hb3, hb4, hb5⟩⟩
    · simp at hz0
    obtain ⟨rfl, rfl⟩ : ao = some ⟨g, of, none⟩ ∧ cap = cap' := by simpa using he
    have d0 : w5.cell? ⟨g, of, none⟩ = some (.int .i64 er) := by
      rw [cell_of_row _ _ _ _ _ _ hb2]
      have := cells_at hb5 (j := 0) (by simp)
      simpa [ces, c2] using this
    have d1 : w5.cell? ⟨g, of + 1, none⟩ = some (.int .i64 ek) := by
      rw [cell_of_row _ _ _ _ _ _ hb2]
      have := cells_at hb5 (j := 1) (by simp; omega)
      simpa [ces, c2] using this
    have HRg := hid (range2 d0 d1)
    have HS : Hid (((w5.setCell ⟨w.heap.size + 1, 0, none⟩ (.int .i64 er)).setCell ⟨w.heap.size + 1, 1, none⟩ (.int .i64 ek)).heap[w.heap.size + 1]? = some (.cells #[.int .i64 er, .int .i64 ek] 130 (0, 0)) ∧ Below w.heap.size w ((w5.setCell ⟨w.heap.size + 1, 0, none⟩ (.int .i64 er)).setCell ⟨w.heap.size + 1, 1, none⟩ (.int .i64 ek))) := two_set f2 HF1.out
    have hln : ¬ ((l.length : Int) + 1 = 0) := by omega
    clear hx he hb1 hb2 hb3 hb4 hb5 d0 d1
    have c0 : w5.cell? ⟨w.heap.size + 1, 0, none⟩ = some (.int .i64 0) := by rw [cell_of_row _ _ _ _ _ _ f2]; rfl
    have c1 : w5.cell? ⟨w.heap.size + 1, 1, none⟩ = some (.int .i64 0) := by rw [cell_of_row _ _ _ _ _ _ f2]; rfl
    have fz : ∀ i, w5.frozen? ⟨w.heap.size + 1, i, none⟩ = false := fun i => by simp [World.frozen?, f2]
    go_wp2_with (refine ldMid 130 (.tmp 23) rfl rfl g of rfl #[.int .i64 er, .int .i64 ek] _ Tryz.underlying130 rfl sizeE2 HRg.out ?_)
    refine bodyPost_ret (resF _ _ (w.heap.size + 1) er ek _ rfl rfl HS.out.1) rfl ⟨rfl, HS.out.2⟩
end Go.Proofs.YtfbehaodhooaaaaGreatDoor
