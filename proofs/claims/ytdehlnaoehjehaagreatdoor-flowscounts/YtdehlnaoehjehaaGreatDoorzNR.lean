/-
  Proved here: add of a row of package tuples. Conditions: fewer than 2 to 31 entries and keys.
-/
/-
  Proved here: newRow of package tuples; two headers are compared. No condition.
-/
import Derived.Test.YtdehlnaoehjehaaGreatDoorzPR
namespace Go.Proofs.YtdehlnaoehjehaaGreatDoor
set_option maxRecDepth 100000
open Go.RowKit

/-- What the first region of add reads. -/
structure Ha (p bc bx be : Nat) (x : Nat → Int) (er ek : Int) (w : World) : Prop where
  c : w.cell? ⟨p, 12, none⟩ = some (.map (some bc))
  rx : w.rangeAt bx 0 (row 11 x).toList
  re : w.rangeAt be 0 (#[.int .i64 er, .int .i64 ek] : Array Value).toList
theorem Ha.on {p bc bx be : Nat} {x : Nat → Int} {er ek : Int} {w w' : World} (h : Ha p bc bx be x er ek w) (h1 : w'.heap[p]? = w.heap[p]?) (h2 : w'.heap[bx]? = w.heap[bx]?) (h3 : w'.heap[be]? = w.heap[be]?) : Ha p bc bx be x er ek w' :=
  ⟨(cell_same h1).trans h.c, fun j v hj => (cell_same h2).trans (h.rx j v hj), fun j v hj => (cell_same h3).trans (h.re j v hj)⟩
noncomputable def updE (E : Lit → List En) (l : Lit) (v : List En) : Lit → List En := fun k => open Classical in if k = l then v else E k
theorem updE_same (E : Lit → List En) (l : Lit) (v : List En) : updE E l v l = v := by simp [updE]
theorem updE_other (E : Lit → List En) {l k : Lit} (v : List En) (h : k ≠ l) : updE E l v k = E k := by simp [updE, h]
theorem place_ne (l : List En) (e : En) : place l e ≠ [] := by unfold place; simp
theorem place_len (l : List En) (e : En) : (place l e).length = l.length + 1 := by
  have := posd_le l e l.length
  unfold place; simp; omega
/-- Blocks to come are those of one list of entries. -/
def newTag (o : Nat → Tag) (n : Nat) (t : Tag) : Nat → Tag := fun b => if b < n then o b else t
theorem newTag_old {o : Nat → Tag} {n : Nat} {t : Tag} {b : Nat} (h : b < n) : newTag o n t b = o b := by simp [newTag, h]
theorem newTag_new {o : Nat → Tag} {n : Nat} {t : Tag} {b : Nat} (h : n ≤ b) : newTag o n t b = t := by simp [newTag, show ¬ b < n by omega]
/-- A row with one more. -/
noncomputable def addRo (ρ : Ro) (x : Nat → Int) (e : En) (v : Value) : Ro := ⟨ρ.p, ρ.bc, if (ρ.G (kl x)).isSome then ρ.n else ρ.n + 1, ρ.mask, max ρ.top e.r, updL ρ.G (kl x) (some v), updE ρ.E (kl x) (place (ρ.E (kl x)) e)⟩
/-- What add leaves. -/
def AdP (S : Nat → Prop) (o : Nat → Tag) (w : World) (ρ : Ro) (x : Nat → Int) (e : En) (r : Ending) (w' : World) : Prop :=
  r = .returned (.tuple #[]) ∧ Only (fun b => (S b ∧ Tg ρ.p (o b)) ∨ w.heap.size ≤ b) w w' ∧ ∃ v, RowM S (newTag o w.heap.size (.ent ρ.p (kl x))) w' (addRo ρ x e v)
set_option maxHeartbeats 3200000 in
set_option maxRecDepth 100000 in
theorem add_any {S : Nat → Prop} {o : Nat → Tag} (w : World) (ρ : Ro) (x : Nat → Int) (e : En) (h : RowM S o w ρ) (hf : Fresh S w) (hwx : Wf x) (hne : (ρ.E (kl x)).length < 2147483647) (hnn : ρ.n < 2147483648) :
    Calls Tryz.prog 154 #[pv ρ.p, hv x, ev e] w fun r w' => AdP S o w ρ x e r w' := by
  obtain ⟨er, ek⟩ := e
  obtain ⟨W0, hW0⟩ : ∃ W0, W0 = (w.alloc (.cells (row 11 x) 30)).alloc (.cells #[.int .i64 er, .int .i64 ek] 217) := ⟨_, rfl⟩
  have hB0 : Below w.heap.size w W0 := by rw [hW0]; exact ((Below.refl _ _).alloc (Nat.le_refl _) _).alloc (by simp) _
  have hs0 : W0.heap.size = w.heap.size + 2 := by rw [hW0]; simp
  have hG0 : W0.heap[w.heap.size]? = some (.cells (row 11 x) 30 (0, 0)) := by rw [hW0, heap_alloc_old _ _ (by simp)]; exact heap_alloc_new _ _
  have hG1 : W0.heap[w.heap.size + 1]? = some (.cells #[.int .i64 er, .int .i64 ek] 217 (0, 0)) := by
    rw [hW0]
    have := heap_alloc_new (w.alloc (.cells (row 11 x) 30)) (.cells #[.int .i64 er, .int .i64 ek] 217)
    simpa using this
  have hpl := (Array.getElem?_eq_some_iff.1 h.hp).1
  have hcl := h.mp.lt
  have hpc : ρ.p ≠ ρ.bc := fun e => by have h1 := h.op; have h2 := h.oc; rw [← e, h1] at h2; cases h2
  obtain ⟨q11, q12, qf, -⟩ := h.cells
  obtain ⟨v0, hv0⟩ : ∃ v0, v0 = (ρ.G (kl x)).getD nilS := ⟨_, rfl⟩
  have hRv : Rw (fun b => S b ∧ o b = .ent ρ.p (kl x)) 2 217 w v0 (ρ.E (kl x)).length (ces (ρ.E (kl x))) := by
    rcases h.hit (kl x) with ⟨h1, h2⟩ | ⟨v, h1, h2, h3⟩
    · rw [hv0, h1, h2]; exact Rw.nil _ _ _ _
    · rw [hv0, h1]; exact h3
  have hown : ∀ b, v0.ownBlock = some b → (S b ∧ o b = .ent ρ.p (kl x)) ∧ b < w.heap.size := fun b hb => ⟨hRv.own b hb, hRv.ownLt b hb⟩
  have hRv0 : Rw (fun b => S b ∧ o b = .ent ρ.p (kl x)) 2 217 W0.drew v0 (ρ.E (kl x)).length (ces (ρ.E (kl x))) := hRv.carry fun b hb hS => ⟨hS, hB0.block b hb⟩
  have HC := hid (placedE_any W0.drew v0 (ρ.E (kl x)) ⟨er, ek⟩ hRv0 hne)
  have HMp0 : Hid (Mp W0.drew 30 ρ.bc ρ.n ρ.G) := h.mp.carry (hB0.block _ hcl)
  have HA0 : Hid (Ha ρ.p ρ.bc w.heap.size (w.heap.size + 1) x er ek W0.drew) := by
    refine ⟨?_, range_of fun i hi => ?_, range_of fun i hi => ?_⟩
    · show W0.cell? _ = _; rw [hB0.cell (p := ⟨ρ.p, 12, none⟩) hpl]; exact q12
    · show W0.cell? _ = _; rw [Nat.zero_add, cell_of_row _ _ _ _ _ _ hG0]
    · show W0.cell? _ = _; rw [Nat.zero_add, cell_of_row _ _ _ _ _ _ hG1]
  have hoE : ∀ b, b = ρ.p ∨ b = ρ.bc ∨ w.heap.size ≤ b → v0.ownBlock ≠ some b := fun b hb e => by
    have h1 := hown b e
    rcases hb with rfl | rfl | hb
    · have := h1.1.2; rw [h.op] at this; cases this
    · have := h1.1.2; rw [h.oc] at this; cases this
    · omega
  have HAp : Hid (∀ w5, Apd W0.drew v0 w5 → Ha ρ.p ρ.bc w.heap.size (w.heap.size + 1) x er ek w5) := fun w5 hA => HA0.out.on (hA.block _ (by show _ < W0.heap.size; omega) (hoE _ (Or.inl rfl))) (hA.block _ (by show _ < W0.heap.size; omega) (hoE _ (Or.inr (Or.inr (Nat.le_refl _))))) (hA.block _ (by show _ < W0.heap.size; omega) (hoE _ (Or.inr (Or.inr (by omega)))))
  have HMp5 : Hid (∀ w5, Apd W0.drew v0 w5 → Mp w5 30 ρ.bc ρ.n ρ.G) := fun w5 hA => HMp0.out.carry (hA.block _ (by show _ < W0.heap.size; omega) (hoE _ (Or.inr (Or.inl rfl))))
  have HTp : Hid (∀ w5 w6, Apd W0.drew v0 w5 → Tur w5 w6 ρ.bc → Ha ρ.p ρ.bc w.heap.size (w.heap.size + 1) x er ek w6) := fun w5 w6 hA hT => (HAp.out w5 hA).on (hT.block _ hpc) (hT.block _ (by omega)) (hT.block _ (by omega))
  have HFin : Hid (∀ v5 w5 w6, Apd W0.drew v0 w5 → Rw (fun b => (S b ∧ o b = .ent ρ.p (kl x)) ∨ W0.drew.heap.size ≤ b) 2 217 w5 v5 (place (ρ.E (kl x)) ⟨er, ek⟩).length (ces (place (ρ.E (kl x)) ⟨er, ek⟩)) → Mp w6 30 ρ.bc (if (ρ.G (kl x)).isSome then ρ.n else ρ.n + 1) (updL ρ.G (kl x) (some v5)) → Tur w5 w6 ρ.bc → (w6.cell? ⟨ρ.p, 11, none⟩ = some (.int .i64 ρ.top) ∧ w6.frozen? ⟨ρ.p, 11, none⟩ = false ∧ w6.cell? ⟨w.heap.size + 1, 0, none⟩ = some (.int .i64 er)) ∧ ∀ w7, w7.os = w6.os → w7.tape = w6.tape → w7.output = w6.output → w7.heap.size = w6.heap.size → (∀ b : Nat, w7.heap[b]? = (w6.setCell ⟨ρ.p, 11, none⟩ (.int .i64 (max ρ.top er))).heap[b]?) → AdP S o w ρ x ⟨er, ek⟩ (.returned (.tuple #[])) w7) := by
    show ∀ _, _
    intro v5 w5 w6 hA hR hM hT
    have hsA : W0.heap.size ≤ w5.heap.size := hA.size
    have hsT := hT.size
    have old5 : ∀ b, b < w.heap.size → v0.ownBlock ≠ some b → w5.heap[b]? = w.heap[b]? := fun b hb hne => by rw [hA.block b (by show _ < W0.heap.size; omega) hne]; exact hB0.block b hb
    have old6 : ∀ b, b < w.heap.size → v0.ownBlock ≠ some b → b ≠ ρ.bc → w6.heap[b]? = w.heap[b]? := fun b hb hne hc => (hT.block b hc).trans (old5 b hb hne)
    have hp6 : w6.heap[ρ.p]? = some (.cells (rcs ρ.mask ρ.top ρ.bc) 223 (0, 0)) := (old6 ρ.p hpl (hoE _ (Or.inl rfl)) hpc).trans h.hp
    refine ⟨⟨by rw [cell_of_row _ _ _ _ _ _ hp6, rcs_top], by simp [World.frozen?, hp6], (HTp.out w5 w6 hA hT).re 0 _ rfl⟩, fun w7 g1 g2 g3 g4 g5 => ?_⟩
    have o7 : ∀ b, b ≠ ρ.p → w7.heap[b]? = w6.heap[b]? := fun b hb => (g5 b).trans (heap_setCell_other w6 ⟨ρ.p, 11, none⟩ b _ hb)
    refine ⟨rfl, ⟨g1.trans (hT.os.trans (hA.os.trans hB0.os)), g2.trans (hT.tape.trans (hA.tape.trans hB0.tape)), g3.trans (hT.output.trans (hA.output.trans hB0.output)), by omega, fun b hb => ?_⟩, v5, h.sp, (newTag_old hpl).trans h.op, ?_, h.sc, (newTag_old hcl).trans h.oc, hM.carry (o7 _ (Ne.symm hpc)), h.wf, fun l => ?_⟩
    · have hbl : b < w.heap.size := by
        rcases Nat.lt_or_ge b w.heap.size with h1 | h1
        · exact h1
        · exact absurd (Or.inr h1) hb
      have h1 : b ≠ ρ.p := fun e => hb (Or.inl ⟨e ▸ h.sp, by rw [e, h.op]; rfl⟩)
      have h2 : b ≠ ρ.bc := fun e => hb (Or.inl ⟨e ▸ h.sc, by rw [e, h.oc]; rfl⟩)
      rw [o7 b h1, old6 b hbl (fun e => hb (Or.inl ⟨(hown b e).1.1, by rw [(hown b e).1.2]; rfl⟩)) h2]
    · rw [g5]
      show (w6.setCell ⟨ρ.p, 11, none⟩ (.int .i64 (max ρ.top er))).heap[ρ.p]? = some (.cells (rcs ρ.mask (max ρ.top er) ρ.bc) 223 (0, 0))
      rw [heap_setCell_same w6 ρ.p 11 _ _ _ hp6, rcs_set]
    · by_cases hl : l = kl x
      · subst hl
        refine Or.inr ⟨v5, updL_same _ _ _, by show updE _ _ _ _ ≠ []; rw [updE_same]; exact place_ne _ _, ?_⟩
        show Rw _ _ _ _ _ (updE _ _ _ _).length (ces (updE _ _ _ _))
        rw [updE_same]
        refine hR.carry fun b hb hS => ?_
        have hb1 : b ≠ ρ.p := fun e => by
          rcases hS with hS | hS
          · have := hS.2; rw [e, h.op] at this; cases this
          · have : W0.heap.size ≤ b := hS; omega
        have hb2 : b ≠ ρ.bc := fun e => by
          rcases hS with hS | hS
          · have := hS.2; rw [e, h.oc] at this; cases this
          · have : W0.heap.size ≤ b := hS; omega
        refine ⟨?_, (o7 b hb1).trans (hT.block b hb2)⟩
        rcases hS with hS | hS
        · refine ⟨hS.1, ?_⟩
          rcases Nat.lt_or_ge b w.heap.size with h1 | h1
          · rw [newTag_old h1]; exact hS.2
          · rw [newTag_new h1]; rfl
        · have h1 : w.heap.size ≤ b := by have : W0.heap.size ≤ b := hS; omega
          exact ⟨hf b h1, newTag_new h1⟩
      · have e1 : (addRo ρ x ⟨er, ek⟩ v5).G l = ρ.G l := updL_other _ _ hl
        have e2 : (addRo ρ x ⟨er, ek⟩ v5).E l = ρ.E l := updE_other _ _ hl
        rw [e1, e2]
        rcases h.hit l with h3 | ⟨v, h3, h4, h5⟩
        · exact Or.inl h3
        · refine Or.inr ⟨v, h3, h4, h5.carry fun b hb hS => ⟨⟨hS.1, (newTag_old hb).trans hS.2⟩, ?_⟩⟩
          have hb1 : b ≠ ρ.p := fun e => by have := hS.2; rw [e, h.op] at this; cases this
          have hb2 : b ≠ ρ.bc := fun e => by have := hS.2; rw [e, h.oc] at this; cases this
          rw [o7 b hb1, old6 b hb (fun e => by have := (hown b e).1.2; rw [hS.2] at this; cases this; exact hl rfl) hb2]
  have HV0 : Hid ((ρ.G (kl x)).getD nilS = v0) := hv0.symm
  have HW0 := hid hW0
  clear h hf hB0 hs0 hG0 hG1 hRv hRv0 hown hoE hW0 hv0 hne
  go_enter Tryz.func154, Tryz.ntmps154
  go_upto_region 1 with fail
  rw [← HW0.out]
  clear HW0
  go_wp2_with fail
  refine wp_region_held_drew (S := Ha ρ.p ρ.bc w.heap.size (w.heap.size + 1) x er ek) (by kernel_rfl) HA0.out (fun hHeld => ?_)
  refine wpAnyH_take (i := 0) (v := ?_) rfl (by kernel_rfl) (by kernel_rfl) (by kernel_rfl) (fun _ _ _ h => h) (Or.inl ⟨by rfl, ?_⟩) hHeld ?_
  rotate_left
  · intro w' hSw
    clear hSw
    go_simp
    first | done | with_reducible rfl
  simp only [Act.put, List.getElem_toArray, List.getElem_cons_zero, List.setIfInBounds_toArray, List.set_cons_zero, List.set_cons_succ]
  refine wpAnyH_take (i := 1) (v := ?_) rfl (by kernel_rfl) (by kernel_rfl) (by kernel_rfl) (fun _ _ _ h => h) (Or.inl ⟨by rfl, ?_⟩) hHeld ?_
  rotate_left
  · intro w' hSw
    clear hSw
    go_simp
    first | done | with_reducible rfl
  simp only [Act.put, List.getElem_toArray, List.getElem_cons_succ, List.getElem_cons_zero, List.setIfInBounds_toArray, List.set_cons_zero, List.set_cons_succ]
  refine wpAnyH_take (i := 2) (v := ?_) rfl (by kernel_rfl) (by kernel_rfl) (by kernel_rfl) (fun _ _ _ h => h) (Or.inl ⟨by rfl, ?_⟩) hHeld ?_
  rotate_left
  · intro w' hSw
    clear hSw
    go_simp
    first | done | with_reducible rfl
  simp only [Act.put, List.getElem_toArray, List.getElem_cons_succ, List.getElem_cons_zero, List.setIfInBounds_toArray, List.set_cons_zero, List.set_cons_succ]
  refine wpAnyH_take (i := 3) (v := ?_) rfl (by kernel_rfl) (by kernel_rfl) (by kernel_rfl) (fun _ _ _ h => h) (Or.inl ⟨by rfl, ?_⟩) hHeld ?_
  rotate_left
  · intro w' hSw
    have c := hSw.c
    clear hSw
    go_simp
    first | done | with_reducible rfl
  simp only [Act.put, List.getElem_toArray, List.getElem_cons_succ, List.getElem_cons_zero, List.setIfInBounds_toArray, List.set_cons_zero, List.set_cons_succ]
  refine wpAnyH_take (i := 4) (v := (hv x)) rfl (by kernel_rfl) (by kernel_rfl) (by kernel_rfl) (fun _ _ _ h => h) (Or.inl ⟨by rfl, ?_⟩) hHeld ?_
  · intro w' hSw
    exact runLd 30 (.tmp 4) rfl w.heap.size 0 rfl (row 11 x) _ hSw.rx Tryz.underlying30 rfl (sizeH x)
  simp only [Act.put, List.getElem_toArray, List.getElem_cons_succ, List.getElem_cons_zero, List.setIfInBounds_toArray, List.set_cons_zero, List.set_cons_succ]
  refine wpAnyH_take (i := 5) (v := ?_) rfl (by kernel_rfl) (by kernel_rfl) (by kernel_rfl) (fun _ _ _ h => h) (Or.inl ⟨by rfl, ?_⟩) hHeld ?_
  rotate_left
  · intro w' hSw
    clear hSw
    go_simp
    first | done | with_reducible rfl
  simp only [Act.put, List.getElem_toArray, List.getElem_cons_succ, List.getElem_cons_zero, List.setIfInBounds_toArray, List.set_cons_zero, List.set_cons_succ]
  refine wpAnyH_take (i := 6) (v := ?_) rfl (by kernel_rfl) (by kernel_rfl) (by kernel_rfl) (fun _ _ _ h => h) (Or.inl ⟨by rfl, ?_⟩) hHeld ?_
  rotate_left
  · intro w' hSw
    clear hSw
    go_simp
    first | done | with_reducible rfl
  simp only [Act.put, List.getElem_toArray, List.getElem_cons_succ, List.getElem_cons_zero, List.setIfInBounds_toArray, List.set_cons_zero, List.set_cons_succ]
  refine wpAnyH_take (i := 7) (v := ?_) rfl (by kernel_rfl) (by kernel_rfl) (by kernel_rfl) (fun _ _ _ h => h) (Or.inl ⟨by rfl, ?_⟩) hHeld ?_
  rotate_left
  · intro w' hSw
    clear hSw
    go_simp
    first | done | with_reducible rfl
  simp only [Act.put, List.getElem_toArray, List.getElem_cons_succ, List.getElem_cons_zero, List.setIfInBounds_toArray, List.set_cons_zero, List.set_cons_succ]
  refine wpAnyH_take (i := 8) (v := ?_) rfl (by kernel_rfl) (by kernel_rfl) (by kernel_rfl) (fun _ _ _ h => h) (Or.inl ⟨by rfl, ?_⟩) hHeld ?_
  rotate_left
  · intro w' hSw
    have c := hSw.c
    clear hSw
    go_simp
    first | done | with_reducible rfl
  simp only [Act.put, List.getElem_toArray, List.getElem_cons_succ, List.getElem_cons_zero, List.setIfInBounds_toArray, List.set_cons_zero, List.set_cons_succ]
  refine wpAnyH_take (i := 9) (v := (hv x)) rfl (by kernel_rfl) (by kernel_rfl) (by kernel_rfl) (fun _ _ _ h => h) (Or.inl ⟨by rfl, ?_⟩) hHeld ?_
  · intro w' hSw
    exact runLd 30 (.tmp 4) rfl w.heap.size 0 rfl (row 11 x) _ hSw.rx Tryz.underlying30 rfl (sizeH x)
  simp only [Act.put, List.getElem_toArray, List.getElem_cons_succ, List.getElem_cons_zero, List.setIfInBounds_toArray, List.set_cons_zero, List.set_cons_succ]
  refine wpAnyH_take (i := 11) (v := (ev ⟨er, ek⟩)) rfl (by kernel_rfl) (by kernel_rfl) (by kernel_rfl) (fun _ _ _ h => h) (Or.inl ⟨by rfl, ?_⟩) hHeld ?_
  · intro w' hSw
    exact runLd 217 (.tmp 5) rfl (w.heap.size + 1) 0 rfl #[.int .i64 er, .int .i64 ek] _ hSw.re Tryz.underlying217 rfl sizeE2
  simp only [Act.put, List.getElem_toArray, List.getElem_cons_succ, List.getElem_cons_zero, List.setIfInBounds_toArray, List.set_cons_zero, List.set_cons_succ]
  refine wpAnyH_ready (rs := [10]) (by kernel_rfl) (by simp) ?_
  refine AllReadyH.cons rfl (fun K hK => ?_) AllReadyH.nil
  refine stepLook (.tmp 14) (.tmp 15) 221 rfl rfl rfl rfl HMp0.out lawH Tryz.underlying221 (zeroEs _) (key_h hwx) ?_
  refine hK.out _ _ HA0.out (fun hHeld => ?_)
  clear hK K
  rw [HV0.out]
  simp only [Act.put, List.getElem_toArray, List.getElem_cons_succ, List.getElem_cons_zero, List.setIfInBounds_toArray, List.set_cons_zero, List.set_cons_succ]
  refine wpAnyH_ready (rs := [12]) (by kernel_rfl) (by simp) ?_
  refine AllReadyH.cons rfl (fun K hK => ?_) AllReadyH.nil
  refine stepFnW 183 (.func 183) [.tmp 16, .tmp 17, .func 120] _ [v0, ev ⟨er, ek⟩, .func (.func 120) #[] #[]] rfl rfl rfl rfl (fun _ => rfl) _ HC.out ?_
  rintro r w5 ⟨v5, rfl, hA5, hR5⟩
  refine Or.inl ⟨_, rfl, ?_⟩
  have HA5 := hid hA5
  have HR5 := hid hR5
  refine hK.out _ _ (HAp.out w5 hA5) (fun hHeld => ?_)
  clear hK K hA5 hR5
  simp only [Act.put, List.getElem_toArray, List.getElem_cons_succ, List.getElem_cons_zero, List.setIfInBounds_toArray, List.set_cons_zero, List.set_cons_succ]
  refine wpAnyH_ready (rs := [13]) (by kernel_rfl) (by simp) ?_
  refine AllReadyH.cons rfl (fun K hK => ?_) AllReadyH.nil
  refine stepStore (.tmp 9) (.tmp 10) (.tmp 18) 221 rfl rfl rfl rfl rfl (HMp5.out w5 HA5.out) lawH Tryz.underlying221 hnn (key_h hwx) ?_
  intro w6 hM6 hT6
  have HM6 := hid hM6
  have HT6 := hid hT6
  refine hK.out _ _ (HTp.out w5 w6 HA5.out hT6) (fun hHeld => ?_)
  clear hK K hM6 hT6
  simp only [Act.put, List.getElem_toArray, List.getElem_cons_succ, List.getElem_cons_zero]
  refine wpAnyH_done (by kernel_rfl) ?_ _
  obtain ⟨⟨u0, u1, u2⟩, u3⟩ := HFin.out v5 w5 w6 HA5.out HR5.out HM6.out HT6.out
  have HU3 := hid u3
  clear u3
  go_wp2_with fail
  go_region_law (fail)
  all_goals (
    go_wp2
    all_goals (
      first | go_end0 | refine bodyPost_ret (results_none rfl _ _ _) rfl ?_
      exact HU3.out _ rfl rfl rfl (by simp) (fun b => by first | rfl | (rw [show max ρ.top er = er by omega]; rfl) | (rw [show max ρ.top er = ρ.top by omega]; rfl))))
end Go.Proofs.YtdehlnaoehjehaaGreatDoor
namespace Go.Proofs.YtdehlnaoehjehaaGreatDoor
set_option maxRecDepth 100000
open Go.RowKit

theorem bldRow {o : Oper} {a : Act} {w : World} (x y : Operand) (t : Int) (ho : o.op = .build 223 #[(0, x), (1, .const (.int .i64 t)), (2, y)]) (μ : Nat → Int) (bc : Nat) (hx : a.eval x = hv μ) (hy : a.eval y = .map (some bc)) : (execOp a.eval o).run Tryz.prog w = .ok (.value (.agg (rcs μ t bc))) w := by
  have hc : a.eval (.const (.int .i64 t)) = .int .i64 t := rfl
  unfold execOp
  simp only [ho, hx, hy, hc, List.map_toArray, List.map_cons, List.map_nil, Sem.run_bind, Sem.run_pure]
  show _ = _
  kernel_rfl
theorem opBld {ops : Array Oper} {rest : List Oper} {o : Oper} {a : Act} {w : World} {Q : Exit → Act → World → Prop} (hw : Region.wanted o (yielded ops a.tmps) = true) (x y : Operand) (t : Int) (ho : o.op = .build 223 #[(0, x), (1, .const (.int .i64 t)), (2, y)]) (μ : Nat → Int) (bc : Nat) (hx : a.eval x = hv μ) (hy : a.eval y = .map (some bc))
    (h : wpList Tryz.prog ops Q rest (a.put o.dst (.agg (rcs μ t bc))) w) : wpList Tryz.prog ops Q (o :: rest) a w := by
  unfold wpList
  rw [if_pos hw]
  refine Or.inl ?_
  unfold Oper.wp
  rw [bldRow x y t ho μ bc hx hy]
  exact h
theorem sizeRow (μ : Nat → Int) (t : Int) (bc : Nat) : (Tryz.prog.info? 223).map (·.size) = some (rcs μ t bc).size := by rw [rcs_size]; kernel_rfl
theorem rcs_one (μ : Nat → Int) (t : Int) (bc : Nat) : (rcs μ t bc).all (·.oneCell') = true := by
  unfold rcs
  rw [Array.all_append, row_one]; simp [Value.oneCell']
def minI : Int := -9223372036854775808
/-- A row without rules. -/
def emRo (p bc : Nat) (μ : Nat → Int) : Ro := ⟨p, bc, 0, μ, minI, fun _ => none, fun _ => []⟩
set_option maxHeartbeats 800000 in
set_option maxRecDepth 100000 in
theorem newRow_any (μ : Nat → Int) (w : World) (hw : Wf μ) : Calls Tryz.prog 182 #[hv μ] w fun r w' => ∃ p bc, r = .returned (pv p) ∧ Below w.heap.size w w' ∧ w.heap.size ≤ p ∧ w.heap.size ≤ bc ∧ p ≠ bc ∧ RowM (fun b => w.heap.size ≤ b) (fun b => if b = p then .row p else .cls p) w' (emRo p bc μ) := by
  have hmm := @run_makeMap Tryz.prog
  have hB : Blk (w.alloc (.cells (row 11 μ) 30)) w.heap.size 11 30 μ := Blk.new w 11 30 μ
  have HF : Hid (Below w.heap.size w (((w.alloc (.cells (row 11 μ) 30)).alloc (.map #[] 0)).alloc (.cells (rcs μ minI (w.heap.size + 1)) 223)) ∧ RowM (fun b => w.heap.size ≤ b) (fun b => if b = w.heap.size + 2 then .row (w.heap.size + 2) else .cls (w.heap.size + 2)) (((w.alloc (.cells (row 11 μ) 30)).alloc (.map #[] 0)).alloc (.cells (rcs μ minI (w.heap.size + 1)) 223)) (emRo (w.heap.size + 2) (w.heap.size + 1) μ)) := by
    have e1 : (w.alloc (.cells (row 11 μ) 30)).heap.size = w.heap.size + 1 := by simp
    have e2 : ((w.alloc (.cells (row 11 μ) 30)).alloc (.map #[] 0)).heap.size = w.heap.size + 2 := by simp
    have h1 := heap_alloc_new ((w.alloc (.cells (row 11 μ) 30)).alloc (.map #[] 0)) (.cells (rcs μ minI (w.heap.size + 1)) 223)
    have h2 := Mp.new (w.alloc (.cells (row 11 μ) 30)) 30
    rw [e2] at h1
    rw [e1] at h2
    refine ⟨(((Below.refl _ _).alloc (Nat.le_refl _) _).alloc (by simp) _).alloc (by simp; omega) _, (by show w.heap.size ≤ w.heap.size + 2; omega), (by show (if w.heap.size + 2 = w.heap.size + 2 then _ else _) = _; rw [if_pos rfl]; rfl), h1, (by show w.heap.size ≤ w.heap.size + 1; omega), (by show (if w.heap.size + 1 = w.heap.size + 2 then _ else _) = _; rw [if_neg (by omega)]; rfl), h2.carry (heap_alloc_old _ _ (by simp)), hw, fun l => Or.inl ⟨rfl, rfl⟩⟩
  go_enter Tryz.func182, Tryz.ntmps182
  go_wp2_with (first
    | (refine ld24 (.tmp 1) rfl _ rfl rfl μ hB ?_)
    | (refine opBld rfl (.tmp 3) (.tmp 4) _ rfl μ (w.heap.size + 1) rfl rfl ?_))
  go_ret
  exact ⟨w.heap.size + 2, w.heap.size + 1, rfl, HF.out.1, by omega, by omega, by omega, HF.out.2⟩

def eqR (n : Nat) (a b : Nat → Int) : Bool := (List.range n).all fun i => a i == b i
theorem eqR_iff {n : Nat} {a b : Nat → Int} : eqR n a b = true ↔ ∀ k, k < n → a k = b k := by
  simp [eqR]
theorem plainU : Tryz.prog.plainKey 28 = true := by kernel_rfl
theorem eqItems_run (a b : Nat → Int) (w : World) (d : Nat) : ∀ is : List Nat, (∀ i ∈ is, i < 11) →
    (Op.eqItems (d + 1) 28 1 (row 11 a) (row 11 b) is).run Tryz.prog w = .ok (is.all fun i => a i == b i) w
  | [], _ => by simp [Op.eqItems]
  | i :: is, hall => by
    have hi := hall i (by simp)
    have p1 := run_part_plain (P := Tryz.prog) w plainU (row_at 11 a i hi)
    have p2 := run_part_plain (P := Tryz.prog) w plainU (row_at 11 b i hi)
    simp only [Op.eqItems, Sem.run_bind, Nat.mul_one, p1, p2, Result.andThen_ok, run_equalIn_int w d 28 .u64 .u64 (a i) (b i) Tryz.underlying28]
    cases hab : (a i == b i)
    · simp [hab]
    · simp only [Bool.not_true, Bool.false_eq_true, if_false, List.all_cons, hab, Bool.true_and]
      exact eqItems_run a b w d is (fun j hj => hall j (by simp [hj]))
theorem infoU : ∃ i, Tryz.prog.info? 28 = some i := by
  have h : (Tryz.prog.info? 28).isSome = true := by kernel_rfl
  exact Option.isSome_iff_exists.1 h
theorem eqA_run (d : Nat) (a b : Nat → Int) (w : World) : (Op.equalIn (d + 2) 30 (hv a) (hv b)).run Tryz.prog w = .ok (eqR 11 a b) w := by
  obtain ⟨i, hi⟩ := infoU
  rw [run_equalIn_array w (d + 1) _ _ Tryz.underlying30 hi, cellsU, eqItems_run a b w d (List.range 11) (fun i hi => List.mem_range.1 hi)]
  rfl
theorem guardH : Tryz.prog.eqGuardType Tryz.prog.depth 30 = false := by kernel_rfl
theorem runEqH {o : Oper} {a : Act} {w : World} (x y : Operand) (ho : o.op = .binOp .eql 30 x y 30) (p q : Nat → Int) (hx : a.eval x = hv p) (hy : a.eval y = hv q) : (execOp a.eval o).run Tryz.prog w = .ok (.value (.bool (eqR 11 p q))) w := by
  unfold execOp
  simp only [ho, hx, hy, Sem.run_bind, Sem.run_pure, Result.andThen_ok, run_eqGuard_agg w _ _ _ _ _ _ guardH, run_eql_struct, show (10000 : Nat) = 9998 + 2 from rfl, eqA_run]
end Go.Proofs.YtdehlnaoehjehaaGreatDoor
