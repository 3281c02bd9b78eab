/-
  Proved here: what the closures do that read one field of a message: they read it and lay it where it lies, at each of field's seven types. Conditions: the message's block and the closures' are old, and none of the cursor's.
-/
import Derived.Test.YtllbbbfkdgjffaaGreatDoorWM
namespace Go.Proofs.YtllbbbfkdgjffaaGreatDoor
open Go.RowKit

structure Hs3 (g1 g3 : Nat) (fo fr : Nat) (w : World) : Prop where
  c1 : w.cell? ⟨g1, 0, none⟩ = some (fnV fo)
  c3 : w.cell? ⟨g3, 0, none⟩ = some (fnV fr)
theorem Hs3.on {g1 g3 : Nat} {fo fr : Nat} {w w' : World} (h : Hs3 g1 g3 fo fr w) (h1 : w'.heap[g1]? = w.heap[g1]?) (h3 : w'.heap[g3]? = w.heap[g3]?) : Hs3 g1 g3 fo fr w' :=
  ⟨by rw [cell_same h1]; exact h.c1, by rw [cell_same h3]; exact h.c3⟩
theorem frozen_same {w w' : World} {b o : Nat} (h : w'.heap[b]? = w.heap[b]?) : w'.frozen? ⟨b, o, none⟩ = w.frozen? ⟨b, o, none⟩ := by
  unfold World.frozen?; rw [h]
/-- A store of many cells. -/
def stR (b off : Nat) (W : World) : Value → World
  | .agg cs => W.setCells b off cs.toList
  | _ => W
theorem stR_agg (b off : Nat) (W : World) (cs : Array Value) : stR b off W (.agg cs) = W.setCells b off cs.toList := rfl
/-- What a reading closure leaves. -/
def RcP {α : Type} (T : Nat → Prop) (c _b _off : Nat) (sp : Option (α × List Int)) (V : Nat → World → Value → α → Prop) (st : World → Value → World) (w : World) (e : Ending) (w' : World) : Prop :=
  (sp = none ∧ e = .panicked PC ∧ Only (fun x => x = c ∨ w.heap.size ≤ x) w w') ∨ ∃ x r v W, sp = some (x, r) ∧ e = .returned (.tuple #[]) ∧ V w.heap.size W v x ∧ Only (fun x => x = c ∨ w.heap.size ≤ x) w W ∧ Cur T W c r ∧ w' = st W v
section
variable {T : Nat → Prop} {c : Nat}

set_option maxHeartbeats 1600000 in
set_option maxRecDepth 100000 in
theorem readU_any {w : World} (b off g1 g3 fo fr : Nat) (sp : Option (Int × List Int)) (h : Hs3 g1 g3 fo fr w) (hV : (∃ V, w.cell? ⟨b, off, none⟩ = some V) ∧ w.frozen? ⟨b, off, none⟩ = false) (hbc : b ≠ c) (hg1c : g1 ≠ c) (hg3c : g3 ≠ c) (hb : b < w.heap.size) (hgb1 : g1 ≠ b) (hgb3 : g3 ≠ b) (eo : Ent fo) (er : Ent fr)
    (ho : ∀ w, Calls Tryz.prog fo #[ptr b] w fun e w' => e = .returned (.pointer (some ⟨b, off, none⟩)) ∧ w' = w)
    (hC : Calls Tryz.prog fr #[ptr c] w.drew (RdP T c sp VSh w.drew)) :
    Calls Tryz.prog 89 #[ptr c, ptr b, ptr g3, ptr g1] w (RcP T c b off sp VSh (fun W v => W.setCell ⟨b, off, none⟩ v) w) := by
  have hl1 := cell_lt h.c1
  have hl3 := cell_lt h.c3
  have HH := hid h
  have HO := hid ho
  have HC := hid hC
  have HV := hid hV
  clear h ho hC hV
  go_enter Tryz.func89, Tryz.ntmps89
  go_wp2
  refine wp_region_held_drew (S := Hs3 g1 g3 fo fr) (by kernel_rfl) (HH.out.on rfl rfl) (fun hHeld => ?_)
  refine wpAnyH_take (i := 0) (v := ?_) rfl (by kernel_rfl) (by kernel_rfl) (by kernel_rfl) (fun _ _ _ h => h) (Or.inl ⟨by rfl, ?_⟩) hHeld ?_
  rotate_left
  · intro w' hSw
    have c1 := hSw.c1
    clear hSw
    go_simp
    first | done | with_reducible rfl
  simp only [Act.put, List.getElem_toArray, List.getElem_cons_zero, List.setIfInBounds_toArray, List.set_cons_zero, List.set_cons_succ]
  refine wpAnyH_take (i := 1) (v := ?_) rfl (by kernel_rfl) (by kernel_rfl) (by kernel_rfl) (fun _ _ _ h => h) (Or.inl ⟨by rfl, ?_⟩) hHeld ?_
  rotate_left
  · intro w' hSw
    go_simp
    first | done | with_reducible rfl
  simp only [Act.put, List.getElem_toArray, List.getElem_cons_succ, List.getElem_cons_zero, List.setIfInBounds_toArray, List.set_cons_zero, List.set_cons_succ]
  refine wpAnyH_take (i := 3) (v := ?_) rfl (by kernel_rfl) (by kernel_rfl) (by kernel_rfl) (fun _ _ _ h => h) (Or.inl ⟨by rfl, ?_⟩) hHeld ?_
  rotate_left
  · intro w' hSw
    have c3 := hSw.c3
    clear hSw
    go_simp
    first | done | with_reducible rfl
  simp only [Act.put, List.getElem_toArray, List.getElem_cons_succ, List.getElem_cons_zero, List.setIfInBounds_toArray, List.set_cons_zero, List.set_cons_succ]
  refine wpAnyH_take (i := 4) (v := ?_) rfl (by kernel_rfl) (by kernel_rfl) (by kernel_rfl) (fun _ _ _ h => h) (Or.inl ⟨by rfl, ?_⟩) hHeld ?_
  rotate_left
  · intro w' hSw
    go_simp
    first | done | with_reducible rfl
  simp only [Act.put, List.getElem_toArray, List.getElem_cons_succ, List.getElem_cons_zero, List.setIfInBounds_toArray, List.set_cons_zero, List.set_cons_succ]
  refine wpAnyH_ready (rs := [2]) (by kernel_rfl) (by simp) ?_
  refine AllReadyH.cons rfl (fun K hK => ?_) AllReadyH.nil
  refine stepFn fo (.tmp 6) _ _ [ptr b] rfl rfl rfl rfl (eo _) _ (HO.out _) ?_
  rintro e w4 ⟨rfl, hw⟩
  refine Or.inl ⟨_, rfl, ?_⟩
  rw [hw]
  refine hK.out _ _ hHeld (fun hHeld => ?_)
  clear hK K hw w4
  simp only [Act.put, List.getElem_toArray, List.getElem_cons_succ, List.getElem_cons_zero, List.setIfInBounds_toArray, List.set_cons_zero, List.set_cons_succ]
  refine wpAnyH_ready (rs := [5]) (by kernel_rfl) (by simp) ?_
  refine AllReadyH.cons rfl (fun K hK => ?_) AllReadyH.nil
  refine stepFn fr (.tmp 9) _ _ [ptr c] rfl rfl rfl rfl (er _) _ HC.out ?_
  intro e w5 h9
  obtain ⟨h0, ⟨h2, rfl⟩ | ⟨x, r, v, h2, rfl, h3, h4⟩⟩ := h9
  · exact Or.inr ⟨_, rfl, rfl, Or.inl ⟨h2, rfl, (only_drew w).trans h0⟩⟩
  have h1 : Only (fun x => x = c ∨ w.heap.size ≤ x) w w5 := (only_drew w).trans h0
  refine Or.inl ⟨_, rfl, ?_⟩
  have hv5 : w5.heap[b]? = w.heap[b]? := h1.block b (by rintro (e | e); exact hbc e; have e' : w.heap.size ≤ b := e; omega)
  have hg15 : w5.heap[g1]? = w.heap[g1]? := h1.block g1 (by rintro (e | e); exact hg1c e; have e' : w.heap.size ≤ g1 := e; omega)
  have hg35 : w5.heap[g3]? = w.heap[g3]? := h1.block g3 (by rintro (e | e); exact hg3c e; have e' : w.heap.size ≤ g3 := e; omega)
  refine hK.out _ _ (HH.out.on hg15 hg35) (fun hHeld => ?_)
  clear hK K
  obtain ⟨rfl, -⟩ := id h4
  simp only [Act.put, List.getElem_toArray, List.getElem_cons_succ, List.getElem_cons_zero, List.setIfInBounds_toArray, List.set_cons_zero, List.set_cons_succ]
  refine wpAnyH_take (i := 6) (v := ?_) rfl (by kernel_rfl) (by kernel_rfl) (by kernel_rfl) (fun _ _ _ h => h) (Or.inl ⟨by rfl, ?_⟩) hHeld ?_
  rotate_left
  · intro w' hSw
    go_simp
    first | done | with_reducible rfl
  simp only [Act.put, List.getElem_toArray, List.getElem_cons_succ, List.getElem_cons_zero, List.setIfInBounds_toArray, List.set_cons_zero, List.set_cons_succ]
  refine wpAnyH_ready (rs := [7]) (by kernel_rfl) (by simp) ?_
  refine AllReadyH.cons rfl (fun K hK => ?_) AllReadyH.nil
  have cv5 : ∃ V, w5.cell? ⟨b, off, none⟩ = some V := by
    obtain ⟨V, hV⟩ := HV.out.1
    exact ⟨V, by rw [cell_same hv5]; exact hV⟩
  obtain ⟨V, cv5⟩ := cv5
  have fz5 : w5.frozen? ⟨b, off, none⟩ = false := by rw [frozen_same hv5]; exact HV.out.2
  go_simp
  refine hK.out _ _ (HH.out.on ((heap_setCell_other w5 ⟨b, off, none⟩ g1 _ hgb1).trans hg15) ((heap_setCell_other w5 ⟨b, off, none⟩ g3 _ hgb3).trans hg35)) (fun hHeld => ?_)
  clear hK K
  try simp only [Act.put, List.getElem_toArray, List.getElem_cons_succ, List.getElem_cons_zero, List.setIfInBounds_toArray, List.set_cons_zero, List.set_cons_succ]
  refine wpAnyH_done (by kernel_rfl) ?_ _
  go_wp2
  first | go_end0 | refine bodyPost_ret (results_none rfl _ _ _) rfl ?_
  exact Or.inr ⟨x, r, _, w5, h2, rfl, h4, h1, h3, rfl⟩

set_option maxHeartbeats 1600000 in
set_option maxRecDepth 100000 in
theorem readUs_any {w : World} (b off g1 g3 fo fr : Nat) (sp : Option ((List Int) × List Int)) (h : Hs3 g1 g3 fo fr w) (hV : (∃ V, w.cell? ⟨b, off, none⟩ = some V) ∧ w.frozen? ⟨b, off, none⟩ = false) (hbc : b ≠ c) (hg1c : g1 ≠ c) (hg3c : g3 ≠ c) (hb : b < w.heap.size) (hgb1 : g1 ≠ b) (hgb3 : g3 ≠ b) (eo : Ent fo) (er : Ent fr)
    (ho : ∀ w, Calls Tryz.prog fo #[ptr b] w fun e w' => e = .returned (.pointer (some ⟨b, off, none⟩)) ∧ w' = w)
    (hC : Calls Tryz.prog fr #[ptr c] w.drew (RdP T c sp VShs w.drew)) :
    Calls Tryz.prog 92 #[ptr c, ptr b, ptr g3, ptr g1] w (RcP T c b off sp VShs (fun W v => W.setCell ⟨b, off, none⟩ v) w) := by
  have hl1 := cell_lt h.c1
  have hl3 := cell_lt h.c3
  have HH := hid h
  have HO := hid ho
  have HC := hid hC
  have HV := hid hV
  clear h ho hC hV
  go_enter Tryz.func92, Tryz.ntmps92
  go_wp2
  refine wp_region_held_drew (S := Hs3 g1 g3 fo fr) (by kernel_rfl) (HH.out.on rfl rfl) (fun hHeld => ?_)
  refine wpAnyH_take (i := 0) (v := ?_) rfl (by kernel_rfl) (by kernel_rfl) (by kernel_rfl) (fun _ _ _ h => h) (Or.inl ⟨by rfl, ?_⟩) hHeld ?_
  rotate_left
  · intro w' hSw
    have c1 := hSw.c1
    clear hSw
    go_simp
    first | done | with_reducible rfl
  simp only [Act.put, List.getElem_toArray, List.getElem_cons_zero, List.setIfInBounds_toArray, List.set_cons_zero, List.set_cons_succ]
  refine wpAnyH_take (i := 1) (v := ?_) rfl (by kernel_rfl) (by kernel_rfl) (by kernel_rfl) (fun _ _ _ h => h) (Or.inl ⟨by rfl, ?_⟩) hHeld ?_
  rotate_left
  · intro w' hSw
    go_simp
    first | done | with_reducible rfl
  simp only [Act.put, List.getElem_toArray, List.getElem_cons_succ, List.getElem_cons_zero, List.setIfInBounds_toArray, List.set_cons_zero, List.set_cons_succ]
  refine wpAnyH_take (i := 3) (v := ?_) rfl (by kernel_rfl) (by kernel_rfl) (by kernel_rfl) (fun _ _ _ h => h) (Or.inl ⟨by rfl, ?_⟩) hHeld ?_
  rotate_left
  · intro w' hSw
    have c3 := hSw.c3
    clear hSw
    go_simp
    first | done | with_reducible rfl
  simp only [Act.put, List.getElem_toArray, List.getElem_cons_succ, List.getElem_cons_zero, List.setIfInBounds_toArray, List.set_cons_zero, List.set_cons_succ]
  refine wpAnyH_take (i := 4) (v := ?_) rfl (by kernel_rfl) (by kernel_rfl) (by kernel_rfl) (fun _ _ _ h => h) (Or.inl ⟨by rfl, ?_⟩) hHeld ?_
  rotate_left
  · intro w' hSw
    go_simp
    first | done | with_reducible rfl
  simp only [Act.put, List.getElem_toArray, List.getElem_cons_succ, List.getElem_cons_zero, List.setIfInBounds_toArray, List.set_cons_zero, List.set_cons_succ]
  refine wpAnyH_ready (rs := [2]) (by kernel_rfl) (by simp) ?_
  refine AllReadyH.cons rfl (fun K hK => ?_) AllReadyH.nil
  refine stepFn fo (.tmp 6) _ _ [ptr b] rfl rfl rfl rfl (eo _) _ (HO.out _) ?_
  rintro e w4 ⟨rfl, hw⟩
  refine Or.inl ⟨_, rfl, ?_⟩
  rw [hw]
  refine hK.out _ _ hHeld (fun hHeld => ?_)
  clear hK K hw w4
  simp only [Act.put, List.getElem_toArray, List.getElem_cons_succ, List.getElem_cons_zero, List.setIfInBounds_toArray, List.set_cons_zero, List.set_cons_succ]
  refine wpAnyH_ready (rs := [5]) (by kernel_rfl) (by simp) ?_
  refine AllReadyH.cons rfl (fun K hK => ?_) AllReadyH.nil
  refine stepFn fr (.tmp 9) _ _ [ptr c] rfl rfl rfl rfl (er _) _ HC.out ?_
  intro e w5 h9
  obtain ⟨h0, ⟨h2, rfl⟩ | ⟨x, r, v, h2, rfl, h3, h4⟩⟩ := h9
  · exact Or.inr ⟨_, rfl, rfl, Or.inl ⟨h2, rfl, (only_drew w).trans h0⟩⟩
  have h1 : Only (fun x => x = c ∨ w.heap.size ≤ x) w w5 := (only_drew w).trans h0
  refine Or.inl ⟨_, rfl, ?_⟩
  have hv5 : w5.heap[b]? = w.heap[b]? := h1.block b (by rintro (e | e); exact hbc e; have e' : w.heap.size ≤ b := e; omega)
  have hg15 : w5.heap[g1]? = w.heap[g1]? := h1.block g1 (by rintro (e | e); exact hg1c e; have e' : w.heap.size ≤ g1 := e; omega)
  have hg35 : w5.heap[g3]? = w.heap[g3]? := h1.block g3 (by rintro (e | e); exact hg3c e; have e' : w.heap.size ≤ g3 := e; omega)
  refine hK.out _ _ (HH.out.on hg15 hg35) (fun hHeld => ?_)
  clear hK K
  obtain ⟨va, vc, rfl, -⟩ := id h4
  simp only [Act.put, List.getElem_toArray, List.getElem_cons_succ, List.getElem_cons_zero, List.setIfInBounds_toArray, List.set_cons_zero, List.set_cons_succ]
  refine wpAnyH_take (i := 6) (v := ?_) rfl (by kernel_rfl) (by kernel_rfl) (by kernel_rfl) (fun _ _ _ h => h) (Or.inl ⟨by rfl, ?_⟩) hHeld ?_
  rotate_left
  · intro w' hSw
    go_simp
    first | done | with_reducible rfl
  simp only [Act.put, List.getElem_toArray, List.getElem_cons_succ, List.getElem_cons_zero, List.setIfInBounds_toArray, List.set_cons_zero, List.set_cons_succ]
  refine wpAnyH_ready (rs := [7]) (by kernel_rfl) (by simp) ?_
  refine AllReadyH.cons rfl (fun K hK => ?_) AllReadyH.nil
  have cv5 : ∃ V, w5.cell? ⟨b, off, none⟩ = some V := by
    obtain ⟨V, hV⟩ := HV.out.1
    exact ⟨V, by rw [cell_same hv5]; exact hV⟩
  obtain ⟨V, cv5⟩ := cv5
  have fz5 : w5.frozen? ⟨b, off, none⟩ = false := by rw [frozen_same hv5]; exact HV.out.2
  go_simp
  refine hK.out _ _ (HH.out.on ((heap_setCell_other w5 ⟨b, off, none⟩ g1 _ hgb1).trans hg15) ((heap_setCell_other w5 ⟨b, off, none⟩ g3 _ hgb3).trans hg35)) (fun hHeld => ?_)
  clear hK K
  try simp only [Act.put, List.getElem_toArray, List.getElem_cons_succ, List.getElem_cons_zero, List.setIfInBounds_toArray, List.set_cons_zero, List.set_cons_succ]
  refine wpAnyH_done (by kernel_rfl) ?_ _
  go_wp2
  first | go_end0 | refine bodyPost_ret (results_none rfl _ _ _) rfl ?_
  exact Or.inr ⟨x, r, _, w5, h2, rfl, h4, h1, h3, rfl⟩

set_option maxHeartbeats 1600000 in
set_option maxRecDepth 100000 in
theorem readI_any {w : World} (b off g1 g3 fo fr : Nat) (sp : Option (Int × List Int)) (h : Hs3 g1 g3 fo fr w) (hV : (∃ V, w.cell? ⟨b, off, none⟩ = some V) ∧ w.frozen? ⟨b, off, none⟩ = false) (hbc : b ≠ c) (hg1c : g1 ≠ c) (hg3c : g3 ≠ c) (hb : b < w.heap.size) (hgb1 : g1 ≠ b) (hgb3 : g3 ≠ b) (eo : Ent fo) (er : Ent fr)
    (ho : ∀ w, Calls Tryz.prog fo #[ptr b] w fun e w' => e = .returned (.pointer (some ⟨b, off, none⟩)) ∧ w' = w)
    (hC : Calls Tryz.prog fr #[ptr c] w.drew (RdP T c sp (VN .i8) w.drew)) :
    Calls Tryz.prog 97 #[ptr c, ptr b, ptr g3, ptr g1] w (RcP T c b off sp (VN .i8) (fun W v => W.setCell ⟨b, off, none⟩ v) w) := by
  have hl1 := cell_lt h.c1
  have hl3 := cell_lt h.c3
  have HH := hid h
  have HO := hid ho
  have HC := hid hC
  have HV := hid hV
  clear h ho hC hV
  go_enter Tryz.func97, Tryz.ntmps97
  go_wp2
  refine wp_region_held_drew (S := Hs3 g1 g3 fo fr) (by kernel_rfl) (HH.out.on rfl rfl) (fun hHeld => ?_)
  refine wpAnyH_take (i := 0) (v := ?_) rfl (by kernel_rfl) (by kernel_rfl) (by kernel_rfl) (fun _ _ _ h => h) (Or.inl ⟨by rfl, ?_⟩) hHeld ?_
  rotate_left
  · intro w' hSw
    have c1 := hSw.c1
    clear hSw
    go_simp
    first | done | with_reducible rfl
  simp only [Act.put, List.getElem_toArray, List.getElem_cons_zero, List.setIfInBounds_toArray, List.set_cons_zero, List.set_cons_succ]
  refine wpAnyH_take (i := 1) (v := ?_) rfl (by kernel_rfl) (by kernel_rfl) (by kernel_rfl) (fun _ _ _ h => h) (Or.inl ⟨by rfl, ?_⟩) hHeld ?_
  rotate_left
  · intro w' hSw
    go_simp
    first | done | with_reducible rfl
  simp only [Act.put, List.getElem_toArray, List.getElem_cons_succ, List.getElem_cons_zero, List.setIfInBounds_toArray, List.set_cons_zero, List.set_cons_succ]
  refine wpAnyH_take (i := 3) (v := ?_) rfl (by kernel_rfl) (by kernel_rfl) (by kernel_rfl) (fun _ _ _ h => h) (Or.inl ⟨by rfl, ?_⟩) hHeld ?_
  rotate_left
  · intro w' hSw
    have c3 := hSw.c3
    clear hSw
    go_simp
    first | done | with_reducible rfl
  simp only [Act.put, List.getElem_toArray, List.getElem_cons_succ, List.getElem_cons_zero, List.setIfInBounds_toArray, List.set_cons_zero, List.set_cons_succ]
  refine wpAnyH_take (i := 4) (v := ?_) rfl (by kernel_rfl) (by kernel_rfl) (by kernel_rfl) (fun _ _ _ h => h) (Or.inl ⟨by rfl, ?_⟩) hHeld ?_
  rotate_left
  · intro w' hSw
    go_simp
    first | done | with_reducible rfl
  simp only [Act.put, List.getElem_toArray, List.getElem_cons_succ, List.getElem_cons_zero, List.setIfInBounds_toArray, List.set_cons_zero, List.set_cons_succ]
  refine wpAnyH_ready (rs := [2]) (by kernel_rfl) (by simp) ?_
  refine AllReadyH.cons rfl (fun K hK => ?_) AllReadyH.nil
  refine stepFn fo (.tmp 6) _ _ [ptr b] rfl rfl rfl rfl (eo _) _ (HO.out _) ?_
  rintro e w4 ⟨rfl, hw⟩
  refine Or.inl ⟨_, rfl, ?_⟩
  rw [hw]
  refine hK.out _ _ hHeld (fun hHeld => ?_)
  clear hK K hw w4
  simp only [Act.put, List.getElem_toArray, List.getElem_cons_succ, List.getElem_cons_zero, List.setIfInBounds_toArray, List.set_cons_zero, List.set_cons_succ]
  refine wpAnyH_ready (rs := [5]) (by kernel_rfl) (by simp) ?_
  refine AllReadyH.cons rfl (fun K hK => ?_) AllReadyH.nil
  refine stepFn fr (.tmp 9) _ _ [ptr c] rfl rfl rfl rfl (er _) _ HC.out ?_
  intro e w5 h9
  obtain ⟨h0, ⟨h2, rfl⟩ | ⟨x, r, v, h2, rfl, h3, h4⟩⟩ := h9
  · exact Or.inr ⟨_, rfl, rfl, Or.inl ⟨h2, rfl, (only_drew w).trans h0⟩⟩
  have h1 : Only (fun x => x = c ∨ w.heap.size ≤ x) w w5 := (only_drew w).trans h0
  refine Or.inl ⟨_, rfl, ?_⟩
  have hv5 : w5.heap[b]? = w.heap[b]? := h1.block b (by rintro (e | e); exact hbc e; have e' : w.heap.size ≤ b := e; omega)
  have hg15 : w5.heap[g1]? = w.heap[g1]? := h1.block g1 (by rintro (e | e); exact hg1c e; have e' : w.heap.size ≤ g1 := e; omega)
  have hg35 : w5.heap[g3]? = w.heap[g3]? := h1.block g3 (by rintro (e | e); exact hg3c e; have e' : w.heap.size ≤ g3 := e; omega)
  refine hK.out _ _ (HH.out.on hg15 hg35) (fun hHeld => ?_)
  clear hK K
  obtain rfl := id h4
  simp only [Act.put, List.getElem_toArray, List.getElem_cons_succ, List.getElem_cons_zero, List.setIfInBounds_toArray, List.set_cons_zero, List.set_cons_succ]
  refine wpAnyH_take (i := 6) (v := ?_) rfl (by kernel_rfl) (by kernel_rfl) (by kernel_rfl) (fun _ _ _ h => h) (Or.inl ⟨by rfl, ?_⟩) hHeld ?_
  rotate_left
  · intro w' hSw
    go_simp
    first | done | with_reducible rfl
  simp only [Act.put, List.getElem_toArray, List.getElem_cons_succ, List.getElem_cons_zero, List.setIfInBounds_toArray, List.set_cons_zero, List.set_cons_succ]
  refine wpAnyH_ready (rs := [7]) (by kernel_rfl) (by simp) ?_
  refine AllReadyH.cons rfl (fun K hK => ?_) AllReadyH.nil
  have cv5 : ∃ V, w5.cell? ⟨b, off, none⟩ = some V := by
    obtain ⟨V, hV⟩ := HV.out.1
    exact ⟨V, by rw [cell_same hv5]; exact hV⟩
  obtain ⟨V, cv5⟩ := cv5
  have fz5 : w5.frozen? ⟨b, off, none⟩ = false := by rw [frozen_same hv5]; exact HV.out.2
  go_simp
  refine hK.out _ _ (HH.out.on ((heap_setCell_other w5 ⟨b, off, none⟩ g1 _ hgb1).trans hg15) ((heap_setCell_other w5 ⟨b, off, none⟩ g3 _ hgb3).trans hg35)) (fun hHeld => ?_)
  clear hK K
  try simp only [Act.put, List.getElem_toArray, List.getElem_cons_succ, List.getElem_cons_zero, List.setIfInBounds_toArray, List.set_cons_zero, List.set_cons_succ]
  refine wpAnyH_done (by kernel_rfl) ?_ _
  go_wp2
  first | go_end0 | refine bodyPost_ret (results_none rfl _ _ _) rfl ?_
  exact Or.inr ⟨x, r, _, w5, h2, rfl, h4, h1, h3, rfl⟩

set_option maxHeartbeats 1600000 in
set_option maxRecDepth 100000 in
theorem readB_any {w : World} (b off g1 g3 fo fr : Nat) (sp : Option ((List Int) × List Int)) (h : Hs3 g1 g3 fo fr w) (hV : (∃ V, w.cell? ⟨b, off, none⟩ = some V) ∧ w.frozen? ⟨b, off, none⟩ = false) (hbc : b ≠ c) (hg1c : g1 ≠ c) (hg3c : g3 ≠ c) (hb : b < w.heap.size) (hgb1 : g1 ≠ b) (hgb3 : g3 ≠ b) (eo : Ent fo) (er : Ent fr)
    (ho : ∀ w, Calls Tryz.prog fo #[ptr b] w fun e w' => e = .returned (.pointer (some ⟨b, off, none⟩)) ∧ w' = w)
    (hC : Calls Tryz.prog fr #[ptr c] w.drew (RdP T c sp VF w.drew)) :
    Calls Tryz.prog 110 #[ptr c, ptr b, ptr g3, ptr g1] w (RcP T c b off sp VF (fun W v => W.setCell ⟨b, off, none⟩ v) w) := by
  have hl1 := cell_lt h.c1
  have hl3 := cell_lt h.c3
  have HH := hid h
  have HO := hid ho
  have HC := hid hC
  have HV := hid hV
  clear h ho hC hV
  go_enter Tryz.func110, Tryz.ntmps110
  go_wp2
  refine wp_region_held_drew (S := Hs3 g1 g3 fo fr) (by kernel_rfl) (HH.out.on rfl rfl) (fun hHeld => ?_)
  refine wpAnyH_take (i := 0) (v := ?_) rfl (by kernel_rfl) (by kernel_rfl) (by kernel_rfl) (fun _ _ _ h => h) (Or.inl ⟨by rfl, ?_⟩) hHeld ?_
  rotate_left
  · intro w' hSw
    have c1 := hSw.c1
    clear hSw
    go_simp
    first | done | with_reducible rfl
  simp only [Act.put, List.getElem_toArray, List.getElem_cons_zero, List.setIfInBounds_toArray, List.set_cons_zero, List.set_cons_succ]
  refine wpAnyH_take (i := 1) (v := ?_) rfl (by kernel_rfl) (by kernel_rfl) (by kernel_rfl) (fun _ _ _ h => h) (Or.inl ⟨by rfl, ?_⟩) hHeld ?_
  rotate_left
  · intro w' hSw
    go_simp
    first | done | with_reducible rfl
  simp only [Act.put, List.getElem_toArray, List.getElem_cons_succ, List.getElem_cons_zero, List.setIfInBounds_toArray, List.set_cons_zero, List.set_cons_succ]
  refine wpAnyH_take (i := 3) (v := ?_) rfl (by kernel_rfl) (by kernel_rfl) (by kernel_rfl) (fun _ _ _ h => h) (Or.inl ⟨by rfl, ?_⟩) hHeld ?_
  rotate_left
  · intro w' hSw
    have c3 := hSw.c3
    clear hSw
    go_simp
    first | done | with_reducible rfl
  simp only [Act.put, List.getElem_toArray, List.getElem_cons_succ, List.getElem_cons_zero, List.setIfInBounds_toArray, List.set_cons_zero, List.set_cons_succ]
  refine wpAnyH_take (i := 4) (v := ?_) rfl (by kernel_rfl) (by kernel_rfl) (by kernel_rfl) (fun _ _ _ h => h) (Or.inl ⟨by rfl, ?_⟩) hHeld ?_
  rotate_left
  · intro w' hSw
    go_simp
    first | done | with_reducible rfl
  simp only [Act.put, List.getElem_toArray, List.getElem_cons_succ, List.getElem_cons_zero, List.setIfInBounds_toArray, List.set_cons_zero, List.set_cons_succ]
  refine wpAnyH_ready (rs := [2]) (by kernel_rfl) (by simp) ?_
  refine AllReadyH.cons rfl (fun K hK => ?_) AllReadyH.nil
  refine stepFn fo (.tmp 6) _ _ [ptr b] rfl rfl rfl rfl (eo _) _ (HO.out _) ?_
  rintro e w4 ⟨rfl, hw⟩
  refine Or.inl ⟨_, rfl, ?_⟩
  rw [hw]
  refine hK.out _ _ hHeld (fun hHeld => ?_)
  clear hK K hw w4
  simp only [Act.put, List.getElem_toArray, List.getElem_cons_succ, List.getElem_cons_zero, List.setIfInBounds_toArray, List.set_cons_zero, List.set_cons_succ]
  refine wpAnyH_ready (rs := [5]) (by kernel_rfl) (by simp) ?_
  refine AllReadyH.cons rfl (fun K hK => ?_) AllReadyH.nil
  refine stepFn fr (.tmp 9) _ _ [ptr c] rfl rfl rfl rfl (er _) _ HC.out ?_
  intro e w5 h9
  obtain ⟨h0, ⟨h2, rfl⟩ | ⟨x, r, v, h2, rfl, h3, h4⟩⟩ := h9
  · exact Or.inr ⟨_, rfl, rfl, Or.inl ⟨h2, rfl, (only_drew w).trans h0⟩⟩
  have h1 : Only (fun x => x = c ∨ w.heap.size ≤ x) w w5 := (only_drew w).trans h0
  refine Or.inl ⟨_, rfl, ?_⟩
  have hv5 : w5.heap[b]? = w.heap[b]? := h1.block b (by rintro (e | e); exact hbc e; have e' : w.heap.size ≤ b := e; omega)
  have hg15 : w5.heap[g1]? = w.heap[g1]? := h1.block g1 (by rintro (e | e); exact hg1c e; have e' : w.heap.size ≤ g1 := e; omega)
  have hg35 : w5.heap[g3]? = w.heap[g3]? := h1.block g3 (by rintro (e | e); exact hg3c e; have e' : w.heap.size ≤ g3 := e; omega)
  refine hK.out _ _ (HH.out.on hg15 hg35) (fun hHeld => ?_)
  clear hK K
  obtain ⟨va, vc, rfl, -⟩ := id h4
  simp only [Act.put, List.getElem_toArray, List.getElem_cons_succ, List.getElem_cons_zero, List.setIfInBounds_toArray, List.set_cons_zero, List.set_cons_succ]
  refine wpAnyH_take (i := 6) (v := ?_) rfl (by kernel_rfl) (by kernel_rfl) (by kernel_rfl) (fun _ _ _ h => h) (Or.inl ⟨by rfl, ?_⟩) hHeld ?_
  rotate_left
  · intro w' hSw
    go_simp
    first | done | with_reducible rfl
  simp only [Act.put, List.getElem_toArray, List.getElem_cons_succ, List.getElem_cons_zero, List.setIfInBounds_toArray, List.set_cons_zero, List.set_cons_succ]
  refine wpAnyH_ready (rs := [7]) (by kernel_rfl) (by simp) ?_
  refine AllReadyH.cons rfl (fun K hK => ?_) AllReadyH.nil
  have cv5 : ∃ V, w5.cell? ⟨b, off, none⟩ = some V := by
    obtain ⟨V, hV⟩ := HV.out.1
    exact ⟨V, by rw [cell_same hv5]; exact hV⟩
  obtain ⟨V, cv5⟩ := cv5
  have fz5 : w5.frozen? ⟨b, off, none⟩ = false := by rw [frozen_same hv5]; exact HV.out.2
  go_simp
  refine hK.out _ _ (HH.out.on ((heap_setCell_other w5 ⟨b, off, none⟩ g1 _ hgb1).trans hg15) ((heap_setCell_other w5 ⟨b, off, none⟩ g3 _ hgb3).trans hg35)) (fun hHeld => ?_)
  clear hK K
  try simp only [Act.put, List.getElem_toArray, List.getElem_cons_succ, List.getElem_cons_zero, List.setIfInBounds_toArray, List.set_cons_zero, List.set_cons_succ]
  refine wpAnyH_done (by kernel_rfl) ?_ _
  go_wp2
  first | go_end0 | refine bodyPost_ret (results_none rfl _ _ _) rfl ?_
  exact Or.inr ⟨x, r, _, w5, h2, rfl, h4, h1, h3, rfl⟩

set_option maxHeartbeats 1600000 in
set_option maxRecDepth 100000 in
theorem readH_any {w : World} (b off g1 g3 fo fr : Nat) (sp : Option ((List Hd) × List Int)) (h : Hs3 g1 g3 fo fr w) (hV : (∃ V, w.cell? ⟨b, off, none⟩ = some V) ∧ w.frozen? ⟨b, off, none⟩ = false) (hbc : b ≠ c) (hg1c : g1 ≠ c) (hg3c : g3 ≠ c) (hb : b < w.heap.size) (hgb1 : g1 ≠ b) (hgb3 : g3 ≠ b) (eo : Ent fo) (er : Ent fr)
    (ho : ∀ w, Calls Tryz.prog fo #[ptr b] w fun e w' => e = .returned (.pointer (some ⟨b, off, none⟩)) ∧ w' = w)
    (hC : Calls Tryz.prog fr #[ptr c] w.drew (RdP T c sp VHs w.drew)) :
    Calls Tryz.prog 114 #[ptr c, ptr b, ptr g3, ptr g1] w (RcP T c b off sp VHs (fun W v => W.setCell ⟨b, off, none⟩ v) w) := by
  have hl1 := cell_lt h.c1
  have hl3 := cell_lt h.c3
  have HH := hid h
  have HO := hid ho
  have HC := hid hC
  have HV := hid hV
  clear h ho hC hV
  go_enter Tryz.func114, Tryz.ntmps114
  go_wp2
  refine wp_region_held_drew (S := Hs3 g1 g3 fo fr) (by kernel_rfl) (HH.out.on rfl rfl) (fun hHeld => ?_)
  refine wpAnyH_take (i := 0) (v := ?_) rfl (by kernel_rfl) (by kernel_rfl) (by kernel_rfl) (fun _ _ _ h => h) (Or.inl ⟨by rfl, ?_⟩) hHeld ?_
  rotate_left
  · intro w' hSw
    have c1 := hSw.c1
    clear hSw
    go_simp
    first | done | with_reducible rfl
  simp only [Act.put, List.getElem_toArray, List.getElem_cons_zero, List.setIfInBounds_toArray, List.set_cons_zero, List.set_cons_succ]
  refine wpAnyH_take (i := 1) (v := ?_) rfl (by kernel_rfl) (by kernel_rfl) (by kernel_rfl) (fun _ _ _ h => h) (Or.inl ⟨by rfl, ?_⟩) hHeld ?_
  rotate_left
  · intro w' hSw
    go_simp
    first | done | with_reducible rfl
  simp only [Act.put, List.getElem_toArray, List.getElem_cons_succ, List.getElem_cons_zero, List.setIfInBounds_toArray, List.set_cons_zero, List.set_cons_succ]
  refine wpAnyH_take (i := 3) (v := ?_) rfl (by kernel_rfl) (by kernel_rfl) (by kernel_rfl) (fun _ _ _ h => h) (Or.inl ⟨by rfl, ?_⟩) hHeld ?_
  rotate_left
  · intro w' hSw
    have c3 := hSw.c3
    clear hSw
    go_simp
    first | done | with_reducible rfl
  simp only [Act.put, List.getElem_toArray, List.getElem_cons_succ, List.getElem_cons_zero, List.setIfInBounds_toArray, List.set_cons_zero, List.set_cons_succ]
  refine wpAnyH_take (i := 4) (v := ?_) rfl (by kernel_rfl) (by kernel_rfl) (by kernel_rfl) (fun _ _ _ h => h) (Or.inl ⟨by rfl, ?_⟩) hHeld ?_
  rotate_left
  · intro w' hSw
    go_simp
    first | done | with_reducible rfl
  simp only [Act.put, List.getElem_toArray, List.getElem_cons_succ, List.getElem_cons_zero, List.setIfInBounds_toArray, List.set_cons_zero, List.set_cons_succ]
  refine wpAnyH_ready (rs := [2]) (by kernel_rfl) (by simp) ?_
  refine AllReadyH.cons rfl (fun K hK => ?_) AllReadyH.nil
  refine stepFn fo (.tmp 6) _ _ [ptr b] rfl rfl rfl rfl (eo _) _ (HO.out _) ?_
  rintro e w4 ⟨rfl, hw⟩
  refine Or.inl ⟨_, rfl, ?_⟩
  rw [hw]
  refine hK.out _ _ hHeld (fun hHeld => ?_)
  clear hK K hw w4
  simp only [Act.put, List.getElem_toArray, List.getElem_cons_succ, List.getElem_cons_zero, List.setIfInBounds_toArray, List.set_cons_zero, List.set_cons_succ]
  refine wpAnyH_ready (rs := [5]) (by kernel_rfl) (by simp) ?_
  refine AllReadyH.cons rfl (fun K hK => ?_) AllReadyH.nil
  refine stepFn fr (.tmp 9) _ _ [ptr c] rfl rfl rfl rfl (er _) _ HC.out ?_
  intro e w5 h9
  obtain ⟨h0, ⟨h2, rfl⟩ | ⟨x, r, v, h2, rfl, h3, h4⟩⟩ := h9
  · exact Or.inr ⟨_, rfl, rfl, Or.inl ⟨h2, rfl, (only_drew w).trans h0⟩⟩
  have h1 : Only (fun x => x = c ∨ w.heap.size ≤ x) w w5 := (only_drew w).trans h0
  refine Or.inl ⟨_, rfl, ?_⟩
  have hv5 : w5.heap[b]? = w.heap[b]? := h1.block b (by rintro (e | e); exact hbc e; have e' : w.heap.size ≤ b := e; omega)
  have hg15 : w5.heap[g1]? = w.heap[g1]? := h1.block g1 (by rintro (e | e); exact hg1c e; have e' : w.heap.size ≤ g1 := e; omega)
  have hg35 : w5.heap[g3]? = w.heap[g3]? := h1.block g3 (by rintro (e | e); exact hg3c e; have e' : w.heap.size ≤ g3 := e; omega)
  refine hK.out _ _ (HH.out.on hg15 hg35) (fun hHeld => ?_)
  clear hK K
  obtain ⟨va, vc, rfl, -⟩ := id h4
  simp only [Act.put, List.getElem_toArray, List.getElem_cons_succ, List.getElem_cons_zero, List.setIfInBounds_toArray, List.set_cons_zero, List.set_cons_succ]
  refine wpAnyH_take (i := 6) (v := ?_) rfl (by kernel_rfl) (by kernel_rfl) (by kernel_rfl) (fun _ _ _ h => h) (Or.inl ⟨by rfl, ?_⟩) hHeld ?_
  rotate_left
  · intro w' hSw
    go_simp
    first | done | with_reducible rfl
  simp only [Act.put, List.getElem_toArray, List.getElem_cons_succ, List.getElem_cons_zero, List.setIfInBounds_toArray, List.set_cons_zero, List.set_cons_succ]
  refine wpAnyH_ready (rs := [7]) (by kernel_rfl) (by simp) ?_
  refine AllReadyH.cons rfl (fun K hK => ?_) AllReadyH.nil
  have cv5 : ∃ V, w5.cell? ⟨b, off, none⟩ = some V := by
    obtain ⟨V, hV⟩ := HV.out.1
    exact ⟨V, by rw [cell_same hv5]; exact hV⟩
  obtain ⟨V, cv5⟩ := cv5
  have fz5 : w5.frozen? ⟨b, off, none⟩ = false := by rw [frozen_same hv5]; exact HV.out.2
  go_simp
  refine hK.out _ _ (HH.out.on ((heap_setCell_other w5 ⟨b, off, none⟩ g1 _ hgb1).trans hg15) ((heap_setCell_other w5 ⟨b, off, none⟩ g3 _ hgb3).trans hg35)) (fun hHeld => ?_)
  clear hK K
  try simp only [Act.put, List.getElem_toArray, List.getElem_cons_succ, List.getElem_cons_zero, List.setIfInBounds_toArray, List.set_cons_zero, List.set_cons_succ]
  refine wpAnyH_done (by kernel_rfl) ?_ _
  go_wp2
  first | go_end0 | refine bodyPost_ret (results_none rfl _ _ _) rfl ?_
  exact Or.inr ⟨x, r, _, w5, h2, rfl, h4, h1, h3, rfl⟩

set_option maxHeartbeats 1600000 in
set_option maxRecDepth 100000 in
theorem readO_any {w : World} (b off g1 g3 fo fr : Nat) (sp : Option (Bool × List Int)) (h : Hs3 g1 g3 fo fr w) (hV : (∃ V, w.cell? ⟨b, off, none⟩ = some V) ∧ w.frozen? ⟨b, off, none⟩ = false) (hbc : b ≠ c) (hg1c : g1 ≠ c) (hg3c : g3 ≠ c) (hb : b < w.heap.size) (hgb1 : g1 ≠ b) (hgb3 : g3 ≠ b) (eo : Ent fo) (er : Ent fr)
    (ho : ∀ w, Calls Tryz.prog fo #[ptr b] w fun e w' => e = .returned (.pointer (some ⟨b, off, none⟩)) ∧ w' = w)
    (hC : Calls Tryz.prog fr #[ptr c] w.drew (RdP T c sp VB w.drew)) :
    Calls Tryz.prog 121 #[ptr c, ptr b, ptr g3, ptr g1] w (RcP T c b off sp VB (fun W v => W.setCell ⟨b, off, none⟩ v) w) := by
  have hl1 := cell_lt h.c1
  have hl3 := cell_lt h.c3
  have HH := hid h
  have HO := hid ho
  have HC := hid hC
  have HV := hid hV
  clear h ho hC hV
  go_enter Tryz.func121, Tryz.ntmps121
  go_wp2
  refine wp_region_held_drew (S := Hs3 g1 g3 fo fr) (by kernel_rfl) (HH.out.on rfl rfl) (fun hHeld => ?_)
  refine wpAnyH_take (i := 0) (v := ?_) rfl (by kernel_rfl) (by kernel_rfl) (by kernel_rfl) (fun _ _ _ h => h) (Or.inl ⟨by rfl, ?_⟩) hHeld ?_
  rotate_left
  · intro w' hSw
    have c1 := hSw.c1
    clear hSw
    go_simp
    first | done | with_reducible rfl
  simp only [Act.put, List.getElem_toArray, List.getElem_cons_zero, List.setIfInBounds_toArray, List.set_cons_zero, List.set_cons_succ]
  refine wpAnyH_take (i := 1) (v := ?_) rfl (by kernel_rfl) (by kernel_rfl) (by kernel_rfl) (fun _ _ _ h => h) (Or.inl ⟨by rfl, ?_⟩) hHeld ?_
  rotate_left
  · intro w' hSw
    go_simp
    first | done | with_reducible rfl
  simp only [Act.put, List.getElem_toArray, List.getElem_cons_succ, List.getElem_cons_zero, List.setIfInBounds_toArray, List.set_cons_zero, List.set_cons_succ]
  refine wpAnyH_take (i := 3) (v := ?_) rfl (by kernel_rfl) (by kernel_rfl) (by kernel_rfl) (fun _ _ _ h => h) (Or.inl ⟨by rfl, ?_⟩) hHeld ?_
  rotate_left
  · intro w' hSw
    have c3 := hSw.c3
    clear hSw
    go_simp
    first | done | with_reducible rfl
  simp only [Act.put, List.getElem_toArray, List.getElem_cons_succ, List.getElem_cons_zero, List.setIfInBounds_toArray, List.set_cons_zero, List.set_cons_succ]
  refine wpAnyH_take (i := 4) (v := ?_) rfl (by kernel_rfl) (by kernel_rfl) (by kernel_rfl) (fun _ _ _ h => h) (Or.inl ⟨by rfl, ?_⟩) hHeld ?_
  rotate_left
  · intro w' hSw
    go_simp
    first | done | with_reducible rfl
  simp only [Act.put, List.getElem_toArray, List.getElem_cons_succ, List.getElem_cons_zero, List.setIfInBounds_toArray, List.set_cons_zero, List.set_cons_succ]
  refine wpAnyH_ready (rs := [2]) (by kernel_rfl) (by simp) ?_
  refine AllReadyH.cons rfl (fun K hK => ?_) AllReadyH.nil
  refine stepFn fo (.tmp 6) _ _ [ptr b] rfl rfl rfl rfl (eo _) _ (HO.out _) ?_
  rintro e w4 ⟨rfl, hw⟩
  refine Or.inl ⟨_, rfl, ?_⟩
  rw [hw]
  refine hK.out _ _ hHeld (fun hHeld => ?_)
  clear hK K hw w4
  simp only [Act.put, List.getElem_toArray, List.getElem_cons_succ, List.getElem_cons_zero, List.setIfInBounds_toArray, List.set_cons_zero, List.set_cons_succ]
  refine wpAnyH_ready (rs := [5]) (by kernel_rfl) (by simp) ?_
  refine AllReadyH.cons rfl (fun K hK => ?_) AllReadyH.nil
  refine stepFn fr (.tmp 9) _ _ [ptr c] rfl rfl rfl rfl (er _) _ HC.out ?_
  intro e w5 h9
  obtain ⟨h0, ⟨h2, rfl⟩ | ⟨x, r, v, h2, rfl, h3, h4⟩⟩ := h9
  · exact Or.inr ⟨_, rfl, rfl, Or.inl ⟨h2, rfl, (only_drew w).trans h0⟩⟩
  have h1 : Only (fun x => x = c ∨ w.heap.size ≤ x) w w5 := (only_drew w).trans h0
  refine Or.inl ⟨_, rfl, ?_⟩
  have hv5 : w5.heap[b]? = w.heap[b]? := h1.block b (by rintro (e | e); exact hbc e; have e' : w.heap.size ≤ b := e; omega)
  have hg15 : w5.heap[g1]? = w.heap[g1]? := h1.block g1 (by rintro (e | e); exact hg1c e; have e' : w.heap.size ≤ g1 := e; omega)
  have hg35 : w5.heap[g3]? = w.heap[g3]? := h1.block g3 (by rintro (e | e); exact hg3c e; have e' : w.heap.size ≤ g3 := e; omega)
  refine hK.out _ _ (HH.out.on hg15 hg35) (fun hHeld => ?_)
  clear hK K
  obtain rfl := id h4
  simp only [Act.put, List.getElem_toArray, List.getElem_cons_succ, List.getElem_cons_zero, List.setIfInBounds_toArray, List.set_cons_zero, List.set_cons_succ]
  refine wpAnyH_take (i := 6) (v := ?_) rfl (by kernel_rfl) (by kernel_rfl) (by kernel_rfl) (fun _ _ _ h => h) (Or.inl ⟨by rfl, ?_⟩) hHeld ?_
  rotate_left
  · intro w' hSw
    go_simp
    first | done | with_reducible rfl
  simp only [Act.put, List.getElem_toArray, List.getElem_cons_succ, List.getElem_cons_zero, List.setIfInBounds_toArray, List.set_cons_zero, List.set_cons_succ]
  refine wpAnyH_ready (rs := [7]) (by kernel_rfl) (by simp) ?_
  refine AllReadyH.cons rfl (fun K hK => ?_) AllReadyH.nil
  have cv5 : ∃ V, w5.cell? ⟨b, off, none⟩ = some V := by
    obtain ⟨V, hV⟩ := HV.out.1
    exact ⟨V, by rw [cell_same hv5]; exact hV⟩
  obtain ⟨V, cv5⟩ := cv5
  have fz5 : w5.frozen? ⟨b, off, none⟩ = false := by rw [frozen_same hv5]; exact HV.out.2
  go_simp
  refine hK.out _ _ (HH.out.on ((heap_setCell_other w5 ⟨b, off, none⟩ g1 _ hgb1).trans hg15) ((heap_setCell_other w5 ⟨b, off, none⟩ g3 _ hgb3).trans hg35)) (fun hHeld => ?_)
  clear hK K
  try simp only [Act.put, List.getElem_toArray, List.getElem_cons_succ, List.getElem_cons_zero, List.setIfInBounds_toArray, List.set_cons_zero, List.set_cons_succ]
  refine wpAnyH_done (by kernel_rfl) ?_ _
  go_wp2
  first | go_end0 | refine bodyPost_ret (results_none rfl _ _ _) rfl ?_
  exact Or.inr ⟨x, r, _, w5, h2, rfl, h4, h1, h3, rfl⟩
end
end Go.Proofs.YtllbbbfkdgjffaaGreatDoor
