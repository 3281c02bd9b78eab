/-
  Proved here: what the closures do that write one field of a message: they find it and write it, at each of field's seven types. Conditions: the blocks that they look at are none that the writer turns.
-/
import Derived.Test.YtllbbbfkdgjffaaGreatDoorT3
namespace Go.Proofs.YtllbbbfkdgjffaaGreatDoor
open Go.RowKit

/-- A function of this number is entered. -/
abbrev Ent (f : Nat) : Prop := ∀ (args : List Value) (w : World), (callFunc f args.toArray).run Tryz.prog w = .ok (.enter f args.toArray) w
structure Hs2 (b off g1 g2 : Nat) (V : Value) (fo fw : Nat) (w : World) : Prop where
  c1 : w.cell? ⟨g1, 0, none⟩ = some (fnV fo)
  c2 : w.cell? ⟨g2, 0, none⟩ = some (fnV fw)
  cv : w.cell? ⟨b, off, none⟩ = some V
theorem Hs2.on {b off g1 g2 : Nat} {V : Value} {fo fw : Nat} {w w' : World} (h : Hs2 b off g1 g2 V fo fw w) (hb : w'.heap[b]? = w.heap[b]?) (h1 : w'.heap[g1]? = w.heap[g1]?) (h2 : w'.heap[g2]? = w.heap[g2]?) : Hs2 b off g1 g2 V fo fw w' :=
  ⟨by rw [cell_same h1]; exact h.c1, by rw [cell_same h2]; exact h.c2, by rw [cell_same hb]; exact h.cv⟩
section
variable {S : Nat → Prop} {c m0 : Nat} {xs zs : List Int} {ok : Bool}

set_option maxHeartbeats 1600000 in
set_option maxRecDepth 100000 in
theorem writeU_any {w : World} (b off g1 g2 fo fw : Nat) (V : Value) (h : Hs2 b off g1 g2 V fo fw w) (hb : ¬ OS c S b) (hg1 : ¬ OS c S g1) (hg2 : ¬ OS c S g2) (eo : Ent fo) (ew : Ent fw)
    (ho : ∀ w, Calls Tryz.prog fo #[ptr b] w fun e w' => e = .returned (.pointer (some ⟨b, off, none⟩)) ∧ w' = w)
    (hC : Calls Tryz.prog fw #[ptr c, V] w.drew (WrP S c m0 xs zs ok w)) :
    Calls Tryz.prog 88 #[ptr c, ptr b, ptr g2, ptr g1] w (WrP S c m0 xs zs ok w) := by
  have HH := hid h
  have HO := hid ho
  have HC := hid hC
  clear h ho hC
  go_enter Tryz.func88, Tryz.ntmps88
  go_wp2
  refine wp_region_held_drew (S := Hs2 b off g1 g2 V fo fw) (by kernel_rfl) (HH.out.on rfl rfl rfl) (fun hHeld => ?_)
  refine wpAnyH_take (i := 0) (v := ?_) rfl (by kernel_rfl) (by kernel_rfl) (by kernel_rfl) (fun _ _ _ h => h) (Or.inl ⟨by rfl, ?_⟩) hHeld ?_
  rotate_left
  · intro w' hSw
    have c2 := hSw.c2
    clear hSw
    go_simp
    first | done | with_reducible rfl
  simp only [Act.put, List.getElem_toArray, List.getElem_cons_zero, List.setIfInBounds_toArray, List.set_cons_zero, List.set_cons_succ]
  refine wpAnyH_take (i := 1) (v := ?_) rfl (by kernel_rfl) (by kernel_rfl) (by kernel_rfl) (fun _ _ _ h => h) (Or.inl ⟨by rfl, ?_⟩) hHeld ?_
  rotate_left
  · intro w' hSw
    go_simp
    first | done | with_reducible rfl
  simp only [Act.put, List.getElem_toArray, List.getElem_cons_succ, List.getElem_cons_zero, List.setIfInBounds_toArray, List.set_cons_zero, List.set_cons_succ]
  refine wpAnyH_take (i := 2) (v := ?_) rfl (by kernel_rfl) (by kernel_rfl) (by kernel_rfl) (fun _ _ _ h => h) (Or.inl ⟨by rfl, ?_⟩) hHeld ?_
  rotate_left
  · intro w' hSw
    have c1 := hSw.c1
    clear hSw
    go_simp
    first | done | with_reducible rfl
  simp only [Act.put, List.getElem_toArray, List.getElem_cons_succ, List.getElem_cons_zero, List.setIfInBounds_toArray, List.set_cons_zero, List.set_cons_succ]
  refine wpAnyH_take (i := 3) (v := ?_) rfl (by kernel_rfl) (by kernel_rfl) (by kernel_rfl) (fun _ _ _ h => h) (Or.inl ⟨by rfl, ?_⟩) hHeld ?_
  rotate_left
  · intro w' hSw
    go_simp
    first | done | with_reducible rfl
  simp only [Act.put, List.getElem_toArray, List.getElem_cons_succ, List.getElem_cons_zero, List.setIfInBounds_toArray, List.set_cons_zero, List.set_cons_succ]
  refine wpAnyH_ready (rs := [4]) (by kernel_rfl) (by simp) ?_
  refine AllReadyH.cons rfl (fun K hK => ?_) AllReadyH.nil
  refine stepFn fo (.tmp 8) _ _ [ptr b] rfl rfl rfl rfl (eo _) _ (HO.out _) ?_
  rintro e w4 ⟨rfl, hw⟩
  refine Or.inl ⟨_, rfl, ?_⟩
  rw [hw]
  refine hK.out _ _ hHeld (fun hHeld => ?_)
  clear hK K hw w4
  simp only [Act.put, List.getElem_toArray, List.getElem_cons_succ, List.getElem_cons_zero, List.setIfInBounds_toArray, List.set_cons_zero, List.set_cons_succ]
  refine wpAnyH_take (i := 5) (v := ?_) rfl (by kernel_rfl) (by kernel_rfl) (by kernel_rfl) (fun _ _ _ h => h) (Or.inl ⟨by rfl, ?_⟩) hHeld ?_
  rotate_left
  · intro w' hSw
    go_simp
    first | done | with_reducible rfl
  simp only [Act.put, List.getElem_toArray, List.getElem_cons_succ, List.getElem_cons_zero, List.setIfInBounds_toArray, List.set_cons_zero, List.set_cons_succ]
  refine wpAnyH_take (i := 6) (v := ?_) rfl (by kernel_rfl) (by kernel_rfl) (by kernel_rfl) (fun _ _ _ h => h) (Or.inl ⟨by rfl, ?_⟩) hHeld ?_
  rotate_left
  · intro w' hSw
    have cv := hSw.cv
    clear hSw
    go_simp
    first | done | with_reducible rfl
  simp only [Act.put, List.getElem_toArray, List.getElem_cons_succ, List.getElem_cons_zero, List.setIfInBounds_toArray, List.set_cons_zero, List.set_cons_succ]
  refine wpAnyH_ready (rs := [7]) (by kernel_rfl) (by simp) ?_
  refine AllReadyH.cons rfl (fun K hK => ?_) AllReadyH.nil
  refine stepFn fw (.tmp 6) _ _ [ptr c, V] rfl rfl rfl rfl (ew _) _ HC.out ?_
  intro e w5 h9
  obtain ⟨h1, ⟨h2, rfl, h3⟩ | ⟨h2, rfl⟩⟩ := h9
  · refine Or.inl ⟨_, rfl, ?_⟩
    refine hK.out _ _ (HH.out.on (h1.block b hb) (h1.block g1 hg1) (h1.block g2 hg2)) (fun hHeld => ?_)
    clear hK K
    simp only [Act.put, List.getElem_toArray, List.getElem_cons_succ, List.getElem_cons_zero, List.setIfInBounds_toArray, List.set_cons_zero, List.set_cons_succ]
    refine wpAnyH_done (by kernel_rfl) ?_ _
    go_wp2
    first | go_end0 | refine bodyPost_ret (results_none rfl _ _ _) rfl ?_
    rw [h2]
    exact WrP.yes h1 h3
  · refine Or.inr ⟨_, rfl, ?_⟩
    rw [h2]
    exact ⟨rfl, WrP.no h1⟩

set_option maxHeartbeats 1600000 in
set_option maxRecDepth 100000 in
theorem writeUs_any {w : World} (b off g1 g2 fo fw : Nat) (V : Value) (h : Hs2 b off g1 g2 V fo fw w) (hb : ¬ OS c S b) (hg1 : ¬ OS c S g1) (hg2 : ¬ OS c S g2) (eo : Ent fo) (ew : Ent fw)
    (ho : ∀ w, Calls Tryz.prog fo #[ptr b] w fun e w' => e = .returned (.pointer (some ⟨b, off, none⟩)) ∧ w' = w)
    (hC : Calls Tryz.prog fw #[ptr c, V] w.drew (WrP S c m0 xs zs ok w)) :
    Calls Tryz.prog 91 #[ptr c, ptr b, ptr g2, ptr g1] w (WrP S c m0 xs zs ok w) := by
  have HH := hid h
  have HO := hid ho
  have HC := hid hC
  clear h ho hC
  go_enter Tryz.func91, Tryz.ntmps91
  go_wp2
  refine wp_region_held_drew (S := Hs2 b off g1 g2 V fo fw) (by kernel_rfl) (HH.out.on rfl rfl rfl) (fun hHeld => ?_)
  refine wpAnyH_take (i := 0) (v := ?_) rfl (by kernel_rfl) (by kernel_rfl) (by kernel_rfl) (fun _ _ _ h => h) (Or.inl ⟨by rfl, ?_⟩) hHeld ?_
  rotate_left
  · intro w' hSw
    have c2 := hSw.c2
    clear hSw
    go_simp
    first | done | with_reducible rfl
  simp only [Act.put, List.getElem_toArray, List.getElem_cons_zero, List.setIfInBounds_toArray, List.set_cons_zero, List.set_cons_succ]
  refine wpAnyH_take (i := 1) (v := ?_) rfl (by kernel_rfl) (by kernel_rfl) (by kernel_rfl) (fun _ _ _ h => h) (Or.inl ⟨by rfl, ?_⟩) hHeld ?_
  rotate_left
  · intro w' hSw
    go_simp
    first | done | with_reducible rfl
  simp only [Act.put, List.getElem_toArray, List.getElem_cons_succ, List.getElem_cons_zero, List.setIfInBounds_toArray, List.set_cons_zero, List.set_cons_succ]
  refine wpAnyH_take (i := 2) (v := ?_) rfl (by kernel_rfl) (by kernel_rfl) (by kernel_rfl) (fun _ _ _ h => h) (Or.inl ⟨by rfl, ?_⟩) hHeld ?_
  rotate_left
  · intro w' hSw
    have c1 := hSw.c1
    clear hSw
    go_simp
    first | done | with_reducible rfl
  simp only [Act.put, List.getElem_toArray, List.getElem_cons_succ, List.getElem_cons_zero, List.setIfInBounds_toArray, List.set_cons_zero, List.set_cons_succ]
  refine wpAnyH_take (i := 3) (v := ?_) rfl (by kernel_rfl) (by kernel_rfl) (by kernel_rfl) (fun _ _ _ h => h) (Or.inl ⟨by rfl, ?_⟩) hHeld ?_
  rotate_left
  · intro w' hSw
    go_simp
    first | done | with_reducible rfl
  simp only [Act.put, List.getElem_toArray, List.getElem_cons_succ, List.getElem_cons_zero, List.setIfInBounds_toArray, List.set_cons_zero, List.set_cons_succ]
  refine wpAnyH_ready (rs := [4]) (by kernel_rfl) (by simp) ?_
  refine AllReadyH.cons rfl (fun K hK => ?_) AllReadyH.nil
  refine stepFn fo (.tmp 8) _ _ [ptr b] rfl rfl rfl rfl (eo _) _ (HO.out _) ?_
  rintro e w4 ⟨rfl, hw⟩
  refine Or.inl ⟨_, rfl, ?_⟩
  rw [hw]
  refine hK.out _ _ hHeld (fun hHeld => ?_)
  clear hK K hw w4
  simp only [Act.put, List.getElem_toArray, List.getElem_cons_succ, List.getElem_cons_zero, List.setIfInBounds_toArray, List.set_cons_zero, List.set_cons_succ]
  refine wpAnyH_take (i := 5) (v := ?_) rfl (by kernel_rfl) (by kernel_rfl) (by kernel_rfl) (fun _ _ _ h => h) (Or.inl ⟨by rfl, ?_⟩) hHeld ?_
  rotate_left
  · intro w' hSw
    go_simp
    first | done | with_reducible rfl
  simp only [Act.put, List.getElem_toArray, List.getElem_cons_succ, List.getElem_cons_zero, List.setIfInBounds_toArray, List.set_cons_zero, List.set_cons_succ]
  refine wpAnyH_take (i := 6) (v := ?_) rfl (by kernel_rfl) (by kernel_rfl) (by kernel_rfl) (fun _ _ _ h => h) (Or.inl ⟨by rfl, ?_⟩) hHeld ?_
  rotate_left
  · intro w' hSw
    have cv := hSw.cv
    clear hSw
    go_simp
    first | done | with_reducible rfl
  simp only [Act.put, List.getElem_toArray, List.getElem_cons_succ, List.getElem_cons_zero, List.setIfInBounds_toArray, List.set_cons_zero, List.set_cons_succ]
  refine wpAnyH_ready (rs := [7]) (by kernel_rfl) (by simp) ?_
  refine AllReadyH.cons rfl (fun K hK => ?_) AllReadyH.nil
  refine stepFn fw (.tmp 6) _ _ [ptr c, V] rfl rfl rfl rfl (ew _) _ HC.out ?_
  intro e w5 h9
  obtain ⟨h1, ⟨h2, rfl, h3⟩ | ⟨h2, rfl⟩⟩ := h9
  · refine Or.inl ⟨_, rfl, ?_⟩
    refine hK.out _ _ (HH.out.on (h1.block b hb) (h1.block g1 hg1) (h1.block g2 hg2)) (fun hHeld => ?_)
    clear hK K
    simp only [Act.put, List.getElem_toArray, List.getElem_cons_succ, List.getElem_cons_zero, List.setIfInBounds_toArray, List.set_cons_zero, List.set_cons_succ]
    refine wpAnyH_done (by kernel_rfl) ?_ _
    go_wp2
    first | go_end0 | refine bodyPost_ret (results_none rfl _ _ _) rfl ?_
    rw [h2]
    exact WrP.yes h1 h3
  · refine Or.inr ⟨_, rfl, ?_⟩
    rw [h2]
    exact ⟨rfl, WrP.no h1⟩

set_option maxHeartbeats 1600000 in
set_option maxRecDepth 100000 in
theorem writeI_any {w : World} (b off g1 g2 fo fw : Nat) (V : Value) (h : Hs2 b off g1 g2 V fo fw w) (hb : ¬ OS c S b) (hg1 : ¬ OS c S g1) (hg2 : ¬ OS c S g2) (eo : Ent fo) (ew : Ent fw)
    (ho : ∀ w, Calls Tryz.prog fo #[ptr b] w fun e w' => e = .returned (.pointer (some ⟨b, off, none⟩)) ∧ w' = w)
    (hC : Calls Tryz.prog fw #[ptr c, V] w.drew (WrP S c m0 xs zs ok w)) :
    Calls Tryz.prog 96 #[ptr c, ptr b, ptr g2, ptr g1] w (WrP S c m0 xs zs ok w) := by
  have HH := hid h
  have HO := hid ho
  have HC := hid hC
  clear h ho hC
  go_enter Tryz.func96, Tryz.ntmps96
  go_wp2
  refine wp_region_held_drew (S := Hs2 b off g1 g2 V fo fw) (by kernel_rfl) (HH.out.on rfl rfl rfl) (fun hHeld => ?_)
  refine wpAnyH_take (i := 0) (v := ?_) rfl (by kernel_rfl) (by kernel_rfl) (by kernel_rfl) (fun _ _ _ h => h) (Or.inl ⟨by rfl, ?_⟩) hHeld ?_
  rotate_left
  · intro w' hSw
    have c2 := hSw.c2
    clear hSw
    go_simp
    first | done | with_reducible rfl
  simp only [Act.put, List.getElem_toArray, List.getElem_cons_zero, List.setIfInBounds_toArray, List.set_cons_zero, List.set_cons_succ]
  refine wpAnyH_take (i := 1) (v := ?_) rfl (by kernel_rfl) (by kernel_rfl) (by kernel_rfl) (fun _ _ _ h => h) (Or.inl ⟨by rfl, ?_⟩) hHeld ?_
  rotate_left
  · intro w' hSw
    go_simp
    first | done | with_reducible rfl
  simp only [Act.put, List.getElem_toArray, List.getElem_cons_succ, List.getElem_cons_zero, List.setIfInBounds_toArray, List.set_cons_zero, List.set_cons_succ]
  refine wpAnyH_take (i := 2) (v := ?_) rfl (by kernel_rfl) (by kernel_rfl) (by kernel_rfl) (fun _ _ _ h => h) (Or.inl ⟨by rfl, ?_⟩) hHeld ?_
  rotate_left
  · intro w' hSw
    have c1 := hSw.c1
    clear hSw
    go_simp
    first | done | with_reducible rfl
  simp only [Act.put, List.getElem_toArray, List.getElem_cons_succ, List.getElem_cons_zero, List.setIfInBounds_toArray, List.set_cons_zero, List.set_cons_succ]
  refine wpAnyH_take (i := 3) (v := ?_) rfl (by kernel_rfl) (by kernel_rfl) (by kernel_rfl) (fun _ _ _ h => h) (Or.inl ⟨by rfl, ?_⟩) hHeld ?_
  rotate_left
  · intro w' hSw
    go_simp
    first | done | with_reducible rfl
  simp only [Act.put, List.getElem_toArray, List.getElem_cons_succ, List.getElem_cons_zero, List.setIfInBounds_toArray, List.set_cons_zero, List.set_cons_succ]
  refine wpAnyH_ready (rs := [4]) (by kernel_rfl) (by simp) ?_
  refine AllReadyH.cons rfl (fun K hK => ?_) AllReadyH.nil
  refine stepFn fo (.tmp 8) _ _ [ptr b] rfl rfl rfl rfl (eo _) _ (HO.out _) ?_
  rintro e w4 ⟨rfl, hw⟩
  refine Or.inl ⟨_, rfl, ?_⟩
  rw [hw]
  refine hK.out _ _ hHeld (fun hHeld => ?_)
  clear hK K hw w4
  simp only [Act.put, List.getElem_toArray, List.getElem_cons_succ, List.getElem_cons_zero, List.setIfInBounds_toArray, List.set_cons_zero, List.set_cons_succ]
  refine wpAnyH_take (i := 5) (v := ?_) rfl (by kernel_rfl) (by kernel_rfl) (by kernel_rfl) (fun _ _ _ h => h) (Or.inl ⟨by rfl, ?_⟩) hHeld ?_
  rotate_left
  · intro w' hSw
    go_simp
    first | done | with_reducible rfl
  simp only [Act.put, List.getElem_toArray, List.getElem_cons_succ, List.getElem_cons_zero, List.setIfInBounds_toArray, List.set_cons_zero, List.set_cons_succ]
  refine wpAnyH_take (i := 6) (v := ?_) rfl (by kernel_rfl) (by kernel_rfl) (by kernel_rfl) (fun _ _ _ h => h) (Or.inl ⟨by rfl, ?_⟩) hHeld ?_
  rotate_left
  · intro w' hSw
    have cv := hSw.cv
    clear hSw
    go_simp
    first | done | with_reducible rfl
  simp only [Act.put, List.getElem_toArray, List.getElem_cons_succ, List.getElem_cons_zero, List.setIfInBounds_toArray, List.set_cons_zero, List.set_cons_succ]
  refine wpAnyH_ready (rs := [7]) (by kernel_rfl) (by simp) ?_
  refine AllReadyH.cons rfl (fun K hK => ?_) AllReadyH.nil
  refine stepFn fw (.tmp 6) _ _ [ptr c, V] rfl rfl rfl rfl (ew _) _ HC.out ?_
  intro e w5 h9
  obtain ⟨h1, ⟨h2, rfl, h3⟩ | ⟨h2, rfl⟩⟩ := h9
  · refine Or.inl ⟨_, rfl, ?_⟩
    refine hK.out _ _ (HH.out.on (h1.block b hb) (h1.block g1 hg1) (h1.block g2 hg2)) (fun hHeld => ?_)
    clear hK K
    simp only [Act.put, List.getElem_toArray, List.getElem_cons_succ, List.getElem_cons_zero, List.setIfInBounds_toArray, List.set_cons_zero, List.set_cons_succ]
    refine wpAnyH_done (by kernel_rfl) ?_ _
    go_wp2
    first | go_end0 | refine bodyPost_ret (results_none rfl _ _ _) rfl ?_
    rw [h2]
    exact WrP.yes h1 h3
  · refine Or.inr ⟨_, rfl, ?_⟩
    rw [h2]
    exact ⟨rfl, WrP.no h1⟩

set_option maxHeartbeats 1600000 in
set_option maxRecDepth 100000 in
theorem writeB_any {w : World} (b off g1 g2 fo fw : Nat) (V : Value) (h : Hs2 b off g1 g2 V fo fw w) (hb : ¬ OS c S b) (hg1 : ¬ OS c S g1) (hg2 : ¬ OS c S g2) (eo : Ent fo) (ew : Ent fw)
    (ho : ∀ w, Calls Tryz.prog fo #[ptr b] w fun e w' => e = .returned (.pointer (some ⟨b, off, none⟩)) ∧ w' = w)
    (hC : Calls Tryz.prog fw #[ptr c, V] w.drew (WrP S c m0 xs zs ok w)) :
    Calls Tryz.prog 109 #[ptr c, ptr b, ptr g2, ptr g1] w (WrP S c m0 xs zs ok w) := by
  have HH := hid h
  have HO := hid ho
  have HC := hid hC
  clear h ho hC
  go_enter Tryz.func109, Tryz.ntmps109
  go_wp2
  refine wp_region_held_drew (S := Hs2 b off g1 g2 V fo fw) (by kernel_rfl) (HH.out.on rfl rfl rfl) (fun hHeld => ?_)
  refine wpAnyH_take (i := 0) (v := ?_) rfl (by kernel_rfl) (by kernel_rfl) (by kernel_rfl) (fun _ _ _ h => h) (Or.inl ⟨by rfl, ?_⟩) hHeld ?_
  rotate_left
  · intro w' hSw
    have c2 := hSw.c2
    clear hSw
    go_simp
    first | done | with_reducible rfl
  simp only [Act.put, List.getElem_toArray, List.getElem_cons_zero, List.setIfInBounds_toArray, List.set_cons_zero, List.set_cons_succ]
  refine wpAnyH_take (i := 1) (v := ?_) rfl (by kernel_rfl) (by kernel_rfl) (by kernel_rfl) (fun _ _ _ h => h) (Or.inl ⟨by rfl, ?_⟩) hHeld ?_
  rotate_left
  · intro w' hSw
    go_simp
    first | done | with_reducible rfl
  simp only [Act.put, List.getElem_toArray, List.getElem_cons_succ, List.getElem_cons_zero, List.setIfInBounds_toArray, List.set_cons_zero, List.set_cons_succ]
  refine wpAnyH_take (i := 2) (v := ?_) rfl (by kernel_rfl) (by kernel_rfl) (by kernel_rfl) (fun _ _ _ h => h) (Or.inl ⟨by rfl, ?_⟩) hHeld ?_
  rotate_left
  · intro w' hSw
    have c1 := hSw.c1
    clear hSw
    go_simp
    first | done | with_reducible rfl
  simp only [Act.put, List.getElem_toArray, List.getElem_cons_succ, List.getElem_cons_zero, List.setIfInBounds_toArray, List.set_cons_zero, List.set_cons_succ]
  refine wpAnyH_take (i := 3) (v := ?_) rfl (by kernel_rfl) (by kernel_rfl) (by kernel_rfl) (fun _ _ _ h => h) (Or.inl ⟨by rfl, ?_⟩) hHeld ?_
  rotate_left
  · intro w' hSw
    go_simp
    first | done | with_reducible rfl
  simp only [Act.put, List.getElem_toArray, List.getElem_cons_succ, List.getElem_cons_zero, List.setIfInBounds_toArray, List.set_cons_zero, List.set_cons_succ]
  refine wpAnyH_ready (rs := [4]) (by kernel_rfl) (by simp) ?_
  refine AllReadyH.cons rfl (fun K hK => ?_) AllReadyH.nil
  refine stepFn fo (.tmp 8) _ _ [ptr b] rfl rfl rfl rfl (eo _) _ (HO.out _) ?_
  rintro e w4 ⟨rfl, hw⟩
  refine Or.inl ⟨_, rfl, ?_⟩
  rw [hw]
  refine hK.out _ _ hHeld (fun hHeld => ?_)
  clear hK K hw w4
  simp only [Act.put, List.getElem_toArray, List.getElem_cons_succ, List.getElem_cons_zero, List.setIfInBounds_toArray, List.set_cons_zero, List.set_cons_succ]
  refine wpAnyH_take (i := 5) (v := ?_) rfl (by kernel_rfl) (by kernel_rfl) (by kernel_rfl) (fun _ _ _ h => h) (Or.inl ⟨by rfl, ?_⟩) hHeld ?_
  rotate_left
  · intro w' hSw
    go_simp
    first | done | with_reducible rfl
  simp only [Act.put, List.getElem_toArray, List.getElem_cons_succ, List.getElem_cons_zero, List.setIfInBounds_toArray, List.set_cons_zero, List.set_cons_succ]
  refine wpAnyH_take (i := 6) (v := ?_) rfl (by kernel_rfl) (by kernel_rfl) (by kernel_rfl) (fun _ _ _ h => h) (Or.inl ⟨by rfl, ?_⟩) hHeld ?_
  rotate_left
  · intro w' hSw
    have cv := hSw.cv
    clear hSw
    go_simp
    first | done | with_reducible rfl
  simp only [Act.put, List.getElem_toArray, List.getElem_cons_succ, List.getElem_cons_zero, List.setIfInBounds_toArray, List.set_cons_zero, List.set_cons_succ]
  refine wpAnyH_ready (rs := [7]) (by kernel_rfl) (by simp) ?_
  refine AllReadyH.cons rfl (fun K hK => ?_) AllReadyH.nil
  refine stepFn fw (.tmp 6) _ _ [ptr c, V] rfl rfl rfl rfl (ew _) _ HC.out ?_
  intro e w5 h9
  obtain ⟨h1, ⟨h2, rfl, h3⟩ | ⟨h2, rfl⟩⟩ := h9
  · refine Or.inl ⟨_, rfl, ?_⟩
    refine hK.out _ _ (HH.out.on (h1.block b hb) (h1.block g1 hg1) (h1.block g2 hg2)) (fun hHeld => ?_)
    clear hK K
    simp only [Act.put, List.getElem_toArray, List.getElem_cons_succ, List.getElem_cons_zero, List.setIfInBounds_toArray, List.set_cons_zero, List.set_cons_succ]
    refine wpAnyH_done (by kernel_rfl) ?_ _
    go_wp2
    first | go_end0 | refine bodyPost_ret (results_none rfl _ _ _) rfl ?_
    rw [h2]
    exact WrP.yes h1 h3
  · refine Or.inr ⟨_, rfl, ?_⟩
    rw [h2]
    exact ⟨rfl, WrP.no h1⟩

set_option maxHeartbeats 1600000 in
set_option maxRecDepth 100000 in
theorem writeH_any {w : World} (b off g1 g2 fo fw : Nat) (V : Value) (h : Hs2 b off g1 g2 V fo fw w) (hb : ¬ OS c S b) (hg1 : ¬ OS c S g1) (hg2 : ¬ OS c S g2) (eo : Ent fo) (ew : Ent fw)
    (ho : ∀ w, Calls Tryz.prog fo #[ptr b] w fun e w' => e = .returned (.pointer (some ⟨b, off, none⟩)) ∧ w' = w)
    (hC : Calls Tryz.prog fw #[ptr c, V] w.drew (WrP S c m0 xs zs ok w)) :
    Calls Tryz.prog 113 #[ptr c, ptr b, ptr g2, ptr g1] w (WrP S c m0 xs zs ok w) := by
  have HH := hid h
  have HO := hid ho
  have HC := hid hC
  clear h ho hC
  go_enter Tryz.func113, Tryz.ntmps113
  go_wp2
  refine wp_region_held_drew (S := Hs2 b off g1 g2 V fo fw) (by kernel_rfl) (HH.out.on rfl rfl rfl) (fun hHeld => ?_)
  refine wpAnyH_take (i := 0) (v := ?_) rfl (by kernel_rfl) (by kernel_rfl) (by kernel_rfl) (fun _ _ _ h => h) (Or.inl ⟨by rfl, ?_⟩) hHeld ?_
  rotate_left
  · intro w' hSw
    have c2 := hSw.c2
    clear hSw
    go_simp
    first | done | with_reducible rfl
  simp only [Act.put, List.getElem_toArray, List.getElem_cons_zero, List.setIfInBounds_toArray, List.set_cons_zero, List.set_cons_succ]
  refine wpAnyH_take (i := 1) (v := ?_) rfl (by kernel_rfl) (by kernel_rfl) (by kernel_rfl) (fun _ _ _ h => h) (Or.inl ⟨by rfl, ?_⟩) hHeld ?_
  rotate_left
  · intro w' hSw
    go_simp
    first | done | with_reducible rfl
  simp only [Act.put, List.getElem_toArray, List.getElem_cons_succ, List.getElem_cons_zero, List.setIfInBounds_toArray, List.set_cons_zero, List.set_cons_succ]
  refine wpAnyH_take (i := 2) (v := ?_) rfl (by kernel_rfl) (by kernel_rfl) (by kernel_rfl) (fun _ _ _ h => h) (Or.inl ⟨by rfl, ?_⟩) hHeld ?_
  rotate_left
  · intro w' hSw
    have c1 := hSw.c1
    clear hSw
    go_simp
    first | done | with_reducible rfl
  simp only [Act.put, List.getElem_toArray, List.getElem_cons_succ, List.getElem_cons_zero, List.setIfInBounds_toArray, List.set_cons_zero, List.set_cons_succ]
  refine wpAnyH_take (i := 3) (v := ?_) rfl (by kernel_rfl) (by kernel_rfl) (by kernel_rfl) (fun _ _ _ h => h) (Or.inl ⟨by rfl, ?_⟩) hHeld ?_
  rotate_left
  · intro w' hSw
    go_simp
    first | done | with_reducible rfl
  simp only [Act.put, List.getElem_toArray, List.getElem_cons_succ, List.getElem_cons_zero, List.setIfInBounds_toArray, List.set_cons_zero, List.set_cons_succ]
  refine wpAnyH_ready (rs := [4]) (by kernel_rfl) (by simp) ?_
  refine AllReadyH.cons rfl (fun K hK => ?_) AllReadyH.nil
  refine stepFn fo (.tmp 8) _ _ [ptr b] rfl rfl rfl rfl (eo _) _ (HO.out _) ?_
  rintro e w4 ⟨rfl, hw⟩
  refine Or.inl ⟨_, rfl, ?_⟩
  rw [hw]
  refine hK.out _ _ hHeld (fun hHeld => ?_)
  clear hK K hw w4
  simp only [Act.put, List.getElem_toArray, List.getElem_cons_succ, List.getElem_cons_zero, List.setIfInBounds_toArray, List.set_cons_zero, List.set_cons_succ]
  refine wpAnyH_take (i := 5) (v := ?_) rfl (by kernel_rfl) (by kernel_rfl) (by kernel_rfl) (fun _ _ _ h => h) (Or.inl ⟨by rfl, ?_⟩) hHeld ?_
  rotate_left
  · intro w' hSw
    go_simp
    first | done | with_reducible rfl
  simp only [Act.put, List.getElem_toArray, List.getElem_cons_succ, List.getElem_cons_zero, List.setIfInBounds_toArray, List.set_cons_zero, List.set_cons_succ]
  refine wpAnyH_take (i := 6) (v := ?_) rfl (by kernel_rfl) (by kernel_rfl) (by kernel_rfl) (fun _ _ _ h => h) (Or.inl ⟨by rfl, ?_⟩) hHeld ?_
  rotate_left
  · intro w' hSw
    have cv := hSw.cv
    clear hSw
    go_simp
    first | done | with_reducible rfl
  simp only [Act.put, List.getElem_toArray, List.getElem_cons_succ, List.getElem_cons_zero, List.setIfInBounds_toArray, List.set_cons_zero, List.set_cons_succ]
  refine wpAnyH_ready (rs := [7]) (by kernel_rfl) (by simp) ?_
  refine AllReadyH.cons rfl (fun K hK => ?_) AllReadyH.nil
  refine stepFn fw (.tmp 6) _ _ [ptr c, V] rfl rfl rfl rfl (ew _) _ HC.out ?_
  intro e w5 h9
  obtain ⟨h1, ⟨h2, rfl, h3⟩ | ⟨h2, rfl⟩⟩ := h9
  · refine Or.inl ⟨_, rfl, ?_⟩
    refine hK.out _ _ (HH.out.on (h1.block b hb) (h1.block g1 hg1) (h1.block g2 hg2)) (fun hHeld => ?_)
    clear hK K
    simp only [Act.put, List.getElem_toArray, List.getElem_cons_succ, List.getElem_cons_zero, List.setIfInBounds_toArray, List.set_cons_zero, List.set_cons_succ]
    refine wpAnyH_done (by kernel_rfl) ?_ _
    go_wp2
    first | go_end0 | refine bodyPost_ret (results_none rfl _ _ _) rfl ?_
    rw [h2]
    exact WrP.yes h1 h3
  · refine Or.inr ⟨_, rfl, ?_⟩
    rw [h2]
    exact ⟨rfl, WrP.no h1⟩

set_option maxHeartbeats 1600000 in
set_option maxRecDepth 100000 in
theorem writeO_any {w : World} (b off g1 g2 fo fw : Nat) (V : Value) (h : Hs2 b off g1 g2 V fo fw w) (hb : ¬ OS c S b) (hg1 : ¬ OS c S g1) (hg2 : ¬ OS c S g2) (eo : Ent fo) (ew : Ent fw)
    (ho : ∀ w, Calls Tryz.prog fo #[ptr b] w fun e w' => e = .returned (.pointer (some ⟨b, off, none⟩)) ∧ w' = w)
    (hC : Calls Tryz.prog fw #[ptr c, V] w.drew (WrP S c m0 xs zs ok w)) :
    Calls Tryz.prog 120 #[ptr c, ptr b, ptr g2, ptr g1] w (WrP S c m0 xs zs ok w) := by
  have HH := hid h
  have HO := hid ho
  have HC := hid hC
  clear h ho hC
  go_enter Tryz.func120, Tryz.ntmps120
  go_wp2
  refine wp_region_held_drew (S := Hs2 b off g1 g2 V fo fw) (by kernel_rfl) (HH.out.on rfl rfl rfl) (fun hHeld => ?_)
  refine wpAnyH_take (i := 0) (v := ?_) rfl (by kernel_rfl) (by kernel_rfl) (by kernel_rfl) (fun _ _ _ h => h) (Or.inl ⟨by rfl, ?_⟩) hHeld ?_
  rotate_left
  · intro w' hSw
    have c2 := hSw.c2
    clear hSw
    go_simp
    first | done | with_reducible rfl
  simp only [Act.put, List.getElem_toArray, List.getElem_cons_zero, List.setIfInBounds_toArray, List.set_cons_zero, List.set_cons_succ]
  refine wpAnyH_take (i := 1) (v := ?_) rfl (by kernel_rfl) (by kernel_rfl) (by kernel_rfl) (fun _ _ _ h => h) (Or.inl ⟨by rfl, ?_⟩) hHeld ?_
  rotate_left
  · intro w' hSw
    go_simp
    first | done | with_reducible rfl
  simp only [Act.put, List.getElem_toArray, List.getElem_cons_succ, List.getElem_cons_zero, List.setIfInBounds_toArray, List.set_cons_zero, List.set_cons_succ]
  refine wpAnyH_take (i := 2) (v := ?_) rfl (by kernel_rfl) (by kernel_rfl) (by kernel_rfl) (fun _ _ _ h => h) (Or.inl ⟨by rfl, ?_⟩) hHeld ?_
  rotate_left
  · intro w' hSw
    have c1 := hSw.c1
    clear hSw
    go_simp
    first | done | with_reducible rfl
  simp only [Act.put, List.getElem_toArray, List.getElem_cons_succ, List.getElem_cons_zero, List.setIfInBounds_toArray, List.set_cons_zero, List.set_cons_succ]
  refine wpAnyH_take (i := 3) (v := ?_) rfl (by kernel_rfl) (by kernel_rfl) (by kernel_rfl) (fun _ _ _ h => h) (Or.inl ⟨by rfl, ?_⟩) hHeld ?_
  rotate_left
  · intro w' hSw
    go_simp
    first | done | with_reducible rfl
  simp only [Act.put, List.getElem_toArray, List.getElem_cons_succ, List.getElem_cons_zero, List.setIfInBounds_toArray, List.set_cons_zero, List.set_cons_succ]
  refine wpAnyH_ready (rs := [4]) (by kernel_rfl) (by simp) ?_
  refine AllReadyH.cons rfl (fun K hK => ?_) AllReadyH.nil
  refine stepFn fo (.tmp 8) _ _ [ptr b] rfl rfl rfl rfl (eo _) _ (HO.out _) ?_
  rintro e w4 ⟨rfl, hw⟩
  refine Or.inl ⟨_, rfl, ?_⟩
  rw [hw]
  refine hK.out _ _ hHeld (fun hHeld => ?_)
  clear hK K hw w4
  simp only [Act.put, List.getElem_toArray, List.getElem_cons_succ, List.getElem_cons_zero, List.setIfInBounds_toArray, List.set_cons_zero, List.set_cons_succ]
  refine wpAnyH_take (i := 5) (v := ?_) rfl (by kernel_rfl) (by kernel_rfl) (by kernel_rfl) (fun _ _ _ h => h) (Or.inl ⟨by rfl, ?_⟩) hHeld ?_
  rotate_left
  · intro w' hSw
    go_simp
    first | done | with_reducible rfl
  simp only [Act.put, List.getElem_toArray, List.getElem_cons_succ, List.getElem_cons_zero, List.setIfInBounds_toArray, List.set_cons_zero, List.set_cons_succ]
  refine wpAnyH_take (i := 6) (v := ?_) rfl (by kernel_rfl) (by kernel_rfl) (by kernel_rfl) (fun _ _ _ h => h) (Or.inl ⟨by rfl, ?_⟩) hHeld ?_
  rotate_left
  · intro w' hSw
    have cv := hSw.cv
    clear hSw
    go_simp
    first | done | with_reducible rfl
  simp only [Act.put, List.getElem_toArray, List.getElem_cons_succ, List.getElem_cons_zero, List.setIfInBounds_toArray, List.set_cons_zero, List.set_cons_succ]
  refine wpAnyH_ready (rs := [7]) (by kernel_rfl) (by simp) ?_
  refine AllReadyH.cons rfl (fun K hK => ?_) AllReadyH.nil
  refine stepFn fw (.tmp 6) _ _ [ptr c, V] rfl rfl rfl rfl (ew _) _ HC.out ?_
  intro e w5 h9
  obtain ⟨h1, ⟨h2, rfl, h3⟩ | ⟨h2, rfl⟩⟩ := h9
  · refine Or.inl ⟨_, rfl, ?_⟩
    refine hK.out _ _ (HH.out.on (h1.block b hb) (h1.block g1 hg1) (h1.block g2 hg2)) (fun hHeld => ?_)
    clear hK K
    simp only [Act.put, List.getElem_toArray, List.getElem_cons_succ, List.getElem_cons_zero, List.setIfInBounds_toArray, List.set_cons_zero, List.set_cons_succ]
    refine wpAnyH_done (by kernel_rfl) ?_ _
    go_wp2
    first | go_end0 | refine bodyPost_ret (results_none rfl _ _ _) rfl ?_
    rw [h2]
    exact WrP.yes h1 h3
  · refine Or.inr ⟨_, rfl, ?_⟩
    rw [h2]
    exact ⟨rfl, WrP.no h1⟩
/-- The same for a field of many cells. -/
structure HsR (b off g1 g2 : Nat) (cs : Array Value) (fo fw : Nat) (w : World) : Prop where
  c1 : w.cell? ⟨g1, 0, none⟩ = some (fnV fo)
  c2 : w.cell? ⟨g2, 0, none⟩ = some (fnV fw)
  cv : w.rangeAt b off cs.toList
theorem HsR.on {b off g1 g2 : Nat} {cs : Array Value} {fo fw : Nat} {w w' : World} (h : HsR b off g1 g2 cs fo fw w) (hb : w'.heap[b]? = w.heap[b]?) (h1 : w'.heap[g1]? = w.heap[g1]?) (h2 : w'.heap[g2]? = w.heap[g2]?) : HsR b off g1 g2 cs fo fw w' :=
  ⟨by rw [cell_same h1]; exact h.c1, by rw [cell_same h2]; exact h.c2, fun j v hj => by rw [cell_same hb]; exact h.cv j v hj⟩
set_option maxHeartbeats 1600000 in
set_option maxRecDepth 100000 in
theorem writeR_any {w : World} (b off g1 g2 fo fw : Nat) (cs : Array Value) (hn : cs.size = 25) (h : HsR b off g1 g2 cs fo fw w) (hb : ¬ OS c S b) (hg1 : ¬ OS c S g1) (hg2 : ¬ OS c S g2) (eo : Ent fo) (ew : Ent fw)
    (ho : ∀ w, Calls Tryz.prog fo #[ptr b] w fun e w' => e = .returned (.pointer (some ⟨b, off, none⟩)) ∧ w' = w)
    (hC : Calls Tryz.prog fw #[ptr c, .agg cs] w.drew (WrP S c m0 xs zs ok w)) :
    Calls Tryz.prog 100 #[ptr c, ptr b, ptr g2, ptr g1] w (WrP S c m0 xs zs ok w) := by
  have HH := hid h
  have HO := hid ho
  have HC := hid hC
  clear h ho hC
  go_enter Tryz.func100, Tryz.ntmps100
  go_wp2
  refine wp_region_held_drew (S := HsR b off g1 g2 cs fo fw) (by kernel_rfl) (HH.out.on rfl rfl rfl) (fun hHeld => ?_)
  refine wpAnyH_take (i := 0) (v := ?_) rfl (by kernel_rfl) (by kernel_rfl) (by kernel_rfl) (fun _ _ _ h => h) (Or.inl ⟨by rfl, ?_⟩) hHeld ?_
  rotate_left
  · intro w' hSw
    have c2 := hSw.c2
    clear hSw
    go_simp
    first | done | with_reducible rfl
  simp only [Act.put, List.getElem_toArray, List.getElem_cons_zero, List.setIfInBounds_toArray, List.set_cons_zero, List.set_cons_succ]
  refine wpAnyH_take (i := 1) (v := ?_) rfl (by kernel_rfl) (by kernel_rfl) (by kernel_rfl) (fun _ _ _ h => h) (Or.inl ⟨by rfl, ?_⟩) hHeld ?_
  rotate_left
  · intro w' hSw
    go_simp
    first | done | with_reducible rfl
  simp only [Act.put, List.getElem_toArray, List.getElem_cons_succ, List.getElem_cons_zero, List.setIfInBounds_toArray, List.set_cons_zero, List.set_cons_succ]
  refine wpAnyH_take (i := 2) (v := ?_) rfl (by kernel_rfl) (by kernel_rfl) (by kernel_rfl) (fun _ _ _ h => h) (Or.inl ⟨by rfl, ?_⟩) hHeld ?_
  rotate_left
  · intro w' hSw
    have c1 := hSw.c1
    clear hSw
    go_simp
    first | done | with_reducible rfl
  simp only [Act.put, List.getElem_toArray, List.getElem_cons_succ, List.getElem_cons_zero, List.setIfInBounds_toArray, List.set_cons_zero, List.set_cons_succ]
  refine wpAnyH_take (i := 3) (v := ?_) rfl (by kernel_rfl) (by kernel_rfl) (by kernel_rfl) (fun _ _ _ h => h) (Or.inl ⟨by rfl, ?_⟩) hHeld ?_
  rotate_left
  · intro w' hSw
    go_simp
    first | done | with_reducible rfl
  simp only [Act.put, List.getElem_toArray, List.getElem_cons_succ, List.getElem_cons_zero, List.setIfInBounds_toArray, List.set_cons_zero, List.set_cons_succ]
  refine wpAnyH_ready (rs := [4]) (by kernel_rfl) (by simp) ?_
  refine AllReadyH.cons rfl (fun K hK => ?_) AllReadyH.nil
  refine stepFn fo (.tmp 8) _ _ [ptr b] rfl rfl rfl rfl (eo _) _ (HO.out _) ?_
  rintro e w4 ⟨rfl, hw⟩
  refine Or.inl ⟨_, rfl, ?_⟩
  rw [hw]
  refine hK.out _ _ hHeld (fun hHeld => ?_)
  clear hK K hw w4
  simp only [Act.put, List.getElem_toArray, List.getElem_cons_succ, List.getElem_cons_zero, List.setIfInBounds_toArray, List.set_cons_zero, List.set_cons_succ]
  refine wpAnyH_take (i := 5) (v := ?_) rfl (by kernel_rfl) (by kernel_rfl) (by kernel_rfl) (fun _ _ _ h => h) (Or.inl ⟨by rfl, ?_⟩) hHeld ?_
  rotate_left
  · intro w' hSw
    go_simp
    first | done | with_reducible rfl
  simp only [Act.put, List.getElem_toArray, List.getElem_cons_succ, List.getElem_cons_zero, List.setIfInBounds_toArray, List.set_cons_zero, List.set_cons_succ]
  refine wpAnyH_take (i := 6) rfl (by kernel_rfl) (by kernel_rfl) (by kernel_rfl) (fun _ _ _ h => h) (yieldsIf_load_mid rfl 31 (.tmp 11) rfl b off rfl cs.toList _ (fun _ h => h.cv) Tryz.underlying31 rfl (by rw [Array.length_toList, hn]; kernel_rfl)) hHeld ?_
  rw [show cs.toList.toArray = cs by simp]
  simp only [Act.put, List.getElem_toArray, List.getElem_cons_succ, List.getElem_cons_zero, List.setIfInBounds_toArray, List.set_cons_zero, List.set_cons_succ]
  refine wpAnyH_ready (rs := [7]) (by kernel_rfl) (by simp) ?_
  refine AllReadyH.cons rfl (fun K hK => ?_) AllReadyH.nil
  refine stepFn fw (.tmp 6) _ _ [ptr c, .agg cs] rfl rfl rfl rfl (ew _) _ HC.out ?_
  intro e w5 h9
  obtain ⟨h1, ⟨h2, rfl, h3⟩ | ⟨h2, rfl⟩⟩ := h9
  · refine Or.inl ⟨_, rfl, ?_⟩
    refine hK.out _ _ (HH.out.on (h1.block b hb) (h1.block g1 hg1) (h1.block g2 hg2)) (fun hHeld => ?_)
    clear hK K
    simp only [Act.put, List.getElem_toArray, List.getElem_cons_succ, List.getElem_cons_zero, List.setIfInBounds_toArray, List.set_cons_zero, List.set_cons_succ]
    refine wpAnyH_done (by kernel_rfl) ?_ _
    go_wp2
    first | go_end0 | refine bodyPost_ret (results_none rfl _ _ _) rfl ?_
    rw [h2]
    exact WrP.yes h1 h3
  · refine Or.inr ⟨_, rfl, ?_⟩
    rw [h2]
    exact ⟨rfl, WrP.no h1⟩

end
end Go.Proofs.YtllbbbfkdgjffaaGreatDoor
