/-
  Proved here: drop of a row of package tuples. Conditions: fewer than 2 to 31 entries and keys; there is an entry at the key.
-/
import Derived.Test.YtdehlnaoehjehaaGreatDoorzGR
import Derived.Test.YtdehlnaoehjehaaGreatDoorzFI
namespace Go.Proofs.YtdehlnaoehjehaaGreatDoor
set_option maxRecDepth 100000
open Go.RowKit Go.Maps

set_option maxRecDepth 100000 in
theorem stepDel {ops : Array Oper} {o : Oper} {a : Act} {w : World} {Kt : Act → World → Prop} {Q : Exit → Act → World → Prop} {E : Prop} {K e : TypeId} (m x : Operand) (t : TypeId) (hop : o.op = .call { callee := .builtin .delete, args := #[m, x], argTypes := #[t, K] }) (hgd : o.guard = none)
    {b n : Nat} {G : Lit → Option Value} {key : Value} {l : Lit} (hm : a.eval m = .map (some b)) (hx : a.eval x = key) (h : Mp w K b n G) (hK : Keyed Tryz.prog K) (ht : Tryz.prog.underlying t = some (.map K e)) (hkey : keyOf Tryz.prog K key = some l)
    (hk : ∀ w', Mp w' K b (if (G l).isSome then n - 1 else n) (updL G l none) → Tur w w' b → Kt (a.put o.dst (.tuple #[])) w') : if Region.wanted o (yielded ops a.tmps) = true then Oper.wp Tryz.prog o a w Kt Q else E := by
  have hw : Region.wanted o (yielded ops a.tmps) = true := by simp [Region.wanted, hgd]
  rw [if_pos hw]
  obtain ⟨w', hr, h1, h2⟩ := h.drop hK ht hkey o.type
  unfold Oper.wp
  simp [execOp, hop, resolve, invoke, builtin, hm, hx, hr, Result.andThen]
  exact hk w' h1 h2
/-- What drop reads. -/
structure Hd (p bc bx : Nat) (x : Nat → Int) (w : World) : Prop where
  c : w.cell? ⟨p, 12, none⟩ = some (.map (some bc))
  rx : w.rangeAt bx 0 (row 11 x).toList
set_option maxRecDepth 100000 in
theorem Hd.on {p bc bx : Nat} {x : Nat → Int} {w w' : World} (h : Hd p bc bx x w) (h1 : w'.heap[p]? = w.heap[p]?) (h2 : w'.heap[bx]? = w.heap[bx]?) : Hd p bc bx x w' :=
  ⟨(cell_same h1).trans h.c, fun j v hj => (cell_same h2).trans (h.rx j v hj)⟩
/-- A row whose entries at one key are others. -/
noncomputable def dropRo (ρ : Ro) (x : Nat → Int) (l' : List En) (v : Value) (n : Nat) (t : Int) : Ro := ⟨ρ.p, ρ.bc, n, ρ.mask, t, updL ρ.G (kl x) (if l'.isEmpty then none else some v), updE ρ.E (kl x) l'⟩
set_option maxRecDepth 100000 in
theorem RowM.drop {S : Nat → Prop} {o : Nat → Tag} {w w6 : World} {ρ : Ro} {x : Nat → Int} (h : RowM S o w ρ) {v0 v5 : Value} (hown : ∀ b, v0.ownBlock = some b → S b ∧ o b = .ent ρ.p (kl x)) (old : ∀ b, b < w.heap.size → v0.ownBlock ≠ some b → b ≠ ρ.bc → w6.heap[b]? = w.heap[b]?) (l' : List En) (n6 : Nat)
    (hM : Mp w6 30 ρ.bc n6 (updL ρ.G (kl x) (if l'.isEmpty then none else some v5))) (hR : Rw (fun b => S b ∧ o b = .ent ρ.p (kl x)) 2 217 w6 v5 l'.length (ces l')) : RowM S o w6 (dropRo ρ x l' v5 n6 ρ.top) := by
  have hpl := (Array.getElem?_eq_some_iff.1 h.hp).1
  have hpc : ρ.p ≠ ρ.bc := fun e => by have h1 := h.op; have h2 := h.oc; rw [← e, h1] at h2; cases h2
  refine ⟨h.sp, h.op, (old ρ.p hpl (fun e => by have := (hown _ e).2; rw [h.op] at this; cases this) hpc).trans h.hp, h.sc, h.oc, hM, h.wf, fun l => ?_⟩
  by_cases hl : l = kl x
  · subst hl
    show (updL _ _ _ _ = none ∧ updE _ _ _ _ = []) ∨ ∃ v, updL _ _ _ _ = some v ∧ updE _ _ _ _ ≠ [] ∧ Rw _ _ _ _ _ (updE _ _ _ _).length (ces (updE _ _ _ _))
    rw [updL_same, updE_same]
    cases l' with
    | nil => exact Or.inl ⟨rfl, rfl⟩
    | cons e es => exact Or.inr ⟨v5, rfl, by simp, hR⟩
  · have e1 : (dropRo ρ x l' v5 n6 ρ.top).G l = ρ.G l := updL_other _ _ hl
    have e2 : (dropRo ρ x l' v5 n6 ρ.top).E l = ρ.E l := updE_other _ _ hl
    rw [e1, e2]
    rcases h.hit l with h3 | ⟨v, h3, h4, h5⟩
    · exact Or.inl h3
    · refine Or.inr ⟨v, h3, h4, h5.carry fun b hb hS => ⟨hS, old b hb (fun e => ?_) (fun e => ?_)⟩⟩
      · have := (hown b e).2; rw [hS.2] at this; cases this; exact hl rfl
      · have := hS.2; rw [e, h.oc] at this; cases this
set_option maxRecDepth 100000 in
theorem RowM.setTop {S : Nat → Prop} {o : Nat → Tag} {w w7 : World} {ρ : Ro} (h : RowM S o w ρ) (t : Int) (hw : ∀ b, b < w.heap.size → w7.heap[b]? = (w.setCell ⟨ρ.p, 11, none⟩ (.int .i64 t)).heap[b]?) : RowM S o w7 ⟨ρ.p, ρ.bc, ρ.n, ρ.mask, t, ρ.G, ρ.E⟩ := by
  have hpl := (Array.getElem?_eq_some_iff.1 h.hp).1
  have hpc : ρ.bc ≠ ρ.p := fun e => by have h1 := h.op; have h2 := h.oc; rw [e, h1] at h2; cases h2
  have oth : ∀ b, b < w.heap.size → b ≠ ρ.p → w7.heap[b]? = w.heap[b]? := fun b hb hne => (hw b hb).trans (heap_setCell_other w ⟨ρ.p, 11, none⟩ b _ hne)
  refine ⟨h.sp, h.op, ?_, h.sc, h.oc, h.mp.carry (oth _ h.mp.lt hpc), h.wf, fun l => ?_⟩
  · rw [hw _ hpl, heap_setCell_same w ρ.p 11 _ _ _ h.hp, rcs_set]
  · rcases h.hit l with h3 | ⟨v, h3, h4, h5⟩
    · exact Or.inl h3
    · exact Or.inr ⟨v, h3, h4, h5.carry fun b hb hS => ⟨hS, oth b hb fun e => by have := hS.2; rw [e, h.op] at this; cases this⟩⟩
/-- What drop leaves. -/
def DrP (S : Nat → Prop) (o : Nat → Tag) (w : World) (ρ : Ro) (x : Nat → Int) (id : Int) (r : Ending) (w' : World) : Prop :=
  r = .returned (.tuple #[]) ∧ Only (fun b => (S b ∧ Tg ρ.p (o b)) ∨ w.heap.size ≤ b) w w' ∧ ∃ v t, RowM S o w' (dropRo ρ x (fl (ρ.E (kl x)) id) v (if (fl (ρ.E (kl x)) id).isEmpty then ρ.n - 1 else ρ.n) t) ∧ ∀ l e es, updE ρ.E (kl x) (fl (ρ.E (kl x)) id) l = e :: es → e.r ≤ t
set_option maxHeartbeats 3200000 in
set_option maxRecDepth 100000 in
theorem wdrop_any {S : Nat → Prop} {o : Nat → Tag} (w : World) (ρ : Ro) (x : Nat → Int) (id : Int) (h : RowM S o w ρ) (hwx : Wf x) (hin : ρ.E (kl x) ≠ []) (hne : (ρ.E (kl x)).length < 2147483647) (hnn : ρ.n < 2147483648) :
    Calls Tryz.prog 156 #[pv ρ.p, hv x, .int .i64 id] w (DrP S o w ρ x id) := by
  obtain ⟨W0, hW0⟩ : ∃ W0, W0 = (w.alloc (.cells (row 11 x) 30)).alloc (.cells #[.int .i64 id] 3) := ⟨_, rfl⟩
  have hB0 : Below w.heap.size w W0 := by rw [hW0]; exact ((Below.refl _ _).alloc (Nat.le_refl _) _).alloc (by simp) _
  have hs0 : W0.heap.size = w.heap.size + 2 := by rw [hW0]; simp
  have hG0 : W0.heap[w.heap.size]? = some (.cells (row 11 x) 30 (0, 0)) := by rw [hW0, heap_alloc_old _ _ (by simp)]; exact heap_alloc_new _ _
  have hG1 : W0.heap[w.heap.size + 1]? = some (.cells #[.int .i64 id] 3 (0, 0)) := by
    rw [hW0]
    have := heap_alloc_new (w.alloc (.cells (row 11 x) 30)) (.cells #[.int .i64 id] 3)
    simpa using this
  have hpl := (Array.getElem?_eq_some_iff.1 h.hp).1
  have hcl := h.mp.lt
  have hpc : ρ.p ≠ ρ.bc := fun e => by have h1 := h.op; have h2 := h.oc; rw [← e, h1] at h2; cases h2
  obtain ⟨q11, q12, qf, -⟩ := h.cells
  obtain ⟨v0, hg0, -, hRv⟩ : ∃ v0, ρ.G (kl x) = some v0 ∧ ρ.E (kl x) ≠ [] ∧ Rw (fun b => S b ∧ o b = .ent ρ.p (kl x)) 2 217 w v0 (ρ.E (kl x)).length (ces (ρ.E (kl x))) := by
    rcases h.hit (kl x) with ⟨_, h2⟩ | h2
    · exact absurd h2 hin
    · exact h2
  have hown : ∀ b, v0.ownBlock = some b → (S b ∧ o b = .ent ρ.p (kl x)) ∧ b < w.heap.size := fun b hb => ⟨hRv.own b hb, hRv.ownLt b hb⟩
  have hRv0 : Rw (fun b => S b ∧ o b = .ent ρ.p (kl x)) 2 217 W0.drew v0 (ρ.E (kl x)).length (ces (ρ.E (kl x))) := hRv.carry fun b hb hS => ⟨hS, hB0.block b hb⟩
  have hoE : ∀ b, b = ρ.p ∨ b = ρ.bc ∨ w.heap.size ≤ b → v0.ownBlock ≠ some b := fun b hb e => by
    have h1 := hown b e
    rcases hb with rfl | rfl | hb
    · have := h1.1.2; rw [h.op] at this; cases this
    · have := h1.1.2; rw [h.oc] at this; cases this
    · omega
  have HC := hid (delF_any W0.drew v0 (ρ.E (kl x)) (w.heap.size + 1) id hRv0 (by show W0.cell? _ = _; rw [cell_of_row _ _ _ _ _ _ hG1]; rfl) (hoE _ (Or.inr (Or.inr (by omega)))) hne)
  have HMp0 : Hid (Mp W0.drew 30 ρ.bc ρ.n ρ.G) := h.mp.carry (hB0.block _ hcl)
  have HA0 : Hid (Hd ρ.p ρ.bc w.heap.size x W0.drew) := by
    refine ⟨?_, range_of fun i hi => ?_⟩
    · show W0.cell? _ = _; rw [hB0.cell (p := ⟨ρ.p, 12, none⟩) hpl]; exact q12
    · show W0.cell? _ = _; rw [Nat.zero_add, cell_of_row _ _ _ _ _ _ hG0]
  have HAp : Hid (∀ w5, Apd W0.drew v0 w5 → Hd ρ.p ρ.bc w.heap.size x w5) := fun w5 hA => HA0.out.on (hA.block _ (by show _ < W0.heap.size; omega) (hoE _ (Or.inl rfl))) (hA.block _ (by show _ < W0.heap.size; omega) (hoE _ (Or.inr (Or.inr (Nat.le_refl _)))))
  have HMp5 : Hid (∀ w5, Apd W0.drew v0 w5 → Mp w5.drew 30 ρ.bc ρ.n ρ.G) := fun w5 hA => HMp0.out.carry (hA.block _ (by show _ < W0.heap.size; omega) (hoE _ (Or.inr (Or.inl rfl))))
  have HTp : Hid (∀ w5 w6, Hd ρ.p ρ.bc w.heap.size x w5 → Tur w5 w6 ρ.bc → Hd ρ.p ρ.bc w.heap.size x w6) := fun w5 w6 hA hT => hA.on (hT.block _ hpc) (hT.block _ (by omega))
  have HFin : Hid (∀ v5 w5 w6, Apd W0.drew v0 w5 → Rw (fun b => S b ∧ o b = .ent ρ.p (kl x)) 2 217 w5 v5 (fl (ρ.E (kl x)) id).length (ces (fl (ρ.E (kl x)) id)) → Mp w6 30 ρ.bc (if (fl (ρ.E (kl x)) id).isEmpty then ρ.n - 1 else ρ.n) (updL ρ.G (kl x) (if (fl (ρ.E (kl x)) id).isEmpty then none else some v5)) → Tur w5.drew w6 ρ.bc → Calls Tryz.prog 188 #[pv ρ.p] w6 fun r w7 => ∃ t, r = .returned (.int .i64 t) ∧ (w7.cell? ⟨ρ.p, 11, none⟩ = some (.int .i64 ρ.top) ∧ w7.frozen? ⟨ρ.p, 11, none⟩ = false) ∧ DrP S o w ρ x id (.returned (.tuple #[])) (w7.setCell ⟨ρ.p, 11, none⟩ (.int .i64 t))) := by
    show ∀ _, _
    intro v5 w5 w6 hA hR hM hT
    have hsA : W0.heap.size ≤ w5.heap.size := hA.size
    have hsT : w6.heap.size = w5.heap.size := hT.size
    have old6 : ∀ b, b < w.heap.size → v0.ownBlock ≠ some b → b ≠ ρ.bc → w6.heap[b]? = w.heap[b]? := fun b hb hne hc => by
      rw [hT.block b hc]
      show w5.heap[b]? = _
      rw [hA.block b (by show _ < W0.heap.size; omega) hne]
      exact hB0.block b hb
    have hR6 : Rw (fun b => S b ∧ o b = .ent ρ.p (kl x)) 2 217 w6 v5 (fl (ρ.E (kl x)) id).length (ces (fl (ρ.E (kl x)) id)) := hR.carry fun b hb hS => ⟨hS, hT.block b fun e => by have := hS.2; rw [e, h.oc] at this; cases this⟩
    have hRo := h.drop (fun b hb => (hown b hb).1) old6 _ _ hM hR6
    refine (greatest_any w6 _ hRo).mono ?_
    rintro r w7 ⟨t, rfl, hb7, htop⟩
    have hp6 := hRo.hp
    have hp7 := (hb7.block ρ.p (Array.getElem?_eq_some_iff.1 hp6).1).trans hp6
    refine ⟨t, rfl, ⟨by rw [cell_of_row _ _ _ _ _ _ hp7]; exact rcs_top _ _ _, by simp [World.frozen?, hp7]⟩, rfl, ⟨hb7.os.trans (hT.os.trans (hA.os.trans hB0.os)), hb7.tape.trans (hT.tape.trans (hA.tape.trans hB0.tape)), hb7.output.trans (hT.output.trans (hA.output.trans hB0.output)), by have := hb7.size; simp; omega, fun b hb => ?_⟩, v5, t, ?_, htop⟩
    · have hbl : b < w.heap.size := by
        rcases Nat.lt_or_ge b w.heap.size with h1 | h1
        · exact h1
        · exact absurd (Or.inr h1) hb
      have h1 : b ≠ ρ.p := fun e => hb (Or.inl ⟨e ▸ h.sp, by rw [e, h.op]; rfl⟩)
      have h2 : b ≠ ρ.bc := fun e => hb (Or.inl ⟨e ▸ h.sc, by rw [e, h.oc]; rfl⟩)
      rw [heap_setCell_other w7 ⟨ρ.p, 11, none⟩ b _ h1, hb7.block b (by omega), old6 b hbl (fun e => hb (Or.inl ⟨(hown b e).1.1, by rw [(hown b e).1.2]; rfl⟩)) h2]
    · refine hRo.setTop t fun b hb => ?_
      show (w7.setCell ⟨ρ.p, 11, none⟩ (.int .i64 t)).heap[b]? = (w6.setCell ⟨ρ.p, 11, none⟩ (.int .i64 t)).heap[b]?
      by_cases e : b = ρ.p
      · subst e
        rw [heap_setCell_same w7 ρ.p 11 _ _ _ hp7, heap_setCell_same w6 ρ.p 11 _ _ _ hp6]
      · rw [heap_setCell_other w7 ⟨ρ.p, 11, none⟩ b _ e, heap_setCell_other w6 ⟨ρ.p, 11, none⟩ b _ e, hb7.block b hb]
  have HV0 : Hid ((ρ.G (kl x)).getD nilS = v0) := by show _ = _; rw [hg0]; rfl
  have hgs : (ρ.G (kl x)).isSome = true := by rw [hg0]; rfl
  have HGs := hid hgs
  have HW0 := hid hW0
  obtain ⟨fl0, hfl⟩ : ∃ f, f = fl (ρ.E (kl x)) id := ⟨_, rfl⟩
  rw [← hfl] at HC HFin
  clear h hB0 hs0 hG0 hG1 hRv hRv0 hown hoE hW0 hne hg0 hgs hfl hin q12
  go_enter Tryz.func156, Tryz.ntmps156
  go_upto_region 1 with fail
  rw [← HW0.out]
  clear HW0
  refine wp_region_held_drew (S := Hd ρ.p ρ.bc w.heap.size x) (by kernel_rfl) HA0.out (fun hHeld => ?_)
  refine wpAnyH_take (i := 0) (v := ?_) rfl (by kernel_rfl) (by kernel_rfl) (by kernel_rfl) (fun _ _ _ h => h) (Or.inl ⟨by rfl, ?_⟩) hHeld ?_
  rotate_left
  · intro w' hSw
    clear hSw
    go_simp
    first | done | with_reducible rfl
  simp only [Act.put, List.getElem_toArray, List.getElem_cons_zero, List.setIfInBounds_toArray, List.set_cons_zero, List.set_cons_succ]
  refine wpAnyH_take (i := 1) (v := ?_) rfl (by kernel_rfl) (by kernel_rfl) (by kernel_rfl) (fun _ _ _ h => h) (Or.inl ⟨by rfl, ?_⟩) hHeld ?_
  rotate_left
  · intro w' hSw
    clear hSw
    go_simp
    first | done | with_reducible rfl
  simp only [Act.put, List.getElem_toArray, List.getElem_cons_succ, List.getElem_cons_zero, List.setIfInBounds_toArray, List.set_cons_zero, List.set_cons_succ]
  refine wpAnyH_take (i := 2) (v := ?_) rfl (by kernel_rfl) (by kernel_rfl) (by kernel_rfl) (fun _ _ _ h => h) (Or.inl ⟨by rfl, ?_⟩) hHeld ?_
  rotate_left
  · intro w' hSw
    clear hSw
    go_simp
    first | done | with_reducible rfl
  simp only [Act.put, List.getElem_toArray, List.getElem_cons_succ, List.getElem_cons_zero, List.setIfInBounds_toArray, List.set_cons_zero, List.set_cons_succ]
  refine wpAnyH_take (i := 3) (v := ?_) rfl (by kernel_rfl) (by kernel_rfl) (by kernel_rfl) (fun _ _ _ h => h) (Or.inl ⟨by rfl, ?_⟩) hHeld ?_
  rotate_left
  · intro w' hSw
    have c := hSw.c
    clear hSw
    go_simp
    first | done | with_reducible rfl
  simp only [Act.put, List.getElem_toArray, List.getElem_cons_succ, List.getElem_cons_zero, List.setIfInBounds_toArray, List.set_cons_zero, List.set_cons_succ]
  refine wpAnyH_take (i := 4) (v := (hv x)) rfl (by kernel_rfl) (by kernel_rfl) (by kernel_rfl) (fun _ _ _ h => h) (Or.inl ⟨by rfl, ?_⟩) hHeld ?_
  · intro w' hSw
    exact runLd 30 (.tmp 4) rfl w.heap.size 0 rfl (row 11 x) _ hSw.rx Tryz.underlying30 rfl (sizeH x)
  simp only [Act.put, List.getElem_toArray, List.getElem_cons_succ, List.getElem_cons_zero, List.setIfInBounds_toArray, List.set_cons_zero, List.set_cons_succ]
  refine wpAnyH_take (i := 6) (v := (cl1 (w.heap.size + 1))) rfl (by kernel_rfl) (by kernel_rfl) (by kernel_rfl) (fun _ _ _ h => h) (Or.inl ⟨by rfl, ?_⟩) hHeld ?_
  · intro w' hSw
    clear hSw
    go_simp
    first | done | with_reducible rfl
  simp only [Act.put, List.getElem_toArray, List.getElem_cons_succ, List.getElem_cons_zero, List.setIfInBounds_toArray, List.set_cons_zero, List.set_cons_succ]
  refine wpAnyH_ready (rs := [5]) (by kernel_rfl) (by simp) ?_
  refine AllReadyH.cons rfl (fun K hK => ?_) AllReadyH.nil
  refine stepLook (.tmp 10) (.tmp 11) 221 rfl rfl rfl rfl HMp0.out lawH Tryz.underlying221 (zeroEs _) (key_h hwx) ?_
  refine hK.out _ _ HA0.out (fun hHeld => ?_)
  clear hK K
  rw [HV0.out]
  simp only [Act.put, List.getElem_toArray, List.getElem_cons_succ, List.getElem_cons_zero, List.setIfInBounds_toArray, List.set_cons_zero, List.set_cons_succ]
  refine wpAnyH_ready (rs := [7]) (by kernel_rfl) (by simp) ?_
  refine AllReadyH.cons rfl (fun K hK => ?_) AllReadyH.nil
  refine stepFnW 186 (.func 186) [.tmp 12, .tmp 13] _ [v0, cl1 (w.heap.size + 1)] rfl rfl rfl rfl (fun _ => rfl) _ HC.out ?_
  rintro r5 w5 ⟨v5, rfl, hA5, hR5⟩
  refine Or.inl ⟨_, rfl, ?_⟩
  have HA5 := hid hA5
  have HR5 := hid hR5
  obtain ⟨ao5, cap5, hv5⟩ := hR5.form
  refine hK.out _ _ (HAp.out w5 hA5) (fun hHeld => ?_)
  clear hK K hA5 hR5
  simp only [Act.put, List.getElem_toArray, List.getElem_cons_succ, List.getElem_cons_zero, List.setIfInBounds_toArray, List.set_cons_zero, List.set_cons_succ]
  refine wpAnyH_take (i := 8) (v := ?_) rfl (by kernel_rfl) (by kernel_rfl) (by kernel_rfl) (fun _ _ _ h => h) (Or.inl ⟨by rfl, ?_⟩) hHeld ?_
  rotate_left
  · intro w' hSw
    clear hSw
    go_simp
    first | done | with_reducible rfl
  simp only [Act.put, List.getElem_toArray, List.getElem_cons_succ, List.getElem_cons_zero, List.setIfInBounds_toArray, List.set_cons_zero, List.set_cons_succ]
  refine wpAnyH_done (by kernel_rfl) ?_ _
  subst hv5
  have HS5 : Hid (Hd ρ.p ρ.bc w.heap.size x w5.drew) := by have hq := HAp.out w5 HA5.out; exact ⟨hq.c, hq.rx⟩
  have HM5 := hid (HMp5.out w5 HA5.out)
  cases fl0 with
  | nil =>
    go_wp2_with fail
    refine wp_region_held_drew (S := Hd ρ.p ρ.bc w.heap.size x) (by kernel_rfl) HS5.out (fun hHeld => ?_)
    refine wpAnyH_take (i := 0) (v := ?_) rfl (by kernel_rfl) (by kernel_rfl) (by kernel_rfl) (fun _ _ _ h => h) (Or.inl ⟨by rfl, ?_⟩) hHeld ?_
    rotate_left
    · intro w' hSw
      clear hSw
      go_simp
      first | done | with_reducible rfl
    simp only [Act.put, List.getElem_toArray, List.getElem_cons_zero, List.setIfInBounds_toArray, List.set_cons_zero, List.set_cons_succ]
    refine wpAnyH_take (i := 1) (v := ?_) rfl (by kernel_rfl) (by kernel_rfl) (by kernel_rfl) (fun _ _ _ h => h) (Or.inl ⟨by rfl, ?_⟩) hHeld ?_
    rotate_left
    · intro w' hSw
      clear hSw
      go_simp
      first | done | with_reducible rfl
    simp only [Act.put, List.getElem_toArray, List.getElem_cons_succ, List.getElem_cons_zero, List.setIfInBounds_toArray, List.set_cons_zero, List.set_cons_succ]
    refine wpAnyH_take (i := 2) (v := ?_) rfl (by kernel_rfl) (by kernel_rfl) (by kernel_rfl) (fun _ _ _ h => h) (Or.inl ⟨by rfl, ?_⟩) hHeld ?_
    rotate_left
    · intro w' hSw
      clear hSw
      go_simp
      first | done | with_reducible rfl
    simp only [Act.put, List.getElem_toArray, List.getElem_cons_succ, List.getElem_cons_zero, List.setIfInBounds_toArray, List.set_cons_zero, List.set_cons_succ]
    refine wpAnyH_take (i := 3) (v := ?_) rfl (by kernel_rfl) (by kernel_rfl) (by kernel_rfl) (fun _ _ _ h => h) (Or.inl ⟨by rfl, ?_⟩) hHeld ?_
    rotate_left
    · intro w' hSw
      have c := hSw.c
      clear hSw
      go_simp
      first | done | with_reducible rfl
    simp only [Act.put, List.getElem_toArray, List.getElem_cons_succ, List.getElem_cons_zero, List.setIfInBounds_toArray, List.set_cons_zero, List.set_cons_succ]
    refine wpAnyH_take (i := 4) (v := (hv x)) rfl (by kernel_rfl) (by kernel_rfl) (by kernel_rfl) (fun _ _ _ h => h) (Or.inl ⟨by rfl, ?_⟩) hHeld ?_
    · intro w' hSw
      exact runLd 30 (.tmp 4) rfl w.heap.size 0 rfl (row 11 x) _ hSw.rx Tryz.underlying30 rfl (sizeH x)
    simp only [Act.put, List.getElem_toArray, List.getElem_cons_succ, List.getElem_cons_zero, List.setIfInBounds_toArray, List.set_cons_zero, List.set_cons_succ]
    refine wpAnyH_ready (rs := [5]) (by kernel_rfl) (by simp) ?_
    refine AllReadyH.cons rfl (fun K hK => ?_) AllReadyH.nil
    refine stepDel (.tmp 27) (.tmp 28) 221 rfl rfl rfl rfl HM5.out lawH Tryz.underlying221 (key_h hwx) ?_
    intro w6 hM6 hT6
    have HM6 := hid hM6
    have HT6 := hid hT6
    refine hK.out _ _ (HTp.out w5.drew w6 HS5.out hT6) (fun hHeld => ?_)
    clear hK K hM6 hT6
    simp only [Act.put, List.getElem_toArray, List.getElem_cons_succ, List.getElem_cons_zero]
    refine wpAnyH_done (by kernel_rfl) ?_ _
    have hM6 := HM6.out
    rw [HGs.out] at hM6
    have HG7 := hid (HFin.out _ w5 w6 HA5.out HR5.out hM6 HT6.out)
    clear hM6 HFin
    go_wp2_with (go_at_call 188; refine (HG7.out).mono ?_; rintro r w7 ⟨t, rfl, ⟨z0, z1⟩, hD⟩; have HD := hid hD; clear hD HG7)
    first | go_end0 | refine bodyPost_ret (results_none rfl _ _ _) rfl ?_
    exact HD.out
  | cons e0 es0 =>
    go_wp2_with fail
    refine wp_region_held_drew (S := Hd ρ.p ρ.bc w.heap.size x) (by kernel_rfl) HS5.out (fun hHeld => ?_)
    refine wpAnyH_take (i := 0) (v := ?_) rfl (by kernel_rfl) (by kernel_rfl) (by kernel_rfl) (fun _ _ _ h => h) (Or.inl ⟨by rfl, ?_⟩) hHeld ?_
    rotate_left
    · intro w' hSw
      clear hSw
      go_simp
      first | done | with_reducible rfl
    simp only [Act.put, List.getElem_toArray, List.getElem_cons_zero, List.setIfInBounds_toArray, List.set_cons_zero, List.set_cons_succ]
    refine wpAnyH_take (i := 1) (v := ?_) rfl (by kernel_rfl) (by kernel_rfl) (by kernel_rfl) (fun _ _ _ h => h) (Or.inl ⟨by rfl, ?_⟩) hHeld ?_
    rotate_left
    · intro w' hSw
      clear hSw
      go_simp
      first | done | with_reducible rfl
    simp only [Act.put, List.getElem_toArray, List.getElem_cons_succ, List.getElem_cons_zero, List.setIfInBounds_toArray, List.set_cons_zero, List.set_cons_succ]
    refine wpAnyH_take (i := 2) (v := ?_) rfl (by kernel_rfl) (by kernel_rfl) (by kernel_rfl) (fun _ _ _ h => h) (Or.inl ⟨by rfl, ?_⟩) hHeld ?_
    rotate_left
    · intro w' hSw
      clear hSw
      go_simp
      first | done | with_reducible rfl
    simp only [Act.put, List.getElem_toArray, List.getElem_cons_succ, List.getElem_cons_zero, List.setIfInBounds_toArray, List.set_cons_zero, List.set_cons_succ]
    refine wpAnyH_take (i := 3) (v := ?_) rfl (by kernel_rfl) (by kernel_rfl) (by kernel_rfl) (fun _ _ _ h => h) (Or.inl ⟨by rfl, ?_⟩) hHeld ?_
    rotate_left
    · intro w' hSw
      have c := hSw.c
      clear hSw
      go_simp
      first | done | with_reducible rfl
    simp only [Act.put, List.getElem_toArray, List.getElem_cons_succ, List.getElem_cons_zero, List.setIfInBounds_toArray, List.set_cons_zero, List.set_cons_succ]
    refine wpAnyH_take (i := 4) (v := (hv x)) rfl (by kernel_rfl) (by kernel_rfl) (by kernel_rfl) (fun _ _ _ h => h) (Or.inl ⟨by rfl, ?_⟩) hHeld ?_
    · intro w' hSw
      exact runLd 30 (.tmp 4) rfl w.heap.size 0 rfl (row 11 x) _ hSw.rx Tryz.underlying30 rfl (sizeH x)
    simp only [Act.put, List.getElem_toArray, List.getElem_cons_succ, List.getElem_cons_zero, List.setIfInBounds_toArray, List.set_cons_zero, List.set_cons_succ]
    refine wpAnyH_take (i := 5) (v := ?_) rfl (by kernel_rfl) (by kernel_rfl) (by kernel_rfl) (fun _ _ _ h => h) (Or.inl ⟨by rfl, ?_⟩) hHeld ?_
    rotate_left
    · intro w' hSw
      clear hSw
      go_simp
      first | done | with_reducible rfl
    simp only [Act.put, List.getElem_toArray, List.getElem_cons_succ, List.getElem_cons_zero, List.setIfInBounds_toArray, List.set_cons_zero, List.set_cons_succ]
    refine wpAnyH_ready (rs := [6]) (by kernel_rfl) (by simp) ?_
    refine AllReadyH.cons rfl (fun K hK => ?_) AllReadyH.nil
    refine stepStore (.tmp 21) (.tmp 22) (.tmp 23) 221 rfl rfl rfl rfl rfl HM5.out lawH Tryz.underlying221 hnn (key_h hwx) ?_
    intro w6 hM6 hT6
    have HM6 := hid hM6
    have HT6 := hid hT6
    refine hK.out _ _ (HTp.out w5.drew w6 HS5.out hT6) (fun hHeld => ?_)
    clear hK K hM6 hT6
    simp only [Act.put, List.getElem_toArray, List.getElem_cons_succ, List.getElem_cons_zero]
    refine wpAnyH_done (by kernel_rfl) ?_ _
    have hM6 := HM6.out
    rw [HGs.out] at hM6
    have HG7 := hid (HFin.out _ w5 w6 HA5.out HR5.out hM6 HT6.out)
    clear hM6 HFin
    go_wp2_with (go_at_call 188; refine (HG7.out).mono ?_; rintro r w7 ⟨t, rfl, ⟨z0, z1⟩, hD⟩; have HD := hid hD; clear hD HG7)
    first | go_end0 | refine bodyPost_ret (results_none rfl _ _ _) rfl ?_
    exact HD.out
end Go.Proofs.YtdehlnaoehjehaaGreatDoor
