/-
  Proved here: what a part's closures clear and write do with a message's block: the field is made nothing, the field is written. Conditions: the blocks that they look at are none that the writer turns.
-/
import Derived.Test.YtllbbbfkdgjffaaGreatDoorT4
namespace Go.Proofs.YtllbbbfkdgjffaaGreatDoor
open Go.RowKit

section
variable {ops : Array Oper} {rest : List Oper} {o : Oper} {a : Act} {w : World} {Q : Exit → Act → World → Prop}
/-- A call of a function value, in a walk. -/
theorem callFn (f : FuncId) (y : Operand) (xs : List Operand) (ts : Array TypeId) (args : List Value) (hop : o.op = .call { callee := .value y, args := xs.toArray, argTypes := ts }) (hg : o.guard = none) (hy : a.eval y = .func (.func f) #[] #[]) (hx : xs.map a.eval = args) (hE : ∀ w, (callFunc f args.toArray).run Tryz.prog w = .ok (.enter f args.toArray) w)
    (Φ : Ending → World → Prop) (hC : Calls Tryz.prog f args.toArray w Φ) (hK : ∀ e w', Φ e w' → (∃ v, e = .returned v ∧ wpList Tryz.prog ops Q rest (a.put o.dst v) w') ∨ ∃ ch, e = .panicked ch ∧ Q (.panic ch) a w') : wpList Tryz.prog ops Q (o :: rest) a w := by
  have hw : Region.wanted o (yielded ops a.tmps) = true := by simp [Region.wanted, hg]
  have h := stepFn (ops := ops) (E := False) (K := wpList Tryz.prog ops Q rest) f y xs ts args hop hg hy hx hE Φ hC hK
  rw [if_pos hw] at h
  unfold wpList
  rw [if_pos hw]
  exact Or.inl h
end
def clS (s : Sls) : Fk → Sls
  | .ps => { s with ps := nilS }
  | .ed => { s with ed := nilS }
  | .rl => { s with cp := nilS }
  | .fr => { s with fr := nilS }
  | .hs => { s with hs := nilS }
  | _ => s

set_option maxHeartbeats 800000 in
theorem clearU_any (w : World) (b off g1 fo : Nat) (V : Value) (h1 : w.cell? ⟨g1, 0, none⟩ = some (fnV fo)) (hv : w.cell? ⟨b, off, none⟩ = some V) (hf : w.frozen? ⟨b, off, none⟩ = false) (eo : Ent fo)
    (ho : ∀ w, Calls Tryz.prog fo #[ptr b] w fun e w' => e = .returned (.pointer (some ⟨b, off, none⟩)) ∧ w' = w) :
    Calls Tryz.prog 87 #[ptr b, ptr g1] w fun e w' => e = .returned (.tuple #[]) ∧ w' = w.setCell ⟨b, off, none⟩ (.int .u16 0) := by
  have HO := hid ho
  clear ho
  go_enter Tryz.func87, Tryz.ntmps87
  go_wp2_with (refine callFn fo (.tmp 4) _ _ [ptr b] rfl rfl rfl rfl (eo _) _ (HO.out _) ?_; rintro e w4 ⟨rfl, hw⟩; refine Or.inl ⟨_, rfl, ?_⟩; rw [hw]; clear hw w4)
  first | go_end0 | refine bodyPost_ret (results_none rfl _ _ _) rfl ?_
  exact ⟨rfl, rfl⟩

set_option maxHeartbeats 800000 in
theorem clearUs_any (w : World) (b off g1 fo : Nat) (V : Value) (h1 : w.cell? ⟨g1, 0, none⟩ = some (fnV fo)) (hv : w.cell? ⟨b, off, none⟩ = some V) (hf : w.frozen? ⟨b, off, none⟩ = false) (eo : Ent fo)
    (ho : ∀ w, Calls Tryz.prog fo #[ptr b] w fun e w' => e = .returned (.pointer (some ⟨b, off, none⟩)) ∧ w' = w) :
    Calls Tryz.prog 90 #[ptr b, ptr g1] w fun e w' => e = .returned (.tuple #[]) ∧ w' = w.setCell ⟨b, off, none⟩ (nilS) := by
  have HO := hid ho
  clear ho
  go_enter Tryz.func90, Tryz.ntmps90
  go_wp2_with (refine callFn fo (.tmp 4) _ _ [ptr b] rfl rfl rfl rfl (eo _) _ (HO.out _) ?_; rintro e w4 ⟨rfl, hw⟩; refine Or.inl ⟨_, rfl, ?_⟩; rw [hw]; clear hw w4)
  first | go_end0 | refine bodyPost_ret (results_none rfl _ _ _) rfl ?_
  exact ⟨rfl, rfl⟩

set_option maxHeartbeats 800000 in
theorem clearI_any (w : World) (b off g1 fo : Nat) (V : Value) (h1 : w.cell? ⟨g1, 0, none⟩ = some (fnV fo)) (hv : w.cell? ⟨b, off, none⟩ = some V) (hf : w.frozen? ⟨b, off, none⟩ = false) (eo : Ent fo)
    (ho : ∀ w, Calls Tryz.prog fo #[ptr b] w fun e w' => e = .returned (.pointer (some ⟨b, off, none⟩)) ∧ w' = w) :
    Calls Tryz.prog 95 #[ptr b, ptr g1] w fun e w' => e = .returned (.tuple #[]) ∧ w' = w.setCell ⟨b, off, none⟩ (.int .i8 0) := by
  have HO := hid ho
  clear ho
  go_enter Tryz.func95, Tryz.ntmps95
  go_wp2_with (refine callFn fo (.tmp 4) _ _ [ptr b] rfl rfl rfl rfl (eo _) _ (HO.out _) ?_; rintro e w4 ⟨rfl, hw⟩; refine Or.inl ⟨_, rfl, ?_⟩; rw [hw]; clear hw w4)
  first | go_end0 | refine bodyPost_ret (results_none rfl _ _ _) rfl ?_
  exact ⟨rfl, rfl⟩

set_option maxHeartbeats 800000 in
theorem clearB_any (w : World) (b off g1 fo : Nat) (V : Value) (h1 : w.cell? ⟨g1, 0, none⟩ = some (fnV fo)) (hv : w.cell? ⟨b, off, none⟩ = some V) (hf : w.frozen? ⟨b, off, none⟩ = false) (eo : Ent fo)
    (ho : ∀ w, Calls Tryz.prog fo #[ptr b] w fun e w' => e = .returned (.pointer (some ⟨b, off, none⟩)) ∧ w' = w) :
    Calls Tryz.prog 108 #[ptr b, ptr g1] w fun e w' => e = .returned (.tuple #[]) ∧ w' = w.setCell ⟨b, off, none⟩ (nilS) := by
  have HO := hid ho
  clear ho
  go_enter Tryz.func108, Tryz.ntmps108
  go_wp2_with (refine callFn fo (.tmp 4) _ _ [ptr b] rfl rfl rfl rfl (eo _) _ (HO.out _) ?_; rintro e w4 ⟨rfl, hw⟩; refine Or.inl ⟨_, rfl, ?_⟩; rw [hw]; clear hw w4)
  first | go_end0 | refine bodyPost_ret (results_none rfl _ _ _) rfl ?_
  exact ⟨rfl, rfl⟩

set_option maxHeartbeats 800000 in
theorem clearH_any (w : World) (b off g1 fo : Nat) (V : Value) (h1 : w.cell? ⟨g1, 0, none⟩ = some (fnV fo)) (hv : w.cell? ⟨b, off, none⟩ = some V) (hf : w.frozen? ⟨b, off, none⟩ = false) (eo : Ent fo)
    (ho : ∀ w, Calls Tryz.prog fo #[ptr b] w fun e w' => e = .returned (.pointer (some ⟨b, off, none⟩)) ∧ w' = w) :
    Calls Tryz.prog 112 #[ptr b, ptr g1] w fun e w' => e = .returned (.tuple #[]) ∧ w' = w.setCell ⟨b, off, none⟩ (nilS) := by
  have HO := hid ho
  clear ho
  go_enter Tryz.func112, Tryz.ntmps112
  go_wp2_with (refine callFn fo (.tmp 4) _ _ [ptr b] rfl rfl rfl rfl (eo _) _ (HO.out _) ?_; rintro e w4 ⟨rfl, hw⟩; refine Or.inl ⟨_, rfl, ?_⟩; rw [hw]; clear hw w4)
  first | go_end0 | refine bodyPost_ret (results_none rfl _ _ _) rfl ?_
  exact ⟨rfl, rfl⟩

set_option maxHeartbeats 800000 in
theorem clearO_any (w : World) (b off g1 fo : Nat) (V : Value) (h1 : w.cell? ⟨g1, 0, none⟩ = some (fnV fo)) (hv : w.cell? ⟨b, off, none⟩ = some V) (hf : w.frozen? ⟨b, off, none⟩ = false) (eo : Ent fo)
    (ho : ∀ w, Calls Tryz.prog fo #[ptr b] w fun e w' => e = .returned (.pointer (some ⟨b, off, none⟩)) ∧ w' = w) :
    Calls Tryz.prog 119 #[ptr b, ptr g1] w fun e w' => e = .returned (.tuple #[]) ∧ w' = w.setCell ⟨b, off, none⟩ (.bool false) := by
  have HO := hid ho
  clear ho
  go_enter Tryz.func119, Tryz.ntmps119
  go_wp2_with (refine callFn fo (.tmp 4) _ _ [ptr b] rfl rfl rfl rfl (eo _) _ (HO.out _) ?_; rintro e w4 ⟨rfl, hw⟩; refine Or.inl ⟨_, rfl, ?_⟩; rw [hw]; clear hw w4)
  first | go_end0 | refine bodyPost_ret (results_none rfl _ _ _) rfl ?_
  exact ⟨rfl, rfl⟩

structure HsC (g g1 : Nat) (cs : Array Value) (fo : Nat) (w : World) : Prop where
  c1 : w.cell? ⟨g1, 0, none⟩ = some (fnV fo)
  cv : w.rangeAt g 0 cs.toList
theorem zero_rl : rlc zRl nilS = #[.int .i64 0, .int .u64 0, .int .u64 0, .int .u64 0, .int .u64 0, .int .u64 0, .int .u64 0, .int .u64 0, .int .u64 0, .int .u64 0, .int .u64 0, .int .u64 0, .int .u64 0, .int .u64 0, .int .u64 0, .int .u64 0, .int .u64 0, .int .u64 0, .int .u64 0, .int .u64 0, .int .u64 0, .int .u64 0, .int .u64 0, nilS, .int .u64 0] := by kernel_rfl
set_option maxHeartbeats 1600000 in
set_option maxRecDepth 100000 in
theorem clearR_any (w : World) (b off g1 fo : Nat) (h1 : w.cell? ⟨g1, 0, none⟩ = some (fnV fo)) (hv : w.there b off 25) (hne : g1 ≠ b) (hb : b < w.heap.size) (eo : Ent fo)
    (ho : ∀ w, Calls Tryz.prog fo #[ptr b] w fun e w' => e = .returned (.pointer (some ⟨b, off, none⟩)) ∧ w' = w) :
    Calls Tryz.prog 99 #[ptr b, ptr g1] w fun e w' => e = .returned (.tuple #[]) ∧ ∃ W, Below w.heap.size w W ∧ w' = W.setCells b off (rlc zRl nilS).toList := by
  have HO := hid ho
  have hg1 := cell_lt h1
  have hb0 : Below w.heap.size w (w.alloc (.cells (rlc zRl nilS) 31)) := (Below.refl _ _).alloc (Nat.le_refl _) _
  have HB := hid hb0
  have HS : Hid (HsC w.heap.size g1 (rlc zRl nilS) fo (w.alloc (.cells (rlc zRl nilS) 31))) := by
    refine ⟨?_, fun j v hj => ?_⟩
    · rw [cell_same (hb0.block g1 hg1)]; exact h1
    · rw [Nat.zero_add, cell_of_row _ _ j _ _ _ (heap_alloc_new _ _)]
      simpa using hj
  have HT : Hid ((w.alloc (.cells (rlc zRl nilS) 31)).drew.there b off (rlc zRl nilS).size) := fun j hj => by
    rw [rlc_size] at hj
    have h2 := hv j hj
    have hc := hb0.drew.cell (p := ⟨b, off + j, none⟩) hb
    have hf := hb0.drew.frozen (p := ⟨b, off + j, none⟩) hb
    exact ⟨by rw [hc]; exact h2.1, by rw [hf]; exact h2.2⟩
  have HKp : Hid (∀ k, k ≠ b → ((w.alloc (.cells (rlc zRl nilS) 31)).drew.setCells b off (rlc zRl nilS).toList).heap[k]? = (w.alloc (.cells (rlc zRl nilS) 31)).heap[k]?) := fun k hk => (setCells_below b _ off _).2.2.2.2 k hk
  clear ho h1 hv hb0
  go_enter Tryz.func99, Tryz.ntmps99
  go_upto_region 1 with fail
  rw [← zero_rl]
  generalize w.alloc (.cells (rlc zRl nilS) 31) = W at HB HS HT HKp ⊢
  refine wp_region_held_drew (S := HsC w.heap.size g1 (rlc zRl nilS) fo) (by kernel_rfl) ⟨HS.out.c1, HS.out.cv⟩ (fun hHeld => ?_)
  refine wpAnyH_take (i := 0) (v := ?_) rfl (by kernel_rfl) (by kernel_rfl) (by kernel_rfl) (fun _ _ _ h => h) (Or.inl ⟨by rfl, ?_⟩) hHeld ?_
  rotate_left
  · intro w' hSw
    have c1 := hSw.c1
    clear hSw
    go_simp
    first | done | with_reducible rfl
  simp only [Act.put, List.getElem_toArray, List.getElem_cons_zero, List.setIfInBounds_toArray, List.set_cons_zero, List.set_cons_succ]
  refine wpAnyH_take (i := 1) (v := ?_) rfl (by kernel_rfl) (by kernel_rfl) (by kernel_rfl) (fun _ _ _ h => h) (Or.inl ⟨by rfl, ?_⟩) hHeld ?_
  rotate_left
  · intro w' hSw
    go_simp
    first | done | with_reducible rfl
  simp only [Act.put, List.getElem_toArray, List.getElem_cons_succ, List.getElem_cons_zero, List.setIfInBounds_toArray, List.set_cons_zero, List.set_cons_succ]
  refine wpAnyH_take (i := 3) rfl (by kernel_rfl) (by kernel_rfl) (by kernel_rfl) (fun _ _ _ h => h) (yieldsIf_load_mid rfl 31 (.tmp 3) rfl w.heap.size 0 rfl (rlc zRl nilS).toList _ (fun _ h => h.cv) Tryz.underlying31 rfl (by rw [Array.length_toList, rlc_size]; kernel_rfl)) hHeld ?_
  rw [show (rlc zRl nilS).toList.toArray = rlc zRl nilS by simp]
  simp only [Act.put, List.getElem_toArray, List.getElem_cons_succ, List.getElem_cons_zero, List.setIfInBounds_toArray, List.set_cons_zero, List.set_cons_succ]
  refine wpAnyH_ready (rs := [2]) (by kernel_rfl) (by simp) ?_
  refine AllReadyH.cons rfl (fun K hK => ?_) AllReadyH.nil
  refine stepFn fo (.tmp 4) _ _ [ptr b] rfl rfl rfl rfl (eo _) _ (HO.out _) ?_
  rintro e w4 ⟨rfl, hw⟩
  refine Or.inl ⟨_, rfl, ?_⟩
  rw [hw]
  refine hK.out _ _ hHeld (fun hHeld => ?_)
  clear hK K hw w4
  simp only [Act.put, List.getElem_toArray, List.getElem_cons_succ, List.getElem_cons_zero, List.setIfInBounds_toArray, List.set_cons_zero, List.set_cons_succ]
  refine wpAnyH_take (i := 4) (v := ?_) rfl (by kernel_rfl) (by kernel_rfl) (by kernel_rfl) (fun _ _ _ h => h) (Or.inl ⟨by rfl, ?_⟩) hHeld ?_
  rotate_left
  · intro w' hSw
    go_simp
    first | done | with_reducible rfl
  simp only [Act.put, List.getElem_toArray, List.getElem_cons_succ, List.getElem_cons_zero, List.setIfInBounds_toArray, List.set_cons_zero, List.set_cons_succ]
  refine wpAnyH_ready (rs := [5]) (by kernel_rfl) (by simp) ?_
  refine AllReadyH.cons rfl (fun K hK => ?_) AllReadyH.nil
  rw [if_pos (by rfl)]
  refine wp_store_mid 31 (.tmp 8) (.tmp 7) rfl b off (rlc zRl nilS) rfl rfl HT.out (sizeRl zRl nilS) (rlc_one zRl nilS rfl) ?_
  have hsame : HsC w.heap.size g1 (rlc zRl nilS) fo (W.drew.setCells b off (rlc zRl nilS).toList) := by
    refine ⟨?_, fun j v hj => ?_⟩
    · rw [cell_same (HKp.out g1 hne)]; exact HS.out.c1
    · rw [cell_same (HKp.out w.heap.size (by omega))]; exact HS.out.cv j v hj
  refine hK.out _ _ hsame (fun hHeld => ?_)
  clear hK K
  simp only [Act.put, List.getElem_toArray, List.getElem_cons_succ, List.getElem_cons_zero]
  refine wpAnyH_done (by kernel_rfl) ?_ _
  go_wp2
  first | go_end0 | refine bodyPost_ret (results_none rfl _ _ _) rfl ?_
  exact ⟨rfl, W.drew, HB.out.drew, rfl⟩
end Go.Proofs.YtllbbbfkdgjffaaGreatDoor
