/-
  Proved here: what a part's closures clear and write do with a message's block: the field is made nothing, the field is written. Conditions: the blocks that they look at are none that the writer turns.
-/
/-
  Proved here: a part's closures clear and write, of whichever field. Conditions: the blocks that they look at are none that the writer turns.
-/
/-
  Proved here: two matches are compared as Go compares structs: equal just if all twenty-two numbers are the same; how a zero match is made. No condition.
-/
/-
  Proved here: isBlankRule, isBlank tell whether a rule, a message has nothing but Type and Id. No condition.
-/
import Derived.Test.YtllbbbfkdgjffaaGreatDoorT4
import Derived.Laws.CopyOwn
namespace Go.Proofs.YtllbbbfkdgjffaaGreatDoor
open Go.RowKit

section
variable {ops : Array Oper} {rest : List Oper} {o : Oper} {a : Act} {w : World} {Q : Exit → Act → World → Prop}
/-- A call of a function value, in a walk. -/
theorem callFn (f : FuncId) (y : Operand) (xs : List Operand) (ts : Array TypeId) (args : List Value) (hop : o.op = .call { callee := .value y, args := xs.toArray, argTypes := ts }) (hg : o.guard = none) (hy : a.eval y = .func (.func f) #[] #[]) (hx : xs.map a.eval = args) (hE : ∀ w, (callFunc f args.toArray).run Tryz.prog w = .ok (.enter f args.toArray) w)
    (Φ : Ending → World → Prop) (hC : Calls Tryz.prog f args.toArray w Φ) (hK : ∀ e w', Φ e w' → (∃ v, e = .returned v ∧ wpList Tryz.prog ops Q rest (a.put o.dst v) w') ∨ ∃ ch, e = .panicked ch ∧ Q (.panic ch) a w') : wpList Tryz.prog ops Q (o :: rest) a w := by
  have hw : Region.wanted o (yielded ops a.tmps) = true := by simp [Region.wanted, hg]
  have h := stepFn (ops := ops) (E := False) (K := wpList Tryz.prog ops Q rest) f y xs ts args hop hg hy hx hE Φ hC hK
  rw [if_pos hw] at h
  unfold wpList
  rw [if_pos hw]
  exact Or.inl h
end
def clS (s : Sls) : Fk → Sls
  | .ps => { s with ps := nilS }
  | .ed => { s with ed := nilS }
  | .rl => { s with cp := nilS }
  | .fr => { s with fr := nilS }
  | .hs => { s with hs := nilS }
  | _ => s

set_option maxHeartbeats 800000 in
theorem clearU_any (w : World) (b off g1 fo : Nat) (V : Value) (h1 : w.cell? ⟨g1, 0, none⟩ = some (fnV fo)) (hv : w.cell? ⟨b, off, none⟩ = some V) (hf : w.frozen? ⟨b, off, none⟩ = false) (eo : Ent fo)
    (ho : ∀ w, Calls Tryz.prog fo #[ptr b] w fun e w' => e = .returned (.pointer (some ⟨b, off, none⟩)) ∧ w' = w) :
    Calls Tryz.prog 87 #[ptr b, ptr g1] w fun e w' => e = .returned (.tuple #[]) ∧ w' = w.setCell ⟨b, off, none⟩ (.int .u16 0) := by
  have HO := hid ho
  clear ho
  go_enter Tryz.func87, Tryz.ntmps87
  go_wp2_with (refine callFn fo (.tmp 4) _ _ [ptr b] rfl rfl rfl rfl (eo _) _ (HO.out _) ?_; rintro e w4 ⟨rfl, hw⟩; refine Or.inl ⟨_, rfl, ?_⟩; rw [hw]; clear hw w4)
  first | go_end0 | refine bodyPost_ret (results_none rfl _ _ _) rfl ?_
  exact ⟨rfl, rfl⟩

set_option maxHeartbeats 800000 in
theorem clearUs_any (w : World) (b off g1 fo : Nat) (V : Value) (h1 : w.cell? ⟨g1, 0, none⟩ = some (fnV fo)) (hv : w.cell? ⟨b, off, none⟩ = some V) (hf : w.frozen? ⟨b, off, none⟩ = false) (eo : Ent fo)
    (ho : ∀ w, Calls Tryz.prog fo #[ptr b] w fun e w' => e = .returned (.pointer (some ⟨b, off, none⟩)) ∧ w' = w) :
    Calls Tryz.prog 90 #[ptr b, ptr g1] w fun e w' => e = .returned (.tuple #[]) ∧ w' = w.setCell ⟨b, off, none⟩ (nilS) := by
  have HO := hid ho
  clear ho
  go_enter Tryz.func90, Tryz.ntmps90
  go_wp2_with (refine callFn fo (.tmp 4) _ _ [ptr b] rfl rfl rfl rfl (eo _) _ (HO.out _) ?_; rintro e w4 ⟨rfl, hw⟩; refine Or.inl ⟨_, rfl, ?_⟩; rw [hw]; clear hw w4)
  first | go_end0 | refine bodyPost_ret (results_none rfl _ _ _) rfl ?_
  exact ⟨rfl, rfl⟩

set_option maxHeartbeats 800000 in
theorem clearI_any (w : World) (b off g1 fo : Nat) (V : Value) (h1 : w.cell? ⟨g1, 0, none⟩ = some (fnV fo)) (hv : w.cell? ⟨b, off, none⟩ = some V) (hf : w.frozen? ⟨b, off, none⟩ = false) (eo : Ent fo)
    (ho : ∀ w, Calls Tryz.prog fo #[ptr b] w fun e w' => e = .returned (.pointer (some ⟨b, off, none⟩)) ∧ w' = w) :
    Calls Tryz.prog 95 #[ptr b, ptr g1] w fun e w' => e = .returned (.tuple #[]) ∧ w' = w.setCell ⟨b, off, none⟩ (.int .i8 0) := by
  have HO := hid ho
  clear ho
  go_enter Tryz.func95, Tryz.ntmps95
  go_wp2_with (refine callFn fo (.tmp 4) _ _ [ptr b] rfl rfl rfl rfl (eo _) _ (HO.out _) ?_; rintro e w4 ⟨rfl, hw⟩; refine Or.inl ⟨_, rfl, ?_⟩; rw [hw]; clear hw w4)
  first | go_end0 | refine bodyPost_ret (results_none rfl _ _ _) rfl ?_
  exact ⟨rfl, rfl⟩

set_option maxHeartbeats 800000 in
theorem clearB_any (w : World) (b off g1 fo : Nat) (V : Value) (h1 : w.cell? ⟨g1, 0, none⟩ = some (fnV fo)) (hv : w.cell? ⟨b, off, none⟩ = some V) (hf : w.frozen? ⟨b, off, none⟩ = false) (eo : Ent fo)
    (ho : ∀ w, Calls Tryz.prog fo #[ptr b] w fun e w' => e = .returned (.pointer (some ⟨b, off, none⟩)) ∧ w' = w) :
    Calls Tryz.prog 108 #[ptr b, ptr g1] w fun e w' => e = .returned (.tuple #[]) ∧ w' = w.setCell ⟨b, off, none⟩ (nilS) := by
  have HO := hid ho
  clear ho
  go_enter Tryz.func108, Tryz.ntmps108
  go_wp2_with (refine callFn fo (.tmp 4) _ _ [ptr b] rfl rfl rfl rfl (eo _) _ (HO.out _) ?_; rintro e w4 ⟨rfl, hw⟩; refine Or.inl ⟨_, rfl, ?_⟩; rw [hw]; clear hw w4)
  first | go_end0 | refine bodyPost_ret (results_none rfl _ _ _) rfl ?_
  exact ⟨rfl, rfl⟩

set_option maxHeartbeats 800000 in
theorem clearH_any (w : World) (b off g1 fo : Nat) (V : Value) (h1 : w.cell? ⟨g1, 0, none⟩ = some (fnV fo)) (hv : w.cell? ⟨b, off, none⟩ = some V) (hf : w.frozen? ⟨b, off, none⟩ = false) (eo : Ent fo)
    (ho : ∀ w, Calls Tryz.prog fo #[ptr b] w fun e w' => e = .returned (.pointer (some ⟨b, off, none⟩)) ∧ w' = w) :
    Calls Tryz.prog 112 #[ptr b, ptr g1] w fun e w' => e = .returned (.tuple #[]) ∧ w' = w.setCell ⟨b, off, none⟩ (nilS) := by
  have HO := hid ho
  clear ho
  go_enter Tryz.func112, Tryz.ntmps112
  go_wp2_with (refine callFn fo (.tmp 4) _ _ [ptr b] rfl rfl rfl rfl (eo _) _ (HO.out _) ?_; rintro e w4 ⟨rfl, hw⟩; refine Or.inl ⟨_, rfl, ?_⟩; rw [hw]; clear hw w4)
  first | go_end0 | refine bodyPost_ret (results_none rfl _ _ _) rfl ?_
  exact ⟨rfl, rfl⟩

set_option maxHeartbeats 800000 in
theorem clearO_any (w : World) (b off g1 fo : Nat) (V : Value) (h1 : w.cell? ⟨g1, 0, none⟩ = some (fnV fo)) (hv : w.cell? ⟨b, off, none⟩ = some V) (hf : w.frozen? ⟨b, off, none⟩ = false) (eo : Ent fo)
    (ho : ∀ w, Calls Tryz.prog fo #[ptr b] w fun e w' => e = .returned (.pointer (some ⟨b, off, none⟩)) ∧ w' = w) :
    Calls Tryz.prog 119 #[ptr b, ptr g1] w fun e w' => e = .returned (.tuple #[]) ∧ w' = w.setCell ⟨b, off, none⟩ (.bool false) := by
  have HO := hid ho
  clear ho
  go_enter Tryz.func119, Tryz.ntmps119
  go_wp2_with (refine callFn fo (.tmp 4) _ _ [ptr b] rfl rfl rfl rfl (eo _) _ (HO.out _) ?_; rintro e w4 ⟨rfl, hw⟩; refine Or.inl ⟨_, rfl, ?_⟩; rw [hw]; clear hw w4)
  first | go_end0 | refine bodyPost_ret (results_none rfl _ _ _) rfl ?_
  exact ⟨rfl, rfl⟩

structure HsC (g g1 : Nat) (cs : Array Value) (fo : Nat) (w : World) : Prop where
  c1 : w.cell? ⟨g1, 0, none⟩ = some (fnV fo)
  cv : w.rangeAt g 0 cs.toList
theorem zero_rl : rlc zRl nilS = #[.int .i64 0, .int .u64 0, .int .u64 0, .int .u64 0, .int .u64 0, .int .u64 0, .int .u64 0, .int .u64 0, .int .u64 0, .int .u64 0, .int .u64 0, .int .u64 0, .int .u64 0, .int .u64 0, .int .u64 0, .int .u64 0, .int .u64 0, .int .u64 0, .int .u64 0, .int .u64 0, .int .u64 0, .int .u64 0, .int .u64 0, nilS, .int .u64 0] := by kernel_rfl
set_option maxHeartbeats 1600000 in
set_option maxRecDepth 100000 in
theorem clearR_any (w : World) (b off g1 fo : Nat) (h1 : w.cell? ⟨g1, 0, none⟩ = some (fnV fo)) (hv : w.there b off 25) (hne : g1 ≠ b) (hb : b < w.heap.size) (eo : Ent fo)
    (ho : ∀ w, Calls Tryz.prog fo #[ptr b] w fun e w' => e = .returned (.pointer (some ⟨b, off, none⟩)) ∧ w' = w) :
    Calls Tryz.prog 99 #[ptr b, ptr g1] w fun e w' => e = .returned (.tuple #[]) ∧ ∃ W, Below w.heap.size w W ∧ w' = W.setCells b off (rlc zRl nilS).toList := by
  have HO := hid ho
  have hg1 := cell_lt h1
  have hb0 : Below w.heap.size w (w.alloc (.cells (rlc zRl nilS) 31)) := (Below.refl _ _).alloc (Nat.le_refl _) _
  have HB := hid hb0
  have HS : Hid (HsC w.heap.size g1 (rlc zRl nilS) fo (w.alloc (.cells (rlc zRl nilS) 31))) := by
    refine ⟨?_, fun j v hj => ?_⟩
    · rw [cell_same (hb0.block g1 hg1)]; exact h1
    · rw [Nat.zero_add, cell_of_row _ _ j _ _ _ (heap_alloc_new _ _)]
      simpa using hj
  have HT : Hid ((w.alloc (.cells (rlc zRl nilS) 31)).drew.there b off (rlc zRl nilS).size) := fun j hj => by
    rw [rlc_size] at hj
    have h2 := hv j hj
    have hc := hb0.drew.cell (p := ⟨b, off + j, none⟩) hb
    have hf := hb0.drew.frozen (p := ⟨b, off + j, none⟩) hb
    exact ⟨by rw [hc]; exact h2.1, by rw [hf]; exact h2.2⟩
  have HKp : Hid (∀ k, k ≠ b → ((w.alloc (.cells (rlc zRl nilS) 31)).drew.setCells b off (rlc zRl nilS).toList).heap[k]? = (w.alloc (.cells (rlc zRl nilS) 31)).heap[k]?) := fun k hk => (setCells_below b _ off _).2.2.2.2 k hk
  clear ho h1 hv hb0
  go_enter Tryz.func99, Tryz.ntmps99
  go_upto_region 1 with fail
  rw [← zero_rl]
  generalize w.alloc (.cells (rlc zRl nilS) 31) = W at HB HS HT HKp ⊢
  refine wp_region_held_drew (S := HsC w.heap.size g1 (rlc zRl nilS) fo) (by kernel_rfl) ⟨HS.out.c1, HS.out.cv⟩ (fun hHeld => ?_)
  refine wpAnyH_take (i := 0) (v := ?_) rfl (by kernel_rfl) (by kernel_rfl) (by kernel_rfl) (fun _ _ _ h => h) (Or.inl ⟨by rfl, ?_⟩) hHeld ?_
  rotate_left
  · intro w' hSw
    have c1 := hSw.c1
    clear hSw
    go_simp
    first | done | with_reducible rfl
  simp only [Act.put, List.getElem_toArray, List.getElem_cons_zero, List.setIfInBounds_toArray, List.set_cons_zero, List.set_cons_succ]
  refine wpAnyH_take (i := 1) (v := ?_) rfl (by kernel_rfl) (by kernel_rfl) (by kernel_rfl) (fun _ _ _ h => h) (Or.inl ⟨by rfl, ?_⟩) hHeld ?_
  rotate_left
  · intro w' hSw
    go_simp
    first | done | with_reducible rfl
  simp only [Act.put, List.getElem_toArray, List.getElem_cons_succ, List.getElem_cons_zero, List.setIfInBounds_toArray, List.set_cons_zero, List.set_cons_succ]
  refine wpAnyH_take (i := 3) rfl (by kernel_rfl) (by kernel_rfl) (by kernel_rfl) (fun _ _ _ h => h) (yieldsIf_load_mid rfl 31 (.tmp 3) rfl w.heap.size 0 rfl (rlc zRl nilS).toList _ (fun _ h => h.cv) Tryz.underlying31 rfl (by rw [Array.length_toList, rlc_size]; kernel_rfl)) hHeld ?_
  rw [show (rlc zRl nilS).toList.toArray = rlc zRl nilS by simp]
  simp only [Act.put, List.getElem_toArray, List.getElem_cons_succ, List.getElem_cons_zero, List.setIfInBounds_toArray, List.set_cons_zero, List.set_cons_succ]
  refine wpAnyH_ready (rs := [2]) (by kernel_rfl) (by simp) ?_
  refine AllReadyH.cons rfl (fun K hK => ?_) AllReadyH.nil
  refine stepFn fo (.tmp 4) _ _ [ptr b] rfl rfl rfl rfl (eo _) _ (HO.out _) ?_
  rintro e w4 ⟨rfl, hw⟩
  refine Or.inl ⟨_, rfl, ?_⟩
  rw [hw]
  refine hK.out _ _ hHeld (fun hHeld => ?_)
  clear hK K hw w4
  simp only [Act.put, List.getElem_toArray, List.getElem_cons_succ, List.getElem_cons_zero, List.setIfInBounds_toArray, List.set_cons_zero, List.set_cons_succ]
  refine wpAnyH_take (i := 4) (v := ?_) rfl (by kernel_rfl) (by kernel_rfl) (by kernel_rfl) (fun _ _ _ h => h) (Or.inl ⟨by rfl, ?_⟩) hHeld ?_
  rotate_left
  · intro w' hSw
    go_simp
    first | done | with_reducible rfl
  simp only [Act.put, List.getElem_toArray, List.getElem_cons_succ, List.getElem_cons_zero, List.setIfInBounds_toArray, List.set_cons_zero, List.set_cons_succ]
  refine wpAnyH_ready (rs := [5]) (by kernel_rfl) (by simp) ?_
  refine AllReadyH.cons rfl (fun K hK => ?_) AllReadyH.nil
  rw [if_pos (by rfl)]
  refine wp_store_mid 31 (.tmp 8) (.tmp 7) rfl b off (rlc zRl nilS) rfl rfl HT.out (sizeRl zRl nilS) (rlc_one zRl nilS rfl) ?_
  have hsame : HsC w.heap.size g1 (rlc zRl nilS) fo (W.drew.setCells b off (rlc zRl nilS).toList) := by
    refine ⟨?_, fun j v hj => ?_⟩
    · rw [cell_same (HKp.out g1 hne)]; exact HS.out.c1
    · rw [cell_same (HKp.out w.heap.size (by omega))]; exact HS.out.cv j v hj
  refine hK.out _ _ hsame (fun hHeld => ?_)
  clear hK K
  simp only [Act.put, List.getElem_toArray, List.getElem_cons_succ, List.getElem_cons_zero]
  refine wpAnyH_done (by kernel_rfl) ?_ _
  go_wp2
  first | go_end0 | refine bodyPost_ret (results_none rfl _ _ _) rfl ?_
  exact ⟨rfl, W.drew, HB.out.drew, rfl⟩
end Go.Proofs.YtllbbbfkdgjffaaGreatDoor
namespace Go.Proofs.YtllbbbfkdgjffaaGreatDoor
open Go.RowKit

theorem set_rl (m : Ms) (s : Sls) (r : Rl) (u : Value) (w : World) (b : Nat) (h : MB w b m s) : MB (w.setCells b 3 (rlc r u).toList) b { m with r := r } { s with cp := u } := by
  obtain ⟨cur', h1, h2, h3, h4⟩ := setCells_all b (rlc r u).toList 3 w _ _ h
  rw [Array.length_toList, rlc_size] at h3 h4
  show _ = _
  rw [h1]
  obtain ⟨a0, a1, a2, a28, a29, a30, a31, a32, a33, a34, a35⟩ := msc_at m s
  have e : cur' = msc { m with r := r } { s with cp := u } := by
    refine msc_ext (by rw [h2, msc_size]) ?_ ?_ ?_ (fun k hk => ?_) ?_ ?_ ?_ ?_ ?_ ?_ ?_ ?_
    · rw [h3 0 (by omega), a0]
    · rw [h3 1 (by omega), a1]
    · rw [h3 2 (by omega), a2]
    · rw [h4 k (by omega) (by rw [msc_size]; omega)]
      simp
    · rw [h3 28 (by omega), a28]
    · rw [h3 29 (by omega), a29]
    · rw [h3 30 (by omega), a30]
    · rw [h3 31 (by omega), a31]
    · rw [h3 32 (by omega), a32]
    · rw [h3 33 (by omega), a33]
    · rw [h3 34 (by omega), a34]
    · rw [h3 35 (by omega), a35]
  rw [e]
/-- What a cleared or read field's store leaves. -/
theorem only_set {w : World} {b off : Nat} {v : Value} : Only (fun x => x = b ∨ w.heap.size ≤ x) w (w.setCell ⟨b, off, none⟩ v) := (Only.refl _ _).setCell (p := ⟨b, off, none⟩) (Or.inl rfl) v
set_option maxRecDepth 100000 in
theorem entO (k : Fk) : Ent (fnO k) := by cases k <;> exact fun _ _ => rfl
set_option maxRecDepth 100000 in
theorem entW (k : Fk) : Ent (fnW k) := by cases k <;> exact fun _ _ => rfl
set_option maxRecDepth 100000 in
theorem entR (k : Fk) : Ent (fnR k) := by cases k <;> exact fun _ _ => rfl
/-- A FIELD IS MADE NOTHING. -/
theorem clear_any {T : Nat → Prop} (k : Fk) (w : World) (b g1 g2 g3 : Nat) (m : Ms) (s : Sls) (hM : MB w b m s) (hP : Pv T w (fnO k) (fnW k) (fnR k) g1 g2 g3) (hT : ¬ T b) :
    Calls Tryz.prog (fn1 k) #[ptr b, ptr g1] w fun e w' => e = .returned (.tuple #[]) ∧ Only (fun x => x = b ∨ w.heap.size ≤ x) w w' ∧ MB w' b (clF m k) (clS s k) := by
  obtain ⟨c0, c1, c2, c28, c29, c30, c31, c32, c33, c34, c35⟩ := mb_cells hM
  have hb : b < w.heap.size := (Array.getElem?_eq_some_iff.1 hM).1
  cases k
  · exact (clearU_any w b 30 g1 _ _ hP.c1 c30 (mb_free hM _) (entO .sw) (fun w => of_any .sw b w)).mono fun e w' ⟨h1, h2⟩ => ⟨h1, by rw [h2]; exact only_set, by rw [h2]; exact mb_set hM (set_sw m s 0)⟩
  · exact (clearUs_any w b 31 g1 _ _ hP.c1 c31 (mb_free hM _) (entO .ps) (fun w => of_any .ps b w)).mono fun e w' ⟨h1, h2⟩ => ⟨h1, by rw [h2]; exact only_set, by rw [h2]; exact mb_set hM (set_ps m s [] nilS)⟩
  · exact (clearUs_any w b 32 g1 _ _ hP.c1 c32 (mb_free hM _) (entO .ed) (fun w => of_any .ed b w)).mono fun e w' ⟨h1, h2⟩ => ⟨h1, by rw [h2]; exact only_set, by rw [h2]; exact mb_set hM (set_ed m s [] nilS)⟩
  · exact (clearI_any w b 2 g1 _ _ hP.c1 c2 (mb_free hM _) (entO .dw) (fun w => of_any .dw b w)).mono fun e w' ⟨h1, h2⟩ => ⟨h1, by rw [h2]; exact only_set, by rw [h2]; exact mb_set hM (set_dw m s 0)⟩
  · refine (clearR_any w b 3 g1 _ hP.c1 (fun j hj => ⟨?_, mb_free hM _⟩) (fun e => hT (e ▸ hP.t1)) hb (entO .rl) (fun w => of_any .rl b w)).mono fun e w' ⟨h1, W, h2, h3⟩ => ⟨h1, ?_, ?_⟩
    · rw [cell_of_row w b (3 + j) _ _ _ hM, msc_rl m s j hj, Array.getElem?_eq_getElem (by rw [rlc_size]; exact hj)]; rfl
    · rw [h3]
      have hq := setCells_below b (rlc zRl nilS).toList 3 W
      refine (Only.of (S := fun x => x = b ∨ w.heap.size ≤ x) h2 (fun k hk => Or.inr hk)).trans ⟨hq.1, hq.2.1, hq.2.2.1, hq.2.2.2.1, fun k hk => hq.2.2.2.2 k fun e => hk (Or.inl e)⟩
    · rw [h3]
      exact set_rl m s zRl nilS W b (show _ = _ by rw [h2.block b hb]; exact hM)
  · exact (clearU_any w b 28 g1 _ _ hP.c1 c28 (mb_free hM _) (entO .po) (fun w => of_any .po b w)).mono fun e w' ⟨h1, h2⟩ => ⟨h1, by rw [h2]; exact only_set, by rw [h2]; exact mb_set hM (set_po m s 0)⟩
  · exact (clearU_any w b 28 g1 _ _ hP.c1 c28 (mb_free hM _) (entO .mo) (fun w => of_any .mo b w)).mono fun e w' ⟨h1, h2⟩ => ⟨h1, by rw [h2]; exact only_set, by rw [h2]; exact mb_set hM (set_po m s 0)⟩
  · exact (clearB_any w b 33 g1 _ _ hP.c1 c33 (mb_free hM _) (entO .fr) (fun w => of_any .fr b w)).mono fun e w' ⟨h1, h2⟩ => ⟨h1, by rw [h2]; exact only_set, by rw [h2]; exact mb_set hM (set_fr m s [] nilS)⟩
  · exact (clearH_any w b 34 g1 _ _ hP.c1 c34 (mb_free hM _) (entO .hs) (fun w => of_any .hs b w)).mono fun e w' ⟨h1, h2⟩ => ⟨h1, by rw [h2]; exact only_set, by rw [h2]; exact mb_set hM (set_hs m s [] nilS)⟩
  · exact (clearO_any w b 29 g1 _ _ hP.c1 c29 (mb_free hM _) (entO .up) (fun w => of_any .up b w)).mono fun e w' ⟨h1, h2⟩ => ⟨h1, by rw [h2]; exact only_set, by rw [h2]; exact mb_set hM (set_up m s false)⟩
  · exact (clearU_any w b 35 g1 _ _ hP.c1 c35 (mb_free hM _) (entO .co) (fun w => of_any .co b w)).mono fun e w' ⟨h1, h2⟩ => ⟨h1, by rw [h2]; exact only_set, by rw [h2]; exact mb_set hM (set_co m s 0)⟩

section
variable {S : Nat → Prop} {c m0 : Nat}
theorem only_drew {T : Nat → Prop} (w : World) : Only T w w.drew := (Only.refl T w).drew
/-- A FIELD IS WRITTEN. -/
theorem wr_any {T T' : Nat → Prop} {w : World} {xs : List Int} (k : Fk) (b g1 g2 g3 : Nat) (m : Ms) (s : Sls) (hW : Wt S w c m0 xs) (hM : MB w b m s) (hs : Mss T w m s) (hf : m.Fit) (hT : ∀ x, T x → ¬ S x ∧ x ≠ c) (hb : ¬ OS c S b) (hP : Pv T' w (fnO k) (fnW k) (fnR k) g1 g2 g3) (hT' : ∀ x, T' x → ¬ OS c S x) :
    Calls Tryz.prog (fn2 k) #[ptr c, ptr b, ptr g2, ptr g1] w (WrP S c m0 xs (encF m k) (okF m k) w) := by
  obtain ⟨c0, c1, c2, c28, c29, c30, c31, c32, c33, c34, c35⟩ := mb_cells hM
  have q1 := hT' g1 hP.t1
  have q2 := hT' g2 hP.t2
  have hd : ∀ b, b < w.heap.size → T b → T b ∧ w.drew.heap[b]? = w.heap[b]? := fun b _ h => ⟨h, rfl⟩
  have okt : ∀ l : List Int, l.all okSh = true := fun l => List.all_eq_true.2 fun _ _ => rfl
  cases k
  · exact writeU_any b 30 g1 g2 _ _ (.int .u16 m.sw) ⟨hP.c1, hP.c2, c30⟩ hb q1 q2 (entO .sw) (entW .sw) (fun w => of_any .sw b w) ((wshort_any hW.drew m.sw hf.sw).mono fun e w' h => h.from (only_drew w))
  · refine writeUs_any b 31 g1 g2 _ _ s.ps ⟨hP.c1, hP.c2, c31⟩ hb q1 q2 (entO .ps) (entW .ps) (fun w => of_any .ps b w) ((wshorts_any hW.drew s.ps m.ps (Shs.carry hd hs.ps) hT).mono fun e w' h => ?_)
    rw [okt] at h
    exact h.from (only_drew w)
  · refine writeUs_any b 32 g1 g2 _ _ s.ed ⟨hP.c1, hP.c2, c32⟩ hb q1 q2 (entO .ed) (entW .ed) (fun w => of_any .ed b w) ((wshorts_any hW.drew s.ed m.ed (Shs.carry hd hs.ed) hT).mono fun e w' h => ?_)
    rw [okt] at h
    exact h.from (only_drew w)
  · exact writeI_any b 2 g1 g2 _ _ (.int .i8 m.dw) ⟨hP.c1, hP.c2, c2⟩ hb q1 q2 (entO .dw) (entW .dw) (fun w => of_any .dw b w) ((wdo_any hW.drew m.dw hf.dw).mono fun e w' h => h.from (only_drew w))
  · exact writeR_any b 3 g1 g2 _ _ (rlc m.r s.cp) (rlc_size _ _) ⟨hP.c1, hP.c2, mb_range hM⟩ hb q1 q2 (entO .rl) (entW .rl) (fun w => of_any .rl b w) ((wrule_any hW.drew m.r s.cp (Cps.carry hd hs.cp) hf.r hT).mono fun e w' h => h.from (only_drew w))
  · exact writeU_any b 28 g1 g2 _ _ (.int .u16 m.po) ⟨hP.c1, hP.c2, c28⟩ hb q1 q2 (entO .po) (entW .po) (fun w => of_any .po b w) ((wshort_any hW.drew m.po hf.po).mono fun e w' h => h.from (only_drew w))
  · exact writeU_any b 28 g1 g2 _ _ (.int .u16 m.po) ⟨hP.c1, hP.c2, c28⟩ hb q1 q2 (entO .mo) (entW .mo) (fun w => of_any .mo b w) ((wmore_any hW.drew m.po hf.po).mono fun e w' h => h.from (only_drew w))
  · exact writeB_any b 33 g1 g2 _ _ s.fr ⟨hP.c1, hP.c2, c33⟩ hb q1 q2 (entO .fr) (entW .fr) (fun w => of_any .fr b w) ((wframe_any hW.drew s.fr m.fr (hs.fr.carry hd) hT).mono fun e w' h => h.from (only_drew w))
  · exact writeH_any b 34 g1 g2 _ _ s.hs ⟨hP.c1, hP.c2, c34⟩ hb q1 q2 (entO .hs) (entW .hs) (fun w => of_any .hs b w) ((whelds_any hW.drew s.hs m.hs (Hds.carry hd hs.hs) hT).mono fun e w' h => h.from (only_drew w))
  · exact writeO_any b 29 g1 g2 _ _ (.bool m.up) ⟨hP.c1, hP.c2, c29⟩ hb q1 q2 (entO .up) (entW .up) (fun w => of_any .up b w) ((wup_any hW.drew m.up).mono fun e w' h => h.from (only_drew w))
  · exact writeU_any b 35 g1 g2 _ _ (.int .u16 m.co) ⟨hP.c1, hP.c2, c35⟩ hb q1 q2 (entO .co) (entW .co) (fun w => of_any .co b w) ((wshort_any hW.drew m.co hf.co).mono fun e w' h => h.from (only_drew w))
end
end Go.Proofs.YtllbbbfkdgjffaaGreatDoor
namespace Go.Proofs.YtllbbbfkdgjffaaGreatDoor
open Go.RowKit

theorem zero26 : (Tryz.prog.info? 28).map (fun i => (i.zero, i.size)) = some (some (mv zf), 22) := by kernel_rfl
theorem build26 (w : World) : (Instr.build 28 #[]).run Tryz.prog w = .ok (mv zf) w := by
  show _ = _
  kernel_rfl
section
variable {ops : Array Oper} {rest : List Oper} {o : Oper} {a : Act} {w : World} {Q : Exit → Act → World → Prop}
theorem bld26 (ho : o.op = .build 28 #[]) (hw : Region.wanted o (yielded ops a.tmps) = true)
    (h : wpList Tryz.prog ops Q rest (a.put o.dst (mv zf)) w) : wpList Tryz.prog ops Q (o :: rest) a w := by
  unfold wpList
  rw [if_pos hw]
  refine Or.inl ?_
  unfold Oper.wp execOp
  have := build26 w
  simp only [ho, List.map_toArray, List.map_nil, Sem.run_bind, Sem.run_pure, Result.andThen_ok, this]
  exact h
end
def eqR (n : Nat) (a b : Nat → Int) : Bool := (List.range n).all fun i => a i == b i
theorem eqR_iff {n : Nat} {a b : Nat → Int} : eqR n a b = true ↔ ∀ k, k < n → a k = b k := by
  simp [eqR]
def eqM (a b : Nat → Int) : Bool := eqR 11 a b && eqR 11 (fun k => a (11 + k)) (fun k => b (11 + k))
theorem eqM_iff {a b : Nat → Int} : eqM a b = true ↔ ∀ k, k < 22 → a k = b k := by
  simp only [eqM, Bool.and_eq_true, eqR_iff]
  constructor
  · rintro ⟨h1, h2⟩ k hk
    by_cases h : k < 11
    · exact h1 k h
    · have := h2 (k - 11) (by omega)
      rw [show 11 + (k - 11) = k by omega] at this
      exact this
  · intro h
    exact ⟨fun k hk => h k (by omega), fun k hk => h (11 + k) (by omega)⟩
theorem eqM_refl (a : Nat → Int) : eqM a a = true := eqM_iff.2 fun _ _ => rfl
theorem plain22 : Tryz.prog.plainKey 24 = true := by kernel_rfl
theorem c22 : Tryz.prog.cellsOf 24 = 1 := by kernel_rfl
theorem eqItems_run (a b : Nat → Int) (w : World) (d : Nat) : ∀ is : List Nat, (∀ i ∈ is, i < 11) →
    (Op.eqItems (d + 1) 24 1 (row 11 a) (row 11 b) is).run Tryz.prog w = .ok (is.all fun i => a i == b i) w
  | [], _ => by simp [Op.eqItems]
  | i :: is, hall => by
    have hi := hall i (by simp)
    have p1 := run_part_plain (P := Tryz.prog) w plain22 (row_at 11 a i hi)
    have p2 := run_part_plain (P := Tryz.prog) w plain22 (row_at 11 b i hi)
    simp only [Op.eqItems, Sem.run_bind, Nat.mul_one, p1, p2, Result.andThen_ok, run_equalIn_int w d 24 .u64 .u64 (a i) (b i) Tryz.underlying24]
    cases hab : (a i == b i)
    · simp [hab]
    · simp only [Bool.not_true, Bool.false_eq_true, if_false, List.all_cons, hab, Bool.true_and]
      exact eqItems_run a b w d is (fun j hj => hall j (by simp [hj]))
theorem info22 : ∃ i, Tryz.prog.info? 24 = some i := by
  have h : (Tryz.prog.info? 24).isSome = true := by kernel_rfl
  exact Option.isSome_iff_exists.1 h
theorem eqA_run (d : Nat) (a b : Nat → Int) (w : World) : (Op.equalIn (d + 2) 26 (hv a) (hv b)).run Tryz.prog w = .ok (eqR 11 a b) w := by
  obtain ⟨i, hi⟩ := info22
  rw [run_equalIn_array w (d + 1) _ _ Tryz.underlying26 hi, c22, eqItems_run a b w d (List.range 11) (fun i hi => List.mem_range.1 hi)]
  rfl
theorem row_head (m : Nat → Int) : (row 22 m).extract 0 11 = row 11 m := by
  refine row_ext (by simp [row_size]) fun k hk => ?_
  rw [Array.getElem?_extract, if_pos (by simp [row_size]; omega), Nat.zero_add, row_at 22 m k (by omega)]
theorem row_tail (m : Nat → Int) : (row 22 m).extract 11 22 = row 11 fun k => m (11 + k) := by
  refine row_ext (by simp [row_size]) fun k hk => ?_
  rw [Array.getElem?_extract, if_pos (by simp [row_size]; omega), row_at 22 m (11 + k) (by omega)]
theorem isAgg24 (w : World) : (isAgg 26).run Tryz.prog w = .ok true w := by
  unfold isAgg
  rw [Sem.run_bind, run_underlying Tryz.underlying26 w]
  rfl
theorem sz24 (w : World) : (sizeOf 26).run Tryz.prog w = .ok 11 w := by
  have h := size24 zf
  rw [row_size] at h
  cases hq : Tryz.prog.info? 26 with
  | none => simp [hq] at h
  | some i =>
    have hs : i.size = 11 := by simpa [hq] using h
    simp [sizeOf, typeInfo, hq, hs]
theorem part0 (m : Nat → Int) (w : World) : (Go.part 26 (row 22 m) 0).run Tryz.prog w = .ok (hv m) w := by
  simp only [Go.part, Sem.run_bind, isAgg24, Result.andThen_ok, if_true, sz24, Sem.run_pure, Nat.zero_add, row_head]
theorem part11 (m : Nat → Int) (w : World) : (Go.part 26 (row 22 m) 11).run Tryz.prog w = .ok (hv fun k => m (11 + k)) w := by
  simp only [Go.part, Sem.run_bind, isAgg24, Result.andThen_ok, if_true, sz24, Sem.run_pure, show 11 + 11 = 22 from rfl, row_tail]
theorem fields26 : ((Tryz.prog.fieldsOf 28).toList.map fun f => (f.name == "_", f.type, f.offset)) = [(false, 26, 0), (false, 26, 11)] := by kernel_rfl
theorem stood26 : Tryz.prog.stoodInHeld 28 = false := by kernel_rfl
theorem under26 : Tryz.prog.underlying 28 = some (.struct (Tryz.prog.fieldsOf 28)) := by kernel_rfl
theorem guard26 : Tryz.prog.eqGuardType Tryz.prog.depth 28 = false := by kernel_rfl
theorem eqS_run (a b : Nat → Int) (w : World) : (Op.equalIn 10000 28 (mv a) (mv b)).run Tryz.prog w = .ok (eqM a b) w := by
  rw [show (10000 : Nat) = 9999 + 1 from rfl, run_equalIn_struct w 9999 28 _ _ under26 stood26]
  have hf := fields26
  match hq : (Tryz.prog.fieldsOf 28).toList with
  | [] => rw [hq] at hf; simp at hf
  | [x] => rw [hq] at hf; simp at hf
  | x :: y :: z :: r => rw [hq] at hf; simp at hf
  | [x, y] =>
    rw [hq] at hf
    simp only [List.map_cons, List.map_nil, List.cons.injEq, Prod.mk.injEq, beq_eq_false_iff_ne, and_true] at hf
    obtain ⟨⟨n1, t1, o1⟩, n2, t2, o2⟩ := hf
    simp only [Op.eqFields, if_pos n1, if_pos n2, t1, o1, t2, o2, Sem.run_bind, part0, part11, Result.andThen_ok, show (9999 : Nat) = 9997 + 2 from rfl, eqA_run, Sem.run_ite, Sem.run_pure]
    unfold eqM
    cases eqR 11 a b
    · simp
    · simp only [Bool.not_true, Bool.false_eq_true, if_false, Bool.true_and]
      cases eqR 11 (fun k => a (11 + k)) fun k => b (11 + k) <;> simp

section
variable {ops : Array Oper} {rest : List Oper} {o : Oper} {a : Act} {w : World} {Q : Exit → Act → World → Prop}
theorem eql26 (x y : Operand) (ho : o.op = .binOp .eql 28 x y 28) (p q : Nat → Int) (hx : a.eval x = mv p) (hy : a.eval y = mv q) (hw : Region.wanted o (yielded ops a.tmps) = true)
    (h : wpList Tryz.prog ops Q rest (a.put o.dst (.bool (eqM p q))) w) : wpList Tryz.prog ops Q (o :: rest) a w := by
  unfold wpList
  rw [if_pos hw]
  refine Or.inl ?_
  unfold Oper.wp execOp
  simp only [ho, hx, hy, Sem.run_bind, Sem.run_pure, Result.andThen_ok, run_eqGuard_agg w _ _ _ _ _ _ guard26, run_eql_struct, eqS_run]
  exact h
theorem neq26 (x y : Operand) (ho : o.op = .binOp .neq 28 x y 28) (p q : Nat → Int) (hx : a.eval x = mv p) (hy : a.eval y = mv q) (hw : Region.wanted o (yielded ops a.tmps) = true)
    (h : wpList Tryz.prog ops Q rest (a.put o.dst (.bool (!eqM p q))) w) : wpList Tryz.prog ops Q (o :: rest) a w := by
  unfold wpList
  rw [if_pos hw]
  refine Or.inl ?_
  unfold Oper.wp execOp
  simp only [ho, hx, hy, Sem.run_bind, Sem.run_pure, Result.andThen_ok, run_eqGuard_agg w _ _ _ _ _ _ guard26, run_neq_struct, eqS_run]
  exact h
end
end Go.Proofs.YtllbbbfkdgjffaaGreatDoor
namespace Go.Proofs.YtllbbbfkdgjffaaGreatDoor
open Go.RowKit

theorem allU_eqM (f : Nat → Int) : allU (fun k => f k == 0) 22 = eqM f zf := by
  rw [Bool.eq_iff_iff, allU_iff, eqM_iff]
  constructor
  · intro h k hk
    have := h k hk
    simpa [zf] using this
  · intro h k hk
    have := h k hk
    simpa [zf] using this

set_option maxHeartbeats 1600000 in
set_option maxRecDepth 100000 in
theorem isBlankRule_any {T : Nat → Prop} (r : Rl) (u : Value) (w : World) (hu : Cps T w u r.cp) :
    Calls Tryz.prog 45 #[.agg (rlc r u)] w fun e w' => e = .returned (.bool (blRl r)) ∧ Below w.heap.size w w' := by
  have hg1 : (w.alloc (.cells (rlc r u) 31)).heap[w.heap.size]? = some (.cells (rlc r u) 31 (0, 0)) := heap_alloc_new _ _
  have HB := hid ((Below.refl w.heap.size w).alloc (Nat.le_refl _) (.cells (rlc r u) 31))
  obtain ⟨q0, q1, q2, Q3⟩ := rl_cells hg1
  obtain ⟨ua, uc, rfl, -⟩ := hu.form
  have hlen := hu.len
  obtain ⟨W, HWe⟩ : ∃ W, Hid (w.alloc (.cells (rlc r (.slice ua r.cp.length uc)) 31) = W) := ⟨_, rfl⟩
  rw [HWe.out] at HB q0 q1 q2 Q3
  have HBl : Hid (blRl r = (decide (r.rk = 0) && (eqM r.mt zf && (decide (r.cp.length = 0) && decide (r.ck = 0))))) := by
    show _ = _
    unfold blRl
    rw [allU_eqM]
  clear hg1 hu
  obtain ⟨x1, X1⟩ : ∃ x, Hid (decide (r.rk = 0) = x) := ⟨_, rfl⟩
  obtain ⟨x2, X2⟩ : ∃ x, Hid (eqM r.mt zf = x) := ⟨_, rfl⟩
  obtain ⟨x3, X3⟩ : ∃ x, Hid (decide (r.cp.length = 0) = x) := ⟨_, rfl⟩
  obtain ⟨x4, X4⟩ : ∃ x, Hid (decide (r.ck = 0) = x) := ⟨_, rfl⟩
  rw [X1.out, X2.out, X3.out, X4.out] at HBl
  have e1 : (r.rk == 0) = x1 := by rw [← X1.out]; rfl
  have e3 : (((r.cp.length : Nat) : Int) == 0) = x3 := by
    rw [← X3.out, Bool.eq_iff_iff]; simp
  have e4 : (r.ck == 0) = x4 := by rw [← X4.out]; rfl
  clear X1 X3 X4
  cases x1
  · go_enter Tryz.func45, Tryz.ntmps45
    go_upto_region 1 with fail
    rw [HWe.out]
    go_wp2
    go_ret
    exact ⟨by rw [HBl.out]; rfl, HB.out⟩
  · cases x2
    · go_enter Tryz.func45, Tryz.ntmps45
      go_upto_region 1 with fail
      rw [HWe.out]
      go_wp2_with (first
        | (refine ldMid 28 (.tmp 7) rfl rfl _ 1 rfl (row 22 r.mt) _ Tryz.underlying28 rfl (sizeMt r.mt) Q3.out ?_)
        | (refine bld26 rfl rfl ?_)
        | (refine eql26 (.tmp 8) (.tmp 9) rfl r.mt zf rfl rfl rfl ?_; rw [X2.out]))
      go_ret
      exact ⟨by rw [HBl.out]; rfl, HB.out⟩
    · cases x3
      · go_enter Tryz.func45, Tryz.ntmps45
        go_upto_region 1 with fail
        rw [HWe.out]
        go_wp2_with (first
          | (refine ldMid 28 (.tmp 7) rfl rfl _ 1 rfl (row 22 r.mt) _ Tryz.underlying28 rfl (sizeMt r.mt) Q3.out ?_)
          | (refine bld26 rfl rfl ?_)
          | (refine eql26 (.tmp 8) (.tmp 9) rfl r.mt zf rfl rfl rfl ?_; rw [X2.out]))
        go_ret
        exact ⟨by rw [HBl.out]; rfl, HB.out⟩
      · go_enter Tryz.func45, Tryz.ntmps45
        go_upto_region 1 with fail
        rw [HWe.out]
        go_wp2_with (first
          | (refine ldMid 28 (.tmp 7) rfl rfl _ 1 rfl (row 22 r.mt) _ Tryz.underlying28 rfl (sizeMt r.mt) Q3.out ?_)
          | (refine bld26 rfl rfl ?_)
          | (refine eql26 (.tmp 8) (.tmp 9) rfl r.mt zf rfl rfl rfl ?_; rw [X2.out]))
        go_ret
        exact ⟨by rw [HBl.out]; rfl, HB.out⟩
end Go.Proofs.YtllbbbfkdgjffaaGreatDoor
