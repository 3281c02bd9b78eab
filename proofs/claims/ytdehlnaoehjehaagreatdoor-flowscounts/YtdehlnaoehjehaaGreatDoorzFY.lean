/-
  Proved here: sums that stay at the end; a tally's add: its two counts are more, nothing else turns. Condition: the counts are of 64 bits.
-/
import Derived.Test.YtdehlnaoehjehaaGreatDoorzFX
namespace Go.Proofs.YtdehlnaoehjehaaGreatDoor
set_option maxRecDepth 100000
open Go.RowKit Go.Maps

/-- A sum that stays at the end. -/
def sumE (a b : Int) : Int := if 18446744073709551615 - a < b then 18446744073709551615 else a + b
theorem sumE_in {a b : Int} (ha : InB a) (hb : InB b) : InB (sumE a b) := by
  unfold sumE InB at *
  split <;> omega
theorem sum_any (a b : Int) (w : World) (ha : InB a) (hb : InB b) : Calls Tryz.prog 75 #[.int .u64 a, .int .u64 b] w fun e w' => e = .returned (.int .u64 (sumE a b)) ∧ w' = w := by
  obtain ⟨a0, a1⟩ := ha
  obtain ⟨b0, b1⟩ := hb
  have hw : IntKind.u64.wrap (18446744073709551615 - a) = 18446744073709551615 - a := by simp [IntKind.wrap, IntKind.bits, IntKind.signed]; omega
  by_cases h : 18446744073709551615 - a < b
  · have hd : decide (18446744073709551615 - a < b) = true := decide_eq_true h
    have HE : Hid (sumE a b = 18446744073709551615) := if_pos h
    clear h
    go_enter Tryz.func75, Tryz.ntmps75
    go_wp2
    go_ret
    exact ⟨by rw [HE.out]; rfl, rfl⟩
  · have hd : decide (18446744073709551615 - a < b) = false := decide_eq_false h
    have HE : Hid (sumE a b = a + b) := if_neg h
    have hw2 : IntKind.u64.wrap (a + b) = a + b := by simp [IntKind.wrap, IntKind.bits, IntKind.signed]; omega
    clear h
    go_enter Tryz.func75, Tryz.ntmps75
    go_wp2
    go_ret
    exact ⟨by rw [HE.out]; rfl, rfl⟩
/-- From w to w' nothing of old but block p has turned. -/
structure Tch (w : World) (p : Nat) (w' : World) : Prop where
  os : w'.os = w.os
  tape : w'.tape = w.tape
  output : w'.output = w.output
  size : w.heap.size ≤ w'.heap.size
  block : ∀ k, k < w.heap.size → k ≠ p → w'.heap[k]? = w.heap[k]?
theorem Tch.only {S : Nat → Prop} {w w' : World} {p : Nat} (h : Tch w p w') (hf : Fresh S w) (hp : S p) : Only S w w' := ⟨h.os, h.tape, h.output, h.size, fun k hk => by
  rcases Nat.lt_or_ge k w.heap.size with h1 | h1
  · exact h.block k h1 fun e => hk (e ▸ hp)
  · exact absurd (hf k h1) hk⟩
theorem stepLdU {ops : Array Oper} {o : Oper} {a : Act} {w : World} {Kt : Act → World → Prop} {Q : Exit → Act → World → Prop} {E : Prop} (x : Operand) (hop : o.op = .load 28 x) (hgd : o.guard = none) (b i : Nat) (n : Int) (hx : a.eval x = .pointer (some ⟨b, i, none⟩)) (hc : w.cell? ⟨b, i, none⟩ = some (.int .u64 n))
    (hk : Kt (a.put o.dst (.int .u64 n)) w) : if Region.wanted o (yielded ops a.tmps) = true then Oper.wp Tryz.prog o a w Kt Q else E := by
  have hw : Region.wanted o (yielded ops a.tmps) = true := by simp [Region.wanted, hgd]
  rw [if_pos hw]
  unfold Oper.wp execOp
  simp only [hop, hx]
  go_simp
  exact hk
/-- What the box holds. -/
structure Hta (b : Nat) (x y : Int) (w : World) : Prop where
  c1 : w.cell? ⟨b, 0, none⟩ = some (.int .u64 x)
  c2 : w.cell? ⟨b, 1, none⟩ = some (.int .u64 y)
theorem Hta.set {b p k : Nat} {x y : Int} {w : World} (h : Hta b x y w) (v : Value) (hne : b ≠ p) : Hta b x y (w.setCell ⟨p, k, none⟩ v) := ⟨(cell_same (heap_setCell_other w ⟨p, k, none⟩ b v hne)).trans h.c1, (cell_same (heap_setCell_other w ⟨p, k, none⟩ b v hne)).trans h.c2⟩
/-- What add leaves. -/
def YaP (w : World) (p : Nat) (cur : Array Value) (t : TypeId) (x y a b : Int) (e : Ending) (w' : World) : Prop := e = .returned (.tuple #[]) ∧ Tch w p w' ∧ w'.heap[p]? = some (.cells ((cur.setIfInBounds 0 (.int .u64 (sumE x a))).setIfInBounds 1 (.int .u64 (sumE y b))) t (0, 0))
set_option maxHeartbeats 1600000 in
set_option maxRecDepth 100000 in
theorem yadd_any (w : World) (p : Nat) (cur : Array Value) (t : TypeId) (x y a b : Int) (h : w.heap[p]? = some (.cells cur t (0, 0))) (h0 : cur[0]? = some (.int .u64 x)) (h1 : cur[1]? = some (.int .u64 y)) (hx : InB x) (hy : InB y) (ha : InB a) (hb : InB b) :
    Calls Tryz.prog 36 #[pv p, .agg #[.int .u64 a, .int .u64 b]] w (YaP w p cur t x y a b) := by
  have hpl := (Array.getElem?_eq_some_iff.1 h).1
  obtain ⟨W0, hW0⟩ : ∃ W0, W0 = w.alloc (.cells #[.int .u64 a, .int .u64 b] 50) := ⟨_, rfl⟩
  have hB0 : Below w.heap.size w W0 := by rw [hW0]; exact (Below.refl _ _).alloc (Nat.le_refl _) _
  have hX0 : W0.heap[w.heap.size]? = some (.cells #[.int .u64 a, .int .u64 b] 50 (0, 0)) := by rw [hW0]; exact heap_alloc_new _ _
  have hp0 : W0.heap[p]? = some (.cells cur t (0, 0)) := (hB0.block p hpl).trans h
  have k0 : W0.cell? ⟨p, 0, none⟩ = some (.int .u64 x) := by rw [cell_of_row _ _ _ _ _ _ hp0]; exact h0
  have z0 : W0.frozen? ⟨p, 0, none⟩ = false := by simp [World.frozen?, hp0]
  have hT0 : Hta w.heap.size a b W0.drew := ⟨by show W0.cell? _ = _; rw [cell_of_row _ _ _ _ _ _ hX0]; rfl, by show W0.cell? _ = _; rw [cell_of_row _ _ _ _ _ _ hX0]; rfl⟩
  have e1 := heap_setCell_same W0.drew p 0 cur t (.int .u64 (sumE x a)) hp0
  have k1 : (W0.drew.setCell ⟨p, 0, none⟩ (.int .u64 (sumE x a))).cell? ⟨p, 1, none⟩ = some (.int .u64 y) := by
    rw [cell_of_row _ _ _ _ _ _ e1, Array.getElem?_setIfInBounds, if_neg (by omega)]; exact h1
  have z1 : (W0.drew.setCell ⟨p, 0, none⟩ (.int .u64 (sumE x a))).frozen? ⟨p, 1, none⟩ = false := by simp [World.frozen?, e1]
  have hne : w.heap.size ≠ p := by omega
  have HT := hid hT0
  have HF : Hid (YaP w p cur t x y a b (.returned (.tuple #[])) ((W0.drew.setCell ⟨p, 0, none⟩ (.int .u64 (sumE x a))).drew.setCell ⟨p, 1, none⟩ (.int .u64 (sumE y b)))) := by
    refine ⟨rfl, ⟨hB0.os, hB0.tape, hB0.output, by simpa using hB0.size, fun k hk hkp => ?_⟩, heap_setCell_same _ p 1 _ t _ e1⟩
    rw [heap_setCell_other _ ⟨p, 1, none⟩ k _ hkp]
    show (W0.drew.setCell ⟨p, 0, none⟩ (.int .u64 (sumE x a))).heap[k]? = _
    rw [heap_setCell_other _ ⟨p, 0, none⟩ k _ hkp]
    exact hB0.block k hk
  have HW0 := hid hW0
  have HK := hid (And.intro k0 (And.intro z0 (And.intro k1 z1)))
  clear h h0 h1 hB0 hX0 hp0 k0 z0 hT0 e1 k1 z1 hW0
  go_enter Tryz.func36, Tryz.ntmps36
  go_upto_region 1 with fail
  rw [← HW0.out]
  clear HW0
  obtain ⟨k0, z0, k1, z1⟩ := HK.out
  refine wp_region_held_drew (S := Hta w.heap.size a b) (by kernel_rfl) HT.out (fun hHeld => ?_)
  refine wpAnyH_take (i := 0) (v := ?_) rfl (by kernel_rfl) (by kernel_rfl) (by kernel_rfl) (fun _ _ _ h => h) (Or.inl ⟨by rfl, ?_⟩) hHeld ?_
  rotate_left
  · intro w' hSw
    clear hSw
    go_simp
    first | done | with_reducible rfl
  simp only [Act.put, List.getElem_toArray, List.getElem_cons_zero, List.setIfInBounds_toArray, List.set_cons_zero, List.set_cons_succ]
  refine wpAnyH_take (i := 1) (v := ?_) rfl (by kernel_rfl) (by kernel_rfl) (by kernel_rfl) (fun _ _ _ h => h) (Or.inl ⟨by rfl, ?_⟩) hHeld ?_
  rotate_left
  · intro w' hSw
    clear hSw
    go_simp
    first | done | with_reducible rfl
  simp only [Act.put, List.getElem_toArray, List.getElem_cons_succ, List.getElem_cons_zero, List.setIfInBounds_toArray, List.set_cons_zero, List.set_cons_succ]
  refine wpAnyH_take (i := 2) (v := ?_) rfl (by kernel_rfl) (by kernel_rfl) (by kernel_rfl) (fun _ _ _ h => h) (Or.inl ⟨by rfl, ?_⟩) hHeld ?_
  rotate_left
  · intro w' hSw
    clear hSw
    go_simp
    first | done | with_reducible rfl
  simp only [Act.put, List.getElem_toArray, List.getElem_cons_succ, List.getElem_cons_zero, List.setIfInBounds_toArray, List.set_cons_zero, List.set_cons_succ]
  refine wpAnyH_take (i := 3) (v := ?_) rfl (by kernel_rfl) (by kernel_rfl) (by kernel_rfl) (fun _ _ _ h => h) (Or.inl ⟨by rfl, ?_⟩) hHeld ?_
  rotate_left
  · intro w' hSw
    clear hSw
    go_simp
    first | done | with_reducible rfl
  simp only [Act.put, List.getElem_toArray, List.getElem_cons_succ, List.getElem_cons_zero, List.setIfInBounds_toArray, List.set_cons_zero, List.set_cons_succ]
  refine wpAnyH_take (i := 4) (v := ?_) rfl (by kernel_rfl) (by kernel_rfl) (by kernel_rfl) (fun _ _ _ h => h) (Or.inl ⟨by rfl, ?_⟩) hHeld ?_
  rotate_left
  · intro w' hSw
    clear hSw
    go_simp
    first | done | with_reducible rfl
  simp only [Act.put, List.getElem_toArray, List.getElem_cons_succ, List.getElem_cons_zero, List.setIfInBounds_toArray, List.set_cons_zero, List.set_cons_succ]
  refine wpAnyH_take (i := 6) (v := ?_) rfl (by kernel_rfl) (by kernel_rfl) (by kernel_rfl) (fun _ _ _ h => h) (Or.inl ⟨by rfl, ?_⟩) hHeld ?_
  rotate_left
  · intro w' hSw
    clear hSw
    go_simp
    first | done | with_reducible rfl
  simp only [Act.put, List.getElem_toArray, List.getElem_cons_succ, List.getElem_cons_zero, List.setIfInBounds_toArray, List.set_cons_zero, List.set_cons_succ]
  refine wpAnyH_take (i := 7) (v := ?_) rfl (by kernel_rfl) (by kernel_rfl) (by kernel_rfl) (fun _ _ _ h => h) (Or.inl ⟨by rfl, ?_⟩) hHeld ?_
  rotate_left
  · intro w' hSw
    have c1 := hSw.c1
    clear hSw
    go_simp
    first | done | with_reducible rfl
  simp only [Act.put, List.getElem_toArray, List.getElem_cons_succ, List.getElem_cons_zero, List.setIfInBounds_toArray, List.set_cons_zero, List.set_cons_succ]
  refine wpAnyH_ready (rs := [5]) (by kernel_rfl) (by simp) ?_
  refine AllReadyH.cons rfl (fun K hK => ?_) AllReadyH.nil
  refine stepLdU (.tmp 8) rfl rfl p 0 x rfl k0 ?_
  refine hK.out _ _ hHeld (fun hHeld => ?_)
  clear hK K
  simp only [Act.put, List.getElem_toArray, List.getElem_cons_succ, List.getElem_cons_zero, List.setIfInBounds_toArray, List.set_cons_zero, List.set_cons_succ]
  refine wpAnyH_ready (rs := [8]) (by kernel_rfl) (by simp) ?_
  refine AllReadyH.cons rfl (fun K hK => ?_) AllReadyH.nil
  refine stepFnW 75 (.func 75) [.tmp 9, .tmp 11] _ [.int .u64 x, .int .u64 a] rfl rfl rfl rfl (fun _ => rfl) _ (sum_any x a _ hx ha) ?_
  rintro e w1 ⟨rfl, hw1⟩
  refine Or.inl ⟨_, rfl, ?_⟩
  rw [hw1]
  refine hK.out _ _ hHeld (fun hHeld => ?_)
  clear hK K
  simp only [Act.put, List.getElem_toArray, List.getElem_cons_succ, List.getElem_cons_zero, List.setIfInBounds_toArray, List.set_cons_zero, List.set_cons_succ]
  clear hw1
  refine wpAnyH_take (i := 9) (v := ?_) rfl (by kernel_rfl) (by kernel_rfl) (by kernel_rfl) (fun _ _ _ h => h) (Or.inl ⟨by rfl, ?_⟩) hHeld ?_
  rotate_left
  · intro w' hSw
    clear hSw
    go_simp
    first | done | with_reducible rfl
  simp only [Act.put, List.getElem_toArray, List.getElem_cons_succ, List.getElem_cons_zero, List.setIfInBounds_toArray, List.set_cons_zero, List.set_cons_succ]
  refine wpAnyH_take (i := 10) (v := ?_) rfl (by kernel_rfl) (by kernel_rfl) (by kernel_rfl) (fun _ _ _ h => h) (Or.inl ⟨by rfl, ?_⟩) hHeld ?_
  rotate_left
  · intro w' hSw
    clear hSw
    go_simp
    first | done | with_reducible rfl
  simp only [Act.put, List.getElem_toArray, List.getElem_cons_succ, List.getElem_cons_zero, List.setIfInBounds_toArray, List.set_cons_zero, List.set_cons_succ]
  refine wpAnyH_take (i := 11) (v := ?_) rfl (by kernel_rfl) (by kernel_rfl) (by kernel_rfl) (fun _ _ _ h => h) (Or.inl ⟨by rfl, ?_⟩) hHeld ?_
  rotate_left
  · intro w' hSw
    clear hSw
    go_simp
    first | done | with_reducible rfl
  simp only [Act.put, List.getElem_toArray, List.getElem_cons_succ, List.getElem_cons_zero, List.setIfInBounds_toArray, List.set_cons_zero, List.set_cons_succ]
  refine wpAnyH_ready (rs := [12]) (by kernel_rfl) (by simp) ?_
  refine AllReadyH.cons rfl (fun K hK => ?_) AllReadyH.nil
  refine stepStU (.tmp 15) (.tmp 12) rfl rfl p 0 _ _ rfl rfl k0 z0 ?_
  refine hK.out _ _ (HT.out.set _ hne) (fun hHeld => ?_)
  clear hK K
  simp only [Act.put, List.getElem_toArray, List.getElem_cons_succ, List.getElem_cons_zero]
  refine wpAnyH_done (by kernel_rfl) ?_ _
  have hT1 := HT.out.set (k := 0) (.int .u64 (sumE x a)) hne
  obtain ⟨W1, hW1⟩ : ∃ W1, W1 = W0.drew.setCell ⟨p, 0, none⟩ (.int .u64 (sumE x a)) := ⟨_, rfl⟩
  rw [← hW1] at hT1 k1 z1 HF ⊢
  have HT1 : Hid (Hta w.heap.size a b W1.drew) := ⟨hT1.c1, hT1.c2⟩
  clear hT1 hW1 k0 z0 HK HT
  go_upto_region 2 with fail
  refine wp_region_held_drew (S := Hta w.heap.size a b) (by kernel_rfl) HT1.out (fun hHeld => ?_)
  refine wpAnyH_take (i := 0) (v := ?_) rfl (by kernel_rfl) (by kernel_rfl) (by kernel_rfl) (fun _ _ _ h => h) (Or.inl ⟨by rfl, ?_⟩) hHeld ?_
  rotate_left
  · intro w' hSw
    clear hSw
    go_simp
    first | done | with_reducible rfl
  simp only [Act.put, List.getElem_toArray, List.getElem_cons_zero, List.setIfInBounds_toArray, List.set_cons_zero, List.set_cons_succ]
  refine wpAnyH_take (i := 1) (v := ?_) rfl (by kernel_rfl) (by kernel_rfl) (by kernel_rfl) (fun _ _ _ h => h) (Or.inl ⟨by rfl, ?_⟩) hHeld ?_
  rotate_left
  · intro w' hSw
    clear hSw
    go_simp
    first | done | with_reducible rfl
  simp only [Act.put, List.getElem_toArray, List.getElem_cons_succ, List.getElem_cons_zero, List.setIfInBounds_toArray, List.set_cons_zero, List.set_cons_succ]
  refine wpAnyH_take (i := 2) (v := ?_) rfl (by kernel_rfl) (by kernel_rfl) (by kernel_rfl) (fun _ _ _ h => h) (Or.inl ⟨by rfl, ?_⟩) hHeld ?_
  rotate_left
  · intro w' hSw
    clear hSw
    go_simp
    first | done | with_reducible rfl
  simp only [Act.put, List.getElem_toArray, List.getElem_cons_succ, List.getElem_cons_zero, List.setIfInBounds_toArray, List.set_cons_zero, List.set_cons_succ]
  refine wpAnyH_take (i := 3) (v := ?_) rfl (by kernel_rfl) (by kernel_rfl) (by kernel_rfl) (fun _ _ _ h => h) (Or.inl ⟨by rfl, ?_⟩) hHeld ?_
  rotate_left
  · intro w' hSw
    clear hSw
    go_simp
    first | done | with_reducible rfl
  simp only [Act.put, List.getElem_toArray, List.getElem_cons_succ, List.getElem_cons_zero, List.setIfInBounds_toArray, List.set_cons_zero, List.set_cons_succ]
  refine wpAnyH_take (i := 4) (v := ?_) rfl (by kernel_rfl) (by kernel_rfl) (by kernel_rfl) (fun _ _ _ h => h) (Or.inl ⟨by rfl, ?_⟩) hHeld ?_
  rotate_left
  · intro w' hSw
    clear hSw
    go_simp
    first | done | with_reducible rfl
  simp only [Act.put, List.getElem_toArray, List.getElem_cons_succ, List.getElem_cons_zero, List.setIfInBounds_toArray, List.set_cons_zero, List.set_cons_succ]
  refine wpAnyH_take (i := 6) (v := ?_) rfl (by kernel_rfl) (by kernel_rfl) (by kernel_rfl) (fun _ _ _ h => h) (Or.inl ⟨by rfl, ?_⟩) hHeld ?_
  rotate_left
  · intro w' hSw
    clear hSw
    go_simp
    first | done | with_reducible rfl
  simp only [Act.put, List.getElem_toArray, List.getElem_cons_succ, List.getElem_cons_zero, List.setIfInBounds_toArray, List.set_cons_zero, List.set_cons_succ]
  refine wpAnyH_take (i := 7) (v := ?_) rfl (by kernel_rfl) (by kernel_rfl) (by kernel_rfl) (fun _ _ _ h => h) (Or.inl ⟨by rfl, ?_⟩) hHeld ?_
  rotate_left
  · intro w' hSw
    have c2 := hSw.c2
    clear hSw
    go_simp
    first | done | with_reducible rfl
  simp only [Act.put, List.getElem_toArray, List.getElem_cons_succ, List.getElem_cons_zero, List.setIfInBounds_toArray, List.set_cons_zero, List.set_cons_succ]
  refine wpAnyH_ready (rs := [5]) (by kernel_rfl) (by simp) ?_
  refine AllReadyH.cons rfl (fun K hK => ?_) AllReadyH.nil
  refine stepLdU (.tmp 20) rfl rfl p 1 y rfl k1 ?_
  refine hK.out _ _ hHeld (fun hHeld => ?_)
  clear hK K
  simp only [Act.put, List.getElem_toArray, List.getElem_cons_succ, List.getElem_cons_zero, List.setIfInBounds_toArray, List.set_cons_zero, List.set_cons_succ]
  refine wpAnyH_ready (rs := [8]) (by kernel_rfl) (by simp) ?_
  refine AllReadyH.cons rfl (fun K hK => ?_) AllReadyH.nil
  refine stepFnW 75 (.func 75) [.tmp 21, .tmp 23] _ [.int .u64 y, .int .u64 b] rfl rfl rfl rfl (fun _ => rfl) _ (sum_any y b _ hy hb) ?_
  rintro e w1 ⟨rfl, hw1⟩
  refine Or.inl ⟨_, rfl, ?_⟩
  rw [hw1]
  refine hK.out _ _ hHeld (fun hHeld => ?_)
  clear hK K
  simp only [Act.put, List.getElem_toArray, List.getElem_cons_succ, List.getElem_cons_zero, List.setIfInBounds_toArray, List.set_cons_zero, List.set_cons_succ]
  clear hw1
  refine wpAnyH_take (i := 9) (v := ?_) rfl (by kernel_rfl) (by kernel_rfl) (by kernel_rfl) (fun _ _ _ h => h) (Or.inl ⟨by rfl, ?_⟩) hHeld ?_
  rotate_left
  · intro w' hSw
    clear hSw
    go_simp
    first | done | with_reducible rfl
  simp only [Act.put, List.getElem_toArray, List.getElem_cons_succ, List.getElem_cons_zero, List.setIfInBounds_toArray, List.set_cons_zero, List.set_cons_succ]
  refine wpAnyH_take (i := 10) (v := ?_) rfl (by kernel_rfl) (by kernel_rfl) (by kernel_rfl) (fun _ _ _ h => h) (Or.inl ⟨by rfl, ?_⟩) hHeld ?_
  rotate_left
  · intro w' hSw
    clear hSw
    go_simp
    first | done | with_reducible rfl
  simp only [Act.put, List.getElem_toArray, List.getElem_cons_succ, List.getElem_cons_zero, List.setIfInBounds_toArray, List.set_cons_zero, List.set_cons_succ]
  refine wpAnyH_take (i := 11) (v := ?_) rfl (by kernel_rfl) (by kernel_rfl) (by kernel_rfl) (fun _ _ _ h => h) (Or.inl ⟨by rfl, ?_⟩) hHeld ?_
  rotate_left
  · intro w' hSw
    clear hSw
    go_simp
    first | done | with_reducible rfl
  simp only [Act.put, List.getElem_toArray, List.getElem_cons_succ, List.getElem_cons_zero, List.setIfInBounds_toArray, List.set_cons_zero, List.set_cons_succ]
  refine wpAnyH_ready (rs := [12]) (by kernel_rfl) (by simp) ?_
  refine AllReadyH.cons rfl (fun K hK => ?_) AllReadyH.nil
  refine stepStU (.tmp 27) (.tmp 24) rfl rfl p 1 _ _ rfl rfl k1 z1 ?_
  refine hK.out _ _ (HT1.out.set _ hne) (fun hHeld => ?_)
  clear hK K
  simp only [Act.put, List.getElem_toArray, List.getElem_cons_succ, List.getElem_cons_zero]
  refine wpAnyH_done (by kernel_rfl) ?_ _
  go_wp2
  first | go_end0 | refine bodyPost_ret (results_none rfl _ _ _) rfl ?_
  exact HF.out
end Go.Proofs.YtdehlnaoehjehaaGreatDoor
