/-
  Proved here: fits, noSetting, cmp.Compare and cmp.Or, byField and bySetting of package nodes. Condition: the widths' table holds its numbers.
-/
import Derived.Test.YtggbokghhohofaaDoorB0
namespace Go.Proofs.YtggbokghhohofaaDoor
open Go.RowKit

theorem fits_any (fd n : Int) (hn : InB n) (w : World) (hT : Tab w) : Calls Tryd.prog 27 #[.int .i8 fd, .int .u64 n] w fun e w' => e = .returned (.bool (fitB fd n)) ∧ w' = w := by
  unfold fitB
  by_cases h1 : 0 ≤ fd
  · have d1 : decide ((0 : Int) ≤ fd) = true := decide_eq_true h1
    by_cases h2 : fd < 11
    · have d2 : decide (fd < 11) = true := decide_eq_true h2
      obtain ⟨f, rfl⟩ : ∃ f : Nat, fd = (f : Int) := ⟨fd.toNat, by omega⟩
      have hc := hT f (by omega)
      have hbd := wdt_bd f
      have hf : f < 11 := by omega
      obtain ⟨h0, h3⟩ := hn
      rw [show ((f : Nat) : Int).toNat = f from rfl]
      generalize wdt f = x at hc hbd ⊢
      clear hT h1 h2
      go_enter Tryd.func27, Tryd.ntmps27
      go_wp2
      go_ret
      refine ⟨?_, rfl⟩
      simp only [d1, d2, Bool.true_and]
      rfl
    · have d2 : decide (fd < 11) = false := decide_eq_false h2
      clear hT hn
      go_enter Tryd.func27, Tryd.ntmps27
      go_wp2
      go_ret
      exact ⟨by simp, rfl⟩
  · have d1 : decide ((0 : Int) ≤ fd) = false := decide_eq_false h1
    clear hT hn
    go_enter Tryd.func27, Tryd.ntmps27
    go_wp2
    go_ret
    exact ⟨by simp, rfl⟩
theorem noSetting_any (a : Ac) (ha : InB a.n) (w : World) (hT : Tab w) : Calls Tryd.prog 33 #[acv a] w fun e w' => e = .returned (.bool (!okS a)) ∧ Below w.heap.size w w' := by
  obtain ⟨d, f, n⟩ := a
  have hlow : Below w.heap.size w (w.alloc (.cells #[.int .i8 d, .int .i8 f, .int .u64 n] 54)) := (Below.refl _ _).alloc (Nat.le_refl _) _
  have HL := hid hlow
  have HF := hid (fits_any f n ha _ (hT.on hlow))
  clear hT hlow ha
  unfold okS
  generalize fitB f n = b at HF ⊢
  by_cases h0 : d = 0
  · subst h0
    cases b
    all_goals
      go_enter Tryd.func33, Tryd.ntmps33
      go_wp2_with (go_at_call 27; refine (HF.out).mono ?_; rintro e w' ⟨rfl, rfl⟩)
      go_ret
      exact ⟨rfl, HL.out⟩
  · have t0 : (d != 0) = true := bne_iff_ne.2 h0
    have t1 : decide (d = 0) = false := decide_eq_false h0
    clear h0
    go_enter Tryd.func33, Tryd.ntmps33
    go_wp2
    go_ret
    exact ⟨by simp [t1], HL.out⟩
theorem nan8_any (x : Int) (w : World) : Calls Tryd.prog 57 #[.int .i8 x] w fun e w' => e = .returned (.bool false) ∧ w' = w := by
  go_enter Tryd.func57, Tryd.ntmps57
  go_wp2
  go_ret
  exact ⟨rfl, rfl⟩
theorem cmp8_any (x y : Int) (w : World) : Calls Tryd.prog 43 #[.int .i8 x, .int .i8 y] w fun e w' => e = .returned (.int .i64 (cmpI x y)) ∧ w' = w := by
  unfold cmpI
  by_cases h1 : x < y
  · have d1 : decide (x < y) = true := decide_eq_true h1
    rw [if_pos h1]
    clear h1
    go_enter Tryd.func43, Tryd.ntmps43
    go_wp2_with (go_at_call 57; refine (nan8_any _ _).mono ?_; rintro e w' ⟨rfl, rfl⟩)
    go_ret
    exact ⟨rfl, rfl⟩
  · have d1 : decide (x < y) = false := decide_eq_false h1
    rw [if_neg h1]
    clear h1
    by_cases h2 : y < x
    · have d2 : decide (y < x) = true := decide_eq_true h2
      rw [if_pos h2]
      clear h2
      go_enter Tryd.func43, Tryd.ntmps43
      go_wp2_with (go_at_call 57; refine (nan8_any _ _).mono ?_; rintro e w' ⟨rfl, rfl⟩)
      go_ret
      exact ⟨rfl, rfl⟩
    · have d2 : decide (y < x) = false := decide_eq_false h2
      rw [if_neg h2]
      clear h2
      go_enter Tryd.func43, Tryd.ntmps43
      go_wp2_with (go_at_call 57; refine (nan8_any _ _).mono ?_; rintro e w' ⟨rfl, rfl⟩)
      go_ret
      exact ⟨rfl, rfl⟩
theorem nan64_any (x : Int) (w : World) : Calls Tryd.prog 58 #[.int .u64 x] w fun e w' => e = .returned (.bool false) ∧ w' = w := by
  go_enter Tryd.func58, Tryd.ntmps58
  go_wp2
  go_ret
  exact ⟨rfl, rfl⟩
theorem cmp64_any (x y : Int) (w : World) : Calls Tryd.prog 44 #[.int .u64 x, .int .u64 y] w fun e w' => e = .returned (.int .i64 (cmpI x y)) ∧ w' = w := by
  unfold cmpI
  by_cases h1 : x < y
  · have d1 : decide (x < y) = true := decide_eq_true h1
    rw [if_pos h1]
    clear h1
    go_enter Tryd.func44, Tryd.ntmps44
    go_wp2_with (go_at_call 58; refine (nan64_any _ _).mono ?_; rintro e w' ⟨rfl, rfl⟩)
    go_ret
    exact ⟨rfl, rfl⟩
  · have d1 : decide (x < y) = false := decide_eq_false h1
    rw [if_neg h1]
    clear h1
    by_cases h2 : y < x
    · have d2 : decide (y < x) = true := decide_eq_true h2
      rw [if_pos h2]
      clear h2
      go_enter Tryd.func44, Tryd.ntmps44
      go_wp2_with (go_at_call 58; refine (nan64_any _ _).mono ?_; rintro e w' ⟨rfl, rfl⟩)
      go_ret
      exact ⟨rfl, rfl⟩
    · have d2 : decide (y < x) = false := decide_eq_false h2
      rw [if_neg h2]
      clear h2
      go_enter Tryd.func44, Tryd.ntmps44
      go_wp2_with (go_at_call 58; refine (nan64_any _ _).mono ?_; rintro e w' ⟨rfl, rfl⟩)
      go_ret
      exact ⟨rfl, rfl⟩
theorem or_any (w : World) (g : Nat) (x y : Int) (h0 : w.cell? ⟨g, 0, none⟩ = some (.int .i64 x)) (h1 : w.cell? ⟨g, 1, none⟩ = some (.int .i64 y)) : Calls Tryd.prog 42 #[.slice (some ⟨g, 0, none⟩) 2 2] w fun e w' => e = .returned (.int .i64 (orI x y)) ∧ w' = w := by
  go_enter Tryd.func42, Tryd.ntmps42
  go_upto_region 3 with fail
  go_loopw [8] (fun i wr => wr = w ∧ ∃ k : Nat, k ≤ 2 ∧ i = .int .i64 k ∧ (1 ≤ k → x = 0) ∧ (2 ≤ k → y = 0)) (fun i _ => 2 - (intOf i).toNat)
  case atStart => exact ⟨rfl, 0, by omega, rfl, by omega, by omega⟩
  case round =>
    obtain ⟨rfl, k, hk, rfl, hx, hy⟩ := hrel
    have hk' : k = 0 ∨ k = 1 ∨ k = 2 := by omega
    rcases hk' with rfl | rfl | rfl
    · by_cases e : x = 0
      · subst e
        go_wp2
        go_roundw
        case rel => refine ⟨?_, 1, ?_, ?_, ?_, ?_⟩ <;> simp
        case measure => simp [intOf]
      · have d : (x == 0) = false := beq_eq_false_iff_ne.2 e
        have HR : Hid (orI x y = x) := if_neg e
        clear e
        go_wp2
        go_ret
        exact ⟨by rw [HR.out]; rfl, rfl⟩
    · have e := hx (by omega)
      have HR : Hid (orI x y = y) := if_pos e
      subst e
      by_cases e : y = 0
      · subst e
        go_wp2
        go_roundw
        case rel => refine ⟨?_, 2, ?_, ?_, ?_, ?_⟩ <;> simp
        case measure => simp [intOf]
      · have d : (y == 0) = false := beq_eq_false_iff_ne.2 e
        clear e
        go_wp2
        go_ret
        exact ⟨by rw [HR.out]; rfl, rfl⟩
    · have e := hx (by omega)
      have e2 := hy (by omega)
      subst e e2
      go_wp2
      go_ret
      exact ⟨rfl, rfl⟩
theorem byField_any (a b : Ac) (w : World) : Calls Tryd.prog 35 #[acv a, acv b] w fun e w' => e = .returned (.int .i64 (cmpF a b)) ∧ Gro w w' := by
  obtain ⟨d, f, n⟩ := a
  obtain ⟨d', f', n'⟩ := b
  have HG : Hid (Gro w ((w.alloc (.cells #[.int .i8 d, .int .i8 f, .int .u64 n] 54)).alloc (.cells #[.int .i8 d', .int .i8 f', .int .u64 n'] 54))) := ((Gro.refl w).alloc _).alloc _
  go_enter Tryd.func35, Tryd.ntmps35
  go_wp2_with (go_at_call 43; refine (cmp8_any _ _ _).mono ?_; rintro e w' ⟨rfl, rfl⟩)
  go_ret
  exact ⟨rfl, HG.out⟩
/-- What the comparison reads. -/
structure Hcm (pa pb : Nat) (a b : Ac) (w : World) : Prop where
  c1 : w.cell? ⟨pa, 1, none⟩ = some (.int .i8 a.fd)
  c2 : w.cell? ⟨pb, 1, none⟩ = some (.int .i8 b.fd)
  c3 : w.cell? ⟨pa, 2, none⟩ = some (.int .u64 a.n)
  c4 : w.cell? ⟨pb, 2, none⟩ = some (.int .u64 b.n)
theorem cell_on {w w' : World} {b o : Nat} {v : Value} (hb : Below w.heap.size w w') (h : w.cell? ⟨b, o, none⟩ = some v) : w'.cell? ⟨b, o, none⟩ = some v := (cell_same (hb.block b (cell_lt h))).trans h
theorem Hcm.on {pa pb : Nat} {a b : Ac} {w : World} (h : Hcm pa pb a b w) (o : Obj) : Hcm pa pb a b (w.drew.alloc o) := by
  have hb : Below w.drew.heap.size w.drew (w.drew.alloc o) := (Below.refl _ _).alloc (Nat.le_refl _) _
  exact ⟨cell_on hb h.c1, cell_on hb h.c2, cell_on hb h.c3, cell_on hb h.c4⟩
set_option maxHeartbeats 1600000 in
set_option maxRecDepth 100000 in
theorem bySetting_any (a b : Ac) (w : World) : Calls Tryd.prog 55 #[acv a, acv b] w fun e w' => e = .returned (.int .i64 (cmpS a b)) ∧ Gro w w' := by
  obtain ⟨W, hW⟩ : ∃ W, W = (w.alloc (.cells #[.int .i8 a.dw, .int .i8 a.fd, .int .u64 a.n] 54)).alloc (.cells #[.int .i8 b.dw, .int .i8 b.fd, .int .u64 b.n] 54) := ⟨_, rfl⟩
  have HG : Hid (Gro w W) := by rw [hW]; exact ((Gro.refl w).alloc _).alloc _
  have e1 : W.heap[w.heap.size]? = some (.cells #[.int .i8 a.dw, .int .i8 a.fd, .int .u64 a.n] 54 (0, 0)) := by rw [hW]; exact (heap_alloc_old _ _ (by simp)).trans (heap_alloc_new _ _)
  have e2 : W.heap[w.heap.size + 1]? = some (.cells #[.int .i8 b.dw, .int .i8 b.fd, .int .u64 b.n] 54 (0, 0)) := by rw [hW]; have := heap_alloc_new (w.alloc (.cells #[.int .i8 a.dw, .int .i8 a.fd, .int .u64 a.n] 54)) (.cells #[.int .i8 b.dw, .int .i8 b.fd, .int .u64 b.n] 54); simpa using this
  have HH : Hid (Hcm w.heap.size (w.heap.size + 1) a b W) := ⟨(cell_of_row _ _ _ _ _ _ e1).trans rfl, (cell_of_row _ _ _ _ _ _ e2).trans rfl, (cell_of_row _ _ _ _ _ _ e1).trans rfl, (cell_of_row _ _ _ _ _ _ e2).trans rfl⟩
  have HW : Hid ((w.alloc (.cells #[.int .i8 a.dw, .int .i8 a.fd, .int .u64 a.n] 54)).alloc (.cells #[.int .i8 b.dw, .int .i8 b.fd, .int .u64 b.n] 54) = W) := hW.symm
  clear hW e1 e2
  unfold cmpS
  go_enter Tryd.func55, Tryd.ntmps55
  go_upto_region 1 with fail
  rw [show (w.alloc (.cells #[.int .i8 a.dw, .int .i8 a.fd, .int .u64 a.n] 54)).alloc (.cells #[.int .i8 b.dw, .int .i8 b.fd, .int .u64 b.n] 54) = W from HW.out]
  clear HW
  refine wp_region_held_drew (S := Hcm w.heap.size (w.heap.size + 1) a b) (by kernel_rfl) ⟨HH.out.c1, HH.out.c2, HH.out.c3, HH.out.c4⟩ (fun hHeld => ?_)
  refine wpAnyH_take (i := 0) (v := ?_) rfl (by kernel_rfl) (by kernel_rfl) (by kernel_rfl) (fun _ _ _ h => h) (Or.inl ⟨by rfl, ?_⟩) hHeld ?_
  rotate_left
  · intro w' hSw
    clear hSw
    go_simp
    first | done | with_reducible rfl
  simp only [Act.put, List.getElem_toArray, List.getElem_cons_zero, List.setIfInBounds_toArray, List.set_cons_zero, List.set_cons_succ]
  refine wpAnyH_take (i := 1) (v := ?_) rfl (by kernel_rfl) (by kernel_rfl) (by kernel_rfl) (fun _ _ _ h => h) (Or.inl ⟨by rfl, ?_⟩) hHeld ?_
  rotate_left
  · intro w' hSw
    have c1 := hSw.c1
    clear hSw
    go_simp
    first | done | with_reducible rfl
  simp only [Act.put, List.getElem_toArray, List.getElem_cons_succ, List.getElem_cons_zero, List.setIfInBounds_toArray, List.set_cons_zero, List.set_cons_succ]
  refine wpAnyH_take (i := 2) (v := ?_) rfl (by kernel_rfl) (by kernel_rfl) (by kernel_rfl) (fun _ _ _ h => h) (Or.inl ⟨by rfl, ?_⟩) hHeld ?_
  rotate_left
  · intro w' hSw
    clear hSw
    go_simp
    first | done | with_reducible rfl
  simp only [Act.put, List.getElem_toArray, List.getElem_cons_succ, List.getElem_cons_zero, List.setIfInBounds_toArray, List.set_cons_zero, List.set_cons_succ]
  refine wpAnyH_take (i := 3) (v := ?_) rfl (by kernel_rfl) (by kernel_rfl) (by kernel_rfl) (fun _ _ _ h => h) (Or.inl ⟨by rfl, ?_⟩) hHeld ?_
  rotate_left
  · intro w' hSw
    have c2 := hSw.c2
    clear hSw
    go_simp
    first | done | with_reducible rfl
  simp only [Act.put, List.getElem_toArray, List.getElem_cons_succ, List.getElem_cons_zero, List.setIfInBounds_toArray, List.set_cons_zero, List.set_cons_succ]
  refine wpAnyH_take (i := 5) (v := ?_) rfl (by kernel_rfl) (by kernel_rfl) (by kernel_rfl) (fun _ _ _ h => h) (Or.inl ⟨by rfl, ?_⟩) hHeld ?_
  rotate_left
  · intro w' hSw
    clear hSw
    go_simp
    first | done | with_reducible rfl
  simp only [Act.put, List.getElem_toArray, List.getElem_cons_succ, List.getElem_cons_zero, List.setIfInBounds_toArray, List.set_cons_zero, List.set_cons_succ]
  refine wpAnyH_take (i := 6) (v := ?_) rfl (by kernel_rfl) (by kernel_rfl) (by kernel_rfl) (fun _ _ _ h => h) (Or.inl ⟨by rfl, ?_⟩) hHeld ?_
  rotate_left
  · intro w' hSw
    have c3 := hSw.c3
    clear hSw
    go_simp
    first | done | with_reducible rfl
  simp only [Act.put, List.getElem_toArray, List.getElem_cons_succ, List.getElem_cons_zero, List.setIfInBounds_toArray, List.set_cons_zero, List.set_cons_succ]
  refine wpAnyH_take (i := 7) (v := ?_) rfl (by kernel_rfl) (by kernel_rfl) (by kernel_rfl) (fun _ _ _ h => h) (Or.inl ⟨by rfl, ?_⟩) hHeld ?_
  rotate_left
  · intro w' hSw
    clear hSw
    go_simp
    first | done | with_reducible rfl
  simp only [Act.put, List.getElem_toArray, List.getElem_cons_succ, List.getElem_cons_zero, List.setIfInBounds_toArray, List.set_cons_zero, List.set_cons_succ]
  refine wpAnyH_take (i := 8) (v := ?_) rfl (by kernel_rfl) (by kernel_rfl) (by kernel_rfl) (fun _ _ _ h => h) (Or.inl ⟨by rfl, ?_⟩) hHeld ?_
  rotate_left
  · intro w' hSw
    have c4 := hSw.c4
    clear hSw
    go_simp
    first | done | with_reducible rfl
  simp only [Act.put, List.getElem_toArray, List.getElem_cons_succ, List.getElem_cons_zero, List.setIfInBounds_toArray, List.set_cons_zero, List.set_cons_succ]
  refine wpAnyH_ready (rs := [4]) (by kernel_rfl) (by simp) ?_
  refine AllReadyH.cons rfl (fun K hK => ?_) AllReadyH.nil
  refine stepFnW 43 (.func 43) [.tmp 6, .tmp 8] _ [.int .i8 a.fd, .int .i8 b.fd] [] rfl rfl rfl rfl (fun _ _ => rfl) _ (cmp8_any a.fd b.fd _) ?_
  rintro e w1 ⟨rfl, hw1⟩
  refine Or.inl ⟨_, rfl, ?_⟩
  rw [hw1]
  refine hK.out _ _ hHeld (fun hHeld => ?_)
  clear hK K
  simp only [Act.put, List.getElem_toArray, List.getElem_cons_succ, List.getElem_cons_zero, List.setIfInBounds_toArray, List.set_cons_zero, List.set_cons_succ]
  clear hw1
  refine wpAnyH_ready (rs := [9]) (by kernel_rfl) (by simp) ?_
  refine AllReadyH.cons rfl (fun K hK => ?_) AllReadyH.nil
  refine stepFnW 44 (.func 44) [.tmp 11, .tmp 13] _ [.int .u64 a.n, .int .u64 b.n] [] rfl rfl rfl rfl (fun _ _ => rfl) _ (cmp64_any a.n b.n _) ?_
  rintro e w2 ⟨rfl, hw2⟩
  refine Or.inl ⟨_, rfl, ?_⟩
  rw [hw2]
  refine hK.out _ _ hHeld (fun hHeld => ?_)
  clear hK K
  simp only [Act.put, List.getElem_toArray, List.getElem_cons_succ, List.getElem_cons_zero, List.setIfInBounds_toArray, List.set_cons_zero, List.set_cons_succ]
  clear hw2
  refine wpAnyH_ready (rs := [10]) (by kernel_rfl) (by simp) ?_
  refine AllReadyH.cons rfl (fun K hK => ?_) AllReadyH.nil
  refine stepBs2 (.tmp 9) (.tmp 14) rfl rfl _ _ rfl rfl ?_
  have HO := hid (or_any (W.drew.alloc (.cells #[.int .i64 (cmpI a.fd b.fd), .int .i64 (cmpI a.n b.n)] 3)) W.drew.heap.size (cmpI a.fd b.fd) (cmpI a.n b.n) (by rw [cell_of_row _ _ _ _ _ _ (heap_alloc_new _ _)]; rfl) (by rw [cell_of_row _ _ _ _ _ _ (heap_alloc_new _ _)]; rfl))
  refine hK.out _ _ (HH.out.on _) (fun hHeld => ?_)
  clear hK K
  simp only [Act.put, List.getElem_toArray, List.getElem_cons_succ, List.getElem_cons_zero, List.setIfInBounds_toArray, List.set_cons_zero, List.set_cons_succ]
  refine wpAnyH_ready (rs := [11]) (by kernel_rfl) (by simp) ?_
  refine AllReadyH.cons rfl (fun K hK => ?_) AllReadyH.nil
  refine stepFnW 42 (.func 42) [.tmp 15] _ [.slice (some ⟨W.drew.heap.size, 0, none⟩) 2 2] [] rfl rfl rfl rfl (fun _ _ => rfl) _ HO.out ?_
  rintro e w3 ⟨rfl, hw3⟩
  refine Or.inl ⟨_, rfl, ?_⟩
  rw [hw3]
  refine hK.out _ _ hHeld (fun hHeld => ?_)
  clear hK K
  simp only [Act.put, List.getElem_toArray, List.getElem_cons_succ, List.getElem_cons_zero, List.setIfInBounds_toArray, List.set_cons_zero, List.set_cons_succ]
  clear hw3
  refine wpAnyH_take (i := 12) (v := ?_) rfl (by kernel_rfl) (by kernel_rfl) (by kernel_rfl) (fun _ _ _ h => h) (Or.inl ⟨by rfl, ?_⟩) hHeld ?_
  rotate_left
  · intro w' hSw
    clear hSw
    go_simp
    first | done | with_reducible rfl
  simp only [Act.put, List.getElem_toArray, List.getElem_cons_succ, List.getElem_cons_zero, List.setIfInBounds_toArray, List.set_cons_zero, List.set_cons_succ]
  refine wpAnyH_done (by kernel_rfl) ?_ _
  go_wp2
  go_ret
  exact ⟨rfl, HG.out.drew.alloc _⟩
end Go.Proofs.YtggbokghhohofaaDoor
