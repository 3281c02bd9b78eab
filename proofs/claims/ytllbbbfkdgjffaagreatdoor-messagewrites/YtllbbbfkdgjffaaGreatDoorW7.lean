/-
  Proved here: the writer's methods rule, held write a rule's bytes, or panic where it is none. Conditions: numbers are of their types; what is written lies in blocks that the writer does not turn.
-/
import Derived.Test.YtllbbbfkdgjffaaGreatDoorW6
namespace Go.Proofs.YtllbbbfkdgjffaaGreatDoor
open Go.RowKit

section
variable {S : Nat → Prop} {c m : Nat} {xs zs : List Int} {w w' w2 : World} {e : Ending}
theorem WrP.get (h : WrP S c m xs zs true w e w') : e = .returned (.tuple #[]) ∧ Only (OS c S) w w' ∧ Wt S w' c m (xs ++ zs) := by
  obtain ⟨h1, ⟨_, h2, h3⟩ | ⟨h2, _⟩⟩ := h
  · exact ⟨h2, h1, h3⟩
  · cases h2
theorem WrP.bad (h : WrP S c m xs zs false w e w') : e = .panicked PC ∧ Only (OS c S) w w' := by
  obtain ⟨h1, ⟨h2, _⟩ | ⟨_, h2⟩⟩ := h
  · cases h2
  · exact ⟨h2, h1⟩
theorem WrP.from {b : Bool} (ho : Only (OS c S) w w') (h : WrP S c m xs zs b w' e w2) : WrP S c m xs zs b w e w2 := ⟨ho.trans h.1, h.2⟩
end

theorem dg_wrap (n : Int) (k : Nat) (hk : k ≤ 8) : dg (IntKind.u64.wrap n) k = dg n k := by
  rw [IntKind.wrap_u64]
  have := dg_add (n % 18446744073709551616) (n / 18446744073709551616) 8 k hk
  rw [pw8, Int.emod_add_mul_ediv] at this
  exact this.symm

/-- A rule in a block: its cells. -/
theorem rl_cells {w : World} {g : Nat} {r : Rl} {u : Value} {t : TypeId} (h : w.heap[g]? = some (.cells (rlc r u) t (0, 0))) : w.cell? ⟨g, 0, none⟩ = some (.int .i64 r.rk) ∧ w.cell? ⟨g, 23, none⟩ = some u ∧ w.cell? ⟨g, 24, none⟩ = some (.int .u64 r.ck) ∧ Hid (w.rangeAt g 1 (row 22 r.mt).toList) := by
  refine ⟨?_, ?_, ?_, range_of fun i hi => ?_⟩
  · rw [cell_of_row w g 0 _ _ _ h]; exact rlc_rk r u
  · rw [cell_of_row w g 23 _ _ _ h]; exact rlc_cp r u
  · rw [cell_of_row w g 24 _ _ _ h]; exact rlc_ck r u
  · rw [row_size] at hi
    rw [cell_of_row w g (1 + i) _ _ _ h, rlc_mt r u i hi, row_at 22 r.mt i hi]

section
variable {S : Nat → Prop} {c m : Nat}
set_option maxHeartbeats 1600000 in
set_option maxRecDepth 100000 in
theorem wrule_any {T : Nat → Prop} {w : World} {xs : List Int} (hW : Wt S w c m xs) (r : Rl) (u : Value) (hu : Cps T w u r.cp) (hf : r.Fit) (hT : ∀ k, T k → ¬ S k ∧ k ≠ c) :
    Calls Tryz.prog 68 #[.pointer (some ⟨c, 0, none⟩), .agg (rlc r u)] w (WrP S c m xs (encRl r) (okRl r) w) := by
  have hb1 : Below w.heap.size w (w.alloc (.cells (rlc r u) 31)) := (Below.refl _ _).alloc (Nat.le_refl _) _
  have hg1 : (w.alloc (.cells (rlc r u) 31)).heap[w.heap.size]? = some (.cells (rlc r u) 31 (0, 0)) := heap_alloc_new _ _
  have hs1 : (w.alloc (.cells (rlc r u) 31)).heap.size = w.heap.size + 1 := by simp
  have HG := hid hW.gd
  have HW1 := hid (hW.hide hb1)
  have hu1 : Cps T (w.alloc (.cells (rlc r u) 31)) u r.cp := Cps.carry (fun k hk h => ⟨h, heap_alloc_old _ _ hk⟩) hu
  obtain ⟨ua, uc, hue, -⟩ := hu.form
  obtain ⟨W, HWe⟩ : ∃ W, Hid (w.alloc (.cells (rlc r u) 31) = W) := ⟨_, rfl⟩
  rw [HWe.out] at hb1 hg1 hs1 HW1 hu1
  obtain ⟨S1, HS1⟩ : ∃ S1, Hid (Sx S w.heap.size W.heap.size = S1) := ⟨_, rfl⟩
  rw [HS1.out] at HW1
  have HC : Hid (∀ w', Only (OS c S1) W w' → w'.cell? ⟨w.heap.size, 0, none⟩ = some (.int .i64 r.rk) ∧ w'.cell? ⟨w.heap.size, 23, none⟩ = some u ∧ w'.cell? ⟨w.heap.size, 24, none⟩ = some (.int .u64 r.ck) ∧ Hid (w'.rangeAt w.heap.size 1 (row 22 r.mt).toList)) := by
    show ∀ _, _
    intro w' ho
    rw [← HS1.out] at ho
    refine rl_cells (t := 31) ?_
    rw [only_mid HG.out ho _ (Nat.le_refl _) (by omega)]
    exact hg1
  have HMt : Hid (∀ w' ys, Only (OS c S1) W w' → Wt S1 w' c m ys → Calls Tryz.prog 102 #[.pointer (some ⟨c, 0, none⟩), mv r.mt] w' (WrP S1 c m ys (encMt r.mt) (mOk r.mt) W)) := fun w' ys ho h => (wmatch_any h r.mt hf.2.1).mono fun e w2 hq => hq.from ho
  have HCp : Hid (∀ w' ys, Only (OS c S1) W w' → Wt S1 w' c m ys → Calls Tryz.prog 103 #[.pointer (some ⟨c, 0, none⟩), u, .func (.func 104) #[] #[]] w' (WrP S1 c m ys (encCs r.cp) (r.cp.all okCp) W)) := by
    show ∀ _, _
    intro w' ys ho h
    have hT1 : ∀ k, T k → ¬ S1 k ∧ k ≠ c := fun k hk => ⟨fun hs => (hT k hk).1 (by rw [← HS1.out] at hs; exact hs.1), (hT k hk).2⟩
    exact (wlAA_any h u r.cp (Cps.carry (fun k _ hk => ⟨hk, ho.block k (by rintro (e | e); exact (hT1 k hk).2 e; exact (hT1 k hk).1 e)⟩) hu1) hT1).mono fun e w2 hq => hq.from ho
  have HEnd : Hid (∀ w', Only (OS c S1) W w' → Only (OS c S) w w') := fun w' ho => only_back HG.out hb1 (by rw [← HS1.out] at ho; exact ho)
  have HEnd2 : Hid (∀ w' ys, Only (OS c S1) W w' → Wt S1 w' c m ys → Wt S w' c m ys) := fun w' ys ho h => by
    rw [← HS1.out] at h
    exact h.back HG.out (HEnd.out w' ho).size
  have hfr := hf.1
  have hck := hf.2.2.2.2
  have HDg := hid (dg_wrap r.rk 4 (by omega))
  have hok : okRl r = (okRk r.rk && (mOk r.mt && r.cp.all okCp)) := rfl
  have HEn : Hid (encRl r = dg r.rk 4 ++ (dg r.ck 8 ++ (encMt r.mt ++ encCs r.cp))) := rfl
  subst hue
  clear hW hb1 hg1 hs1 hu hu1 hf
  obtain ⟨q0, q1, q2, Q3⟩ := HC.out W (Only.refl _ _)
  have HOk := hid hok
  clear hok
  cases h1 : okRk r.rk with
  | false =>
    rw [h1] at HOk
    have hrk : ¬ (-2147483648 ≤ r.rk ∧ r.rk ≤ 2147483647) := by
      have := of_decide_eq_false h1
      exact this
    clear h1 HMt HCp
    generalize r.rk = x at q0 hrk hfr
    by_cases ha : -2147483648 ≤ x
    · have hb : ¬ x ≤ 2147483647 := fun h => hrk ⟨ha, h⟩
      have d2 : decide (x ≤ 2147483647) = false := by simpa using hb
      clear hrk
      go_enter Tryz.func68, Tryz.ntmps68
      go_upto_region 1 with fail
      rw [HWe.out]
      go_wp2_with (go_at_call 30; refine (must_false _).mono ?_; rintro e w' ⟨rfl, hw⟩; rw [hw]; clear hw w')
      refine ⟨rfl, ?_⟩
      rw [HOk.out]
      exact WrP.no (HEnd.out W (Only.refl _ _))
    · have d1 : decide (-2147483648 ≤ x) = false := by simpa using ha
      clear hrk
      go_enter Tryz.func68, Tryz.ntmps68
      go_upto_region 1 with fail
      rw [HWe.out]
      go_wp2_with (go_at_call 30; refine (must_false _).mono ?_; rintro e w' ⟨rfl, hw⟩; rw [hw]; clear hw w')
      refine ⟨rfl, ?_⟩
      rw [HOk.out]
      exact WrP.no (HEnd.out W (Only.refl _ _))
  | true =>
    obtain ⟨ha, hb⟩ := of_decide_eq_true (show okRk r.rk = true from h1)
    rw [h1, Bool.true_and] at HOk
    clear h1
    cases h2 : mOk r.mt with
    | false =>
      rw [h2] at HMt HOk
      clear h2 HCp
      go_enter Tryz.func68, Tryz.ntmps68
      go_upto_region 1 with fail
      rw [HWe.out]
      go_wp2_with (first
        | (go_at_call 30; refine (must_true _).mono ?_; rintro e w' ⟨rfl, hw⟩; rw [hw]; clear hw w')
        | (refine ldMid 28 (.tmp 23) rfl rfl _ 1 rfl (row 22 r.mt) _ Tryz.underlying28 rfl (sizeMt r.mt) T3.out ?_)
        | (go_at_call 102; refine (HMt.out _ _ H2.out.1 H2.out.2).mono ?_; intro e w5 h9; obtain ⟨rfl, hq⟩ := h9.bad; have H3 := hid hq; clear hq h9)
        | (go_at_call 32; refine (wnumber_on H1.out.1 H1.out.2 8 r.ck (by omega) (by omega)).mono ?_; rintro e w4 ⟨rfl, hq⟩; obtain ⟨t0, t1, t2, T3⟩ := HC.out w4 hq.1; have H2 := hid hq; clear hq)
        | (go_at_call 32; refine (wnumber_on (Only.refl _ _) HW1.out 4 (IntKind.u64.wrap r.rk) (by omega) (by omega)).mono ?_; rintro e w3 ⟨rfl, hq⟩; obtain ⟨s0, s1, s2, S3⟩ := HC.out w3 hq.1; have H1 := hid hq; clear hq))
      refine ⟨rfl, ?_⟩
      rw [HOk.out]
      exact WrP.no (HEnd.out _ H3.out)
    | true =>
      rw [h2, Bool.true_and] at HOk
      rw [h2] at HMt
      clear h2
      cases h3 : r.cp.all okCp with
      | false =>
        rw [h3] at HCp HOk
        clear h3
        go_enter Tryz.func68, Tryz.ntmps68
        go_upto_region 1 with fail
        rw [HWe.out]
        go_wp2_with (first
          | (go_at_call 30; refine (must_true _).mono ?_; rintro e w' ⟨rfl, hw⟩; rw [hw]; clear hw w')
          | (refine ldMid 28 (.tmp 23) rfl rfl _ 1 rfl (row 22 r.mt) _ Tryz.underlying28 rfl (sizeMt r.mt) T3.out ?_)
          | (go_at_call 103; refine (HCp.out _ _ H3.out.1 H3.out.2).mono ?_; intro e w6 h9; obtain ⟨rfl, hq⟩ := h9.bad; have H4 := hid hq; clear hq h9)
          | (go_at_call 102; refine (HMt.out _ _ H2.out.1 H2.out.2).mono ?_; intro e w5 h9; obtain ⟨rfl, hq⟩ := h9.get; obtain ⟨v0, v1, v2, V3⟩ := HC.out w5 hq.1; have H3 := hid hq; clear hq h9)
          | (go_at_call 32; refine (wnumber_on H1.out.1 H1.out.2 8 r.ck (by omega) (by omega)).mono ?_; rintro e w4 ⟨rfl, hq⟩; obtain ⟨t0, t1, t2, T3⟩ := HC.out w4 hq.1; have H2 := hid hq; clear hq)
          | (go_at_call 32; refine (wnumber_on (Only.refl _ _) HW1.out 4 (IntKind.u64.wrap r.rk) (by omega) (by omega)).mono ?_; rintro e w3 ⟨rfl, hq⟩; obtain ⟨s0, s1, s2, S3⟩ := HC.out w3 hq.1; have H1 := hid hq; clear hq))
        refine ⟨rfl, ?_⟩
        rw [HOk.out]
        exact WrP.no (HEnd.out _ H4.out)
      | true =>
        rw [h3] at HCp HOk
        clear h3
        go_enter Tryz.func68, Tryz.ntmps68
        go_upto_region 1 with fail
        rw [HWe.out]
        go_wp2_with (first
          | (go_at_call 30; refine (must_true _).mono ?_; rintro e w' ⟨rfl, hw⟩; rw [hw]; clear hw w')
          | (refine ldMid 28 (.tmp 23) rfl rfl _ 1 rfl (row 22 r.mt) _ Tryz.underlying28 rfl (sizeMt r.mt) T3.out ?_)
          | (go_at_call 103; refine (HCp.out _ _ H3.out.1 H3.out.2).mono ?_; intro e w6 h9; obtain ⟨rfl, hq⟩ := h9.get; have H4 := hid hq; clear hq h9)
          | (go_at_call 102; refine (HMt.out _ _ H2.out.1 H2.out.2).mono ?_; intro e w5 h9; obtain ⟨rfl, hq⟩ := h9.get; obtain ⟨v0, v1, v2, V3⟩ := HC.out w5 hq.1; have H3 := hid hq; clear hq h9)
          | (go_at_call 32; refine (wnumber_on H1.out.1 H1.out.2 8 r.ck (by omega) (by omega)).mono ?_; rintro e w4 ⟨rfl, hq⟩; obtain ⟨t0, t1, t2, T3⟩ := HC.out w4 hq.1; have H2 := hid hq; clear hq)
          | (go_at_call 32; refine (wnumber_on (Only.refl _ _) HW1.out 4 (IntKind.u64.wrap r.rk) (by omega) (by omega)).mono ?_; rintro e w3 ⟨rfl, hq⟩; obtain ⟨s0, s1, s2, S3⟩ := HC.out w3 hq.1; have H1 := hid hq; clear hq))
        first | go_end0 | refine bodyPost_ret (results_none rfl _ _ _) rfl ?_
        rw [HOk.out]
        have hfin := H4.out.2
        rw [HDg.out] at hfin
        simp only [List.append_assoc] at hfin
        exact WrP.yes (HEnd.out _ H4.out.1) (HEnd2.out _ _ H4.out.1 hfin)

/-- A held rule in a block: its cells. -/
theorem hd_cells {w : World} {g : Nat} {h : Hd} {u : Value} {t : TypeId} (hg : w.heap[g]? = some (.cells (hdc h u) t (0, 0))) : w.cell? ⟨g, 25, none⟩ = some (.int .u64 h.pk) ∧ w.cell? ⟨g, 26, none⟩ = some (.int .u64 h.bt) ∧ Hid (w.rangeAt g 0 (rlc h.r u).toList) := by
  refine ⟨?_, ?_, range_of fun i hi => ?_⟩
  · rw [cell_of_row w g 25 _ _ _ hg]; exact hdc_pk h u
  · rw [cell_of_row w g 26 _ _ _ hg]; exact hdc_bt h u
  · rw [rlc_size] at hi
    rw [Nat.zero_add, cell_of_row w g i _ _ _ hg, hdc_rl h u i hi]
set_option maxHeartbeats 1600000 in
set_option maxRecDepth 100000 in
theorem wheld_any {T : Nat → Prop} {w : World} {xs : List Int} (hW : Wt S w c m xs) (h : Hd) (u : Value) (hu : Cps T w u h.r.cp) (hf : h.Fit) (hT : ∀ k, T k → ¬ S k ∧ k ≠ c) :
    Calls Tryz.prog 116 #[.pointer (some ⟨c, 0, none⟩), .agg (hdc h u)] w (WrP S c m xs (encHd h) (okHd h) w) := by
  have hb1 : Below w.heap.size w (w.alloc (.cells (hdc h u) 57)) := (Below.refl _ _).alloc (Nat.le_refl _) _
  have hg1 : (w.alloc (.cells (hdc h u) 57)).heap[w.heap.size]? = some (.cells (hdc h u) 57 (0, 0)) := heap_alloc_new _ _
  have hs1 : (w.alloc (.cells (hdc h u) 57)).heap.size = w.heap.size + 1 := by simp
  have HG := hid hW.gd
  have HW1 := hid (hW.hide hb1)
  have hu1 : Cps T (w.alloc (.cells (hdc h u) 57)) u h.r.cp := Cps.carry (fun k hk h => ⟨h, heap_alloc_old _ _ hk⟩) hu
  obtain ⟨W, HWe⟩ : ∃ W, Hid (w.alloc (.cells (hdc h u) 57) = W) := ⟨_, rfl⟩
  rw [HWe.out] at hb1 hg1 hs1 HW1 hu1
  obtain ⟨S1, HS1⟩ : ∃ S1, Hid (Sx S w.heap.size W.heap.size = S1) := ⟨_, rfl⟩
  rw [HS1.out] at HW1
  have HC : Hid (∀ w', Only (OS c S1) W w' → w'.cell? ⟨w.heap.size, 25, none⟩ = some (.int .u64 h.pk) ∧ w'.cell? ⟨w.heap.size, 26, none⟩ = some (.int .u64 h.bt) ∧ Hid (w'.rangeAt w.heap.size 0 (rlc h.r u).toList)) := by
    show ∀ _, _
    intro w' ho
    rw [← HS1.out] at ho
    refine hd_cells (t := 57) ?_
    rw [only_mid HG.out ho _ (Nat.le_refl _) (by omega)]
    exact hg1
  have HR : Hid (Calls Tryz.prog 68 #[.pointer (some ⟨c, 0, none⟩), .agg (rlc h.r u)] W (WrP S1 c m xs (encRl h.r) (okHd h) W)) := wrule_any HW1.out h.r u hu1 hf.1 fun k hk => ⟨fun hs => (hT k hk).1 (by rw [← HS1.out] at hs; exact hs.1), (hT k hk).2⟩
  have HEnd : Hid (∀ w', Only (OS c S1) W w' → Only (OS c S) w w') := fun w' ho => only_back HG.out hb1 (by rw [← HS1.out] at ho; exact ho)
  have HEnd2 : Hid (∀ w' ys, Only (OS c S1) W w' → Wt S1 w' c m ys → Wt S w' c m ys) := fun w' ys ho h => by
    rw [← HS1.out] at h
    exact h.back HG.out (HEnd.out w' ho).size
  have hpk := hf.2.1
  have hbt := hf.2.2
  have HEn : Hid (encHd h = encRl h.r ++ (dg h.pk 8 ++ dg h.bt 8)) := rfl
  clear hW hb1 hg1 hs1 hu hu1 hf
  obtain ⟨q0, q1, Q3⟩ := HC.out W (Only.refl _ _)
  cases h1 : okHd h with
  | false =>
    rw [h1] at HR
    clear h1
    go_enter Tryz.func116, Tryz.ntmps116
    go_upto_region 1 with fail
    rw [HWe.out]
    go_wp2_with (first
      | (refine ldMid 31 (.tmp 5) rfl rfl _ 0 rfl (rlc h.r u) _ Tryz.underlying31 rfl (sizeRl h.r u) Q3.out ?_)
      | (go_at_call 68; refine (HR.out).mono ?_; intro e w3 h9; obtain ⟨rfl, hq⟩ := h9.bad; have H1 := hid hq; clear hq h9))
    exact ⟨rfl, WrP.no (HEnd.out _ H1.out)⟩
  | true =>
    rw [h1] at HR
    clear h1
    go_enter Tryz.func116, Tryz.ntmps116
    go_upto_region 1 with fail
    rw [HWe.out]
    go_wp2_with (first
      | (refine ldMid 31 (.tmp 5) rfl rfl _ 0 rfl (rlc h.r u) _ Tryz.underlying31 rfl (sizeRl h.r u) Q3.out ?_)
      | (go_at_call 68; refine (HR.out).mono ?_; intro e w3 h9; obtain ⟨rfl, hq⟩ := h9.get; obtain ⟨s0, s1, S3⟩ := HC.out w3 hq.1; have H1 := hid hq; clear hq h9)
      | (go_at_call 32; refine (wnumber_on H2.out.1 H2.out.2 8 h.bt (by omega) (by omega)).mono ?_; rintro e w5 ⟨rfl, hq⟩; have H3 := hid hq; clear hq)
      | (go_at_call 32; refine (wnumber_on H1.out.1 H1.out.2 8 h.pk (by omega) (by omega)).mono ?_; rintro e w4 ⟨rfl, hq⟩; obtain ⟨t0, t1, T3⟩ := HC.out w4 hq.1; have H2 := hid hq; clear hq))
    first | go_end0 | refine bodyPost_ret (results_none rfl _ _ _) rfl ?_
    have hfin := H3.out.2
    simp only [List.append_assoc] at hfin
    exact WrP.yes (HEnd.out _ H3.out.1) (HEnd2.out _ _ H3.out.1 hfin)
end
end Go.Proofs.YtllbbbfkdgjffaaGreatDoor
