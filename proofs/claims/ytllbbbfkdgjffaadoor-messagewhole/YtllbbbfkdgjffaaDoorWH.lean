/-
  Proved here: lists are written by writeList, at Held; helds. Conditions: what is written lies in blocks that the writer does not turn.
-/
import Derived.Test.YtllbbbfkdgjffaaDoorW7
namespace Go.Proofs.YtllbbbfkdgjffaaDoor
open Go.RowKit

section
variable {S : Nat → Prop} {c m : Nat}

set_option maxHeartbeats 800000 in
set_option maxRecDepth 100000 in
theorem wlH_any {T : Nat → Prop} {w : World} {xs : List Int} (hW : Wt S w c m xs) (v : Value) (l : List Hd) (hl : Hds T w v l) (hT : ∀ k, T k → ¬ S k ∧ k ≠ c) :
    Calls Tryd.prog 85 #[.pointer (some ⟨c, 0, none⟩), v, .func (.func 86) #[] #[]] w (WrP S c m xs (dg l.length 2 ++ l.flatMap encHd) (l.all okHd) w) := by
  have hlen := hl.len
  have HN := hid (wcount_any hW l.length hlen)
  have HT : Hid (∀ w', Only (OS c S) w w' → Hds T w' v l) := fun w' ho => Hds.carry (fun k _ hk => ⟨hk, ho.block k (by rintro (e | e); exact (hT k hk).2 e; exact (hT k hk).1 e)⟩) hl
  obtain ⟨ao, cap, rfl, hcap, -, -, -⟩ := hl
  clear hW
  go_enter Tryd.func85, Tryd.ntmps85
  go_wp2_with (go_at_call 81; refine (HN.out).mono ?_; rintro e w1 ⟨rfl, hq⟩; have HQ := hid hq; clear hq)
  go_loopw [14] (fun i wr => ∃ j : Nat, j ≤ l.length ∧ i = .int .i64 j ∧ Only (OS c S) w wr ∧ Wt S wr c m (xs ++ (dg l.length 2 ++ (l.take j).flatMap encHd)) ∧ (l.take j).all okHd = true) (fun i _ => l.length - (intOf i).toNat)
  case atStart => exact ⟨0, by omega, rfl, HQ.out.1, by simpa using HQ.out.2, by simp⟩
  case round =>
    obtain ⟨j, hj, rfl, ho, hW, hall⟩ := hrel
    have HO := hid ho
    have HW := hid hW
    have HALL := hid hall
    clear ho hW hall HQ HN
    by_cases hlt : j < l.length
    · have hne : l ≠ [] := fun e => by rw [e] at hlt; simp at hlt
      obtain ⟨ao', cap', he, -, -, -, h5⟩ := HT.out wr HO.out
      obtain ⟨b, o, hTb, hao, hcl⟩ := h5 hne
      simp only [Value.slice.injEq] at he
      obtain ⟨rfl, -, -⟩ := he
      subst hao
      have hR := hcl j hlt
      have HSt : Hid (l.take (j + 1) = l.take j ++ [l[j]]) := by show _ = _; rw [List.take_succ_eq_append_getElem hlt]
      have HMem : Hid (l[j] ∈ l) := List.getElem_mem hlt
      generalize l[j] = x at hR HSt HMem
      clear h5 hcl hne
      obtain ⟨u, hc27, hCp, hfit⟩ := hR
      have HRg : Hid (wr.rangeAt b (o + j * 27) (hdc x u).toList) := range_of fun i hi => hc27 i (by rw [hdc_size] at hi; exact hi)
      have HX := hid (And.intro hCp hfit)
      have HU := hid hCp.one
      have HNw : Hid ((wr.alloc (.cells (hdc x u) 137)).heap[wr.heap.size]? = some (.cells (hdc x u) 137 (0, 0))) := heap_alloc_new _ _
      clear hCp hfit hc27
      have HE : Hid (Calls Tryd.prog 86 #[.pointer (some ⟨c, 0, none⟩), .agg (hdc x u)] (wr.alloc (.cells (hdc x u) 137)) (WrP S c m (xs ++ (dg l.length 2 ++ (l.take j).flatMap encHd)) (encHd x) (okHd x) (wr.alloc (.cells (hdc x u) 137)))) := wheld_any (HW.out.alloc _) x u (Cps.carry (fun k hk h => ⟨h, heap_alloc_old _ _ hk⟩) HX.out.1) HX.out.2 hT
      have HTk : Hid ((l.take (j + 1)).flatMap encHd = (l.take j).flatMap encHd ++ encHd x ∧ (l.take (j + 1)).all okHd = okHd x) := by
        refine And.intro ?_ ?_
        · rw [HSt.out, List.flatMap_append]; simp
        · rw [HSt.out, List.all_append, HALL.out]; simp
      have HNo : Hid (okHd x = false → l.all okHd = false) := fun hx => by
        cases h : l.all okHd with
        | false => rfl
        | true => exact absurd (List.all_eq_true.1 h x HMem.out) (by rw [hx]; simp)
      clear HSt HMem HALL HT
      cases hok : okHd x with
      | false =>
        have hfin := HNo.out hok
        have HE' : Hid (Calls Tryd.prog 86 #[.pointer (some ⟨c, 0, none⟩), .agg (hdc x u)] (wr.alloc (.cells (hdc x u) 137)) fun e w' => e = .panicked PC ∧ Only (OS c S) w w') := by
          refine HE.out.mono ?_
          rintro e w' ⟨h1, ⟨h2, _⟩ | ⟨_, h3⟩⟩
          · rw [hok] at h2; cases h2
          · exact ⟨h3, (HO.out.trans ((Only.refl (OS c S) wr).alloc (fun k hk => Or.inr (HW.out.gd.fresh k hk)) _)).trans h1⟩
        have HF := hid hfin
        clear HE hok HNo HTk hfin HW
        go_upto_region 4 with (first
          | (refine ldMid 137 (.tmp 16) rfl rfl b (o + j * 27) rfl (hdc x u) _ Tryd.underlying137 rfl (sizeHd x u) HRg.out ?_)
          | (refine stNew 137 (.tmp 7) (.tmp 17) rfl rfl wr 137 _ (hdc x u) (by with_reducible rfl) rfl rfl (sizeHd x u) (by rw [hdc_size]; rfl) (hdc_one x u HU.out) ?_))
        generalize wr.alloc (.cells (hdc x u) 137) = WN at HNw HE' ⊢
        go_wp2_with (first
          | (refine ldRow 137 (.tmp 7) rfl rfl wr.heap.size rfl 137 (hdc x u) _ Tryd.underlying137 rfl (sizeHd x u) HNw.out ?_)
          | (go_at_call 86; refine (HE'.out).mono ?_; rintro e w' ⟨rfl, hq⟩; have HQ2 := hid hq; clear hq))
        refine ⟨rfl, ?_⟩
        rw [HF.out]
        exact WrP.no HQ2.out
      | true =>
        have HE' : Hid (Calls Tryd.prog 86 #[.pointer (some ⟨c, 0, none⟩), .agg (hdc x u)] (wr.alloc (.cells (hdc x u) 137)) fun e w' => e = .returned (.tuple #[]) ∧ Only (OS c S) w w' ∧ Wt S w' c m (xs ++ (dg l.length 2 ++ (l.take (j + 1)).flatMap encHd)) ∧ (l.take (j + 1)).all okHd = true) := by
          refine HE.out.mono ?_
          rintro e w' ⟨h1, ⟨_, h2, h3⟩ | ⟨h2, _⟩⟩
          · refine ⟨h2, (HO.out.trans ((Only.refl (OS c S) wr).alloc (fun k hk => Or.inr (HW.out.gd.fresh k hk)) _)).trans h1, ?_, by rw [HTk.out.2, hok]⟩
            rw [HTk.out.1]
            simpa only [List.append_assoc] using h3
          · rw [hok] at h2; cases h2
        clear HE hok HNo HTk HW
        go_upto_region 4 with (first
          | (refine ldMid 137 (.tmp 16) rfl rfl b (o + j * 27) rfl (hdc x u) _ Tryd.underlying137 rfl (sizeHd x u) HRg.out ?_)
          | (refine stNew 137 (.tmp 7) (.tmp 17) rfl rfl wr 137 _ (hdc x u) (by with_reducible rfl) rfl rfl (sizeHd x u) (by rw [hdc_size]; rfl) (hdc_one x u HU.out) ?_))
        generalize wr.alloc (.cells (hdc x u) 137) = WN at HNw HE' ⊢
        go_wp2_with (first
          | (refine ldRow 137 (.tmp 7) rfl rfl wr.heap.size rfl 137 (hdc x u) _ Tryd.underlying137 rfl (sizeHd x u) HNw.out ?_)
          | (go_at_call 86; refine (HE'.out).mono ?_; rintro e w' ⟨rfl, hq⟩; have HQ2 := hid hq; clear hq))
        go_roundw
        case rel => exact ⟨j + 1, by omega, by go_num, HQ2.out⟩
        case measure => simp [intOf]; omega
    · obtain rfl : j = l.length := by omega
      have hW := HW.out
      have hall := HALL.out
      rw [List.take_length] at hW hall
      have HW2 := hid hW
      have HA2 := hid hall
      clear hW hall HW HALL HT
      go_wp2
      first | go_end0 | refine bodyPost_ret (results_none rfl _ _ _) rfl ?_
      rw [HA2.out]
      exact WrP.yes HO.out HW2.out

theorem whelds_any {T : Nat → Prop} {w : World} {xs : List Int} (hW : Wt S w c m xs) (v : Value) (l : List Hd) (hl : Hds T w v l) (hT : ∀ k, T k → ¬ S k ∧ k ≠ c) :
    Calls Tryd.prog 50 #[.pointer (some ⟨c, 0, none⟩), v] w (WrP S c m xs (dg l.length 2 ++ l.flatMap encHd) (l.all okHd) w) := by
  have HE := hid (wlH_any hW v l hl hT)
  obtain ⟨ao, cap, rfl, -⟩ := hl.form
  clear hW hl hT
  cases hok : l.all okHd with
  | false =>
    have HE' : Hid (Calls Tryd.prog 85 #[.pointer (some ⟨c, 0, none⟩), .slice ao l.length cap, .func (.func 86) #[] #[]] w fun e w' => e = .panicked PC ∧ Only (OS c S) w w') := by
      refine HE.out.mono ?_
      rintro e w' ⟨h1, ⟨h2, _⟩ | ⟨_, h3⟩⟩
      · rw [hok] at h2; cases h2
      · exact ⟨h3, h1⟩
    clear HE hok
    go_enter Tryd.func50, Tryd.ntmps50
    go_wp2_with (go_at_call 85; refine (HE'.out).mono ?_; rintro e w' ⟨rfl, hq⟩; have HQ := hid hq; clear hq)
    exact ⟨rfl, WrP.no HQ.out⟩
  | true =>
    have HE' : Hid (Calls Tryd.prog 85 #[.pointer (some ⟨c, 0, none⟩), .slice ao l.length cap, .func (.func 86) #[] #[]] w fun e w' => e = .returned (.tuple #[]) ∧ Only (OS c S) w w' ∧ Wt S w' c m (xs ++ (dg l.length 2 ++ l.flatMap encHd))) := by
      refine HE.out.mono ?_
      rintro e w' ⟨h1, ⟨_, h2, h3⟩ | ⟨h2, _⟩⟩
      · exact ⟨h2, h1, h3⟩
      · rw [hok] at h2; cases h2
    clear HE hok
    go_enter Tryd.func50, Tryd.ntmps50
    go_wp2_with (go_at_call 85; refine (HE'.out).mono ?_; rintro e w' ⟨rfl, hq⟩; have HQ := hid hq; clear hq)
    first | go_end0 | refine bodyPost_ret (results_none rfl _ _ _) rfl ?_
    exact WrP.yes HQ.out.1 HQ.out.2
end
end Go.Proofs.YtllbbbfkdgjffaaDoor
