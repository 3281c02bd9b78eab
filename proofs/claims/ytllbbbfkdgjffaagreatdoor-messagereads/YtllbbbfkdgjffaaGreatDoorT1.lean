/-
  Proved here: lists are written by writeList, at Held; helds. Conditions: what is written lies in blocks that the writer does not turn.
-/
/-
  Proved here: what field makes of three functions: a part of three closures over them, at each of its seven types; no old memory turns. No condition.
-/
import Derived.Test.YtllbbbfkdgjffaaGreatDoorW7
import Derived.Laws.EntriesVeiled
namespace Go.Proofs.YtllbbbfkdgjffaaGreatDoor
open Go.RowKit

section
variable {S : Nat → Prop} {c m : Nat}

set_option maxHeartbeats 800000 in
set_option maxRecDepth 100000 in
theorem wlH_any {T : Nat → Prop} {w : World} {xs : List Int} (hW : Wt S w c m xs) (v : Value) (l : List Hd) (hl : Hds T w v l) (hT : ∀ k, T k → ¬ S k ∧ k ≠ c) :
    Calls Tryz.prog 115 #[.pointer (some ⟨c, 0, none⟩), v, .func (.func 116) #[] #[]] w (WrP S c m xs (dg l.length 2 ++ l.flatMap encHd) (l.all okHd) w) := by
  have hlen := hl.len
  have HN := hid (wcount_any hW l.length hlen)
  have HT : Hid (∀ w', Only (OS c S) w w' → Hds T w' v l) := fun w' ho => Hds.carry (fun k _ hk => ⟨hk, ho.block k (by rintro (e | e); exact (hT k hk).2 e; exact (hT k hk).1 e)⟩) hl
  obtain ⟨ao, cap, rfl, hcap, -, -, -⟩ := hl
  clear hW
  go_enter Tryz.func115, Tryz.ntmps115
  go_wp2_with (go_at_call 111; refine (HN.out).mono ?_; rintro e w1 ⟨rfl, hq⟩; have HQ := hid hq; clear hq)
  go_loopw [14] (fun i wr => ∃ j : Nat, j ≤ l.length ∧ i = .int .i64 j ∧ Only (OS c S) w wr ∧ Wt S wr c m (xs ++ (dg l.length 2 ++ (l.take j).flatMap encHd)) ∧ (l.take j).all okHd = true) (fun i _ => l.length - (intOf i).toNat)
  case atStart => exact ⟨0, by omega, rfl, HQ.out.1, by simpa using HQ.out.2, by simp⟩
  case round =>
    obtain ⟨j, hj, rfl, ho, hW, hall⟩ := hrel
    have HO := hid ho
    have HW := hid hW
    have HALL := hid hall
    clear ho hW hall HQ HN
    by_cases hlt : j < l.length
    · have hne : l ≠ [] := fun e => by rw [e] at hlt; simp at hlt
      obtain ⟨ao', cap', he, -, -, -, h5⟩ := HT.out wr HO.out
      obtain ⟨b, o, hTb, hao, hcl⟩ := h5 hne
      simp only [Value.slice.injEq] at he
      obtain ⟨rfl, -, -⟩ := he
      subst hao
      have hR := hcl j hlt
      have HSt : Hid (l.take (j + 1) = l.take j ++ [l[j]]) := by show _ = _; rw [List.take_succ_eq_append_getElem hlt]
      have HMem : Hid (l[j] ∈ l) := List.getElem_mem hlt
      generalize l[j] = x at hR HSt HMem
      clear h5 hcl hne
      obtain ⟨u, hc27, hCp, hfit⟩ := hR
      have HRg : Hid (wr.rangeAt b (o + j * 27) (hdc x u).toList) := range_of fun i hi => hc27 i (by rw [hdc_size] at hi; exact hi)
      have HX := hid (And.intro hCp hfit)
      have HU := hid hCp.one
      have HNw : Hid ((wr.alloc (.cells (hdc x u) 57)).heap[wr.heap.size]? = some (.cells (hdc x u) 57 (0, 0))) := heap_alloc_new _ _
      clear hCp hfit hc27
      have HE : Hid (Calls Tryz.prog 116 #[.pointer (some ⟨c, 0, none⟩), .agg (hdc x u)] (wr.alloc (.cells (hdc x u) 57)) (WrP S c m (xs ++ (dg l.length 2 ++ (l.take j).flatMap encHd)) (encHd x) (okHd x) (wr.alloc (.cells (hdc x u) 57)))) := wheld_any (HW.out.alloc _) x u (Cps.carry (fun k hk h => ⟨h, heap_alloc_old _ _ hk⟩) HX.out.1) HX.out.2 hT
      have HTk : Hid ((l.take (j + 1)).flatMap encHd = (l.take j).flatMap encHd ++ encHd x ∧ (l.take (j + 1)).all okHd = okHd x) := by
        refine And.intro ?_ ?_
        · rw [HSt.out, List.flatMap_append]; simp
        · rw [HSt.out, List.all_append, HALL.out]; simp
      have HNo : Hid (okHd x = false → l.all okHd = false) := fun hx => by
        cases h : l.all okHd with
        | false => rfl
        | true => exact absurd (List.all_eq_true.1 h x HMem.out) (by rw [hx]; simp)
      clear HSt HMem HALL HT
      cases hok : okHd x with
      | false =>
        have hfin := HNo.out hok
        have HE' : Hid (Calls Tryz.prog 116 #[.pointer (some ⟨c, 0, none⟩), .agg (hdc x u)] (wr.alloc (.cells (hdc x u) 57)) fun e w' => e = .panicked PC ∧ Only (OS c S) w w') := by
          refine HE.out.mono ?_
          rintro e w' ⟨h1, ⟨h2, _⟩ | ⟨_, h3⟩⟩
          · rw [hok] at h2; cases h2
          · exact ⟨h3, (HO.out.trans ((Only.refl (OS c S) wr).alloc (fun k hk => Or.inr (HW.out.gd.fresh k hk)) _)).trans h1⟩
        have HF := hid hfin
        clear HE hok HNo HTk hfin HW
        go_upto_region 4 with (first
          | (refine ldMid 57 (.tmp 16) rfl rfl b (o + j * 27) rfl (hdc x u) _ Tryz.underlying57 rfl (sizeHd x u) HRg.out ?_)
          | (refine stNew 57 (.tmp 7) (.tmp 17) rfl rfl wr 57 _ (hdc x u) (by with_reducible rfl) rfl rfl (sizeHd x u) (by rw [hdc_size]; rfl) (hdc_one x u HU.out) ?_))
        generalize wr.alloc (.cells (hdc x u) 57) = WN at HNw HE' ⊢
        go_wp2_with (first
          | (refine ldRow 57 (.tmp 7) rfl rfl wr.heap.size rfl 57 (hdc x u) _ Tryz.underlying57 rfl (sizeHd x u) HNw.out ?_)
          | (go_at_call 116; refine (HE'.out).mono ?_; rintro e w' ⟨rfl, hq⟩; have HQ2 := hid hq; clear hq))
        refine ⟨rfl, ?_⟩
        rw [HF.out]
        exact WrP.no HQ2.out
      | true =>
        have HE' : Hid (Calls Tryz.prog 116 #[.pointer (some ⟨c, 0, none⟩), .agg (hdc x u)] (wr.alloc (.cells (hdc x u) 57)) fun e w' => e = .returned (.tuple #[]) ∧ Only (OS c S) w w' ∧ Wt S w' c m (xs ++ (dg l.length 2 ++ (l.take (j + 1)).flatMap encHd)) ∧ (l.take (j + 1)).all okHd = true) := by
          refine HE.out.mono ?_
          rintro e w' ⟨h1, ⟨_, h2, h3⟩ | ⟨h2, _⟩⟩
          · refine ⟨h2, (HO.out.trans ((Only.refl (OS c S) wr).alloc (fun k hk => Or.inr (HW.out.gd.fresh k hk)) _)).trans h1, ?_, by rw [HTk.out.2, hok]⟩
            rw [HTk.out.1]
            simpa only [List.append_assoc] using h3
          · rw [hok] at h2; cases h2
        clear HE hok HNo HTk HW
        go_upto_region 4 with (first
          | (refine ldMid 57 (.tmp 16) rfl rfl b (o + j * 27) rfl (hdc x u) _ Tryz.underlying57 rfl (sizeHd x u) HRg.out ?_)
          | (refine stNew 57 (.tmp 7) (.tmp 17) rfl rfl wr 57 _ (hdc x u) (by with_reducible rfl) rfl rfl (sizeHd x u) (by rw [hdc_size]; rfl) (hdc_one x u HU.out) ?_))
        generalize wr.alloc (.cells (hdc x u) 57) = WN at HNw HE' ⊢
        go_wp2_with (first
          | (refine ldRow 57 (.tmp 7) rfl rfl wr.heap.size rfl 57 (hdc x u) _ Tryz.underlying57 rfl (sizeHd x u) HNw.out ?_)
          | (go_at_call 116; refine (HE'.out).mono ?_; rintro e w' ⟨rfl, hq⟩; have HQ2 := hid hq; clear hq))
        go_roundw
        case rel => exact ⟨j + 1, by omega, by go_num, HQ2.out⟩
        case measure => simp [intOf]; omega
    · obtain rfl : j = l.length := by omega
      have hW := HW.out
      have hall := HALL.out
      rw [List.take_length] at hW hall
      have HW2 := hid hW
      have HA2 := hid hall
      clear hW hall HW HALL HT
      go_wp2
      first | go_end0 | refine bodyPost_ret (results_none rfl _ _ _) rfl ?_
      rw [HA2.out]
      exact WrP.yes HO.out HW2.out

theorem whelds_any {T : Nat → Prop} {w : World} {xs : List Int} (hW : Wt S w c m xs) (v : Value) (l : List Hd) (hl : Hds T w v l) (hT : ∀ k, T k → ¬ S k ∧ k ≠ c) :
    Calls Tryz.prog 80 #[.pointer (some ⟨c, 0, none⟩), v] w (WrP S c m xs (dg l.length 2 ++ l.flatMap encHd) (l.all okHd) w) := by
  have HE := hid (wlH_any hW v l hl hT)
  obtain ⟨ao, cap, rfl, -⟩ := hl.form
  clear hW hl hT
  cases hok : l.all okHd with
  | false =>
    have HE' : Hid (Calls Tryz.prog 115 #[.pointer (some ⟨c, 0, none⟩), .slice ao l.length cap, .func (.func 116) #[] #[]] w fun e w' => e = .panicked PC ∧ Only (OS c S) w w') := by
      refine HE.out.mono ?_
      rintro e w' ⟨h1, ⟨h2, _⟩ | ⟨_, h3⟩⟩
      · rw [hok] at h2; cases h2
      · exact ⟨h3, h1⟩
    clear HE hok
    go_enter Tryz.func80, Tryz.ntmps80
    go_wp2_with (go_at_call 115; refine (HE'.out).mono ?_; rintro e w' ⟨rfl, hq⟩; have HQ := hid hq; clear hq)
    exact ⟨rfl, WrP.no HQ.out⟩
  | true =>
    have HE' : Hid (Calls Tryz.prog 115 #[.pointer (some ⟨c, 0, none⟩), .slice ao l.length cap, .func (.func 116) #[] #[]] w fun e w' => e = .returned (.tuple #[]) ∧ Only (OS c S) w w' ∧ Wt S w' c m (xs ++ (dg l.length 2 ++ l.flatMap encHd))) := by
      refine HE.out.mono ?_
      rintro e w' ⟨h1, ⟨_, h2, h3⟩ | ⟨h2, _⟩⟩
      · exact ⟨h2, h1, h3⟩
      · rw [hok] at h2; cases h2
    clear HE hok
    go_enter Tryz.func80, Tryz.ntmps80
    go_wp2_with (go_at_call 115; refine (HE'.out).mono ?_; rintro e w' ⟨rfl, hq⟩; have HQ := hid hq; clear hq)
    first | go_end0 | refine bodyPost_ret (results_none rfl _ _ _) rfl ?_
    exact WrP.yes HQ.out.1 HQ.out.2
end
end Go.Proofs.YtllbbbfkdgjffaaGreatDoor
namespace Go.Proofs.YtllbbbfkdgjffaaGreatDoor
open Go.RowKit

abbrev fnV (f : Nat) : Value := .func (.func f) #[] #[]
abbrev ptr (g : Nat) : Value := .pointer (some ⟨g, 0, none⟩)
/-- A part's three closures: f1 over the block g1, f2 over g2 and g1, f3 over g3 and g1. -/
abbrev ptc (f1 f2 f3 g1 g2 g3 : Nat) : Array Value := #[.func (.func f1) #[] #[ptr g1], .func (.func f2) #[] #[ptr g2, ptr g1], .func (.func f3) #[] #[ptr g3, ptr g1]]
/-- The blocks hold the three functions. -/
structure Pv (T : Nat → Prop) (w : World) (a b d g1 g2 g3 : Nat) : Prop where
  t1 : T g1
  t2 : T g2
  t3 : T g3
  c1 : w.cell? ⟨g1, 0, none⟩ = some (fnV a)
  c2 : w.cell? ⟨g2, 0, none⟩ = some (fnV b)
  c3 : w.cell? ⟨g3, 0, none⟩ = some (fnV d)
theorem Pv.carry {T T' : Nat → Prop} {w w' : World} {a b d g1 g2 g3 : Nat} (h : Pv T w a b d g1 g2 g3) (hc : ∀ b, b < w.heap.size → T b → T' b ∧ w'.heap[b]? = w.heap[b]?) : Pv T' w' a b d g1 g2 g3 := by
  have q1 := hc g1 (cell_lt h.c1) h.t1
  have q2 := hc g2 (cell_lt h.c2) h.t2
  have q3 := hc g3 (cell_lt h.c3) h.t3
  exact ⟨q1.1, q2.1, q3.1, by rw [cell_same q1.2]; exact h.c1, by rw [cell_same q2.2]; exact h.c2, by rw [cell_same q3.2]; exact h.c3⟩
theorem three_new (w : World) (x y z r : Obj) : ∃ W, Hid (W = (((w.alloc x).alloc y).alloc z).alloc r) ∧ Below w.heap.size w W ∧ W.heap.size = w.heap.size + 4 ∧ W.heap[w.heap.size]? = some x ∧ W.heap[w.heap.size + 1]? = some y ∧ W.heap[w.heap.size + 2]? = some z ∧ W.heap[w.heap.size + 3]? = some r := by
  refine ⟨_, rfl, ((((Below.refl _ _).alloc (Nat.le_refl _) _).alloc (by simp) _).alloc (by simp; try omega) _).alloc (by simp; try omega) _, by simp, ?_, ?_, ?_, ?_⟩
  · rw [heap_alloc_old _ _ (by simp; try omega), heap_alloc_old _ _ (by simp; try omega), heap_alloc_old _ _ (by simp)]; exact heap_alloc_new _ _
  · rw [heap_alloc_old _ _ (by simp; try omega), heap_alloc_old _ _ (by simp)]
    have := heap_alloc_new (w.alloc x) y
    simpa using this
  · rw [heap_alloc_old _ _ (by simp)]
    have := heap_alloc_new ((w.alloc x).alloc y) z
    simpa using this
  · have := heap_alloc_new (((w.alloc x).alloc y).alloc z) r
    simpa using this

set_option maxHeartbeats 800000 in
theorem fdU_any (a b d : Nat) (w : World) :
    Calls Tryz.prog 53 #[fnV a, fnV b, fnV d] w fun e w' => ∃ g1 g2 g3, e = .returned (.agg (ptc 87 88 89 g1 g2 g3)) ∧ Below w.heap.size w w' ∧ Pv (fun k => w.heap.size ≤ k ∧ k < w'.heap.size) w' a b d g1 g2 g3 := by
  have hmf : ∀ (fn : Fn) (first cap : Array Value) (w : World), (Instr.makeFunc fn first cap).run Tryz.prog w = .ok (.func fn first cap) w := fun _ _ _ _ => rfl
  obtain ⟨W, HW, hb, hs, h1, h2, h3, h4⟩ := three_new w (.cells #[fnV a] 106) (.cells #[fnV b] 107) (.cells #[fnV d] 109) (.cells (ptc 87 88 89 w.heap.size (w.heap.size + 1) (w.heap.size + 2)) 78)
  have HF : Hid (Below w.heap.size w W ∧ Pv (fun k => w.heap.size ≤ k ∧ k < W.heap.size) W a b d w.heap.size (w.heap.size + 1) (w.heap.size + 2)) := by
    refine And.intro hb ⟨by omega, by omega, by omega, ?_, ?_, ?_⟩
    · exact cell_of_one h1
    · exact cell_of_one h2
    · exact cell_of_one h3
  have H4 := hid h4
  clear hb hs h1 h2 h3 h4
  go_enter Tryz.func53, Tryz.ntmps53
  go_wp2
  have hfin := HF.out
  have h4 := H4.out
  rw [HW.out] at hfin h4
  refine bodyPost_ret (v := .agg (ptc 87 88 89 w.heap.size (w.heap.size + 1) (w.heap.size + 2))) ?_ rfl ⟨_, _, _, rfl, hfin⟩
  have hr := run_loadVar_row _ (w.heap.size + 3) 78 78 _ (0, 0) _ h4 Tryz.underlying78 rfl (by kernel_rfl)
  have e : w.heap.size + 3 = w.heap.size + 1 + 1 + 1 := rfl
  rw [e] at hr
  simp [results, Tryz.results53, asAddr, hr]

set_option maxHeartbeats 800000 in
theorem fdUs_any (a b d : Nat) (w : World) :
    Calls Tryz.prog 57 #[fnV a, fnV b, fnV d] w fun e w' => ∃ g1 g2 g3, e = .returned (.agg (ptc 90 91 92 g1 g2 g3)) ∧ Below w.heap.size w w' ∧ Pv (fun k => w.heap.size ≤ k ∧ k < w'.heap.size) w' a b d g1 g2 g3 := by
  have hmf : ∀ (fn : Fn) (first cap : Array Value) (w : World), (Instr.makeFunc fn first cap).run Tryz.prog w = .ok (.func fn first cap) w := fun _ _ _ _ => rfl
  obtain ⟨W, HW, hb, hs, h1, h2, h3, h4⟩ := three_new w (.cells #[fnV a] 113) (.cells #[fnV b] 114) (.cells #[fnV d] 116) (.cells (ptc 90 91 92 w.heap.size (w.heap.size + 1) (w.heap.size + 2)) 78)
  have HF : Hid (Below w.heap.size w W ∧ Pv (fun k => w.heap.size ≤ k ∧ k < W.heap.size) W a b d w.heap.size (w.heap.size + 1) (w.heap.size + 2)) := by
    refine And.intro hb ⟨by omega, by omega, by omega, ?_, ?_, ?_⟩
    · exact cell_of_one h1
    · exact cell_of_one h2
    · exact cell_of_one h3
  have H4 := hid h4
  clear hb hs h1 h2 h3 h4
  go_enter Tryz.func57, Tryz.ntmps57
  go_wp2
  have hfin := HF.out
  have h4 := H4.out
  rw [HW.out] at hfin h4
  refine bodyPost_ret (v := .agg (ptc 90 91 92 w.heap.size (w.heap.size + 1) (w.heap.size + 2))) ?_ rfl ⟨_, _, _, rfl, hfin⟩
  have hr := run_loadVar_row _ (w.heap.size + 3) 78 78 _ (0, 0) _ h4 Tryz.underlying78 rfl (by kernel_rfl)
  have e : w.heap.size + 3 = w.heap.size + 1 + 1 + 1 := rfl
  rw [e] at hr
  simp [results, Tryz.results57, asAddr, hr]

set_option maxHeartbeats 800000 in
theorem fdI_any (a b d : Nat) (w : World) :
    Calls Tryz.prog 62 #[fnV a, fnV b, fnV d] w fun e w' => ∃ g1 g2 g3, e = .returned (.agg (ptc 95 96 97 g1 g2 g3)) ∧ Below w.heap.size w w' ∧ Pv (fun k => w.heap.size ≤ k ∧ k < w'.heap.size) w' a b d g1 g2 g3 := by
  have hmf : ∀ (fn : Fn) (first cap : Array Value) (w : World), (Instr.makeFunc fn first cap).run Tryz.prog w = .ok (.func fn first cap) w := fun _ _ _ _ => rfl
  obtain ⟨W, HW, hb, hs, h1, h2, h3, h4⟩ := three_new w (.cells #[fnV a] 119) (.cells #[fnV b] 120) (.cells #[fnV d] 122) (.cells (ptc 95 96 97 w.heap.size (w.heap.size + 1) (w.heap.size + 2)) 78)
  have HF : Hid (Below w.heap.size w W ∧ Pv (fun k => w.heap.size ≤ k ∧ k < W.heap.size) W a b d w.heap.size (w.heap.size + 1) (w.heap.size + 2)) := by
    refine And.intro hb ⟨by omega, by omega, by omega, ?_, ?_, ?_⟩
    · exact cell_of_one h1
    · exact cell_of_one h2
    · exact cell_of_one h3
  have H4 := hid h4
  clear hb hs h1 h2 h3 h4
  go_enter Tryz.func62, Tryz.ntmps62
  go_wp2
  have hfin := HF.out
  have h4 := H4.out
  rw [HW.out] at hfin h4
  refine bodyPost_ret (v := .agg (ptc 95 96 97 w.heap.size (w.heap.size + 1) (w.heap.size + 2))) ?_ rfl ⟨_, _, _, rfl, hfin⟩
  have hr := run_loadVar_row _ (w.heap.size + 3) 78 78 _ (0, 0) _ h4 Tryz.underlying78 rfl (by kernel_rfl)
  have e : w.heap.size + 3 = w.heap.size + 1 + 1 + 1 := rfl
  rw [e] at hr
  simp [results, Tryz.results62, asAddr, hr]

set_option maxHeartbeats 800000 in
theorem fdR_any (a b d : Nat) (w : World) :
    Calls Tryz.prog 66 #[fnV a, fnV b, fnV d] w fun e w' => ∃ g1 g2 g3, e = .returned (.agg (ptc 99 100 101 g1 g2 g3)) ∧ Below w.heap.size w w' ∧ Pv (fun k => w.heap.size ≤ k ∧ k < w'.heap.size) w' a b d g1 g2 g3 := by
  have hmf : ∀ (fn : Fn) (first cap : Array Value) (w : World), (Instr.makeFunc fn first cap).run Tryz.prog w = .ok (.func fn first cap) w := fun _ _ _ _ => rfl
  obtain ⟨W, HW, hb, hs, h1, h2, h3, h4⟩ := three_new w (.cells #[fnV a] 125) (.cells #[fnV b] 126) (.cells #[fnV d] 128) (.cells (ptc 99 100 101 w.heap.size (w.heap.size + 1) (w.heap.size + 2)) 78)
  have HF : Hid (Below w.heap.size w W ∧ Pv (fun k => w.heap.size ≤ k ∧ k < W.heap.size) W a b d w.heap.size (w.heap.size + 1) (w.heap.size + 2)) := by
    refine And.intro hb ⟨by omega, by omega, by omega, ?_, ?_, ?_⟩
    · exact cell_of_one h1
    · exact cell_of_one h2
    · exact cell_of_one h3
  have H4 := hid h4
  clear hb hs h1 h2 h3 h4
  go_enter Tryz.func66, Tryz.ntmps66
  go_wp2
  have hfin := HF.out
  have h4 := H4.out
  rw [HW.out] at hfin h4
  refine bodyPost_ret (v := .agg (ptc 99 100 101 w.heap.size (w.heap.size + 1) (w.heap.size + 2))) ?_ rfl ⟨_, _, _, rfl, hfin⟩
  have hr := run_loadVar_row _ (w.heap.size + 3) 78 78 _ (0, 0) _ h4 Tryz.underlying78 rfl (by kernel_rfl)
  have e : w.heap.size + 3 = w.heap.size + 1 + 1 + 1 := rfl
  rw [e] at hr
  simp [results, Tryz.results66, asAddr, hr]

set_option maxHeartbeats 800000 in
theorem fdB_any (a b d : Nat) (w : World) :
    Calls Tryz.prog 74 #[fnV a, fnV b, fnV d] w fun e w' => ∃ g1 g2 g3, e = .returned (.agg (ptc 108 109 110 g1 g2 g3)) ∧ Below w.heap.size w w' ∧ Pv (fun k => w.heap.size ≤ k ∧ k < w'.heap.size) w' a b d g1 g2 g3 := by
  have hmf : ∀ (fn : Fn) (first cap : Array Value) (w : World), (Instr.makeFunc fn first cap).run Tryz.prog w = .ok (.func fn first cap) w := fun _ _ _ _ => rfl
  obtain ⟨W, HW, hb, hs, h1, h2, h3, h4⟩ := three_new w (.cells #[fnV a] 131) (.cells #[fnV b] 132) (.cells #[fnV d] 133) (.cells (ptc 108 109 110 w.heap.size (w.heap.size + 1) (w.heap.size + 2)) 78)
  have HF : Hid (Below w.heap.size w W ∧ Pv (fun k => w.heap.size ≤ k ∧ k < W.heap.size) W a b d w.heap.size (w.heap.size + 1) (w.heap.size + 2)) := by
    refine And.intro hb ⟨by omega, by omega, by omega, ?_, ?_, ?_⟩
    · exact cell_of_one h1
    · exact cell_of_one h2
    · exact cell_of_one h3
  have H4 := hid h4
  clear hb hs h1 h2 h3 h4
  go_enter Tryz.func74, Tryz.ntmps74
  go_wp2
  have hfin := HF.out
  have h4 := H4.out
  rw [HW.out] at hfin h4
  refine bodyPost_ret (v := .agg (ptc 108 109 110 w.heap.size (w.heap.size + 1) (w.heap.size + 2))) ?_ rfl ⟨_, _, _, rfl, hfin⟩
  have hr := run_loadVar_row _ (w.heap.size + 3) 78 78 _ (0, 0) _ h4 Tryz.underlying78 rfl (by kernel_rfl)
  have e : w.heap.size + 3 = w.heap.size + 1 + 1 + 1 := rfl
  rw [e] at hr
  simp [results, Tryz.results74, asAddr, hr]

set_option maxHeartbeats 800000 in
theorem fdH_any (a b d : Nat) (w : World) :
    Calls Tryz.prog 78 #[fnV a, fnV b, fnV d] w fun e w' => ∃ g1 g2 g3, e = .returned (.agg (ptc 112 113 114 g1 g2 g3)) ∧ Below w.heap.size w w' ∧ Pv (fun k => w.heap.size ≤ k ∧ k < w'.heap.size) w' a b d g1 g2 g3 := by
  have hmf : ∀ (fn : Fn) (first cap : Array Value) (w : World), (Instr.makeFunc fn first cap).run Tryz.prog w = .ok (.func fn first cap) w := fun _ _ _ _ => rfl
  obtain ⟨W, HW, hb, hs, h1, h2, h3, h4⟩ := three_new w (.cells #[fnV a] 137) (.cells #[fnV b] 138) (.cells #[fnV d] 140) (.cells (ptc 112 113 114 w.heap.size (w.heap.size + 1) (w.heap.size + 2)) 78)
  have HF : Hid (Below w.heap.size w W ∧ Pv (fun k => w.heap.size ≤ k ∧ k < W.heap.size) W a b d w.heap.size (w.heap.size + 1) (w.heap.size + 2)) := by
    refine And.intro hb ⟨by omega, by omega, by omega, ?_, ?_, ?_⟩
    · exact cell_of_one h1
    · exact cell_of_one h2
    · exact cell_of_one h3
  have H4 := hid h4
  clear hb hs h1 h2 h3 h4
  go_enter Tryz.func78, Tryz.ntmps78
  go_wp2
  have hfin := HF.out
  have h4 := H4.out
  rw [HW.out] at hfin h4
  refine bodyPost_ret (v := .agg (ptc 112 113 114 w.heap.size (w.heap.size + 1) (w.heap.size + 2))) ?_ rfl ⟨_, _, _, rfl, hfin⟩
  have hr := run_loadVar_row _ (w.heap.size + 3) 78 78 _ (0, 0) _ h4 Tryz.underlying78 rfl (by kernel_rfl)
  have e : w.heap.size + 3 = w.heap.size + 1 + 1 + 1 := rfl
  rw [e] at hr
  simp [results, Tryz.results78, asAddr, hr]

set_option maxHeartbeats 800000 in
theorem fdO_any (a b d : Nat) (w : World) :
    Calls Tryz.prog 82 #[fnV a, fnV b, fnV d] w fun e w' => ∃ g1 g2 g3, e = .returned (.agg (ptc 119 120 121 g1 g2 g3)) ∧ Below w.heap.size w w' ∧ Pv (fun k => w.heap.size ≤ k ∧ k < w'.heap.size) w' a b d g1 g2 g3 := by
  have hmf : ∀ (fn : Fn) (first cap : Array Value) (w : World), (Instr.makeFunc fn first cap).run Tryz.prog w = .ok (.func fn first cap) w := fun _ _ _ _ => rfl
  obtain ⟨W, HW, hb, hs, h1, h2, h3, h4⟩ := three_new w (.cells #[fnV a] 144) (.cells #[fnV b] 145) (.cells #[fnV d] 146) (.cells (ptc 119 120 121 w.heap.size (w.heap.size + 1) (w.heap.size + 2)) 78)
  have HF : Hid (Below w.heap.size w W ∧ Pv (fun k => w.heap.size ≤ k ∧ k < W.heap.size) W a b d w.heap.size (w.heap.size + 1) (w.heap.size + 2)) := by
    refine And.intro hb ⟨by omega, by omega, by omega, ?_, ?_, ?_⟩
    · exact cell_of_one h1
    · exact cell_of_one h2
    · exact cell_of_one h3
  have H4 := hid h4
  clear hb hs h1 h2 h3 h4
  go_enter Tryz.func82, Tryz.ntmps82
  go_wp2
  have hfin := HF.out
  have h4 := H4.out
  rw [HW.out] at hfin h4
  refine bodyPost_ret (v := .agg (ptc 119 120 121 w.heap.size (w.heap.size + 1) (w.heap.size + 2))) ?_ rfl ⟨_, _, _, rfl, hfin⟩
  have hr := run_loadVar_row _ (w.heap.size + 3) 78 78 _ (0, 0) _ h4 Tryz.underlying78 rfl (by kernel_rfl)
  have e : w.heap.size + 3 = w.heap.size + 1 + 1 + 1 := rfl
  rw [e] at hr
  simp [results, Tryz.results82, asAddr, hr]
end Go.Proofs.YtllbbbfkdgjffaaGreatDoor
