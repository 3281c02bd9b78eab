/-
  Proved here: NodesOnce answers true; no old memory turns. Conditions: the acts lie where they are said to; the tables hold their numbers.
-/
import Derived.Test.YtggbokghhohofaaDoorDA
import Derived.Test.YtggbokghhohofaaDoorWN
namespace Go.Proofs.YtggbokghhohofaaDoor
open Go.RowKit Go.Maps
set_option maxRecDepth 100000

theorem nd_atI {all : List Nd} (i : Nat) (hi : i < all.length) : nd all ((i : Nat) : Int) = all[i] := by
  unfold nd
  rw [Int.toNat_natCast, List.getD_eq_getElem?_getD, List.getElem?_eq_getElem hi, Option.getD_some]
/-- A node that was got, in a variable of its own. -/
structure Bx (w w' : World) (u : Value) (a : Nd) : Prop where
  low : Below w.heap.size w (w'.alloc (.cells (ndc (u, a)) 41))
  blk : (w'.alloc (.cells (ndc (u, a)) 41)).heap[w'.heap.size]? = some (.cells (ndc (u, a)) 41 (0, 0))
  cps : Cps (fun b => b < (w'.alloc (.cells (ndc (u, a)) 41)).heap.size) (w'.alloc (.cells (ndc (u, a)) 41)) u a.lf
theorem get_bx {B p : Nat} {w : World} {all : List Nd} (h : St B p w all) (j : Int) (hj : inL all j = true) : Calls Tryd.prog 15 #[ptr p, .int .i64 j] w fun e w' => ∃ a0 n0 k0, e = .returned (.tuple #[.agg (ndc (.slice a0 n0 k0, nd all j)), .bool true]) ∧ Bx w w' (.slice a0 n0 k0) (nd all j) := by
  simp only [inL, Bool.and_eq_true, decide_eq_true_eq] at hj
  obtain ⟨i, rfl⟩ : ∃ i : Nat, j = (i : Int) := ⟨j.toNat, by omega⟩
  have hi : i < all.length := by omega
  rw [nd_atI i hi]
  refine (get_ok h i hi).mono ?_
  rintro e w' ⟨u, he, hb, hcp⟩
  obtain ⟨a0, k0, rfl, -⟩ := Lst.form hcp
  have hal : Below w'.heap.size w' (w'.alloc (.cells (ndc (.slice a0 all[i].lf.length k0, all[i])) 41)) := (Below.refl _ _).alloc (Nat.le_refl _) _
  exact ⟨a0, _, k0, he, hb.trans (hal.mono hb.size), heap_alloc_new _ _, hcp.carry fun b hb' _ => ⟨Nat.lt_of_lt_of_le hb' hal.size, hal.block b hb'⟩⟩
theorem ndc_cells {w : World} {P : Nat} {u : Value} {a : Nd} (h : w.heap[P]? = some (.cells (ndc (u, a)) 41 (0, 0))) : w.cell? ⟨P, 0, none⟩ = some (.int .i8 a.fd) ∧ w.cell? ⟨P, 1, none⟩ = some (.int .u64 a.n) ∧ w.cell? ⟨P, 2, none⟩ = some (.int .i64 a.hi) ∧ w.cell? ⟨P, 3, none⟩ = some (.int .i64 a.lo) :=
  ⟨(cell_of_row _ _ _ _ _ _ h).trans rfl, (cell_of_row _ _ _ _ _ _ h).trans rfl, (cell_of_row _ _ _ _ _ _ h).trans rfl, (cell_of_row _ _ _ _ _ _ h).trans rfl⟩
theorem ordH_cases {y : Nd} {fd : Int} (h : ordH y fd = true) (h0 : 0 ≤ fd) : decide (0 ≤ y.fd) = false ∨ (decide (0 ≤ y.fd) = true ∧ decide (y.fd ≤ fd) = false) := by
  simp only [ordH, Bool.or_eq_true, beq_iff_eq, decide_eq_true_eq] at h
  rcases h with h | h
  · exact Or.inl (decide_eq_false (by omega))
  · exact Or.inr ⟨decide_eq_true (by omega), decide_eq_false (by omega)⟩
theorem ordL_cases {y : Nd} {fd n : Int} (h : ordL y fd n = true) (h0 : 0 ≤ fd) : decide (0 ≤ y.fd) = false ∨ (decide (0 ≤ y.fd) = true ∧ decide (y.fd < fd) = false ∧ (y.fd == fd) = false) ∨ (decide (0 ≤ y.fd) = true ∧ decide (y.fd < fd) = false ∧ (y.fd == fd) = true ∧ decide (y.n ≤ n) = false) := by
  simp only [ordL, Bool.or_eq_true, beq_iff_eq, decide_eq_true_eq] at h
  rcases h with h | h
  · exact Or.inl (decide_eq_false (by omega))
  · unfold orI at h
    split at h
    · rename_i e
      have e := cmpI_eq.1 e
      refine Or.inr (Or.inr ⟨decide_eq_true (by omega), decide_eq_false (by omega), by simp [e], decide_eq_false ?_⟩)
      unfold cmpI at h
      split at h <;> (try split at h) <;> omega
    · refine Or.inr (Or.inl ?_)
      have h' : fd < y.fd := by
        unfold cmpI at h
        split at h <;> (try split at h) <;> omega
      exact ⟨decide_eq_true (by omega), decide_eq_false (by omega), beq_eq_false_iff_ne.2 (by omega)⟩
set_option maxHeartbeats 25600000 in
theorem nodesOnce_any {T : Nat → Prop} (w : World) (v : Value) (l : List At) (h : Ats T w v l) (hTl : ∀ b, T b → b < w.heap.size) (hT : Tabs w.heap.size w) : Calls Tryd.prog 5 #[v] w fun e w' => e = .returned (.bool true) ∧ Below w.heap.size w w' := by
  have hg := great_any w v l h
  by_cases hbig : l.length ≤ 200 ∧ totA l ≤ 8192
  case neg =>
    have HG : Hid (Calls Tryd.prog 8 #[v] w fun e w' => e = .returned (.bool true) ∧ w' = w) := hg.mono fun e w' ⟨h1, h2⟩ => ⟨by rw [h1, decide_eq_false hbig]; rfl, h2⟩
    have HWk := hid (wakes_any w.heap.size w hT (Nat.le_refl _))
    obtain ⟨ao, cap, rfl, hcap⟩ := h.form
    clear hg hbig h hT
    go_enter Tryd.func5, Tryd.ntmps5
    go_wp2_with (first
      | (go_at_call 8; refine (HG.out).mono ?_; rintro e w' ⟨rfl, hw⟩; obtain rfl : w = w' := hw.symm)
      | (go_at_call 9; refine (HWk.out).mono ?_; rintro e W2 ⟨rfl, hb⟩; have HB := hid hb; clear hb HWk))
    go_ret
    exact ⟨rfl, HB.out⟩
  have HG : Hid (Calls Tryd.prog 8 #[v] w fun e w' => e = .returned (.bool false) ∧ w' = w) := hg.mono fun e w' ⟨h1, h2⟩ => ⟨by rw [h1, decide_eq_true hbig]; rfl, h2⟩
  have HFl := hid (fill_any w v l h hTl hbig.2 hT)
  obtain ⟨ao, cap, rfl, hcap⟩ := h.form
  have hl2 := hbig.1
  clear hg hbig h hT
  go_enter Tryd.func5, Tryd.ntmps5
  go_upto_region 4 with (first
    | (go_at_call 8; refine (HG.out).mono ?_; rintro e w' ⟨rfl, hw⟩; obtain rfl : w = w' := hw.symm; clear HG)
    | (go_at_call 19; refine (HFl.out).mono ?_; rintro e W2 ⟨p, all, rfl, hk, hgn, hal⟩; have H2 := hid hk; have HGN := hid hgn; clear hk hgn HFl))
  have CL := hid (len_any H2.out.st)
  have hn4 : decide (400 < ((all.length : Nat) : Int)) = false := decide_eq_false (by omega)
  go_upto_region 8 with (go_at_call 18; refine (CL.out).mono ?_; rintro e w' ⟨rfl, hw⟩; obtain rfl : W2 = w' := hw.symm; clear CL)
  clear hn4
  go_loopw [5] (fun si wr => ∃ i : Nat, si = .int .i64 ((i : Nat) : Int) ∧ i ≤ all.length ∧ Hid (Below W2.heap.size W2 wr)) (fun si _ => all.length - (intOf si).toNat)
  case atStart => exact ⟨0, rfl, Nat.zero_le _, Below.refl _ _⟩
  case round =>
    obtain ⟨i, rfl, hi1, HB⟩ := hrel
    have HK := hid (H2.out.on HB.out)
    by_cases hi : i < all.length
    · have hd : decide ((i : Int) < (all.length : Int)) = true := by simp; omega
      have hiw : IntKind.i64.wrap ((i : Int) + 1) = (i : Int) + 1 := by rw [IntKind.wrap_i64]; omega
      have CG := hid (get_bx HK.out.st ((i : Nat) : Int) (by simp only [inL, Bool.and_eq_true, decide_eq_true_eq]; omega))
      have HNd : Hid (NdG all i (nd all ((i : Nat) : Int))) := by show NdG _ _ _; rw [nd_atI i hi]; exact HGN.out.ok i hi
      have HNe : Hid (∀ k : Nat, k < i → nd all ((i : Nat) : Int) ≠ nd all ((k : Nat) : Int)) := fun k hk e => by
        rw [nd_atI i hi, nd_atI k (by omega)] at e
        exact List.pairwise_iff_getElem.1 HGN.out.nd k i (by omega) hi hk e.symm
      generalize nd all ((i : Nat) : Int) = a at CG HNd HNe
      go_upto_region 11 with (first
        | (go_at_call 15; refine (CG.out).mono ?_; rintro e W6 ⟨a0, n0, k0, rfl, hbx⟩; have HBX := hid hbx; clear hbx CG)
        | (refine stNew 41 (.tmp 6) (.tmp 35) rfl rfl _ 41 (ndc (nilS, zNd)) (ndc (.slice a0 n0 k0, a)) rfl rfl rfl (infoNODE _) rfl (ndc_one rfl _) ?_))
      obtain ⟨hb1, hb2, hb3⟩ := HBX.out
      clear HBX
      generalize W6.alloc (.cells (ndc (.slice a0 n0 k0, a)) 41) = W7 at hb1 hb2 hb3 ⊢
      generalize W6.heap.size = P6 at hb2 ⊢
      have HB7 := hid (HB.out.trans (hb1.mono HB.out.size))
      have HX6 := hid hb2
      have HC6 := hid hb3
      clear hb1 hb2 hb3 HK
      go_upto_region 14 with fail
      go_loopw [8] (fun sk wr => ∃ k : Nat, sk = .int .i64 ((k : Nat) : Int) ∧ k ≤ i ∧ Hid (Below W7.heap.size W7 wr)) (fun sk _ => i - (intOf sk).toNat)
      case atStart => exact ⟨0, rfl, Nat.zero_le _, Below.refl _ _⟩
      case round =>
        obtain ⟨k, rfl, hk1, HV⟩ := hrel
        have HBV : Hid (Below W2.heap.size W2 wr) := HB7.out.trans (HV.out.mono HB7.out.size)
        have HKV := hid (H2.out.on HBV.out)
        have HX6V : Hid (wr.heap[P6]? = some (.cells (ndc (.slice a0 n0 k0, a)) 41 (0, 0))) := (HV.out.block _ (Array.getElem?_eq_some_iff.1 HX6.out).1).trans HX6.out
        have HC6V := hid (HC6.out.on HV.out)
        by_cases hki : k < i
        · have hdk : decide ((k : Int) < (i : Int)) = true := by simp; omega
          have hkw : IntKind.i64.wrap ((k : Int) + 1) = (k : Int) + 1 := by rw [IntKind.wrap_i64]; omega
          have CG := hid (get_bx HKV.out.st ((k : Nat) : Int) (by simp only [inL, Bool.and_eq_true, decide_eq_true_eq]; omega))
          have HNk := hid (HNe.out k hki)
          generalize nd all ((k : Nat) : Int) = b at CG HNk
          go_upto_region 17 with (first
            | (go_at_call 15; refine (CG.out).mono ?_; rintro e W8 ⟨a1, n1, k1, rfl, hbx⟩; have HBX := hid hbx; clear hbx CG)
            | (refine stNew 41 (.tmp 9) (.tmp 48) rfl rfl _ 41 (ndc (nilS, zNd)) (ndc (.slice a1 n1 k1, b)) rfl rfl rfl (infoNODE _) rfl (ndc_one rfl _) ?_))
          obtain ⟨hb1, hb2, hb3⟩ := HBX.out
          clear HBX
          generalize W8.alloc (.cells (ndc (.slice a1 n1 k1, b)) 41) = W9 at hb1 hb2 hb3 ⊢
          generalize W8.heap.size = P9 at hb2 ⊢
          have HX9 := hid hb2
          have HX69 : Hid (W9.heap[P6]? = some (.cells (ndc (.slice a0 n0 k0, a)) 41 (0, 0))) := (hb1.block _ (Array.getElem?_eq_some_iff.1 HX6V.out).1).trans HX6V.out
          have CA : Hid (Calls Tryd.prog 17 #[.agg (ndc (.slice a0 n0 k0, a)), .agg (ndc (.slice a1 n1 k1, b))] W9 fun e w' => e = .returned (.bool false) ∧ Below W9.heap.size W9 w') := (alike_any W9 _ _ a b (HC6V.out.on hb1) hb3).mono fun e w' ⟨r, h1, h2, h3⟩ => ⟨by
            cases r
            · exact h1
            · exact absurd (h2.1 rfl) HNk.out, h3⟩
          have HV9 := hid (HV.out.trans (hb1.mono HV.out.size))
          clear hb1 hb2 hb3 HX6V HC6V HKV HBV HV
          go_wp2_with (first
            | (refine ldRow 41 (.tmp 6) rfl rfl P6 rfl 41 (ndc (.slice a0 n0 k0, a)) _ Tryd.underlying41 rfl (infoNODE _) HX69.out ?_)
            | (refine ldRow 41 (.tmp 9) rfl rfl P9 rfl 41 (ndc (.slice a1 n1 k1, b)) _ Tryd.underlying41 rfl (infoNODE _) HX9.out ?_)
            | (go_at_call 17; refine (CA.out).mono ?_; rintro e W10 ⟨rfl, hb⟩; have HV10 := hid (HV9.out.trans (hb.mono HV9.out.size)); clear hb CA))
          go_roundw
          case rel => exact ⟨k + 1, by rw [show (((k + 1 : Nat) : Nat) : Int) = (k : Int) + 1 by omega], hki, HV10⟩
          case measure => simp [intOf]; omega
        · have hdk : decide ((k : Int) < (i : Int)) = false := by simp; omega
          obtain ⟨x0, x1, x2, x3⟩ := ndc_cells HX6V.out
          clear HX6V HC6V
          by_cases hf : a.fd < 0
          · have hfd : decide (a.fd < 0) = true := decide_eq_true hf
            clear hf x1 x2 x3
            go_wp2
            go_roundw
            case rel => exact ⟨i + 1, by rw [show (((i + 1 : Nat) : Nat) : Int) = (i : Int) + 1 by omega], hi, HBV⟩
            case measure => simp [intOf]; omega
          · have hfd : decide (a.fd < 0) = false := decide_eq_false hf
            clear hf
            have h0 : 0 ≤ a.fd := by simpa using hfd
            obtain ⟨-, ⟨hh1, hh2⟩, ⟨hl1, hl2'⟩, hne, hoh, hol⟩ := HNd.out.resolve_left (by omega)
            have HF := hid (And.intro (ordH_cases hoh h0) (ordL_cases hol h0))
            have dh : decide ((i : Int) ≤ a.hi) = false := decide_eq_false (by omega)
            have dl : decide ((i : Int) ≤ a.lo) = false := decide_eq_false (by omega)
            have de : (a.hi == a.lo) = false := beq_eq_false_iff_ne.2 hne
            have HX6V : Hid (wr.heap[P6]? = some (.cells (ndc (.slice a0 n0 k0, a)) 41 (0, 0))) := (HV.out.block _ (Array.getElem?_eq_some_iff.1 HX6.out).1).trans HX6.out
            have CG := hid (get_bx HKV.out.st a.hi (by simp only [inL, Bool.and_eq_true, decide_eq_true_eq]; omega))
            have HIL : Hid (inL all a.lo = true) := by show _ = _; simp only [inL, Bool.and_eq_true, decide_eq_true_eq]; omega
            clear hh1 hh2 hl1 hl2' hne hoh hol h0 hdk
            generalize nd all a.hi = y at CG HF
            go_upto_region 21 with (first
              | (go_at_call 15; refine (CG.out).mono ?_; rintro e W8 ⟨a1, n1, k1, rfl, hbx⟩; have HBX := hid hbx; clear hbx CG)
              | (refine stNew 41 (.tmp 11) (.tmp 65) rfl rfl _ 41 (ndc (nilS, zNd)) (ndc (.slice a1 n1 k1, y)) rfl rfl rfl (infoNODE _) rfl (ndc_one rfl _) ?_))
            obtain ⟨hb1, hb2, hb3⟩ := HBX.out
            clear HBX x0 x1 x2 x3
            generalize W8.alloc (.cells (ndc (.slice a1 n1 k1, y)) 41) = W9 at hb1 hb2 hb3 ⊢
            generalize W8.heap.size = P9 at hb2 ⊢
            have HX9 := hid hb2
            have HX69 : Hid (W9.heap[P6]? = some (.cells (ndc (.slice a0 n0 k0, a)) 41 (0, 0))) := (hb1.block _ (Array.getElem?_eq_some_iff.1 HX6V.out).1).trans HX6V.out
            have HB9 := hid (HBV.out.trans (hb1.mono HBV.out.size))
            have CG := hid (get_bx (H2.out.on HB9.out).st a.lo HIL.out)
            obtain ⟨x0, x1, x2, x3⟩ := ndc_cells HX69.out
            clear hb1 hb2 hb3 HX6V HKV HBV HV HIL
            generalize nd all a.lo = z at CG HF
            go_upto_region 22 with (first
              | (go_at_call 15; refine (CG.out).mono ?_; rintro e W10 ⟨a2, n2, k2, rfl, hbx⟩; have HBX := hid hbx; clear hbx CG)
              | (refine stNew 41 (.tmp 13) (.tmp 72) rfl rfl _ 41 (ndc (nilS, zNd)) (ndc (.slice a2 n2 k2, z)) rfl rfl rfl (infoNODE _) rfl (ndc_one rfl _) ?_))
            obtain ⟨hb1, hb2, hb3⟩ := HBX.out
            clear HBX x0 x1 x2 x3
            generalize W10.alloc (.cells (ndc (.slice a2 n2 k2, z)) 41) = W11 at hb1 hb2 hb3 ⊢
            generalize W10.heap.size = P13 at hb2 ⊢
            have HB11 := hid (HB9.out.trans (hb1.mono HB9.out.size))
            obtain ⟨x0, x1, x2, x3⟩ := ndc_cells ((hb1.block _ (Array.getElem?_eq_some_iff.1 HX69.out).1).trans HX69.out)
            obtain ⟨y0, y1, -, -⟩ := ndc_cells ((hb1.block _ (Array.getElem?_eq_some_iff.1 HX9.out).1).trans HX9.out)
            obtain ⟨z0, z1, -, -⟩ := ndc_cells hb2
            clear hb1 hb2 hb3 HX69 HX9 HB9
            go_upto_region 24 with fail
            clear dh dl de hfd x2 x3
            obtain ⟨hF, hL⟩ := HF.out
            clear HF
            rcases hF with t1 | ⟨t1, t2⟩ <;> rcases hL with s1 | ⟨s1, s2, s3⟩ | ⟨s1, s2, s3, s4⟩
            all_goals
              go_wp2
              go_roundw
              case rel => exact ⟨i + 1, by rw [show (((i + 1 : Nat) : Nat) : Int) = (i : Int) + 1 by omega], hi, HB11⟩
              case measure => simp [intOf]; omega
    · have hd : decide ((i : Int) < (all.length : Int)) = false := by simp; omega
      obtain rfl : i = all.length := by omega
      have CG := hid (get_no HK.out.st ((all.length : Nat) : Int) (by simp [inL]))
      go_upto_region 27 with (first
        | (go_at_call 15; refine (CG.out).mono ?_; rintro e W6 ⟨rfl, hb⟩; have hal : Below W6.heap.size W6 (W6.alloc (.cells (ndc (nilS, zNd)) 41)) := (Below.refl _ _).alloc (Nat.le_refl _) _; have HK7 := hid ((HK.out.on hb).on hal); clear hb hal CG)
        | (refine stNew 41 (.tmp 15) (.tmp 139) rfl rfl _ 41 (ndc (nilS, zNd)) (ndc (nilS, zNd)) rfl rfl rfl (infoNODE _) rfl (ndc_one rfl _) ?_))
      generalize W6.alloc (.cells (ndc (nilS, zNd)) 41) = W7 at HK7 ⊢
      generalize W6.heap.size = P7
      have HWk := hid (wakes_any w.heap.size W7 HK7.out.tab HK7.out.low.size)
      go_wp2_with (go_at_call 9; refine (HWk.out).mono ?_; rintro e W8 ⟨rfl, hb⟩; have HB8 := hid (HK7.out.low.trans (hb.mono HK7.out.low.size)); clear hb HWk)
      go_ret
      exact ⟨rfl, HB8.out⟩
end Go.Proofs.YtggbokghhohofaaDoor
