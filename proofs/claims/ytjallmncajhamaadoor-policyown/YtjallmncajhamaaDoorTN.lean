/-
  Proved here: the statements' wakes say true: what the document says of a few policies. Condition: the tables.
-/
import Derived.Test.YtjallmncajhamaaDoorTM
namespace Go.Proofs.YtjallmncajhamaaDoor
open Go.RowKit
set_option maxRecDepth 100000

theorem pl_tl : pl tl = .mk 7 9 1 [] := rfl
abbrev st1 : Tm := .mk 10 0 0 [.mk 6 0 0 [.mk 2 9 1 []]]
theorem pl_st : pl st1 = ty := rfl
theorem okW_of {m : Tm} (h1 : oneT false m = true) (h2 : sz m ≤ 4096) (h3 : dp m ≤ 128) : OkW ⟨m, []⟩ := ⟨h1, fun q hq => (by cases hq), by simp, by simp [qsz]; exact h2, h3, fun q hq => (by cases hq), fun i hi => by simp [pi] at hi⟩
theorem ok_tl : OkW ⟨tl, []⟩ := okW_of (by decide) (by decide) (by decide)
theorem ok_st : OkW ⟨st1, []⟩ := okW_of (by decide) (by decide) (by decide)
theorem piV_one {S : Nat → Prop} {w : World} {m : Tm} {x0 x1 x2 x3 : Value} (h : UmV S w m #[x0, x1, x2, x3]) : PiV S w (pi ⟨m, []⟩) #[x0, x1, x2, x3, .slice none 0 0] :=
  ⟨#[x0, x1, x2, x3], .slice none 0 0, [], rfl, h, ⟨rfl, none, 0, rfl, Nat.le_refl _, fun h => absurd rfl h⟩, rfl⟩
theorem Sp.ofw {ops : Array Oper} {Q : Exit → Act → World → Prop} {o : Oper} {a : Act} {w : World} {K : Act → World → Prop} (hw : Region.wanted o (yielded ops a.tmps) = true) (h : if Region.wanted o (yielded ops a.tmps) = true then Oper.wp Tryd.prog o a w K Q else False) : Sp ops Q o a w K := by
  rw [if_pos hw] at h
  exact ⟨hw, h⟩
theorem chk_s0 : chk (pi ⟨.mk 7 9 0 [], []⟩) = 170 := by
  unfold chk
  rw [if_pos (by decide), if_neg (fun h => absurd h.1 (by decide))]
theorem wp_s0 : Wp (pi ⟨.mk 7 9 0 [], []⟩) := ⟨Wi.mk _ _ _ _ (by decide) (by decide) (fun k hk => by cases hk), fun q hq => by cases hq⟩
/-- what the last region reads -/
structure Rl (Y Pb Qb : Nat) (d0 d1 d2 d3 e0 e1 e2 e3 : Value) (w : World) : Prop where
  y : w.rangeAt Y 0 (tmc 1 0 0 nilS).toList
  p : w.rangeAt Pb 0 (#[d0, d1, d2, d3] : Array Value).toList
  q : w.rangeAt Qb 0 (#[e0, e1, e2, e3] : Array Value).toList
structure Rs (w : World) (Y Pb Qb : Nat) (d0 d1 d2 d3 e0 e1 e2 e3 : Value) (wr : World) : Prop where
  low : Below w.heap.size w wr
  lt : Y < wr.heap.size ∧ Pb < wr.heap.size ∧ Qb < wr.heap.size
  l : Rl Y Pb Qb d0 d1 d2 d3 e0 e1 e2 e3 wr
  up : UmV (fun _ => True) wr (.mk 7 9 1 []) #[d0, d1, d2, d3]
  uq : UmV (fun _ => True) wr ty #[e0, e1, e2, e3]
theorem rng_on {w w' : World} {b : Nat} {l : List Value} (h : w.rangeAt b 0 l) (hb : b < w.heap.size) (hw : Below w.heap.size w w') : w'.rangeAt b 0 l := fun i v hi => (cell_same (hw.block b hb)).trans (h i v hi)
theorem Rs.on {w : World} {Y Pb Qb : Nat} {d0 d1 d2 d3 e0 e1 e2 e3 : Value} {wr w' : World} (h : Rs w Y Pb Qb d0 d1 d2 d3 e0 e1 e2 e3 wr) (hb : Below wr.heap.size wr w') : Rs w Y Pb Qb d0 d1 d2 d3 e0 e1 e2 e3 w' := by
  have hz := hb.size
  obtain ⟨l1, l2, l3⟩ := h.lt
  exact ⟨h.low.trans (hb.mono h.low.size), ⟨by omega, by omega, by omega⟩, ⟨rng_on h.l.y l1 hb, rng_on h.l.p l2 hb, rng_on h.l.q l3 hb⟩, um_on h.up fun b hl _ => ⟨trivial, hb.block b hl⟩, um_on h.uq fun b hl _ => ⟨trivial, hb.block b hl⟩⟩
set_option maxHeartbeats 25600000 in
theorem wakes8_any (w : World) (hT : TabP w) (hz : 3 ≤ w.heap.size) : Calls Tryd.prog 16 #[] w fun e w' => e = .returned (.bool true) ∧ Below w.heap.size w w' := by
  have HTw := hid hT
  have hby := fun W => run_bt0 1 W
  have HN1 : Hid ((w.alloc (.cells (tmc 1 0 0 nilS) 26)).heap[w.heap.size]? = some (.cells (tmc 1 0 0 nilS) 26 (0, 0))) := heap_alloc_new _ _
  have HB1 : Hid (Below w.heap.size w (w.alloc (.cells (tmc 1 0 0 nilS) 26))) := (Below.refl _ _).alloc (Nat.le_refl _) _
  have HZ1 : Hid ((w.alloc (.cells (tmc 1 0 0 nilS) 26)).heap.size = w.heap.size + 1) := by show _ = _; simp
  obtain ⟨W1, hW1⟩ : ∃ W1, W1 = w.alloc (.cells (tmc 1 0 0 nilS) 26) := ⟨_, rfl⟩
  have HE : Hid (w.alloc (.cells #[.int .i8 1, .int .i8 0, .int .u64 0, .slice none 0 0] 26) = W1) := hW1.symm
  rw [← hW1] at HN1 HB1 HZ1
  clear hT hW1
  go_enter Tryd.func16, Tryd.ntmps16
  go_upto_region 2 with (refine stNew 26 (.tmp 1) (.tmp 7) rfl rfl w 26 (tmc 0 0 0 nilS) (tmc 1 0 0 nilS) rfl rfl rfl sizeTM rfl rfl ?_)
  rw [show w.alloc (.cells #[.int .i8 1, .int .i8 0, .int .u64 0, .slice none 0 0] 26) = W1 from HE.out]
  clear HE hby
  go_cut [2] from 8 (fun s2 wc => ∃ A, s2 = ptr A ∧ Hid (Lg W1 A wc) ∧ Hid (wc.heap[w.heap.size]? = some (.cells (tmc 1 0 0 nilS) 26 (0, 0))))
  case first =>
    have HY0 : Hid (W1.drew.heap[w.heap.size]? = some (.cells (tmc 1 0 0 nilS) 26 (0, 0))) := HN1.out
    have HM0 : Hid (MkS (fun _ => False) W1 [] W1.drew) := ⟨bel_drew (Below.refl _ _), fun x hx => by cases hx⟩
    have hYe : Ye w.heap.size W1.drew := ⟨row4_rng HY0.out⟩
    refine wp_region_held_drew (S := Ye w.heap.size) (by kernel_rfl) hYe (fun hHeld => ?_)
    clear hYe
    generalize W1.drew = w0 at HY0 HM0 hHeld ⊢
    refine wpAnyH_take (i := 0) (v := .agg (tmc 1 0 0 nilS)) rfl (by kernel_rfl) (by kernel_rfl) (by kernel_rfl) (fun _ _ _ h => h) (Or.inl ⟨by rfl, ?_⟩) hHeld ?_
    · intro w' hSw
      exact runLd 26 (.tmp 1) rfl w.heap.size 0 rfl (tmc 1 0 0 nilS) _ hSw.rk Tryd.underlying26 rfl sizeTM
    simp only [Act.put, List.getElem_toArray, List.getElem_cons_zero, List.setIfInBounds_toArray, List.set_cons_zero, List.set_cons_succ]
    refine wpAnyH_take (i := 3) (v := .agg (tmc 1 0 0 nilS)) rfl (by kernel_rfl) (by kernel_rfl) (by kernel_rfl) (fun _ _ _ h => h) (Or.inl ⟨by rfl, ?_⟩) hHeld ?_
    · intro w' hSw
      exact runLd 26 (.tmp 1) rfl w.heap.size 0 rfl (tmc 1 0 0 nilS) _ hSw.rk Tryd.underlying26 rfl sizeTM
    simp only [Act.put, List.getElem_toArray, List.getElem_cons_succ, List.getElem_cons_zero, List.setIfInBounds_toArray, List.set_cons_zero, List.set_cons_succ]
    refine an2 1 9 _ _ (by kernel_rfl) rfl rfl ?_ ?_
    · skip
      refine Sp.of rfl (stepFnW 43 (.func 43) [.tmp 8] _ [.agg (tmc 1 0 0 nilS)] rfl rfl rfl rfl (fun _ => rfl) _ (filter8_any (fun _ => False) (leaf 1) _ _ (UmV.leaf _ _ _ _ _ _ _) (fun _ _ h => h.elim)) ?_)
      rintro e w1 ⟨ds1, rfl, hw, hu⟩
      refine Or.inl ⟨_, rfl, ?_⟩
      have HM1 := hid (HM0.out.putNew (fun _ e => e.elim) hw (um_on hu fun b hb hS => ⟨hS.resolve_left (fun h => h.2.elim), rfl⟩))
      have HY1 := hid ((hw.block _ (Array.getElem?_eq_some_iff.1 HY0.out).1).trans HY0.out)
      have HSds1 := hid hu.size
      have hHeld : Ye w.heap.size w1 := ⟨row4_rng HY1.out⟩
      clear hw hu
      refine ⟨hHeld, ?_⟩
      simp only [Act.put, List.getElem_toArray, List.getElem_cons_succ, List.getElem_cons_zero, List.setIfInBounds_toArray, List.set_cons_zero, List.set_cons_succ]
      refine an2 2 9 _ _ (by kernel_rfl) rfl rfl ?_ ?_
      · skip
        refine Sp.of rfl (stepFnW 44 (.func 44) [.const (.int .u64 1)] _ [.int .u64 ((1 : Nat) : Int)] rfl rfl rfl rfl (fun _ => rfl) _ (set8_any 1 _) ?_)
        rintro e w2 ⟨rfl, hw⟩
        refine Or.inl ⟨_, rfl, ?_⟩
        have HM2 := hid (HM1.out.putNew (fun _ e => e.elim) hw (UmV.leaf _ _ 7 9 1 none 0))
        have HY2 := hid ((hw.block _ (Array.getElem?_eq_some_iff.1 HY1.out).1).trans HY1.out)
        have hHeld : Ye w.heap.size w2 := ⟨row4_rng HY2.out⟩
        clear hw
        refine ⟨hHeld, ?_⟩
        simp only [Act.put, List.getElem_toArray, List.getElem_cons_succ, List.getElem_cons_zero, List.setIfInBounds_toArray, List.set_cons_zero, List.set_cons_succ]
        refine an2 4 9 _ _ (by kernel_rfl) rfl rfl ?_ ?_
        · skip
          refine Sp.of rfl (stepFnW 43 (.func 43) [.tmp 11] _ [.agg (tmc 1 0 0 nilS)] rfl rfl rfl rfl (fun _ => rfl) _ (filter8_any (fun _ => False) (leaf 1) _ _ (UmV.leaf _ _ _ _ _ _ _) (fun _ _ h => h.elim)) ?_)
          rintro e w3 ⟨ds2, rfl, hw, hu⟩
          refine Or.inl ⟨_, rfl, ?_⟩
          have HM3 := hid (HM2.out.putNew (fun _ e => e.elim) hw (um_on hu fun b hb hS => ⟨hS.resolve_left (fun h => h.2.elim), rfl⟩))
          have HY3 := hid ((hw.block _ (Array.getElem?_eq_some_iff.1 HY2.out).1).trans HY2.out)
          have HSds2 := hid hu.size
          have hHeld : Ye w.heap.size w3 := ⟨row4_rng HY3.out⟩
          clear hw hu
          refine ⟨hHeld, ?_⟩
          simp only [Act.put, List.getElem_toArray, List.getElem_cons_succ, List.getElem_cons_zero, List.setIfInBounds_toArray, List.set_cons_zero, List.set_cons_succ]
          refine an2 5 9 _ _ (by kernel_rfl) rfl rfl ?_ ?_
          · skip
            refine Sp.bs2 (.tmp 10) (.tmp 12) rfl rfl (tmc 7 9 1 nilS) ds2 rfl rfl rfl HSds2.out ?_
            have hw : Below w3.heap.size w3 (w3.alloc (.cells ((tmc 7 9 1 nilS) ++ ds2) 26)) := (Below.refl _ _).alloc (Nat.le_refl _) _
            have HM4 := hid (HM3.out.bld2 (fun _ e => e.elim) (t := .mk 7 9 1 []) (u := ty) (c := (tmc 7 9 1 nilS)) (d := ds2) (by simp) (by simp) 9)
            have HY4 := hid ((hw.block _ (Array.getElem?_eq_some_iff.1 HY3.out).1).trans HY3.out)
            have hHeld : Ye w.heap.size (w3.alloc (.cells ((tmc 7 9 1 nilS) ++ ds2) 26)) := ⟨row4_rng HY4.out⟩
            obtain ⟨A4, hA4⟩ : ∃ x, x = w3.heap.size := ⟨_, rfl⟩
            clear hw
            generalize w3.alloc (.cells ((tmc 7 9 1 nilS) ++ ds2) 26) = w4 at HM4 HY4 hHeld ⊢
            rw [← hA4] at HM4 ⊢
            clear hA4
            refine ⟨hHeld, ?_⟩
            simp only [Act.put, List.getElem_toArray, List.getElem_cons_succ, List.getElem_cons_zero, List.setIfInBounds_toArray, List.set_cons_zero, List.set_cons_succ]
            refine wpAnyH_take (i := 6) (v := .agg (tmc 9 0 0 (.slice (some ⟨A4, 0, none⟩) 2 2))) rfl (by kernel_rfl) (by kernel_rfl) (by kernel_rfl) (fun _ _ _ h => h) (Or.inl ⟨by rfl, ?_⟩) hHeld ?_
            · intro w' hSw
              exact runBd (us := #[(0, .int .i8 9), (3, .slice (some ⟨A4, 0, none⟩) 2 2)]) _ rfl (by kernel_rfl) (run_bt03 _ _ _ _ _)
            simp only [Act.put, List.getElem_toArray, List.getElem_cons_succ, List.getElem_cons_zero, List.setIfInBounds_toArray, List.set_cons_zero, List.set_cons_succ]
            refine an2 7 9 _ _ (by kernel_rfl) rfl rfl ?_ ?_
            · skip
              refine Sp.bs2 (.tmp 9) (.tmp 14) rfl rfl ds1 (tmc 9 0 0 (.slice (some ⟨A4, 0, none⟩) 2 2)) rfl rfl HSds1.out rfl ?_
              have hw : Below w4.heap.size w4 (w4.alloc (.cells (ds1 ++ (tmc 9 0 0 (.slice (some ⟨A4, 0, none⟩) 2 2))) 26)) := (Below.refl _ _).alloc (Nat.le_refl _) _
              have HM5 := hid (HM4.out.bld2 (fun _ e => e.elim) (t := ty) (u := .mk 9 0 0 [.mk 7 9 1 [], ty]) (c := ds1) (d := (tmc 9 0 0 (.slice (some ⟨A4, 0, none⟩) 2 2))) (by simp) (by simp) 9)
              have HY5 := hid ((hw.block _ (Array.getElem?_eq_some_iff.1 HY4.out).1).trans HY4.out)
              have hHeld : Ye w.heap.size (w4.alloc (.cells (ds1 ++ (tmc 9 0 0 (.slice (some ⟨A4, 0, none⟩) 2 2))) 26)) := ⟨row4_rng HY5.out⟩
              obtain ⟨A5, hA5⟩ : ∃ x, x = w4.heap.size := ⟨_, rfl⟩
              clear hw
              generalize w4.alloc (.cells (ds1 ++ (tmc 9 0 0 (.slice (some ⟨A4, 0, none⟩) 2 2))) 26) = w5 at HM5 HY5 hHeld ⊢
              rw [← hA5] at HM5 ⊢
              clear hA5
              refine ⟨hHeld, ?_⟩
              simp only [Act.put, List.getElem_toArray, List.getElem_cons_succ, List.getElem_cons_zero, List.setIfInBounds_toArray, List.set_cons_zero, List.set_cons_succ]
              refine wpAnyH_take (i := 8) (v := .agg (tmc 9 0 0 (.slice (some ⟨A5, 0, none⟩) 2 2))) rfl (by kernel_rfl) (by kernel_rfl) (by kernel_rfl) (fun _ _ _ h => h) (Or.inl ⟨by rfl, ?_⟩) hHeld ?_
              · intro w' hSw
                exact runBd (us := #[(0, .int .i8 9), (3, .slice (some ⟨A5, 0, none⟩) 2 2)]) _ rfl (by kernel_rfl) (run_bt03 _ _ _ _ _)
              simp only [Act.put, List.getElem_toArray, List.getElem_cons_succ, List.getElem_cons_zero, List.setIfInBounds_toArray, List.set_cons_zero, List.set_cons_succ]
              refine an1 9 _ (by kernel_rfl) rfl ?_
              refine Sp.alT rfl rfl ?_
              have hw : Below w5.heap.size w5 (w5.alloc (.cells (tmc 0 0 0 nilS) 26)) := (Below.refl _ _).alloc (Nat.le_refl _) _
              have HM6 := hid (HM5.out.al)
              have HY6 := hid ((hw.block _ (Array.getElem?_eq_some_iff.1 HY5.out).1).trans HY5.out)
              have HA6 : Hid ((w5.alloc (.cells (tmc 0 0 0 nilS) 26)).heap[w5.heap.size]? = some (.cells (tmc 0 0 0 nilS) 26 (0, 0))) := heap_alloc_new _ _
              have hAw : W1.heap.size ≤ w5.heap.size := HM5.out.low.size
              have hHeld : Ye w.heap.size (w5.alloc (.cells (tmc 0 0 0 nilS) 26)) := ⟨row4_rng HY6.out⟩
              clear hw
              generalize w5.alloc (.cells (tmc 0 0 0 nilS) 26) = w6 at HM6 HY6 HA6 hHeld ⊢
              generalize w5.heap.size = A at HM6 HA6 hAw ⊢
              refine ⟨hHeld, ?_⟩
              simp only [Act.put, List.getElem_toArray, List.getElem_cons_succ, List.getElem_cons_zero, List.setIfInBounds_toArray, List.set_cons_zero, List.set_cons_succ]
              refine an1 10 _ (by kernel_rfl) rfl ?_
              refine Sp.stT (.tmp 2) (.tmp 16) rfl rfl A (tmc 9 0 0 (.slice (some ⟨A5, 0, none⟩) 2 2)) (tmc 0 0 0 nilS) rfl rfl HA6.out sizeTM rfl (tic_one _ _ _ _ _ _) ?_
              have HL := hid (Lg.of HM6.out hAw HA6.out (cs := (tmc 9 0 0 (.slice (some ⟨A5, 0, none⟩) 2 2))) (by simp))
              have HYZ : Hid ((w6.setRow A (tmc 9 0 0 (.slice (some ⟨A5, 0, none⟩) 2 2))).heap[w.heap.size]? = some (.cells (tmc 1 0 0 nilS) 26 (0, 0))) := (setRow_other w6 A w.heap.size _ (by have := HZ1.out; omega)).trans HY6.out
              refine ⟨⟨row4_rng HYZ.out⟩, ?_⟩
              simp only [Act.put, List.getElem_toArray, List.getElem_cons_succ, List.getElem_cons_zero]
              refine wpAnyH_done (by kernel_rfl) ?_ _
              go_wp2
              go_meet
              case rel => exact ⟨A, rfl, HL, HYZ⟩
            · skip
              refine Sp.alT rfl rfl ?_
              have hw : Below w4.heap.size w4 (w4.alloc (.cells (tmc 0 0 0 nilS) 26)) := (Below.refl _ _).alloc (Nat.le_refl _) _
              have HM5 := hid (HM4.out.al)
              have HY5 := hid ((hw.block _ (Array.getElem?_eq_some_iff.1 HY4.out).1).trans HY4.out)
              have HA5 : Hid ((w4.alloc (.cells (tmc 0 0 0 nilS) 26)).heap[w4.heap.size]? = some (.cells (tmc 0 0 0 nilS) 26 (0, 0))) := heap_alloc_new _ _
              have hAw : W1.heap.size ≤ w4.heap.size := HM4.out.low.size
              have hHeld : Ye w.heap.size (w4.alloc (.cells (tmc 0 0 0 nilS) 26)) := ⟨row4_rng HY5.out⟩
              clear hw
              generalize w4.alloc (.cells (tmc 0 0 0 nilS) 26) = w5 at HM5 HY5 HA5 hHeld ⊢
              generalize w4.heap.size = A at HM5 HA5 hAw ⊢
              refine ⟨hHeld, ?_⟩
              simp only [Act.put, List.getElem_toArray, List.getElem_cons_succ, List.getElem_cons_zero, List.setIfInBounds_toArray, List.set_cons_zero, List.set_cons_succ]
              refine an1 7 _ (by kernel_rfl) rfl ?_
              refine Sp.bs2 (.tmp 9) (.tmp 14) rfl rfl ds1 (tmc 9 0 0 (.slice (some ⟨A4, 0, none⟩) 2 2)) rfl rfl HSds1.out rfl ?_
              have hw : Below w5.heap.size w5 (w5.alloc (.cells (ds1 ++ (tmc 9 0 0 (.slice (some ⟨A4, 0, none⟩) 2 2))) 26)) := (Below.refl _ _).alloc (Nat.le_refl _) _
              have HM6 := hid (HM5.out.bld2 (fun b e => by have := (Array.getElem?_eq_some_iff.1 HA5.out).1; omega) (t := ty) (u := .mk 9 0 0 [.mk 7 9 1 [], ty]) (c := ds1) (d := (tmc 9 0 0 (.slice (some ⟨A4, 0, none⟩) 2 2))) (by simp) (by simp) 9)
              have HY6 := hid ((hw.block _ (Array.getElem?_eq_some_iff.1 HY5.out).1).trans HY5.out)
              have HA6 := hid ((hw.block _ (Array.getElem?_eq_some_iff.1 HA5.out).1).trans HA5.out)
              have hHeld : Ye w.heap.size (w5.alloc (.cells (ds1 ++ (tmc 9 0 0 (.slice (some ⟨A4, 0, none⟩) 2 2))) 26)) := ⟨row4_rng HY6.out⟩
              obtain ⟨A6, hA6⟩ : ∃ x, x = w5.heap.size := ⟨_, rfl⟩
              clear hw
              generalize w5.alloc (.cells (ds1 ++ (tmc 9 0 0 (.slice (some ⟨A4, 0, none⟩) 2 2))) 26) = w6 at HM6 HY6 hHeld HA6 ⊢
              rw [← hA6] at HM6 ⊢
              clear hA6
              refine ⟨hHeld, ?_⟩
              simp only [Act.put, List.getElem_toArray, List.getElem_cons_succ, List.getElem_cons_zero, List.setIfInBounds_toArray, List.set_cons_zero, List.set_cons_succ]
              refine wpAnyH_take (i := 8) (v := .agg (tmc 9 0 0 (.slice (some ⟨A6, 0, none⟩) 2 2))) rfl (by kernel_rfl) (by kernel_rfl) (by kernel_rfl) (fun _ _ _ h => h) (Or.inl ⟨by rfl, ?_⟩) hHeld ?_
              · intro w' hSw
                exact runBd (us := #[(0, .int .i8 9), (3, .slice (some ⟨A6, 0, none⟩) 2 2)]) _ rfl (by kernel_rfl) (run_bt03 _ _ _ _ _)
              simp only [Act.put, List.getElem_toArray, List.getElem_cons_succ, List.getElem_cons_zero, List.setIfInBounds_toArray, List.set_cons_zero, List.set_cons_succ]
              refine an1 10 _ (by kernel_rfl) rfl ?_
              refine Sp.stT (.tmp 2) (.tmp 16) rfl rfl A (tmc 9 0 0 (.slice (some ⟨A6, 0, none⟩) 2 2)) (tmc 0 0 0 nilS) rfl rfl HA6.out sizeTM rfl (tic_one _ _ _ _ _ _) ?_
              have HL := hid (Lg.of HM6.out hAw HA6.out (cs := (tmc 9 0 0 (.slice (some ⟨A6, 0, none⟩) 2 2))) (by simp))
              have HYZ : Hid ((w6.setRow A (tmc 9 0 0 (.slice (some ⟨A6, 0, none⟩) 2 2))).heap[w.heap.size]? = some (.cells (tmc 1 0 0 nilS) 26 (0, 0))) := (setRow_other w6 A w.heap.size _ (by have := HZ1.out; omega)).trans HY6.out
              refine ⟨⟨row4_rng HYZ.out⟩, ?_⟩
              simp only [Act.put, List.getElem_toArray, List.getElem_cons_succ, List.getElem_cons_zero]
              refine wpAnyH_done (by kernel_rfl) ?_ _
              go_wp2
              go_meet
              case rel => exact ⟨A, rfl, HL, HYZ⟩
          · skip
            refine Sp.alT rfl rfl ?_
            have hw : Below w3.heap.size w3 (w3.alloc (.cells (tmc 0 0 0 nilS) 26)) := (Below.refl _ _).alloc (Nat.le_refl _) _
            have HM4 := hid (HM3.out.al)
            have HY4 := hid ((hw.block _ (Array.getElem?_eq_some_iff.1 HY3.out).1).trans HY3.out)
            have HA4 : Hid ((w3.alloc (.cells (tmc 0 0 0 nilS) 26)).heap[w3.heap.size]? = some (.cells (tmc 0 0 0 nilS) 26 (0, 0))) := heap_alloc_new _ _
            have hAw : W1.heap.size ≤ w3.heap.size := HM3.out.low.size
            have hHeld : Ye w.heap.size (w3.alloc (.cells (tmc 0 0 0 nilS) 26)) := ⟨row4_rng HY4.out⟩
            clear hw
            generalize w3.alloc (.cells (tmc 0 0 0 nilS) 26) = w4 at HM4 HY4 HA4 hHeld ⊢
            generalize w3.heap.size = A at HM4 HA4 hAw ⊢
            refine ⟨hHeld, ?_⟩
            simp only [Act.put, List.getElem_toArray, List.getElem_cons_succ, List.getElem_cons_zero, List.setIfInBounds_toArray, List.set_cons_zero, List.set_cons_succ]
            refine an1 5 _ (by kernel_rfl) rfl ?_
            refine Sp.bs2 (.tmp 10) (.tmp 12) rfl rfl (tmc 7 9 1 nilS) ds2 rfl rfl rfl HSds2.out ?_
            have hw : Below w4.heap.size w4 (w4.alloc (.cells ((tmc 7 9 1 nilS) ++ ds2) 26)) := (Below.refl _ _).alloc (Nat.le_refl _) _
            have HM5 := hid (HM4.out.bld2 (fun b e => by have := (Array.getElem?_eq_some_iff.1 HA4.out).1; omega) (t := .mk 7 9 1 []) (u := ty) (c := (tmc 7 9 1 nilS)) (d := ds2) (by simp) (by simp) 9)
            have HY5 := hid ((hw.block _ (Array.getElem?_eq_some_iff.1 HY4.out).1).trans HY4.out)
            have HA5 := hid ((hw.block _ (Array.getElem?_eq_some_iff.1 HA4.out).1).trans HA4.out)
            have hHeld : Ye w.heap.size (w4.alloc (.cells ((tmc 7 9 1 nilS) ++ ds2) 26)) := ⟨row4_rng HY5.out⟩
            obtain ⟨A5, hA5⟩ : ∃ x, x = w4.heap.size := ⟨_, rfl⟩
            clear hw
            generalize w4.alloc (.cells ((tmc 7 9 1 nilS) ++ ds2) 26) = w5 at HM5 HY5 hHeld HA5 ⊢
            rw [← hA5] at HM5 ⊢
            clear hA5
            refine ⟨hHeld, ?_⟩
            simp only [Act.put, List.getElem_toArray, List.getElem_cons_succ, List.getElem_cons_zero, List.setIfInBounds_toArray, List.set_cons_zero, List.set_cons_succ]
            refine wpAnyH_take (i := 6) (v := .agg (tmc 9 0 0 (.slice (some ⟨A5, 0, none⟩) 2 2))) rfl (by kernel_rfl) (by kernel_rfl) (by kernel_rfl) (fun _ _ _ h => h) (Or.inl ⟨by rfl, ?_⟩) hHeld ?_
            · intro w' hSw
              exact runBd (us := #[(0, .int .i8 9), (3, .slice (some ⟨A5, 0, none⟩) 2 2)]) _ rfl (by kernel_rfl) (run_bt03 _ _ _ _ _)
            simp only [Act.put, List.getElem_toArray, List.getElem_cons_succ, List.getElem_cons_zero, List.setIfInBounds_toArray, List.set_cons_zero, List.set_cons_succ]
            refine an1 7 _ (by kernel_rfl) rfl ?_
            refine Sp.bs2 (.tmp 9) (.tmp 14) rfl rfl ds1 (tmc 9 0 0 (.slice (some ⟨A5, 0, none⟩) 2 2)) rfl rfl HSds1.out rfl ?_
            have hw : Below w5.heap.size w5 (w5.alloc (.cells (ds1 ++ (tmc 9 0 0 (.slice (some ⟨A5, 0, none⟩) 2 2))) 26)) := (Below.refl _ _).alloc (Nat.le_refl _) _
            have HM6 := hid (HM5.out.bld2 (fun b e => by have := (Array.getElem?_eq_some_iff.1 HA5.out).1; omega) (t := ty) (u := .mk 9 0 0 [.mk 7 9 1 [], ty]) (c := ds1) (d := (tmc 9 0 0 (.slice (some ⟨A5, 0, none⟩) 2 2))) (by simp) (by simp) 9)
            have HY6 := hid ((hw.block _ (Array.getElem?_eq_some_iff.1 HY5.out).1).trans HY5.out)
            have HA6 := hid ((hw.block _ (Array.getElem?_eq_some_iff.1 HA5.out).1).trans HA5.out)
            have hHeld : Ye w.heap.size (w5.alloc (.cells (ds1 ++ (tmc 9 0 0 (.slice (some ⟨A5, 0, none⟩) 2 2))) 26)) := ⟨row4_rng HY6.out⟩
            obtain ⟨A6, hA6⟩ : ∃ x, x = w5.heap.size := ⟨_, rfl⟩
            clear hw
            generalize w5.alloc (.cells (ds1 ++ (tmc 9 0 0 (.slice (some ⟨A5, 0, none⟩) 2 2))) 26) = w6 at HM6 HY6 hHeld HA6 ⊢
            rw [← hA6] at HM6 ⊢
            clear hA6
            refine ⟨hHeld, ?_⟩
            simp only [Act.put, List.getElem_toArray, List.getElem_cons_succ, List.getElem_cons_zero, List.setIfInBounds_toArray, List.set_cons_zero, List.set_cons_succ]
            refine wpAnyH_take (i := 8) (v := .agg (tmc 9 0 0 (.slice (some ⟨A6, 0, none⟩) 2 2))) rfl (by kernel_rfl) (by kernel_rfl) (by kernel_rfl) (fun _ _ _ h => h) (Or.inl ⟨by rfl, ?_⟩) hHeld ?_
            · intro w' hSw
              exact runBd (us := #[(0, .int .i8 9), (3, .slice (some ⟨A6, 0, none⟩) 2 2)]) _ rfl (by kernel_rfl) (run_bt03 _ _ _ _ _)
            simp only [Act.put, List.getElem_toArray, List.getElem_cons_succ, List.getElem_cons_zero, List.setIfInBounds_toArray, List.set_cons_zero, List.set_cons_succ]
            refine an1 10 _ (by kernel_rfl) rfl ?_
            refine Sp.stT (.tmp 2) (.tmp 16) rfl rfl A (tmc 9 0 0 (.slice (some ⟨A6, 0, none⟩) 2 2)) (tmc 0 0 0 nilS) rfl rfl HA6.out sizeTM rfl (tic_one _ _ _ _ _ _) ?_
            have HL := hid (Lg.of HM6.out hAw HA6.out (cs := (tmc 9 0 0 (.slice (some ⟨A6, 0, none⟩) 2 2))) (by simp))
            have HYZ : Hid ((w6.setRow A (tmc 9 0 0 (.slice (some ⟨A6, 0, none⟩) 2 2))).heap[w.heap.size]? = some (.cells (tmc 1 0 0 nilS) 26 (0, 0))) := (setRow_other w6 A w.heap.size _ (by have := HZ1.out; omega)).trans HY6.out
            refine ⟨⟨row4_rng HYZ.out⟩, ?_⟩
            simp only [Act.put, List.getElem_toArray, List.getElem_cons_succ, List.getElem_cons_zero]
            refine wpAnyH_done (by kernel_rfl) ?_ _
            go_wp2
            go_meet
            case rel => exact ⟨A, rfl, HL, HYZ⟩
        · skip
          refine Sp.alT rfl rfl ?_
          have hw : Below w2.heap.size w2 (w2.alloc (.cells (tmc 0 0 0 nilS) 26)) := (Below.refl _ _).alloc (Nat.le_refl _) _
          have HM3 := hid (HM2.out.al)
          have HY3 := hid ((hw.block _ (Array.getElem?_eq_some_iff.1 HY2.out).1).trans HY2.out)
          have HA3 : Hid ((w2.alloc (.cells (tmc 0 0 0 nilS) 26)).heap[w2.heap.size]? = some (.cells (tmc 0 0 0 nilS) 26 (0, 0))) := heap_alloc_new _ _
          have hAw : W1.heap.size ≤ w2.heap.size := HM2.out.low.size
          have hHeld : Ye w.heap.size (w2.alloc (.cells (tmc 0 0 0 nilS) 26)) := ⟨row4_rng HY3.out⟩
          clear hw
          generalize w2.alloc (.cells (tmc 0 0 0 nilS) 26) = w3 at HM3 HY3 HA3 hHeld ⊢
          generalize w2.heap.size = A at HM3 HA3 hAw ⊢
          refine ⟨hHeld, ?_⟩
          simp only [Act.put, List.getElem_toArray, List.getElem_cons_succ, List.getElem_cons_zero, List.setIfInBounds_toArray, List.set_cons_zero, List.set_cons_succ]
          refine an1 4 _ (by kernel_rfl) rfl ?_
          refine Sp.of rfl (stepFnW 43 (.func 43) [.tmp 11] _ [.agg (tmc 1 0 0 nilS)] rfl rfl rfl rfl (fun _ => rfl) _ (filter8_any (fun _ => False) (leaf 1) _ _ (UmV.leaf _ _ _ _ _ _ _) (fun _ _ h => h.elim)) ?_)
          rintro e w4 ⟨ds2, rfl, hw, hu⟩
          refine Or.inl ⟨_, rfl, ?_⟩
          have HM4 := hid (HM3.out.putNew (fun b e => by have := (Array.getElem?_eq_some_iff.1 HA3.out).1; omega) hw (um_on hu fun b hb hS => ⟨hS.resolve_left (fun h => h.2.elim), rfl⟩))
          have HY4 := hid ((hw.block _ (Array.getElem?_eq_some_iff.1 HY3.out).1).trans HY3.out)
          have HSds2 := hid hu.size
          have HA4 := hid ((hw.block _ (Array.getElem?_eq_some_iff.1 HA3.out).1).trans HA3.out)
          have hHeld : Ye w.heap.size w4 := ⟨row4_rng HY4.out⟩
          clear hw hu
          refine ⟨hHeld, ?_⟩
          simp only [Act.put, List.getElem_toArray, List.getElem_cons_succ, List.getElem_cons_zero, List.setIfInBounds_toArray, List.set_cons_zero, List.set_cons_succ]
          refine an1 5 _ (by kernel_rfl) rfl ?_
          refine Sp.bs2 (.tmp 10) (.tmp 12) rfl rfl (tmc 7 9 1 nilS) ds2 rfl rfl rfl HSds2.out ?_
          have hw : Below w4.heap.size w4 (w4.alloc (.cells ((tmc 7 9 1 nilS) ++ ds2) 26)) := (Below.refl _ _).alloc (Nat.le_refl _) _
          have HM5 := hid (HM4.out.bld2 (fun b e => by have := (Array.getElem?_eq_some_iff.1 HA4.out).1; omega) (t := .mk 7 9 1 []) (u := ty) (c := (tmc 7 9 1 nilS)) (d := ds2) (by simp) (by simp) 9)
          have HY5 := hid ((hw.block _ (Array.getElem?_eq_some_iff.1 HY4.out).1).trans HY4.out)
          have HA5 := hid ((hw.block _ (Array.getElem?_eq_some_iff.1 HA4.out).1).trans HA4.out)
          have hHeld : Ye w.heap.size (w4.alloc (.cells ((tmc 7 9 1 nilS) ++ ds2) 26)) := ⟨row4_rng HY5.out⟩
          obtain ⟨A5, hA5⟩ : ∃ x, x = w4.heap.size := ⟨_, rfl⟩
          clear hw
          generalize w4.alloc (.cells ((tmc 7 9 1 nilS) ++ ds2) 26) = w5 at HM5 HY5 hHeld HA5 ⊢
          rw [← hA5] at HM5 ⊢
          clear hA5
          refine ⟨hHeld, ?_⟩
          simp only [Act.put, List.getElem_toArray, List.getElem_cons_succ, List.getElem_cons_zero, List.setIfInBounds_toArray, List.set_cons_zero, List.set_cons_succ]
          refine wpAnyH_take (i := 6) (v := .agg (tmc 9 0 0 (.slice (some ⟨A5, 0, none⟩) 2 2))) rfl (by kernel_rfl) (by kernel_rfl) (by kernel_rfl) (fun _ _ _ h => h) (Or.inl ⟨by rfl, ?_⟩) hHeld ?_
          · intro w' hSw
            exact runBd (us := #[(0, .int .i8 9), (3, .slice (some ⟨A5, 0, none⟩) 2 2)]) _ rfl (by kernel_rfl) (run_bt03 _ _ _ _ _)
          simp only [Act.put, List.getElem_toArray, List.getElem_cons_succ, List.getElem_cons_zero, List.setIfInBounds_toArray, List.set_cons_zero, List.set_cons_succ]
          refine an1 7 _ (by kernel_rfl) rfl ?_
          refine Sp.bs2 (.tmp 9) (.tmp 14) rfl rfl ds1 (tmc 9 0 0 (.slice (some ⟨A5, 0, none⟩) 2 2)) rfl rfl HSds1.out rfl ?_
          have hw : Below w5.heap.size w5 (w5.alloc (.cells (ds1 ++ (tmc 9 0 0 (.slice (some ⟨A5, 0, none⟩) 2 2))) 26)) := (Below.refl _ _).alloc (Nat.le_refl _) _
          have HM6 := hid (HM5.out.bld2 (fun b e => by have := (Array.getElem?_eq_some_iff.1 HA5.out).1; omega) (t := ty) (u := .mk 9 0 0 [.mk 7 9 1 [], ty]) (c := ds1) (d := (tmc 9 0 0 (.slice (some ⟨A5, 0, none⟩) 2 2))) (by simp) (by simp) 9)
          have HY6 := hid ((hw.block _ (Array.getElem?_eq_some_iff.1 HY5.out).1).trans HY5.out)
          have HA6 := hid ((hw.block _ (Array.getElem?_eq_some_iff.1 HA5.out).1).trans HA5.out)
          have hHeld : Ye w.heap.size (w5.alloc (.cells (ds1 ++ (tmc 9 0 0 (.slice (some ⟨A5, 0, none⟩) 2 2))) 26)) := ⟨row4_rng HY6.out⟩
          obtain ⟨A6, hA6⟩ : ∃ x, x = w5.heap.size := ⟨_, rfl⟩
          clear hw
          generalize w5.alloc (.cells (ds1 ++ (tmc 9 0 0 (.slice (some ⟨A5, 0, none⟩) 2 2))) 26) = w6 at HM6 HY6 hHeld HA6 ⊢
          rw [← hA6] at HM6 ⊢
          clear hA6
          refine ⟨hHeld, ?_⟩
          simp only [Act.put, List.getElem_toArray, List.getElem_cons_succ, List.getElem_cons_zero, List.setIfInBounds_toArray, List.set_cons_zero, List.set_cons_succ]
          refine wpAnyH_take (i := 8) (v := .agg (tmc 9 0 0 (.slice (some ⟨A6, 0, none⟩) 2 2))) rfl (by kernel_rfl) (by kernel_rfl) (by kernel_rfl) (fun _ _ _ h => h) (Or.inl ⟨by rfl, ?_⟩) hHeld ?_
          · intro w' hSw
            exact runBd (us := #[(0, .int .i8 9), (3, .slice (some ⟨A6, 0, none⟩) 2 2)]) _ rfl (by kernel_rfl) (run_bt03 _ _ _ _ _)
          simp only [Act.put, List.getElem_toArray, List.getElem_cons_succ, List.getElem_cons_zero, List.setIfInBounds_toArray, List.set_cons_zero, List.set_cons_succ]
          refine an1 10 _ (by kernel_rfl) rfl ?_
          refine Sp.stT (.tmp 2) (.tmp 16) rfl rfl A (tmc 9 0 0 (.slice (some ⟨A6, 0, none⟩) 2 2)) (tmc 0 0 0 nilS) rfl rfl HA6.out sizeTM rfl (tic_one _ _ _ _ _ _) ?_
          have HL := hid (Lg.of HM6.out hAw HA6.out (cs := (tmc 9 0 0 (.slice (some ⟨A6, 0, none⟩) 2 2))) (by simp))
          have HYZ : Hid ((w6.setRow A (tmc 9 0 0 (.slice (some ⟨A6, 0, none⟩) 2 2))).heap[w.heap.size]? = some (.cells (tmc 1 0 0 nilS) 26 (0, 0))) := (setRow_other w6 A w.heap.size _ (by have := HZ1.out; omega)).trans HY6.out
          refine ⟨⟨row4_rng HYZ.out⟩, ?_⟩
          simp only [Act.put, List.getElem_toArray, List.getElem_cons_succ, List.getElem_cons_zero]
          refine wpAnyH_done (by kernel_rfl) ?_ _
          go_wp2
          go_meet
          case rel => exact ⟨A, rfl, HL, HYZ⟩
      · skip
        refine Sp.alT rfl rfl ?_
        have hw : Below w1.heap.size w1 (w1.alloc (.cells (tmc 0 0 0 nilS) 26)) := (Below.refl _ _).alloc (Nat.le_refl _) _
        have HM2 := hid (HM1.out.al)
        have HY2 := hid ((hw.block _ (Array.getElem?_eq_some_iff.1 HY1.out).1).trans HY1.out)
        have HA2 : Hid ((w1.alloc (.cells (tmc 0 0 0 nilS) 26)).heap[w1.heap.size]? = some (.cells (tmc 0 0 0 nilS) 26 (0, 0))) := heap_alloc_new _ _
        have hAw : W1.heap.size ≤ w1.heap.size := HM1.out.low.size
        have hHeld : Ye w.heap.size (w1.alloc (.cells (tmc 0 0 0 nilS) 26)) := ⟨row4_rng HY2.out⟩
        clear hw
        generalize w1.alloc (.cells (tmc 0 0 0 nilS) 26) = w2 at HM2 HY2 HA2 hHeld ⊢
        generalize w1.heap.size = A at HM2 HA2 hAw ⊢
        refine ⟨hHeld, ?_⟩
        simp only [Act.put, List.getElem_toArray, List.getElem_cons_succ, List.getElem_cons_zero, List.setIfInBounds_toArray, List.set_cons_zero, List.set_cons_succ]
        refine an1 2 _ (by kernel_rfl) rfl ?_
        refine Sp.of rfl (stepFnW 44 (.func 44) [.const (.int .u64 1)] _ [.int .u64 ((1 : Nat) : Int)] rfl rfl rfl rfl (fun _ => rfl) _ (set8_any 1 _) ?_)
        rintro e w3 ⟨rfl, hw⟩
        refine Or.inl ⟨_, rfl, ?_⟩
        have HM3 := hid (HM2.out.putNew (fun b e => by have := (Array.getElem?_eq_some_iff.1 HA2.out).1; omega) hw (UmV.leaf _ _ 7 9 1 none 0))
        have HY3 := hid ((hw.block _ (Array.getElem?_eq_some_iff.1 HY2.out).1).trans HY2.out)
        have HA3 := hid ((hw.block _ (Array.getElem?_eq_some_iff.1 HA2.out).1).trans HA2.out)
        have hHeld : Ye w.heap.size w3 := ⟨row4_rng HY3.out⟩
        clear hw
        refine ⟨hHeld, ?_⟩
        simp only [Act.put, List.getElem_toArray, List.getElem_cons_succ, List.getElem_cons_zero, List.setIfInBounds_toArray, List.set_cons_zero, List.set_cons_succ]
        refine an1 4 _ (by kernel_rfl) rfl ?_
        refine Sp.of rfl (stepFnW 43 (.func 43) [.tmp 11] _ [.agg (tmc 1 0 0 nilS)] rfl rfl rfl rfl (fun _ => rfl) _ (filter8_any (fun _ => False) (leaf 1) _ _ (UmV.leaf _ _ _ _ _ _ _) (fun _ _ h => h.elim)) ?_)
        rintro e w4 ⟨ds2, rfl, hw, hu⟩
        refine Or.inl ⟨_, rfl, ?_⟩
        have HM4 := hid (HM3.out.putNew (fun b e => by have := (Array.getElem?_eq_some_iff.1 HA3.out).1; omega) hw (um_on hu fun b hb hS => ⟨hS.resolve_left (fun h => h.2.elim), rfl⟩))
        have HY4 := hid ((hw.block _ (Array.getElem?_eq_some_iff.1 HY3.out).1).trans HY3.out)
        have HSds2 := hid hu.size
        have HA4 := hid ((hw.block _ (Array.getElem?_eq_some_iff.1 HA3.out).1).trans HA3.out)
        have hHeld : Ye w.heap.size w4 := ⟨row4_rng HY4.out⟩
        clear hw hu
        refine ⟨hHeld, ?_⟩
        simp only [Act.put, List.getElem_toArray, List.getElem_cons_succ, List.getElem_cons_zero, List.setIfInBounds_toArray, List.set_cons_zero, List.set_cons_succ]
        refine an1 5 _ (by kernel_rfl) rfl ?_
        refine Sp.bs2 (.tmp 10) (.tmp 12) rfl rfl (tmc 7 9 1 nilS) ds2 rfl rfl rfl HSds2.out ?_
        have hw : Below w4.heap.size w4 (w4.alloc (.cells ((tmc 7 9 1 nilS) ++ ds2) 26)) := (Below.refl _ _).alloc (Nat.le_refl _) _
        have HM5 := hid (HM4.out.bld2 (fun b e => by have := (Array.getElem?_eq_some_iff.1 HA4.out).1; omega) (t := .mk 7 9 1 []) (u := ty) (c := (tmc 7 9 1 nilS)) (d := ds2) (by simp) (by simp) 9)
        have HY5 := hid ((hw.block _ (Array.getElem?_eq_some_iff.1 HY4.out).1).trans HY4.out)
        have HA5 := hid ((hw.block _ (Array.getElem?_eq_some_iff.1 HA4.out).1).trans HA4.out)
        have hHeld : Ye w.heap.size (w4.alloc (.cells ((tmc 7 9 1 nilS) ++ ds2) 26)) := ⟨row4_rng HY5.out⟩
        obtain ⟨A5, hA5⟩ : ∃ x, x = w4.heap.size := ⟨_, rfl⟩
        clear hw
        generalize w4.alloc (.cells ((tmc 7 9 1 nilS) ++ ds2) 26) = w5 at HM5 HY5 hHeld HA5 ⊢
        rw [← hA5] at HM5 ⊢
        clear hA5
        refine ⟨hHeld, ?_⟩
        simp only [Act.put, List.getElem_toArray, List.getElem_cons_succ, List.getElem_cons_zero, List.setIfInBounds_toArray, List.set_cons_zero, List.set_cons_succ]
        refine wpAnyH_take (i := 6) (v := .agg (tmc 9 0 0 (.slice (some ⟨A5, 0, none⟩) 2 2))) rfl (by kernel_rfl) (by kernel_rfl) (by kernel_rfl) (fun _ _ _ h => h) (Or.inl ⟨by rfl, ?_⟩) hHeld ?_
        · intro w' hSw
          exact runBd (us := #[(0, .int .i8 9), (3, .slice (some ⟨A5, 0, none⟩) 2 2)]) _ rfl (by kernel_rfl) (run_bt03 _ _ _ _ _)
        simp only [Act.put, List.getElem_toArray, List.getElem_cons_succ, List.getElem_cons_zero, List.setIfInBounds_toArray, List.set_cons_zero, List.set_cons_succ]
        refine an1 7 _ (by kernel_rfl) rfl ?_
        refine Sp.bs2 (.tmp 9) (.tmp 14) rfl rfl ds1 (tmc 9 0 0 (.slice (some ⟨A5, 0, none⟩) 2 2)) rfl rfl HSds1.out rfl ?_
        have hw : Below w5.heap.size w5 (w5.alloc (.cells (ds1 ++ (tmc 9 0 0 (.slice (some ⟨A5, 0, none⟩) 2 2))) 26)) := (Below.refl _ _).alloc (Nat.le_refl _) _
        have HM6 := hid (HM5.out.bld2 (fun b e => by have := (Array.getElem?_eq_some_iff.1 HA5.out).1; omega) (t := ty) (u := .mk 9 0 0 [.mk 7 9 1 [], ty]) (c := ds1) (d := (tmc 9 0 0 (.slice (some ⟨A5, 0, none⟩) 2 2))) (by simp) (by simp) 9)
        have HY6 := hid ((hw.block _ (Array.getElem?_eq_some_iff.1 HY5.out).1).trans HY5.out)
        have HA6 := hid ((hw.block _ (Array.getElem?_eq_some_iff.1 HA5.out).1).trans HA5.out)
        have hHeld : Ye w.heap.size (w5.alloc (.cells (ds1 ++ (tmc 9 0 0 (.slice (some ⟨A5, 0, none⟩) 2 2))) 26)) := ⟨row4_rng HY6.out⟩
        obtain ⟨A6, hA6⟩ : ∃ x, x = w5.heap.size := ⟨_, rfl⟩
        clear hw
        generalize w5.alloc (.cells (ds1 ++ (tmc 9 0 0 (.slice (some ⟨A5, 0, none⟩) 2 2))) 26) = w6 at HM6 HY6 hHeld HA6 ⊢
        rw [← hA6] at HM6 ⊢
        clear hA6
        refine ⟨hHeld, ?_⟩
        simp only [Act.put, List.getElem_toArray, List.getElem_cons_succ, List.getElem_cons_zero, List.setIfInBounds_toArray, List.set_cons_zero, List.set_cons_succ]
        refine wpAnyH_take (i := 8) (v := .agg (tmc 9 0 0 (.slice (some ⟨A6, 0, none⟩) 2 2))) rfl (by kernel_rfl) (by kernel_rfl) (by kernel_rfl) (fun _ _ _ h => h) (Or.inl ⟨by rfl, ?_⟩) hHeld ?_
        · intro w' hSw
          exact runBd (us := #[(0, .int .i8 9), (3, .slice (some ⟨A6, 0, none⟩) 2 2)]) _ rfl (by kernel_rfl) (run_bt03 _ _ _ _ _)
        simp only [Act.put, List.getElem_toArray, List.getElem_cons_succ, List.getElem_cons_zero, List.setIfInBounds_toArray, List.set_cons_zero, List.set_cons_succ]
        refine an1 10 _ (by kernel_rfl) rfl ?_
        refine Sp.stT (.tmp 2) (.tmp 16) rfl rfl A (tmc 9 0 0 (.slice (some ⟨A6, 0, none⟩) 2 2)) (tmc 0 0 0 nilS) rfl rfl HA6.out sizeTM rfl (tic_one _ _ _ _ _ _) ?_
        have HL := hid (Lg.of HM6.out hAw HA6.out (cs := (tmc 9 0 0 (.slice (some ⟨A6, 0, none⟩) 2 2))) (by simp))
        have HYZ : Hid ((w6.setRow A (tmc 9 0 0 (.slice (some ⟨A6, 0, none⟩) 2 2))).heap[w.heap.size]? = some (.cells (tmc 1 0 0 nilS) 26 (0, 0))) := (setRow_other w6 A w.heap.size _ (by have := HZ1.out; omega)).trans HY6.out
        refine ⟨⟨row4_rng HYZ.out⟩, ?_⟩
        simp only [Act.put, List.getElem_toArray, List.getElem_cons_succ, List.getElem_cons_zero]
        refine wpAnyH_done (by kernel_rfl) ?_ _
        go_wp2
        go_meet
        case rel => exact ⟨A, rfl, HL, HYZ⟩
    · skip
      refine Sp.alT rfl rfl ?_
      have hw : Below w0.heap.size w0 (w0.alloc (.cells (tmc 0 0 0 nilS) 26)) := (Below.refl _ _).alloc (Nat.le_refl _) _
      have HM1 := hid (HM0.out.al)
      have HY1 := hid ((hw.block _ (Array.getElem?_eq_some_iff.1 HY0.out).1).trans HY0.out)
      have HA1 : Hid ((w0.alloc (.cells (tmc 0 0 0 nilS) 26)).heap[w0.heap.size]? = some (.cells (tmc 0 0 0 nilS) 26 (0, 0))) := heap_alloc_new _ _
      have hAw : W1.heap.size ≤ w0.heap.size := HM0.out.low.size
      have hHeld : Ye w.heap.size (w0.alloc (.cells (tmc 0 0 0 nilS) 26)) := ⟨row4_rng HY1.out⟩
      clear hw
      generalize w0.alloc (.cells (tmc 0 0 0 nilS) 26) = w1 at HM1 HY1 HA1 hHeld ⊢
      generalize w0.heap.size = A at HM1 HA1 hAw ⊢
      refine ⟨hHeld, ?_⟩
      simp only [Act.put, List.getElem_toArray, List.getElem_cons_succ, List.getElem_cons_zero, List.setIfInBounds_toArray, List.set_cons_zero, List.set_cons_succ]
      refine an1 1 _ (by kernel_rfl) rfl ?_
      refine Sp.of rfl (stepFnW 43 (.func 43) [.tmp 8] _ [.agg (tmc 1 0 0 nilS)] rfl rfl rfl rfl (fun _ => rfl) _ (filter8_any (fun _ => False) (leaf 1) _ _ (UmV.leaf _ _ _ _ _ _ _) (fun _ _ h => h.elim)) ?_)
      rintro e w2 ⟨ds1, rfl, hw, hu⟩
      refine Or.inl ⟨_, rfl, ?_⟩
      have HM2 := hid (HM1.out.putNew (fun b e => by have := (Array.getElem?_eq_some_iff.1 HA1.out).1; omega) hw (um_on hu fun b hb hS => ⟨hS.resolve_left (fun h => h.2.elim), rfl⟩))
      have HY2 := hid ((hw.block _ (Array.getElem?_eq_some_iff.1 HY1.out).1).trans HY1.out)
      have HSds1 := hid hu.size
      have HA2 := hid ((hw.block _ (Array.getElem?_eq_some_iff.1 HA1.out).1).trans HA1.out)
      have hHeld : Ye w.heap.size w2 := ⟨row4_rng HY2.out⟩
      clear hw hu
      refine ⟨hHeld, ?_⟩
      simp only [Act.put, List.getElem_toArray, List.getElem_cons_succ, List.getElem_cons_zero, List.setIfInBounds_toArray, List.set_cons_zero, List.set_cons_succ]
      refine an1 2 _ (by kernel_rfl) rfl ?_
      refine Sp.of rfl (stepFnW 44 (.func 44) [.const (.int .u64 1)] _ [.int .u64 ((1 : Nat) : Int)] rfl rfl rfl rfl (fun _ => rfl) _ (set8_any 1 _) ?_)
      rintro e w3 ⟨rfl, hw⟩
      refine Or.inl ⟨_, rfl, ?_⟩
      have HM3 := hid (HM2.out.putNew (fun b e => by have := (Array.getElem?_eq_some_iff.1 HA2.out).1; omega) hw (UmV.leaf _ _ 7 9 1 none 0))
      have HY3 := hid ((hw.block _ (Array.getElem?_eq_some_iff.1 HY2.out).1).trans HY2.out)
      have HA3 := hid ((hw.block _ (Array.getElem?_eq_some_iff.1 HA2.out).1).trans HA2.out)
      have hHeld : Ye w.heap.size w3 := ⟨row4_rng HY3.out⟩
      clear hw
      refine ⟨hHeld, ?_⟩
      simp only [Act.put, List.getElem_toArray, List.getElem_cons_succ, List.getElem_cons_zero, List.setIfInBounds_toArray, List.set_cons_zero, List.set_cons_succ]
      refine an1 4 _ (by kernel_rfl) rfl ?_
      refine Sp.of rfl (stepFnW 43 (.func 43) [.tmp 11] _ [.agg (tmc 1 0 0 nilS)] rfl rfl rfl rfl (fun _ => rfl) _ (filter8_any (fun _ => False) (leaf 1) _ _ (UmV.leaf _ _ _ _ _ _ _) (fun _ _ h => h.elim)) ?_)
      rintro e w4 ⟨ds2, rfl, hw, hu⟩
      refine Or.inl ⟨_, rfl, ?_⟩
      have HM4 := hid (HM3.out.putNew (fun b e => by have := (Array.getElem?_eq_some_iff.1 HA3.out).1; omega) hw (um_on hu fun b hb hS => ⟨hS.resolve_left (fun h => h.2.elim), rfl⟩))
      have HY4 := hid ((hw.block _ (Array.getElem?_eq_some_iff.1 HY3.out).1).trans HY3.out)
      have HSds2 := hid hu.size
      have HA4 := hid ((hw.block _ (Array.getElem?_eq_some_iff.1 HA3.out).1).trans HA3.out)
      have hHeld : Ye w.heap.size w4 := ⟨row4_rng HY4.out⟩
      clear hw hu
      refine ⟨hHeld, ?_⟩
      simp only [Act.put, List.getElem_toArray, List.getElem_cons_succ, List.getElem_cons_zero, List.setIfInBounds_toArray, List.set_cons_zero, List.set_cons_succ]
      refine an1 5 _ (by kernel_rfl) rfl ?_
      refine Sp.bs2 (.tmp 10) (.tmp 12) rfl rfl (tmc 7 9 1 nilS) ds2 rfl rfl rfl HSds2.out ?_
      have hw : Below w4.heap.size w4 (w4.alloc (.cells ((tmc 7 9 1 nilS) ++ ds2) 26)) := (Below.refl _ _).alloc (Nat.le_refl _) _
      have HM5 := hid (HM4.out.bld2 (fun b e => by have := (Array.getElem?_eq_some_iff.1 HA4.out).1; omega) (t := .mk 7 9 1 []) (u := ty) (c := (tmc 7 9 1 nilS)) (d := ds2) (by simp) (by simp) 9)
      have HY5 := hid ((hw.block _ (Array.getElem?_eq_some_iff.1 HY4.out).1).trans HY4.out)
      have HA5 := hid ((hw.block _ (Array.getElem?_eq_some_iff.1 HA4.out).1).trans HA4.out)
      have hHeld : Ye w.heap.size (w4.alloc (.cells ((tmc 7 9 1 nilS) ++ ds2) 26)) := ⟨row4_rng HY5.out⟩
      obtain ⟨A5, hA5⟩ : ∃ x, x = w4.heap.size := ⟨_, rfl⟩
      clear hw
      generalize w4.alloc (.cells ((tmc 7 9 1 nilS) ++ ds2) 26) = w5 at HM5 HY5 hHeld HA5 ⊢
      rw [← hA5] at HM5 ⊢
      clear hA5
      refine ⟨hHeld, ?_⟩
      simp only [Act.put, List.getElem_toArray, List.getElem_cons_succ, List.getElem_cons_zero, List.setIfInBounds_toArray, List.set_cons_zero, List.set_cons_succ]
      refine wpAnyH_take (i := 6) (v := .agg (tmc 9 0 0 (.slice (some ⟨A5, 0, none⟩) 2 2))) rfl (by kernel_rfl) (by kernel_rfl) (by kernel_rfl) (fun _ _ _ h => h) (Or.inl ⟨by rfl, ?_⟩) hHeld ?_
      · intro w' hSw
        exact runBd (us := #[(0, .int .i8 9), (3, .slice (some ⟨A5, 0, none⟩) 2 2)]) _ rfl (by kernel_rfl) (run_bt03 _ _ _ _ _)
      simp only [Act.put, List.getElem_toArray, List.getElem_cons_succ, List.getElem_cons_zero, List.setIfInBounds_toArray, List.set_cons_zero, List.set_cons_succ]
      refine an1 7 _ (by kernel_rfl) rfl ?_
      refine Sp.bs2 (.tmp 9) (.tmp 14) rfl rfl ds1 (tmc 9 0 0 (.slice (some ⟨A5, 0, none⟩) 2 2)) rfl rfl HSds1.out rfl ?_
      have hw : Below w5.heap.size w5 (w5.alloc (.cells (ds1 ++ (tmc 9 0 0 (.slice (some ⟨A5, 0, none⟩) 2 2))) 26)) := (Below.refl _ _).alloc (Nat.le_refl _) _
      have HM6 := hid (HM5.out.bld2 (fun b e => by have := (Array.getElem?_eq_some_iff.1 HA5.out).1; omega) (t := ty) (u := .mk 9 0 0 [.mk 7 9 1 [], ty]) (c := ds1) (d := (tmc 9 0 0 (.slice (some ⟨A5, 0, none⟩) 2 2))) (by simp) (by simp) 9)
      have HY6 := hid ((hw.block _ (Array.getElem?_eq_some_iff.1 HY5.out).1).trans HY5.out)
      have HA6 := hid ((hw.block _ (Array.getElem?_eq_some_iff.1 HA5.out).1).trans HA5.out)
      have hHeld : Ye w.heap.size (w5.alloc (.cells (ds1 ++ (tmc 9 0 0 (.slice (some ⟨A5, 0, none⟩) 2 2))) 26)) := ⟨row4_rng HY6.out⟩
      obtain ⟨A6, hA6⟩ : ∃ x, x = w5.heap.size := ⟨_, rfl⟩
      clear hw
      generalize w5.alloc (.cells (ds1 ++ (tmc 9 0 0 (.slice (some ⟨A5, 0, none⟩) 2 2))) 26) = w6 at HM6 HY6 hHeld HA6 ⊢
      rw [← hA6] at HM6 ⊢
      clear hA6
      refine ⟨hHeld, ?_⟩
      simp only [Act.put, List.getElem_toArray, List.getElem_cons_succ, List.getElem_cons_zero, List.setIfInBounds_toArray, List.set_cons_zero, List.set_cons_succ]
      refine wpAnyH_take (i := 8) (v := .agg (tmc 9 0 0 (.slice (some ⟨A6, 0, none⟩) 2 2))) rfl (by kernel_rfl) (by kernel_rfl) (by kernel_rfl) (fun _ _ _ h => h) (Or.inl ⟨by rfl, ?_⟩) hHeld ?_
      · intro w' hSw
        exact runBd (us := #[(0, .int .i8 9), (3, .slice (some ⟨A6, 0, none⟩) 2 2)]) _ rfl (by kernel_rfl) (run_bt03 _ _ _ _ _)
      simp only [Act.put, List.getElem_toArray, List.getElem_cons_succ, List.getElem_cons_zero, List.setIfInBounds_toArray, List.set_cons_zero, List.set_cons_succ]
      refine an1 10 _ (by kernel_rfl) rfl ?_
      refine Sp.stT (.tmp 2) (.tmp 16) rfl rfl A (tmc 9 0 0 (.slice (some ⟨A6, 0, none⟩) 2 2)) (tmc 0 0 0 nilS) rfl rfl HA6.out sizeTM rfl (tic_one _ _ _ _ _ _) ?_
      have HL := hid (Lg.of HM6.out hAw HA6.out (cs := (tmc 9 0 0 (.slice (some ⟨A6, 0, none⟩) 2 2))) (by simp))
      have HYZ : Hid ((w6.setRow A (tmc 9 0 0 (.slice (some ⟨A6, 0, none⟩) 2 2))).heap[w.heap.size]? = some (.cells (tmc 1 0 0 nilS) 26 (0, 0))) := (setRow_other w6 A w.heap.size _ (by have := HZ1.out; omega)).trans HY6.out
      refine ⟨⟨row4_rng HYZ.out⟩, ?_⟩
      simp only [Act.put, List.getElem_toArray, List.getElem_cons_succ, List.getElem_cons_zero]
      refine wpAnyH_done (by kernel_rfl) ?_ _
      go_wp2
      go_meet
      case rel => exact ⟨A, rfl, HL, HYZ⟩
  case rest =>
    obtain ⟨A, hA2, HL, HY⟩ := hcut
    subst hA2
    have hww : Below w.heap.size w wc := HB1.out.trans (HL.out.low.mono HB1.out.size)
    obtain ⟨cs, hrow, hum⟩ := HL.out.row
    obtain ⟨x0, x1, x2, x3, rfl⟩ := arr4 hum.size
    have HRow := hid hrow
    have HWw := hid hww
    have HYl := hid (Array.getElem?_eq_some_iff.1 HY.out).1
    have hbp := run_bp0 x0 x1 x2 x3
    have HP := hid (plain8_ok ⟨tl, []⟩ _ wc (piV_one hum) ok_tl (HTw.out.on hww hz) (by have := hww.size; omega))
    clear hrow hww hum HL HN1 HB1 HZ1
    go_upto_region 4 with (first
      | (refine ldRow 26 (.tmp 2) rfl rfl A rfl 26 #[x0, x1, x2, x3] _ Tryd.underlying26 rfl sizeTM HRow.out ?_)
      | (refine stNew 29 (.tmp 3) (.tmp 21) rfl rfl w3 29 pz #[d0, d1, d2, d3, .slice ao3 0 cap3] rfl rfl rfl sizePO rfl HO3.out ?_)
      | (go_at_call 17; refine (HP.out).mono ?_; rintro e w3 ⟨ds, rfl, hw, hu⟩; have hone := hu.one; obtain ⟨d0, d1, d2, d3, ao3, cap3, zs, rfl, hm, -, -⟩ := hu.five; have HO3 := hid hone; have HM3 : Hid (UmV (fun _ => True) w3 (.mk 7 9 1 []) #[d0, d1, d2, d3]) := (um_on (t := .mk 7 9 1 []) hm fun b _ _ => ⟨trivial, rfl⟩); have HW3 := hid (HWw.out.trans (hw.mono HWw.out.size)); have HY3 := hid ((hw.block _ HYl.out).trans HY.out); clear hw hu hm hone HP))
    clear HRow HY HYl HWw
    have HN4 : Hid ((w3.alloc (.cells #[d0, d1, d2, d3, .slice ao3 0 cap3] 29)).heap[w3.heap.size]? = some (.cells #[d0, d1, d2, d3, .slice ao3 0 cap3] 29 (0, 0))) := heap_alloc_new _ _
    have hb4 : Below w3.heap.size w3 (w3.alloc (.cells #[d0, d1, d2, d3, .slice ao3 0 cap3] 29)) := (Below.refl _ _).alloc (Nat.le_refl _) _
    have HW4 := hid (HW3.out.trans (hb4.mono HW3.out.size))
    have HY4 := hid ((hb4.block _ (Array.getElem?_eq_some_iff.1 HY3.out).1).trans HY3.out)
    have HM4 : Hid (UmV (fun _ => True) (w3.alloc (.cells #[d0, d1, d2, d3, .slice ao3 0 cap3] 29)) (.mk 7 9 1 []) #[d0, d1, d2, d3]) := um_on HM3.out fun b hl _ => ⟨trivial, hb4.block b hl⟩
    clear HW3 HY3 HM3 hb4 hbp
    generalize w3.alloc (.cells #[d0, d1, d2, d3, .slice ao3 0 cap3] 29) = w4 at HN4 HW4 HY4 HM4 ⊢
    generalize w3.heap.size = Pb at HN4 ⊢
    have hbi := fun W => run_bt012 2 9 1 W
    have HF := hid (filter8_any (fun _ => False) (.mk 2 9 1 []) _ w4 (UmV.leaf _ _ 2 9 1 none 0) (fun _ _ h => h.elim))
    go_upto_region 5 with (first
      | (go_at_call 43; refine (HF.out).mono ?_; rintro e w5 ⟨fs, rfl, hw, hu⟩
         have HS5 := hid hu.size
         have hb6 : Below w5.heap.size w5 (w5.alloc (.cells fs 26)) := (Below.refl _ _).alloc (Nat.le_refl _) _
         have HB6 := hid (hw.trans (hb6.mono hw.size))
         have hst : UmV (fun b => b < (w5.alloc (.cells fs 26)).heap.size) (w5.alloc (.cells fs 26)) st1 (tmc 10 0 0 (.slice (some ⟨w5.heap.size, 0, none⟩) 1 1)) := (um_on (T := fun b => b < w5.heap.size) hu fun b hb _ => ⟨hb, rfl⟩).bld 10 (by simp) (fun b hb _ => by simp; omega)
         have hbs := fun W => run_bt03 10 (some ⟨w5.heap.size, 0, none⟩) 1 1 W
         have hbp2 := run_bp0 (.int .i8 10) (.int .i8 0) (.int .u64 0) (.slice (some ⟨w5.heap.size, 0, none⟩) 1 1)
         have HP2 := hid (plain8_ok ⟨st1, []⟩ _ (w5.alloc (.cells fs 26)) (piV_one hst) ok_st (HTw.out.on (HW4.out.trans (HB6.out.mono HW4.out.size)) hz) (by have h1 := HW4.out.size; have h2 := HB6.out.size; omega))
         clear hw hu hb6 hst HF)
      | (refine bldSl 24 26 (.tmp 25) rfl rfl fs rfl Tryd.underlying24 _ _ _ rfl rfl rfl HS5.out (by decide) (by decide) ?_)
      | (refine stNew 29 (.tmp 5) (.tmp 30) rfl rfl w7 29 pz #[e0, e1, e2, e3, .slice ao7 0 cap7] rfl rfl rfl sizePO rfl HO7.out ?_)
      | (go_at_call 17; refine (HP2.out).mono ?_; rintro e w7 ⟨ds, rfl, hw, hu⟩; have hone := hu.one; obtain ⟨e0, e1, e2, e3, ao7, cap7, zs7, rfl, hm, -, -⟩ := hu.five; have HO7 := hid hone; have HM7 : Hid (UmV (fun _ => True) w7 ty #[e0, e1, e2, e3]) := (um_on (t := ty) hm fun b _ _ => ⟨trivial, rfl⟩); have HB7 := hid (HB6.out.trans (hw.mono HB6.out.size)); clear hw hu hm hone HP2))
    have hb8 : Below w7.heap.size w7 (w7.alloc (.cells #[e0, e1, e2, e3, .slice ao7 0 cap7] 29)) := (Below.refl _ _).alloc (Nat.le_refl _) _
    have hb48 := HB7.out.trans (hb8.mono HB7.out.size)
    have hN8 : (w7.alloc (.cells #[e0, e1, e2, e3, .slice ao7 0 cap7] 29)).heap[w7.heap.size]? = some (.cells #[e0, e1, e2, e3, .slice ao7 0 cap7] 29 (0, 0)) := heap_alloc_new _ _
    have hYl := (Array.getElem?_eq_some_iff.1 HY4.out).1
    have hPl := (Array.getElem?_eq_some_iff.1 HN4.out).1
    have HR0 : Hid (Rs w w.heap.size Pb w7.heap.size d0 d1 d2 d3 e0 e1 e2 e3 (w7.alloc (.cells #[e0, e1, e2, e3, .slice ao7 0 cap7] 29)).drew) :=
      ⟨bel_drew (HW4.out.trans (hb48.mono HW4.out.size)), ⟨by have := hb48.size; show _ < (w7.alloc (.cells #[e0, e1, e2, e3, .slice ao7 0 cap7] 29)).heap.size; omega, by have := hb48.size; show _ < (w7.alloc (.cells #[e0, e1, e2, e3, .slice ao7 0 cap7] 29)).heap.size; omega, (Array.getElem?_eq_some_iff.1 hN8).1⟩, ⟨row4_rng ((hb48.block _ hYl).trans HY4.out), five_rng ((hb48.block _ hPl).trans HN4.out), five_rng hN8⟩, um_on HM4.out fun b hl _ => ⟨trivial, hb48.block b hl⟩, um_on HM7.out fun b hl _ => ⟨trivial, hb8.block b hl⟩⟩
    clear hb8 hb48 hN8 hYl hPl HM7 HM4 HY4 HN4 HW4 HB7 HB6 HS5 HO7 hbi
    refine wp_region_held_drew (S := Rl w.heap.size Pb w7.heap.size d0 d1 d2 d3 e0 e1 e2 e3) (by kernel_rfl) HR0.out.l (fun hHeld => ?_)
    generalize (w7.alloc (.cells #[e0, e1, e2, e3, .slice ao7 0 cap7] 29)).drew = v0 at HR0 hHeld ⊢
    generalize w7.heap.size = Qb at HR0 hHeld ⊢
    have HTab : Hid (∀ W, Rs w w.heap.size Pb Qb d0 d1 d2 d3 e0 e1 e2 e3 W → TabP W ∧ 3 ≤ W.heap.size) := fun W h => ⟨HTw.out.on h.low hz, by have := h.low.size; omega⟩
    refine wpAnyH_take (i := 0) (v := ?_) rfl (by kernel_rfl) (by kernel_rfl) (by kernel_rfl) (fun _ _ _ h => h) (Or.inl ⟨by rfl, ?_⟩) hHeld ?_
    rotate_left
    · intro w' hSw
      clear hSw
      go_simp
      first | done | with_reducible rfl
    simp only [Act.put, List.getElem_toArray, List.getElem_cons_zero, List.setIfInBounds_toArray, List.set_cons_zero, List.set_cons_succ]
    refine wpAnyH_take (i := 1) (v := ?_) rfl (by kernel_rfl) (by kernel_rfl) (by kernel_rfl) (fun _ _ _ h => h) (Or.inl ⟨by rfl, ?_⟩) hHeld ?_
    rotate_left
    · intro w' hSw
      clear hSw
      go_simp
      first | done | with_reducible rfl
    simp only [Act.put, List.getElem_toArray, List.getElem_cons_succ, List.getElem_cons_zero, List.setIfInBounds_toArray, List.set_cons_zero, List.set_cons_succ]
    refine wpAnyH_take (i := 2) (v := ?_) rfl (by kernel_rfl) (by kernel_rfl) (by kernel_rfl) (fun _ _ _ h => h) (Or.inl ⟨by rfl, ?_⟩) hHeld ?_
    rotate_left
    · intro w' hSw
      clear hSw
      go_simp
      first | done | with_reducible rfl
    simp only [Act.put, List.getElem_toArray, List.getElem_cons_succ, List.getElem_cons_zero, List.setIfInBounds_toArray, List.set_cons_zero, List.set_cons_succ]
    refine wpAnyH_take (i := 3) (v := ?_) rfl (by kernel_rfl) (by kernel_rfl) (by kernel_rfl) (fun _ _ _ h => h) (Or.inl ⟨by rfl, ?_⟩) hHeld ?_
    rotate_left
    · intro w' hSw
      clear hSw
      go_simp
      first | done | with_reducible rfl
    simp only [Act.put, List.getElem_toArray, List.getElem_cons_succ, List.getElem_cons_zero, List.setIfInBounds_toArray, List.set_cons_zero, List.set_cons_succ]
    refine wpAnyH_take (i := 4) (v := .agg #[d0, d1, d2, d3]) rfl (by kernel_rfl) (by kernel_rfl) (by kernel_rfl) (fun _ _ _ h => h) (Or.inl ⟨by rfl, ?_⟩) hHeld ?_
    · intro w' hSw
      exact runLd 26 (.tmp 35) rfl Pb 0 rfl #[d0, d1, d2, d3] _ hSw.p Tryd.underlying26 rfl sizeTM
    simp only [Act.put, List.getElem_toArray, List.getElem_cons_succ, List.getElem_cons_zero, List.setIfInBounds_toArray, List.set_cons_zero, List.set_cons_succ]
    refine an1 5 _ (by kernel_rfl) rfl (Sp.ofw (by rfl) (stepFnW 44 (.func 44) [.const (.int .u64 1)] _ [.int .u64 ((1 : Nat) : Int)] rfl (by rfl) rfl rfl (fun _ => rfl) _ (set8_any 1 _) ?_))
    rintro e v1 ⟨rfl, hw⟩
    refine Or.inl ⟨_, rfl, ?_⟩
    have HR1 := hid (HR0.out.on hw)
    have hHeld := HR1.out.l
    clear hw HR0
    refine ⟨hHeld, ?_⟩
    simp only [Act.put, List.getElem_toArray, List.getElem_cons_succ, List.getElem_cons_zero, List.setIfInBounds_toArray, List.set_cons_zero, List.set_cons_succ]
    refine an1 6 _ (by kernel_rfl) rfl (Sp.ofw (by rfl) (stepFnW 45 (.func 45) [.tmp 36, .tmp 37] _ [.agg #[d0, d1, d2, d3], .agg (tmc 7 9 1 nilS)] rfl (by rfl) rfl rfl (fun _ => rfl) _ (terms_same 100000 (ti (.mk 7 9 1 [])) _ _ v1 (by decide) (by decide) (TiV.gx _ _ HR1.out.up) (TiV.gx _ _ (UmV.leaf _ _ 7 9 1 none 0))) ?_))
    rintro e v2 ⟨rfl, hw⟩
    refine Or.inl ⟨_, rfl, ?_⟩
    have HR2 := hid (HR1.out.on hw)
    have hHeld := HR2.out.l
    clear hw HR1
    refine ⟨hHeld, ?_⟩
    simp only [Act.put, List.getElem_toArray, List.getElem_cons_succ, List.getElem_cons_zero, List.setIfInBounds_toArray, List.set_cons_zero, List.set_cons_succ]
    refine wpAnyH_take (i := 7) (v := ?_) rfl (by kernel_rfl) (by kernel_rfl) (by kernel_rfl) (fun _ _ _ h => h) (Or.inl ⟨by rfl, ?_⟩) hHeld ?_
    rotate_left
    · intro w' hSw
      clear hSw
      go_simp
      first | done | with_reducible rfl
    simp only [Act.put, List.getElem_toArray, List.getElem_cons_succ, List.getElem_cons_zero, List.setIfInBounds_toArray, List.set_cons_zero, List.set_cons_succ]
    refine wpAnyH_take (i := 8) (v := ?_) rfl (by kernel_rfl) (by kernel_rfl) (by kernel_rfl) (fun _ _ _ h => h) (Or.inl ⟨by rfl, ?_⟩) hHeld ?_
    rotate_left
    · intro w' hSw
      clear hSw
      go_simp
      first | done | with_reducible rfl
    simp only [Act.put, List.getElem_toArray, List.getElem_cons_succ, List.getElem_cons_zero, List.setIfInBounds_toArray, List.set_cons_zero, List.set_cons_succ]
    refine wpAnyH_take (i := 9) (v := ?_) rfl (by kernel_rfl) (by kernel_rfl) (by kernel_rfl) (fun _ _ _ h => h) (Or.inl ⟨by rfl, ?_⟩) hHeld ?_
    rotate_left
    · intro w' hSw
      clear hSw
      go_simp
      first | done | with_reducible rfl
    simp only [Act.put, List.getElem_toArray, List.getElem_cons_succ, List.getElem_cons_zero, List.setIfInBounds_toArray, List.set_cons_zero, List.set_cons_succ]
    refine wpAnyH_take (i := 10) (v := ?_) rfl (by kernel_rfl) (by kernel_rfl) (by kernel_rfl) (fun _ _ _ h => h) (Or.inl ⟨by rfl, ?_⟩) hHeld ?_
    rotate_left
    · intro w' hSw
      clear hSw
      go_simp
      first | done | with_reducible rfl
    simp only [Act.put, List.getElem_toArray, List.getElem_cons_succ, List.getElem_cons_zero, List.setIfInBounds_toArray, List.set_cons_zero, List.set_cons_succ]
    refine wpAnyH_take (i := 11) (v := ?_) rfl (by kernel_rfl) (by kernel_rfl) (by kernel_rfl) (fun _ _ _ h => h) (Or.inl ⟨by rfl, ?_⟩) hHeld ?_
    rotate_left
    · intro w' hSw
      clear hSw
      go_simp
      first | done | with_reducible rfl
    simp only [Act.put, List.getElem_toArray, List.getElem_cons_succ, List.getElem_cons_zero, List.setIfInBounds_toArray, List.set_cons_zero, List.set_cons_succ]
    refine wpAnyH_take (i := 12) (v := ?_) rfl (by kernel_rfl) (by kernel_rfl) (by kernel_rfl) (fun _ _ _ h => h) (Or.inl ⟨by rfl, ?_⟩) hHeld ?_
    rotate_left
    · intro w' hSw
      clear hSw
      go_simp
      first | done | with_reducible rfl
    simp only [Act.put, List.getElem_toArray, List.getElem_cons_succ, List.getElem_cons_zero, List.setIfInBounds_toArray, List.set_cons_zero, List.set_cons_succ]
    refine wpAnyH_take (i := 13) (v := ?_) rfl (by kernel_rfl) (by kernel_rfl) (by kernel_rfl) (fun _ _ _ h => h) (Or.inl ⟨by rfl, ?_⟩) hHeld ?_
    rotate_left
    · intro w' hSw
      clear hSw
      go_simp
      first | done | with_reducible rfl
    simp only [Act.put, List.getElem_toArray, List.getElem_cons_succ, List.getElem_cons_zero, List.setIfInBounds_toArray, List.set_cons_zero, List.set_cons_succ]
    refine wpAnyH_take (i := 14) (v := .agg #[e0, e1, e2, e3]) rfl (by kernel_rfl) (by kernel_rfl) (by kernel_rfl) (fun _ _ _ h => h) (Or.inl ⟨by rfl, ?_⟩) hHeld ?_
    · intro w' hSw
      exact runLd 26 (.tmp 45) rfl Qb 0 rfl #[e0, e1, e2, e3] _ hSw.q Tryd.underlying26 rfl sizeTM
    simp only [Act.put, List.getElem_toArray, List.getElem_cons_succ, List.getElem_cons_zero, List.setIfInBounds_toArray, List.set_cons_zero, List.set_cons_succ]
    refine wpAnyH_take (i := 15) (v := .agg (tmc 1 0 0 nilS)) rfl (by kernel_rfl) (by kernel_rfl) (by kernel_rfl) (fun _ _ _ h => h) (Or.inl ⟨by rfl, ?_⟩) hHeld ?_
    · intro w' hSw
      exact runLd 26 (.tmp 1) rfl w.heap.size 0 rfl (tmc 1 0 0 nilS) _ hSw.y Tryd.underlying26 rfl sizeTM
    simp only [Act.put, List.getElem_toArray, List.getElem_cons_succ, List.getElem_cons_zero, List.setIfInBounds_toArray, List.set_cons_zero, List.set_cons_succ]
    refine an1 16 _ (by kernel_rfl) rfl (Sp.ofw (by rfl) (stepFnW 43 (.func 43) [.tmp 47] _ [.agg (tmc 1 0 0 nilS)] rfl (by rfl) rfl rfl (fun _ => rfl) _ (filter8_any (fun _ => False) (leaf 1) _ v2 (UmV.leaf _ _ _ _ _ _ _) (fun _ _ h => h.elim)) ?_))
    rintro e v3 ⟨fs, rfl, hw, hu⟩
    refine Or.inl ⟨_, rfl, ?_⟩
    have HR3 := hid (HR2.out.on hw)
    have HU3 : Hid (UmV (fun _ => True) v3 ty fs) := um_on hu fun b _ _ => ⟨trivial, rfl⟩
    have hHeld := HR3.out.l
    clear hw hu HR2
    refine ⟨hHeld, ?_⟩
    simp only [Act.put, List.getElem_toArray, List.getElem_cons_succ, List.getElem_cons_zero, List.setIfInBounds_toArray, List.set_cons_zero, List.set_cons_succ]
    refine an1 17 _ (by kernel_rfl) rfl (Sp.ofw (by rfl) (stepFnW 45 (.func 45) [.tmp 46, .tmp 48] _ [.agg #[e0, e1, e2, e3], .agg fs] rfl (by rfl) rfl rfl (fun _ => rfl) _ (terms_same 100000 (ti ty) _ _ v3 (by decide) (by decide) (TiV.gx _ _ HR3.out.uq) (TiV.gx _ _ HU3.out)) ?_))
    rintro e v4 ⟨rfl, hw⟩
    refine Or.inl ⟨_, rfl, ?_⟩
    have HR4 := hid (HR3.out.on hw)
    have hHeld := HR4.out.l
    clear hw HR3 HU3
    refine ⟨hHeld, ?_⟩
    simp only [Act.put, List.getElem_toArray, List.getElem_cons_succ, List.getElem_cons_zero, List.setIfInBounds_toArray, List.set_cons_zero, List.set_cons_succ]
    refine wpAnyH_take (i := 18) (v := ?_) rfl (by kernel_rfl) (by kernel_rfl) (by kernel_rfl) (fun _ _ _ h => h) (Or.inl ⟨by rfl, ?_⟩) hHeld ?_
    rotate_left
    · intro w' hSw
      clear hSw
      go_simp
      first | done | with_reducible rfl
    simp only [Act.put, List.getElem_toArray, List.getElem_cons_succ, List.getElem_cons_zero, List.setIfInBounds_toArray, List.set_cons_zero, List.set_cons_succ]
    refine wpAnyH_take (i := 19) (v := ?_) rfl (by kernel_rfl) (by kernel_rfl) (by kernel_rfl) (fun _ _ _ h => h) (Or.inl ⟨by rfl, ?_⟩) hHeld ?_
    rotate_left
    · intro w' hSw
      clear hSw
      go_simp
      first | done | with_reducible rfl
    simp only [Act.put, List.getElem_toArray, List.getElem_cons_succ, List.getElem_cons_zero, List.setIfInBounds_toArray, List.set_cons_zero, List.set_cons_succ]
    refine an1 20 _ (by kernel_rfl) rfl (Sp.ofw (by rfl) (stepFnW 44 (.func 44) [.const (.int .u64 0)] _ [.int .u64 ((0 : Nat) : Int)] rfl (by rfl) rfl rfl (fun _ => rfl) _ (set8_any 0 _) ?_))
    rintro e v5 ⟨rfl, hw⟩
    refine Or.inl ⟨_, rfl, ?_⟩
    have HR5 := hid (HR4.out.on hw)
    have hHeld := HR5.out.l
    clear hw HR4
    refine ⟨hHeld, ?_⟩
    simp only [Act.put, List.getElem_toArray, List.getElem_cons_succ, List.getElem_cons_zero, List.setIfInBounds_toArray, List.set_cons_zero, List.set_cons_succ]
    refine wpAnyH_take (i := 21) (v := .agg #[.int .i8 7, .int .i8 9, .int .u64 0, .slice none 0 0, .slice none 0 0]) rfl (by kernel_rfl) (by kernel_rfl) (by kernel_rfl) (fun _ _ _ h => h) (Or.inl ⟨by rfl, ?_⟩) hHeld ?_
    · intro w' hSw
      exact runBd (us := #[(0, .agg (tmc 7 9 0 nilS))]) _ rfl (by kernel_rfl) (run_bp0 _ _ _ _ _)
    simp only [Act.put, List.getElem_toArray, List.getElem_cons_succ, List.getElem_cons_zero, List.setIfInBounds_toArray, List.set_cons_zero, List.set_cons_succ]
    refine an1 22 _ (by kernel_rfl) rfl (Sp.ofw (by rfl) (stepFnW 12 (.func 12) [.tmp 53] _ [.agg #[.int .i8 7, .int .i8 9, .int .u64 0, .slice none 0 0, .slice none 0 0]] rfl (by rfl) rfl rfl (fun _ => rfl) _ (check8_any (pi ⟨.mk 7 9 0 [], []⟩) _ v5 (piV_one (UmV.leaf _ _ 7 9 0 none 0)) wp_s0 (HTab.out _ HR5.out).1 (HTab.out _ HR5.out).2) ?_))
    rw [chk_s0]
    rintro e v6 ⟨rfl, hw⟩
    refine Or.inl ⟨_, rfl, ?_⟩
    have HR6 := hid (HR5.out.on hw)
    have hHeld := HR6.out.l
    clear hw HR5
    refine ⟨hHeld, ?_⟩
    simp only [Act.put, List.getElem_toArray, List.getElem_cons_succ, List.getElem_cons_zero, List.setIfInBounds_toArray, List.set_cons_zero, List.set_cons_succ]
    refine wpAnyH_take (i := 23) (v := ?_) rfl (by kernel_rfl) (by kernel_rfl) (by kernel_rfl) (fun _ _ _ h => h) (Or.inl ⟨by rfl, ?_⟩) hHeld ?_
    rotate_left
    · intro w' hSw
      clear hSw
      go_simp
      first | done | with_reducible rfl
    simp only [Act.put, List.getElem_toArray, List.getElem_cons_succ, List.getElem_cons_zero, List.setIfInBounds_toArray, List.set_cons_zero, List.set_cons_succ]
    refine wpAnyH_take (i := 24) (v := ?_) rfl (by kernel_rfl) (by kernel_rfl) (by kernel_rfl) (fun _ _ _ h => h) (Or.inl ⟨by rfl, ?_⟩) hHeld ?_
    rotate_left
    · intro w' hSw
      clear hSw
      go_simp
      first | done | with_reducible rfl
    simp only [Act.put, List.getElem_toArray, List.getElem_cons_succ, List.getElem_cons_zero, List.setIfInBounds_toArray, List.set_cons_zero, List.set_cons_succ]
    refine wpAnyH_take (i := 25) (v := ?_) rfl (by kernel_rfl) (by kernel_rfl) (by kernel_rfl) (fun _ _ _ h => h) (Or.inl ⟨by rfl, ?_⟩) hHeld ?_
    rotate_left
    · intro w' hSw
      clear hSw
      go_simp
      first | done | with_reducible rfl
    simp only [Act.put, List.getElem_toArray, List.getElem_cons_succ, List.getElem_cons_zero, List.setIfInBounds_toArray, List.set_cons_zero, List.set_cons_succ]
    refine wpAnyH_take (i := 26) (v := .agg (tmc 1 0 0 nilS)) rfl (by kernel_rfl) (by kernel_rfl) (by kernel_rfl) (fun _ _ _ h => h) (Or.inl ⟨by rfl, ?_⟩) hHeld ?_
    · intro w' hSw
      exact runLd 26 (.tmp 1) rfl w.heap.size 0 rfl (tmc 1 0 0 nilS) _ hSw.y Tryd.underlying26 rfl sizeTM
    simp only [Act.put, List.getElem_toArray, List.getElem_cons_succ, List.getElem_cons_zero, List.setIfInBounds_toArray, List.set_cons_zero, List.set_cons_succ]
    refine an1 27 _ (by kernel_rfl) rfl (Sp.ofw (by rfl) (stepFnW 14 (.func 14) [.tmp 58] _ [.agg (tmc 1 0 0 nilS)] rfl (by rfl) rfl rfl (fun _ => rfl) _ (pred8_any (ti (leaf 1)) _ v6 (UmV.leaf _ _ 1 0 0 none 0) (wi_ti (b := true) (leaf 1) rfl) (HTab.out _ HR6.out).1 (HTab.out _ HR6.out).2) ?_))
    rw [show prd (ti (leaf 1)) = 0 from by decide]
    rintro e v7 ⟨rfl, hw⟩
    refine Or.inl ⟨_, rfl, ?_⟩
    have HR7 := hid (HR6.out.on hw)
    have hHeld := HR7.out.l
    clear hw HR6
    refine ⟨hHeld, ?_⟩
    simp only [Act.put, List.getElem_toArray, List.getElem_cons_succ, List.getElem_cons_zero, List.setIfInBounds_toArray, List.set_cons_zero, List.set_cons_succ]
    refine wpAnyH_take (i := 28) (v := ?_) rfl (by kernel_rfl) (by kernel_rfl) (by kernel_rfl) (fun _ _ _ h => h) (Or.inl ⟨by rfl, ?_⟩) hHeld ?_
    rotate_left
    · intro w' hSw
      clear hSw
      go_simp
      first | done | with_reducible rfl
    simp only [Act.put, List.getElem_toArray, List.getElem_cons_succ, List.getElem_cons_zero, List.setIfInBounds_toArray, List.set_cons_zero, List.set_cons_succ]
    refine wpAnyH_take (i := 29) (v := ?_) rfl (by kernel_rfl) (by kernel_rfl) (by kernel_rfl) (fun _ _ _ h => h) (Or.inl ⟨by rfl, ?_⟩) hHeld ?_
    rotate_left
    · intro w' hSw
      clear hSw
      go_simp
      first | done | with_reducible rfl
    simp only [Act.put, List.getElem_toArray, List.getElem_cons_succ, List.getElem_cons_zero, List.setIfInBounds_toArray, List.set_cons_zero, List.set_cons_succ]
    refine wpAnyH_take (i := 30) (v := ?_) rfl (by kernel_rfl) (by kernel_rfl) (by kernel_rfl) (fun _ _ _ h => h) (Or.inl ⟨by rfl, ?_⟩) hHeld ?_
    rotate_left
    · intro w' hSw
      clear hSw
      go_simp
      first | done | with_reducible rfl
    simp only [Act.put, List.getElem_toArray, List.getElem_cons_succ, List.getElem_cons_zero, List.setIfInBounds_toArray, List.set_cons_zero, List.set_cons_succ]
    refine an1 31 _ (by kernel_rfl) rfl (Sp.ofw (by rfl) (stepFnW 44 (.func 44) [.const (.int .u64 1)] _ [.int .u64 ((1 : Nat) : Int)] rfl (by rfl) rfl rfl (fun _ => rfl) _ (set8_any 1 _) ?_))
    rintro e v8 ⟨rfl, hw⟩
    refine Or.inl ⟨_, rfl, ?_⟩
    have HR8 := hid (HR7.out.on hw)
    have hHeld := HR8.out.l
    clear hw HR7
    refine ⟨hHeld, ?_⟩
    simp only [Act.put, List.getElem_toArray, List.getElem_cons_succ, List.getElem_cons_zero, List.setIfInBounds_toArray, List.set_cons_zero, List.set_cons_succ]
    refine an1 32 _ (by kernel_rfl) rfl (Sp.ofw (by rfl) (stepFnW 14 (.func 14) [.tmp 63] _ [.agg (tmc 7 9 1 nilS)] rfl (by rfl) rfl rfl (fun _ => rfl) _ (pred8_any (ti (.mk 7 9 1 [])) _ v8 (UmV.leaf _ _ 7 9 1 none 0) (wi_ti (b := false) (.mk 7 9 1 []) rfl) (HTab.out _ HR8.out).1 (HTab.out _ HR8.out).2) ?_))
    rw [show prd (ti (.mk 7 9 1 [])) = 170 from by decide]
    rintro e v9 ⟨rfl, hw⟩
    refine Or.inl ⟨_, rfl, ?_⟩
    have HR9 := hid (HR8.out.on hw)
    have hHeld := HR9.out.l
    clear hw HR8
    refine ⟨hHeld, ?_⟩
    simp only [Act.put, List.getElem_toArray, List.getElem_cons_succ, List.getElem_cons_zero, List.setIfInBounds_toArray, List.set_cons_zero, List.set_cons_succ]
    refine wpAnyH_take (i := 33) (v := ?_) rfl (by kernel_rfl) (by kernel_rfl) (by kernel_rfl) (fun _ _ _ h => h) (Or.inl ⟨by rfl, ?_⟩) hHeld ?_
    rotate_left
    · intro w' hSw
      clear hSw
      go_simp
      first | done | with_reducible rfl
    simp only [Act.put, List.getElem_toArray, List.getElem_cons_succ, List.getElem_cons_zero, List.setIfInBounds_toArray, List.set_cons_zero, List.set_cons_succ]
    refine wpAnyH_take (i := 34) (v := ?_) rfl (by kernel_rfl) (by kernel_rfl) (by kernel_rfl) (fun _ _ _ h => h) (Or.inl ⟨by rfl, ?_⟩) hHeld ?_
    rotate_left
    · intro w' hSw
      clear hSw
      go_simp
      first | done | with_reducible rfl
    simp only [Act.put, List.getElem_toArray, List.getElem_cons_succ, List.getElem_cons_zero, List.setIfInBounds_toArray, List.set_cons_zero, List.set_cons_succ]
    refine wpAnyH_take (i := 35) (v := ?_) rfl (by kernel_rfl) (by kernel_rfl) (by kernel_rfl) (fun _ _ _ h => h) (Or.inl ⟨by rfl, ?_⟩) hHeld ?_
    rotate_left
    · intro w' hSw
      clear hSw
      go_simp
      first | done | with_reducible rfl
    simp only [Act.put, List.getElem_toArray, List.getElem_cons_succ, List.getElem_cons_zero, List.setIfInBounds_toArray, List.set_cons_zero]
    refine wpAnyH_done (by kernel_rfl) ?_ _
    clear hHeld
    go_wp2
    go_ret
    exact ⟨rfl, HR9.out.low⟩
end Go.Proofs.YtjallmncajhamaaDoor
