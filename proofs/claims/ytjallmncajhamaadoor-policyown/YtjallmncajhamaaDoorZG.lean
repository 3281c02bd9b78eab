/-
  Proved here: PolicyOwn's body up to the call of Plain. Conditions: the tables; the policy lies in old memory, its Ops are of eight bits; at most 8192 terms.
-/
import Derived.Test.YtjallmncajhamaaDoorZF
import Derived.Test.YtjallmncajhamaaDoorZH
namespace Go.Proofs.YtjallmncajhamaaDoor
open Go.RowKit
set_option maxRecDepth 100000

theorem GpV.on9 {w W : World} {p : Pi} {cs : Array Value} (h : GpV (fun b => b < w.heap.size) w p cs) (hb : Below w.heap.size w W) : GpV (fun b => b < W.heap.size) W p cs := h.carry fun b hl _ => ⟨by have := hb.size; omega, hb.block b hl⟩
set_option maxHeartbeats 25600000 in
theorem own_small (p : Pi) (cs : Array Value) (w : World) (hp : GpV (fun b => b < w.heap.size) w p cs) (hwp : Wp p) (hT : TabP w) (hz : 3 ≤ w.heap.size) (hg : szI p.main + qszI p.qs ≤ 8192) :
    Calls Tryd.prog 5 #[.agg cs] w fun e w' => e = .returned (.bool true) ∧ Below w.heap.size w w' := by
  have HPV := hid hp
  have HWp := hid hwp
  have HTT := hid hT
  have HZZ := hid hz
  obtain ⟨x0, x1, x2, x3, ao, cap, xs, rfl, h1, h2, h3⟩ := hp.five
  have HQ : Hid (Gx (fun b => b < w.heap.size) 5 w (.slice ao p.qs.length cap) p.qs.length xs ∧ GqL (fun b => b < w.heap.size) w p.qs xs) := ⟨h2, h3⟩
  have HGs := hid hg
  have hlq : p.qs.length ≤ 8192 := by have := len_qszI p.qs; omega
  have hB1 : Below w.heap.size w (w.alloc (.cells #[x0, x1, x2, x3, .slice ao p.qs.length cap] 29)) := (Below.refl _ _).alloc (Nat.le_refl _) _
  have HN1 : Hid ((w.alloc (.cells #[x0, x1, x2, x3, .slice ao p.qs.length cap] 29)).heap[w.heap.size]? = some (.cells #[x0, x1, x2, x3, .slice ao p.qs.length cap] 29 (0, 0))) := heap_alloc_new _ _
  have HG : Hid (Calls Tryd.prog 20 #[.agg #[x0, x1, x2, x3, .slice ao p.qs.length cap]] (w.alloc (.cells #[x0, x1, x2, x3, .slice ao p.qs.length cap] 29)) fun e w' => e = .returned (.bool false) ∧ Below (w.alloc (.cells #[x0, x1, x2, x3, .slice ao p.qs.length cap] 29)).heap.size (w.alloc (.cells #[x0, x1, x2, x3, .slice ao p.qs.length cap] 29)) w') := by
    refine (great9_any p _ _ (HPV.out.on9 hB1)).mono ?_
    rintro e w' ⟨rfl, h⟩
    exact ⟨by rw [decide_eq_false (by omega)], h⟩
  have HB1 := hid hB1
  have HCp : Hid (∀ (t : Ti) (es : Array Value) (W : World), szI t ≤ 8192 → Below w.heap.size w W → GiV (fun b => b < w.heap.size) w t es → Calls Tryd.prog 21 #[.agg es] W fun e w' => ∃ ds, e = .returned (.agg ds) ∧ Below W.heap.size W w' ∧ TiV (fun b => W.heap.size ≤ b) w' t ds) := fun t es W hs hb he => copied_any 8192 t es W hs (Nat.le_refl _) (gi_on he fun b hl _ => ⟨by have := hb.size; omega, hb.block b hl⟩)
  have HM := hid h1
  clear hp hwp hT hz hg h1 h2 h3 hB1
  go_enter Tryd.func5, Tryd.ntmps5
  go_upto_region 1 with fail
  generalize w.alloc (.cells #[x0, x1, x2, x3, .slice ao p.qs.length cap] 29) = W1 at HN1 HB1 HG ⊢
  go_upto_region 3 with (first
    | (refine ldRow 29 (.tmp 1) rfl rfl w.heap.size rfl 29 #[x0, x1, x2, x3, .slice ao p.qs.length cap] _ Tryd.underlying29 rfl sizePO HN1.out ?_)
    | (go_at_call 20; refine (HG.out).mono ?_; rintro e w2 ⟨rfl, hw⟩; have HB2 := hid (HB1.out.trans (hw.mono HB1.out.size)); have HN2 := hid ((hw.block _ (Array.getElem?_eq_some_iff.1 HN1.out).1).trans HN1.out); clear hw HG))
  clear HN1 HB1
  have HRg2 := hid (five_rng HN2.out)
  have HCm := hid (HCp.out p.main #[x0, x1, x2, x3] w2 (by have := HGs.out; omega) HB2.out HM.out)
  have HZ2 : Hid (w.heap.size < w2.heap.size) := (Array.getElem?_eq_some_iff.1 HN2.out).1
  go_upto_region 4 with (first
    | (refine ldMid 26 (.tmp 11) rfl rfl w.heap.size 0 rfl #[x0, x1, x2, x3] _ Tryd.underlying26 rfl sizeTM HRg2.out ?_)
    | (refine stNew 29 (.tmp 3) (.tmp 14) rfl rfl w3 29 pz #[y0, y1, y2, y3, .slice none 0 0] rfl rfl rfl sizePO rfl HY5.out ?_)
    | (go_at_call 21; refine (HCm.out).mono ?_; rintro e w3 ⟨ds, rfl, hw, hu⟩; obtain ⟨y0, y1, y2, y3, rfl⟩ := arr4 hu.size; have hbp := run_bpm y0 y1 y2 y3; have HB3 := hid (HB2.out.trans (hw.mono HB2.out.size)); have HN3 := hid ((hw.block _ HZ2.out).trans HN2.out); have HZ3 : Hid (w2.heap.size ≤ w3.heap.size) := hw.size; have HY5 : Hid ((#[y0, y1, y2, y3, .slice none 0 0] : Array Value).all (·.oneCell') = true) := (by show _ = _; have h1 := hu.one; simp only [List.all_toArray, List.all_cons, List.all_nil, Bool.and_true] at h1 ⊢; simpa [Value.oneCell', and_assoc] using h1); have HU3 := hid hu; clear hw hu HCm))
  have HL0 := hid (RnS.beg (B := 0) w3 (Nat.zero_le _) y0 y1 y2 y3)
  have HM3 : Hid (w.heap.size < w3.heap.size) := by have := HZ2.out; have := HZ3.out; show _ < _; omega
  clear hbp HRg2 HB2 HN2 HZ2 HM
  generalize hW4 : w3.alloc (.cells #[y0, y1, y2, y3, nilS] 29) = W4 at HL0
  clear hW4
  go_upto_region 5 with fail
  go_loopw [4] (fun v wr => ∃ (j : Nat) (vo : Option Addr) (vc : Nat), v = .int .i64 ((j : Nat) : Int) ∧ j ≤ p.qs.length ∧ Hid (RnS 0 w3 y0 y1 y2 y3 (p.qs.take j) (.slice vo j vc) wr)) (fun v _ => p.qs.length - (intOf v).toNat)
  case atStart => exact ⟨0, none, 0, rfl, Nat.zero_le _, by rw [List.take_zero]; exact HL0⟩
  case round =>
    clear HL0
    obtain ⟨j, vo, vc, rfl, hj1, HS⟩ := hrel
    have HBx := hid ((HS.out.low.block _ (show w.heap.size < w3.heap.size from HM3.out)).trans HN3.out)
    have c4 : wr.cell? ⟨w.heap.size, 4, none⟩ = some (.slice ao p.qs.length cap) := (cell_of_row _ _ _ _ _ _ HBx.out).trans rfl
    by_cases hj : j < p.qs.length
    · obtain ⟨g, o, c9, e1, hcap, hgl, zs, ht, hn0, hra⟩ := GqL.rng HQ.out.1 HQ.out.2 hj
      cases e1
      have hs3 : decide ((j : Int) < (p.qs.length : Int)) = true := by simp; omega
      have hjc : j < cap := by omega
      have hw3 : IntKind.i64.wrap ((j : Int) + 1) = (j : Int) + 1 := by rw [IntKind.wrap_i64]; omega
      have HJJ : Hid (p.qs.take (j + 1) = p.qs.take j ++ [p.qs[j]]) := by show _ = _; rw [List.take_add_one, List.getElem?_eq_getElem hj]; rfl
      have hqm : p.qs[j] ∈ p.qs := List.getElem_mem hj
      obtain ⟨nm, qt, hq⟩ : ∃ nm qt, p.qs[j] = ⟨nm, qt⟩ := ⟨_, _, rfl⟩
      have hqok : szI qt ≤ 8192 := by have := HGs.out; have := qszI_mem hqm; rw [hq] at this; simp only at this; omega
      rw [hq] at ht hn0 HJJ
      simp only at ht hn0
      obtain ⟨z0, z1, z2, z3, rfl⟩ := arr4 ht.size
      have hlow : Below w.heap.size w wr := HB3.out.trans (HS.out.low.mono HB3.out.size)
      have HC := hid (HCp.out qt #[z0, z1, z2, z3] wr.drew hqok (bel_drew hlow) ht)
      have HR : Hid (Rq8 w.heap.size (.slice (some ⟨g, o, none⟩) p.qs.length cap) g (o + j * 5) nm #[z0, z1, z2, z3] wr.drew) := ⟨c4, (cell_same (hlow.block _ hgl)).trans hn0, fun i v hi => (cell_same (hlow.block _ hgl)).trans (hra i v hi)⟩
      have HSd : Hid (RnS 0 w3 y0 y1 y2 y3 (p.qs.take j) (.slice vo j vc) wr.drew) := HS.out.on (bel_drew (Below.refl _ _))
      have HMr : Hid (∀ W, RnS 0 w3 y0 y1 y2 y3 (p.qs.take j) (.slice vo j vc) W → Rm w3.heap.size (.slice vo j vc) W) := fun W hW => Rm.of hW.row
      have HMr0 := hid (HMr.out _ HSd.out)
      have HGl : Hid (g < w.heap.size ∧ w.heap.size < w3.heap.size ∧ w3.heap.size ≤ wr.drew.heap.size) := ⟨hgl, HM3.out, HSd.out.low.size⟩
      have HHd : Hid (∀ (W' : World), Below wr.drew.heap.size wr.drew W' → Rq8 w.heap.size (.slice (some ⟨g, o, none⟩) p.qs.length cap) g (o + j * 5) nm #[z0, z1, z2, z3] W') := fun W' hb => HR.out.on (hb.block _ (by have := HGl.out; omega)) (hb.block _ (by have := HGl.out; omega))
      have HOwr : Hid (∀ b, (Value.slice vo j vc).ownBlock = some b → b < wr.drew.heap.size ∧ w3.heap.size < b) := fun b hb => by
        obtain ⟨ys, q1, -⟩ := HSd.out.ks
        exact ⟨q1.ownLt b hb, q1.own b hb⟩
      clear ht hn0 hra hqm hqok hlow HS hgl HBx
      go_upto_region 7 with fail
      clear c4
      refine wpK_begin (Rq8 w.heap.size (.slice (some ⟨g, o, none⟩) p.qs.length cap) g (o + j * 5) nm #[z0, z1, z2, z3]) (Rm w3.heap.size (.slice vo j vc)) 17 (by kernel_rfl) HR.out HMr0.out (fun hHeld => ?_)
      generalize wr.drew = wd at HC HSd HR HHd HMr0 HGl HOwr hHeld ⊢
      refine wpK_takeS (i := 0) (v := ?_) rfl (by kernel_rfl) (by kernel_rfl) (by kernel_rfl) (by decide) (fun _ _ _ h => h) (Or.inl ⟨by rfl, ?_⟩) hHeld ?_
      rotate_left
      · intro w' hSw
        clear hSw
        go_simp
        first | done | with_reducible rfl
      simp only [Act.put, List.getElem_toArray, List.getElem_cons_zero, List.setIfInBounds_toArray, List.set_cons_zero, List.set_cons_succ]
      refine wpK_takeT (i := 1) (v := ?_) rfl (by kernel_rfl) (by kernel_rfl) (by kernel_rfl) (by decide) (by kernel_rfl) rfl (fun _ _ _ h => h) (Or.inl ⟨by rfl, ?_⟩) hHeld ?_
      rotate_left
      · intro w' hSw
        have m4 := hSw.2.m4
        clear hSw
        go_simp
        first | done | with_reducible rfl
      simp only [Act.put, List.getElem_toArray, List.getElem_cons_succ, List.getElem_cons_zero, List.setIfInBounds_toArray, List.set_cons_zero, List.set_cons_succ]
      refine wpK_takeS (i := 2) (v := ?_) rfl (by kernel_rfl) (by kernel_rfl) (by kernel_rfl) (by decide) (fun _ _ _ h => h) (Or.inl ⟨by rfl, ?_⟩) hHeld ?_
      rotate_left
      · intro w' hSw
        clear hSw
        go_simp
        first | done | with_reducible rfl
      simp only [Act.put, List.getElem_toArray, List.getElem_cons_succ, List.getElem_cons_zero, List.setIfInBounds_toArray, List.set_cons_zero, List.set_cons_succ]
      refine wpK_takeS (i := 3) (v := ?_) rfl (by kernel_rfl) (by kernel_rfl) (by kernel_rfl) (by decide) (fun _ _ _ h => h) (Or.inl ⟨by rfl, ?_⟩) hHeld ?_
      rotate_left
      · intro w' hSw
        have c4 := hSw.c4
        clear hSw
        go_simp
        first | done | with_reducible rfl
      simp only [Act.put, List.getElem_toArray, List.getElem_cons_succ, List.getElem_cons_zero, List.setIfInBounds_toArray, List.set_cons_zero, List.set_cons_succ]
      refine wpK_takeS (i := 4) (v := ?_) rfl (by kernel_rfl) (by kernel_rfl) (by kernel_rfl) (by decide) (fun _ _ _ h => h) (Or.inl ⟨by rfl, ?_⟩) hHeld ?_
      rotate_left
      · intro w' hSw
        clear hSw
        go_simp
        first | done | with_reducible rfl
      simp only [Act.put, List.getElem_toArray, List.getElem_cons_succ, List.getElem_cons_zero, List.setIfInBounds_toArray, List.set_cons_zero, List.set_cons_succ]
      refine wpK_takeS (i := 5) (v := ?_) rfl (by kernel_rfl) (by kernel_rfl) (by kernel_rfl) (by decide) (fun _ _ _ h => h) (Or.inl ⟨by rfl, ?_⟩) hHeld ?_
      rotate_left
      · intro w' hSw
        clear hSw
        go_simp
        first | done | with_reducible rfl
      simp only [Act.put, List.getElem_toArray, List.getElem_cons_succ, List.getElem_cons_zero, List.setIfInBounds_toArray, List.set_cons_zero, List.set_cons_succ]
      refine wpK_takeS (i := 6) (v := ?_) rfl (by kernel_rfl) (by kernel_rfl) (by kernel_rfl) (by decide) (fun _ _ _ h => h) (Or.inl ⟨by rfl, ?_⟩) hHeld ?_
      rotate_left
      · intro w' hSw
        clear hSw
        go_simp
        first | done | with_reducible rfl
      simp only [Act.put, List.getElem_toArray, List.getElem_cons_succ, List.getElem_cons_zero, List.setIfInBounds_toArray, List.set_cons_zero, List.set_cons_succ]
      refine wpK_takeS (i := 7) (v := ?_) rfl (by kernel_rfl) (by kernel_rfl) (by kernel_rfl) (by decide) (fun _ _ _ h => h) (Or.inl ⟨by rfl, ?_⟩) hHeld ?_
      rotate_left
      · intro w' hSw
        have n0 := hSw.n0
        clear hSw
        go_simp
        first | done | with_reducible rfl
      simp only [Act.put, List.getElem_toArray, List.getElem_cons_succ, List.getElem_cons_zero, List.setIfInBounds_toArray, List.set_cons_zero, List.set_cons_succ]
      refine wpK_takeS (i := 8) (v := ?_) rfl (by kernel_rfl) (by kernel_rfl) (by kernel_rfl) (by decide) (fun _ _ _ h => h) (Or.inl ⟨by rfl, ?_⟩) hHeld ?_
      rotate_left
      · intro w' hSw
        clear hSw
        go_simp
        first | done | with_reducible rfl
      simp only [Act.put, List.getElem_toArray, List.getElem_cons_succ, List.getElem_cons_zero, List.setIfInBounds_toArray, List.set_cons_zero, List.set_cons_succ]
      refine wpK_takeS (i := 9) (v := ?_) rfl (by kernel_rfl) (by kernel_rfl) (by kernel_rfl) (by decide) (fun _ _ _ h => h) (Or.inl ⟨by rfl, ?_⟩) hHeld ?_
      rotate_left
      · intro w' hSw
        have c4 := hSw.c4
        clear hSw
        go_simp
        first | done | with_reducible rfl
      simp only [Act.put, List.getElem_toArray, List.getElem_cons_succ, List.getElem_cons_zero, List.setIfInBounds_toArray, List.set_cons_zero, List.set_cons_succ]
      refine wpK_takeS (i := 10) (v := ?_) rfl (by kernel_rfl) (by kernel_rfl) (by kernel_rfl) (by decide) (fun _ _ _ h => h) (Or.inl ⟨by rfl, ?_⟩) hHeld ?_
      rotate_left
      · intro w' hSw
        clear hSw
        go_simp
        first | done | with_reducible rfl
      simp only [Act.put, List.getElem_toArray, List.getElem_cons_succ, List.getElem_cons_zero, List.setIfInBounds_toArray, List.set_cons_zero, List.set_cons_succ]
      refine wpK_takeS (i := 11) (v := ?_) rfl (by kernel_rfl) (by kernel_rfl) (by kernel_rfl) (by decide) (fun _ _ _ h => h) (Or.inl ⟨by rfl, ?_⟩) hHeld ?_
      rotate_left
      · intro w' hSw
        clear hSw
        go_simp
        first | done | with_reducible rfl
      simp only [Act.put, List.getElem_toArray, List.getElem_cons_succ, List.getElem_cons_zero, List.setIfInBounds_toArray, List.set_cons_zero, List.set_cons_succ]
      refine wpK_takeS (i := 12) (v := ?_) rfl (by kernel_rfl) (by kernel_rfl) (by kernel_rfl) (by decide) (fun _ _ _ h => h) (Or.inl ⟨by rfl, ?_⟩) hHeld ?_
      rotate_left
      · intro w' hSw
        clear hSw
        go_simp
        first | done | with_reducible rfl
      simp only [Act.put, List.getElem_toArray, List.getElem_cons_succ, List.getElem_cons_zero, List.setIfInBounds_toArray, List.set_cons_zero, List.set_cons_succ]
      refine wpK_takeS (i := 13) (v := .agg #[z0, z1, z2, z3]) rfl (by kernel_rfl) (by kernel_rfl) (by kernel_rfl) (by decide) (fun _ _ _ h => h) (Or.inl ⟨by rfl, ?_⟩) hHeld ?_
      · intro w' hSw
        exact runLd 26 (.tmp 34) rfl g (o + j * 5 + 1) rfl #[z0, z1, z2, z3] _ hSw.rk Tryd.underlying26 rfl sizeTM
      simp only [Act.put, List.getElem_toArray, List.getElem_cons_succ, List.getElem_cons_zero, List.setIfInBounds_toArray, List.set_cons_zero, List.set_cons_succ]
      refine kn1 14 _ (by kernel_rfl) rfl (Sp.of rfl (stepFnW 21 (.func 21) [.tmp 35] _ [.agg #[z0, z1, z2, z3]] rfl rfl rfl rfl (fun _ => rfl) _ HC.out ?_))
      rintro e w5 ⟨ds, rfl, hw, hds⟩
      refine Or.inl ⟨_, rfl, ?_⟩
      obtain ⟨d0, d1, d2, d3, rfl⟩ := arr4 hds.size
      have HS5 := hid (HSd.out.on hw)
      have HX := hid (And.intro hw hds)
      have HD1 := hid (one_of4 hds.one nm)
      clear hds
      refine ⟨⟨HHd.out _ hw, Or.inr (HMr.out _ HS5.out)⟩, ?_⟩
      have hHeld : Rq8 w.heap.size (.slice (some ⟨g, o, none⟩) p.qs.length cap) g (o + j * 5) nm #[z0, z1, z2, z3] w5 ∧ Til 17 (Rm w3.heap.size (.slice vo j vc)) #[true, true, true, true, true, true, true, true, true, true, true, true, true, true, true, false, false, false, false, false] w5 := ⟨HHd.out _ hw, Or.inr (HMr.out _ HS5.out)⟩
      clear hw
      simp only [Act.put, List.getElem_toArray, List.getElem_cons_succ, List.getElem_cons_zero, List.setIfInBounds_toArray, List.set_cons_zero, List.set_cons_succ]
      refine wpK_takeS (i := 15) (v := .agg #[.string nm, d0, d1, d2, d3]) rfl (by kernel_rfl) (by kernel_rfl) (by kernel_rfl) (by decide) (fun _ _ _ h => h) (Or.inl ⟨by rfl, ?_⟩) hHeld ?_
      · intro w' hSw
        exact runBd (us := #[(0, .string nm), (1, .agg #[d0, d1, d2, d3])]) _ rfl (by kernel_rfl) (run_bq _ _ _ _ _ _)
      simp only [Act.put, List.getElem_toArray, List.getElem_cons_succ, List.getElem_cons_zero, List.setIfInBounds_toArray, List.set_cons_zero, List.set_cons_succ]
      refine kn1 16 _ (by kernel_rfl) rfl (Sp.bs 27 40 (.tmp 37) rfl rfl #[.string nm, d0, d1, d2, d3] rfl Tryd.underlying27 infoQY rfl (by omega) (by omega) ?_)
      have hb6 : Below w5.heap.size w5 (w5.alloc (.cells #[.string nm, d0, d1, d2, d3] 40)) := (Below.refl _ _).alloc (Nat.le_refl _) _
      have HS6 := hid (HS5.out.on hb6)
      have hb36 := HX.out.1.trans (hb6.mono HX.out.1.size)
      refine ⟨⟨HHd.out _ hb36, Or.inr (HMr.out _ HS6.out)⟩, ?_⟩
      simp only [Act.put, List.getElem_toArray, List.getElem_cons_succ, List.getElem_cons_zero, List.setIfInBounds_toArray, List.set_cons_zero, List.set_cons_succ]
      obtain ⟨xs', g1, g2⟩ := HS6.out.ks
      have hacc : (p.qs.take j).length = j := by rw [List.length_take]; omega
      have g1' := g1
      rw [hacc] at g1'
      have hN6 : (w5.alloc (.cells #[.string nm, d0, d1, d2, d3] 40)).heap[w5.heap.size]? = some (.cells #[.string nm, d0, d1, d2, d3] 40 (0, 0)) := heap_alloc_new _ _
      refine kn1 17 _ (by kernel_rfl) rfl (Sp.rw (.tmp 23) (.tmp 38) 27 rfl rfl (k := 5) (t := 40) (n := j) (m := 1) (c := 1) (us := [.string nm, d0, d1, d2, d3]) (ad := ⟨w5.heap.size, 0, none⟩) rfl rfl Tryd.underlying27 infoQY rfl (by omega) (by omega) g1' rfl (fun jj x hx => by rw [Addr.add_lit, Nat.zero_add, cell_of_row _ _ _ _ _ _ hN6, ← Array.getElem?_toList]; exact hx) (fun x hx => by have h1 := HD1.out; rw [Array.all_eq_true_iff_forall_mem] at h1; exact h1 x (List.mem_toArray.2 hx)) (by omega) (Or.inl (by omega)) ?_)
      intro v' w7 hA hW
      obtain ⟨ao', cap', rfl⟩ := (hW _ g1').form
      have hmn : RnS 0 w3 y0 y1 y2 y3 (p.qs.take j ++ [⟨nm, qt⟩]) (.slice ao' (j + 1) cap') (w7.setCell ⟨w3.heap.size, 4, none⟩ (.slice ao' (j + 1) cap')) := HSd.out.app (q := ⟨nm, qt⟩) (cs := #[d0, d1, d2, d3]) HX.out.1 (ti_on HX.out.2 fun b _ hS => ⟨Or.inr hS, rfl⟩) rfl hA g1 g2 (by rw [hacc]; exact hW)
      have HS8 : Hid (RnS 0 w3 y0 y1 y2 y3 (p.qs.take (j + 1)) (.slice ao' (j + 1) cap') (w7.setCell ⟨w3.heap.size, 4, none⟩ (.slice ao' (j + 1) cap'))) := by rw [HJJ.out]; exact hmn
      have hz6 := hb36.size
      have hMlt : w3.heap.size < wd.heap.size := (Array.getElem?_eq_some_iff.1 HSd.out.row).1
      have hM7 : w7.heap[w3.heap.size]? = some (.cells #[y0, y1, y2, y3, .slice vo j vc] 29 (0, 0)) := (hA.block _ (by omega) (fun e => by have := (HOwr.out _ e).2; omega)).trans HS6.out.row
      have hk7 : ∀ b, b < w3.heap.size → w7.heap[b]? = wd.heap[b]? := fun b hb => (hA.block _ (by omega) (fun e => by have := (HOwr.out _ e).2; omega)).trans (hb36.block _ (by omega))
      have hk5 : Rq8 w.heap.size (.slice (some ⟨g, o, none⟩) p.qs.length cap) g (o + j * 5) nm #[z0, z1, z2, z3] w7 := HR.out.on (hk7 _ HGl.out.2.1) (hk7 _ (by have := HGl.out; omega))
      clear hA hW g1 g1' g2 hmn hk7
      refine ⟨⟨hk5, Or.inl rfl⟩, ?_⟩
      have hHeld : Rq8 w.heap.size (.slice (some ⟨g, o, none⟩) p.qs.length cap) g (o + j * 5) nm #[z0, z1, z2, z3] w7 ∧ Til 17 (Rm w3.heap.size (.slice vo j vc)) #[true, true, true, true, true, true, true, true, true, true, true, true, true, true, true, true, true, true, false, false] w7 := ⟨hk5, Or.inl rfl⟩
      simp only [Act.put, List.getElem_toArray, List.getElem_cons_succ, List.getElem_cons_zero, List.setIfInBounds_toArray, List.set_cons_zero, List.set_cons_succ]
      refine wpK_takeS (i := 18) (v := ?_) rfl (by kernel_rfl) (by kernel_rfl) (by kernel_rfl) (by decide) (fun _ _ _ h => h) (Or.inl ⟨by rfl, ?_⟩) hHeld ?_
      rotate_left
      · intro w' hSw
        clear hSw
        go_simp
        first | done | with_reducible rfl
      simp only [Act.put, List.getElem_toArray, List.getElem_cons_succ, List.getElem_cons_zero, List.setIfInBounds_toArray, List.set_cons_zero, List.set_cons_succ]
      refine kn1 19 _ (by kernel_rfl) rfl (Sp.stq (.tmp 40) (.tmp 39) rfl rfl w3.heap.size 4 ao' (j + 1) cap' _ rfl rfl ((cell_of_row _ _ _ _ _ _ hM7).trans rfl) (row_frozen8 hM7) ?_)
      have hg8 : ∀ b, b < w3.heap.size → (w7.setCell ⟨w3.heap.size, 4, none⟩ (.slice ao' (j + 1) cap')).heap[b]? = w7.heap[b]? := fun b hb => heap_setCell_other w7 ⟨w3.heap.size, 4, none⟩ b _ (by show b ≠ w3.heap.size; omega)
      refine ⟨⟨hk5.on (hg8 _ HGl.out.2.1) (hg8 _ (by have := HGl.out; omega)), Or.inl rfl⟩, ?_⟩
      simp only [Act.put, List.getElem_toArray, List.getElem_cons_succ, List.getElem_cons_zero]
      refine wpK_done (by kernel_rfl) ?_ _
      clear hHeld hk5 hM7 hg8
      generalize w7.setCell ⟨w3.heap.size, 4, none⟩ (.slice ao' (j + 1) cap') = w8 at HS8 ⊢
      go_wp2
      have hX : ∃ (k : Nat) (vo : Option Addr) (vc : Nat), Value.int .i64 ((j : Int) + 1) = .int .i64 ((k : Nat) : Int) ∧ k ≤ p.qs.length ∧ Hid (RnS 0 w3 y0 y1 y2 y3 (p.qs.take k) (.slice vo k vc) w8) := ⟨j + 1, ao', cap', by rw [show (((j + 1 : Nat) : Nat) : Int) = (j : Int) + 1 by omega], hj, HS8⟩
      refine ⟨?_, ?_⟩
      · first
          | exact hX
          | ((repeat apply Exists.intro); refine ⟨?_, rfl⟩; exact hX)
      · simp [intOf]; omega
    · have hs3 : decide ((j : Int) < (p.qs.length : Int)) = false := by simp; omega
      obtain rfl : j = p.qs.length := by omega
      obtain ⟨ys, g1, g2⟩ := HS.out.ks
      rw [List.take_length] at g1 g2
      have hlow3 := HS.out.low
      have hz3 := hlow3.size
      have HBw : Hid (Below w.heap.size w wr) := HB3.out.trans (hlow3.mono HB3.out.size)
      have HMr := hid HS.out.row
      have HMine : Hid (PiV (fun b => b < wr.heap.size) wr p #[y0, y1, y2, y3, .slice vo p.qs.length vc]) := ⟨#[y0, y1, y2, y3], _, ys, rfl, ti_on HU3.out fun b hb _ => ⟨by omega, hlow3.block b hb⟩, g1.rx.carry fun b hb _ => ⟨hb, rfl⟩, QiL.carry (fun b hb _ => ⟨hb, rfl⟩) _ _ g2⟩
      have hTr := HTT.out.on HBw.out HZZ.out
      have hzr : 3 ≤ wr.heap.size := by have := HBw.out.size; have := HZZ.out; omega
      have HWk : Hid (∀ W, Below w.heap.size w W → Calls Tryd.prog 16 #[] W fun e w' => e = .returned (.bool true) ∧ Below W.heap.size W w') := fun W hb => wakes8_any W (HTT.out.on hb HZZ.out) (by have := hb.size; have := HZZ.out; omega)
      have HSame : Hid (∀ W, (∀ b, b < wr.heap.size → W.heap[b]? = wr.heap[b]?) → Calls Tryd.prog 19 #[.agg #[y0, y1, y2, y3, .slice vo p.qs.length vc], .agg #[x0, x1, x2, x3, .slice ao p.qs.length cap]] W fun e w' => e = .returned (.bool true) ∧ Below W.heap.size W w') := fun W hb =>
        policies_same p _ _ W (by have := HGs.out; omega) (fun x hx => by have := HGs.out; have := qszI_mem hx; omega) (by omega) (HMine.out.gx.carry fun b hl _ => ⟨trivial, hb b hl⟩) (HPV.out.carry fun b hl _ => ⟨trivial, (hb b (by have := HBw.out.size; omega)).trans (HBw.out.block b hl)⟩)
      have HMl : Hid (w3.heap.size < wr.heap.size ∧ w.heap.size < wr.heap.size) := ⟨(Array.getElem?_eq_some_iff.1 HMr.out).1, (Array.getElem?_eq_some_iff.1 HBx.out).1⟩
      by_cases hc : chk p = 0
      · obtain ⟨P, hPe, hok⟩ := chk_ok hc
        have hk := hok.pl
        obtain ⟨q, hq⟩ : ∃ q, q = pi (plPo P) := ⟨_, rfl⟩
        have hP0 := plain8_ok P _ wr (by rw [← hPe]; exact HMine.out) hok hTr hzr
        rw [← hq] at hP0
        have HP := hid hP0
        have HQs : Hid (szI q.main ≤ 100000 ∧ (∀ x ∈ q.qs, szI x.pd ≤ 100000) ∧ q.qs.length ≤ 100000) := by
          refine ⟨?_, fun x hx => ?_, ?_⟩
          · rw [hq]
            show szI (ti (plPo P).main) ≤ _
            rw [sz_ti]
            have := hk.s
            omega
          · rw [hq] at hx
            obtain ⟨y, hy, rfl⟩ := List.mem_map.1 hx
            show szI (ti y.pd) ≤ _
            rw [sz_ti]
            have := hk.s
            have := qsz_mem hy
            omega
          · rw [hq, pi_len]; have := hk.l; omega
        clear hP0 hq hk hok hPe hc hTr g1 g2 hlow3 hz3 HS HMine HU3 HB3 HN3 HZ3 HM3 HCp HQ HPV HWp HTT HZZ HGs
        go_upto_region 9 with (first
          | (refine ldRow 29 (.tmp 3) rfl rfl w3.heap.size rfl 29 #[y0, y1, y2, y3, .slice vo p.qs.length vc] _ Tryd.underlying29 rfl sizePO HMr.out ?_)
          | (go_at_call 17; refine (HP.out).mono ?_; rintro e w5 ⟨ds, rfl, hw, hv⟩; have HW5 := hid hw; have HV5 := hid hv; have HIa := hid hv.info; clear hw hv HP)
          | (refine stNew 29 (.tmp 5) (.tmp 44) rfl rfl w5 29 pz ds rfl rfl rfl HIa.out (by rw [HV5.out.size]; rfl) HV5.out.one ?_))
        obtain ⟨a0, a1, a2, a3, bo, bc, zs, rfl, v1, v2, v3⟩ := HV5.out.five
        have hbc : q.qs.length ≤ bc := by
          obtain ⟨-, ao', cap', e, h, -⟩ := v2
          cases e
          exact h
        obtain ⟨S, hS⟩ : ∃ S : Nat → Prop, S = fun b => wr.heap.size ≤ b ∧ b < w5.heap.size := ⟨_, rfl⟩
        have hb6 : Below w5.heap.size w5 (w5.alloc (.cells #[a0, a1, a2, a3, .slice bo q.qs.length bc] 29)) := (Below.refl _ _).alloc (Nat.le_refl _) _
        have hcar : ∀ b, b < w5.heap.size → wr.heap.size ≤ b → S b ∧ (w5.alloc (.cells #[a0, a1, a2, a3, .slice bo q.qs.length bc] 29)).heap[b]? = w5.heap[b]? := fun b hb hl => ⟨by rw [hS]; exact ⟨hl, hb⟩, heap_alloc_old _ _ hb⟩
        have HSm := hid (SpV.of _ _ (ti_on v1 hcar))
        have HKq : Hid (∀ m (hm : m < q.qs.length), Kq S bo m (q.qs[m]).pd (w5.alloc (.cells #[a0, a1, a2, a3, .slice bo q.qs.length bc] 29))) := fun m hm => Kq.of (v2.carry hcar) (QiL.carry hcar _ _ v3) hm
        have HA6 : Hid ((w5.alloc (.cells #[a0, a1, a2, a3, .slice bo q.qs.length bc] 29)).heap[w5.heap.size]? = some (.cells #[a0, a1, a2, a3, .slice bo q.qs.length bc] 29 (0, 0))) := heap_alloc_new _ _
        have HNA : Hid (¬ S w5.heap.size) := by show ¬ _; rw [hS]; exact fun h => Nat.lt_irrefl _ h.2
        have HSB : Hid (∀ b, S b → b < (w5.alloc (.cells #[a0, a1, a2, a3, .slice bo q.qs.length bc] 29)).heap.size) := fun b h => by rw [hS] at h; have := hb6.size; have := h.2; omega
        have HSL : Hid (∀ b, b < wr.heap.size → ¬ S b) := fun b hb h => by rw [hS] at h; have := h.1; omega
        have HW6 := hid (HW5.out.trans (hb6.mono HW5.out.size))
        clear hS hb6 hcar v1 v2 v3 HV5 HIa HW5
        generalize w5.alloc (.cells #[a0, a1, a2, a3, .slice bo q.qs.length bc] 29) = W6 at HSm HKq HA6 HSB HW6 ⊢
        generalize w5.heap.size = A at HA6 HNA ⊢
        have HRa := hid (five_rng HA6.out)
        have HC := hid (spoil_any S 100000 q.main #[a0, a1, a2, a3] W6 HQs.out.1 (Nat.le_refl _) HSm.out HSB.out)
        go_upto_region 12 with (first
          | (refine ldMid 26 (.tmp 54) rfl rfl A 0 rfl #[a0, a1, a2, a3] _ Tryd.underlying26 rfl sizeTM HRa.out ?_)
          | (go_at_call 22; refine (HC.out).mono ?_; rintro e w7 ⟨rfl, hw⟩; have HP7 := hid hw.q; have HA7 := hid (hw.low _ _ HA6.out (Or.inl HNA.out)); have HK7 : Hid (∀ m (hm : m < q.qs.length), Kq S bo m (q.qs[m]).pd w7) := (fun m hm => (HKq.out m hm).on hw); clear hw HC))
        clear HA6 HRa HSm HKq
        go_upto_region 13 with fail
        go_loopw [7] (fun v wz => ∃ i : Nat, v = .int .i64 ((i : Nat) : Int) ∧ i ≤ q.qs.length ∧ Hid (Spq S W6 wz ∧ wz.heap[A]? = some (.cells #[a0, a1, a2, a3, .slice bo q.qs.length bc] 29 (0, 0)) ∧ ∀ m (hm : m < q.qs.length), i ≤ m → Kq S bo m (q.qs[m]).pd wz)) (fun v _ => q.qs.length - (intOf v).toNat)
        case atStart => exact ⟨0, rfl, Nat.zero_le _, HP7.out, HA7.out, fun m hm _ => HK7.out m hm⟩
        case round =>
          clear HP7 HA7 HK7
          obtain ⟨i, rfl, hi1, HR⟩ := hrel
          rename World => wz
          have c4 : wz.cell? ⟨A, 4, none⟩ = some (.slice bo q.qs.length bc) := (cell_of_row _ _ _ _ _ _ HR.out.2.1).trans rfl
          by_cases hi : i < q.qs.length
          · have hs3 : decide ((i : Int) < (q.qs.length : Int)) = true := by simp; omega
            have hw3 : IntKind.i64.wrap ((i : Int) + 1) = (i : Int) + 1 := by have := HQs.out.2.2; rw [IntKind.wrap_i64]; omega
            obtain ⟨g, cur, rfl, e2, e3, e4, e5⟩ := HR.out.2.2 i hi (Nat.le_refl _)
            have hjc : i < bc := by omega
            have HE := hid (And.intro e2 (And.intro e3 e4))
            have HC := hid (spoil_any S 100000 (q.qs[i]).pd (fq cur i) wz (HQs.out.2.1 _ (List.getElem_mem hi)) (Nat.le_refl _) e5 (fun b hb => by have := HSB.out b hb; have := HR.out.1.size; omega))
            have HRG := hid (fq_rng e3 e4)
            have HF4 : Hid ((fq cur i).size = 4) := rfl
            clear e2 e3 e4 e5
            obtain ⟨F, hF⟩ : ∃ F, F = fq cur i := ⟨_, rfl⟩
            rw [← hF] at HC HRG HF4
            clear hF
            go_upto_region 16 with (first
              | (refine ldMid 26 (.tmp 68) rfl rfl g (i * 5 + 1) rfl F _ Tryd.underlying26 rfl (by rw [HF4.out]; exact sizeTM) HRG.out ?_)
              | (go_at_call 22; refine (HC.out).mono ?_; rintro e w8 ⟨rfl, hw⟩; have HW8 := hid hw; clear hw HC))
            have HA8 := hid (HW8.out.low _ _ HR.out.2.1 (Or.inl HNA.out))
            clear c4
            have c4 : w8.cell? ⟨A, 4, none⟩ = some (.slice (some ⟨g, 0, none⟩) q.qs.length bc) := (cell_of_row _ _ _ _ _ _ HA8.out).trans rfl
            have k1 := HW8.out.low g _ HE.out.2.1 (Or.inr fun c => qt_ne cur c)
            have hst : Spq S w8 (w8.setCells g (i * 5) z5.toList) := Spq.wr HE.out.1 k1
            have HTh : Hid (w8.there g (i * 5) 5) := fun x hx => ⟨by rw [cell_of_row _ _ _ _ _ _ k1, Array.getElem?_eq_getElem (by have := HE.out.2.2; omega)]; rfl, by simp [World.frozen?, k1]⟩
            have HR9 : Hid (Spq S W6 (w8.setCells g (i * 5) z5.toList) ∧ (w8.setCells g (i * 5) z5.toList).heap[A]? = some (.cells #[a0, a1, a2, a3, .slice (some ⟨g, 0, none⟩) q.qs.length bc] 29 (0, 0)) ∧ ∀ m (hm : m < q.qs.length), i + 1 ≤ m → Kq S (some ⟨g, 0, none⟩) m (q.qs[m]).pd (w8.setCells g (i * 5) z5.toList)) := ⟨(HR.out.1.trans HW8.out.q).trans hst, hst.low _ _ HA8.out HNA.out, fun m hm hi => ((HR.out.2.2 m hm (by omega)).on HW8.out).wr hi rfl⟩
            have hbq := fun W => run_bq0 W
            clear k1 hst HE HW8 HRG HF4 HR HA8
            go_upto_region 14 with (first
              | (refine stMid 40 (.tmp 75) (.tmp 74) rfl rfl g (i * 5) z5 rfl rfl HTh.out (by kernel_rfl) z5_one ?_))
            generalize w8.setCells g (i * 5) z5.toList = w9 at HR9 ⊢
            go_wp2
            exact ⟨⟨i + 1, by rw [show (((i + 1 : Nat) : Nat) : Int) = (i : Int) + 1 by omega], hi, HR9⟩, by simp [intOf]; omega⟩
          · have hs3 : decide ((i : Int) < (q.qs.length : Int)) = false := by simp; omega
            have hsm : ∀ b, b < wr.heap.size → wz.heap[b]? = wr.heap[b]? := fun b hb => by
              have e := HW6.out.block b hb
              have e2 := Array.getElem?_eq_getElem hb
              exact (HR.out.1.low b _ (e.trans e2) (HSL.out b hb)).trans e2.symm
            have HS9 := hid (HSame.out wz hsm)
            have HM9 := hid ((hsm _ HMl.out.1).trans HMr.out)
            have HN9 := hid ((hsm _ HMl.out.2).trans HBx.out)
            have HB9 : Hid (Below w.heap.size w wz) := ⟨HR.out.1.os.trans (HW6.out.os.trans HBw.out.os), HR.out.1.tape.trans (HW6.out.tape.trans HBw.out.tape), HR.out.1.output.trans (HW6.out.output.trans HBw.out.output), Nat.le_trans HBw.out.size (Nat.le_trans HW6.out.size HR.out.1.size), fun b hb => (hsm b (by have := HMl.out; omega)).trans (HBw.out.block b hb)⟩
            clear hsm HR
            go_wp2_with (first
              | (refine ldRow 29 (.tmp 3) rfl rfl w3.heap.size rfl 29 #[y0, y1, y2, y3, .slice vo p.qs.length vc] _ Tryd.underlying29 rfl sizePO HM9.out ?_)
              | (refine ldRow 29 (.tmp 1) rfl rfl w.heap.size rfl 29 #[x0, x1, x2, x3, .slice ao p.qs.length cap] _ Tryd.underlying29 rfl sizePO HN9.out ?_)
              | (go_at_call 19; refine (HS9.out).mono ?_; rintro e w10 ⟨rfl, hw⟩; have HB10 := hid (HB9.out.trans (hw.mono HB9.out.size)); have HW10 := hid (HWk.out w10 HB10.out); clear hw HS9)
              | (go_at_call 16; refine (HW10.out).mono ?_; rintro e w11 ⟨rfl, hw⟩; have HB11 := hid (HB10.out.trans (hw.mono HB10.out.size)); clear hw HW10))
            go_ret
            exact ⟨rfl, HB11.out⟩
      · have HP := hid (plain8_no p _ wr HMine.out HWp.out hc hTr hzr)
        have gc : (((chk p : Nat) : Int) != 0) = true := by simp; exact hc
        generalize chk p = c at HP gc
        clear hc hTr g1 g2 hlow3 hz3 HS HMine HU3 HB3 HN3 HZ3 HM3 HCp HQ HPV HWp HTT HZZ HGs
        go_upto_region 9 with (first
          | (refine ldRow 29 (.tmp 3) rfl rfl w3.heap.size rfl 29 #[y0, y1, y2, y3, .slice vo p.qs.length vc] _ Tryd.underlying29 rfl sizePO HMr.out ?_)
          | (go_at_call 17; refine (HP.out).mono ?_; rintro e w5 ⟨rfl, hw⟩; have HW5 := hid hw; clear hw HP)
          | (refine stNew 29 (.tmp 5) (.tmp 44) rfl rfl w5 29 pz pz rfl rfl rfl sizePO rfl pz1 ?_))
        have hb6 : Below w5.heap.size w5 (w5.alloc (.cells pz 29)) := (Below.refl _ _).alloc (Nat.le_refl _) _
        have HW6 := hid (HW5.out.trans (hb6.mono HW5.out.size))
        clear hb6 HW5
        generalize w5.alloc (.cells pz 29) = W6 at HW6 ⊢
        have HS9 := hid (HSame.out W6 HW6.out.block)
        have HM9 := hid ((HW6.out.block _ HMl.out.1).trans HMr.out)
        have HN9 := hid ((HW6.out.block _ HMl.out.2).trans HBx.out)
        have HB9 := hid (HBw.out.trans (HW6.out.mono HBw.out.size))
        go_wp2_with (first
          | (refine ldRow 29 (.tmp 3) rfl rfl w3.heap.size rfl 29 #[y0, y1, y2, y3, .slice vo p.qs.length vc] _ Tryd.underlying29 rfl sizePO HM9.out ?_)
          | (refine ldRow 29 (.tmp 1) rfl rfl w.heap.size rfl 29 #[x0, x1, x2, x3, .slice ao p.qs.length cap] _ Tryd.underlying29 rfl sizePO HN9.out ?_)
          | (go_at_call 19; refine (HS9.out).mono ?_; rintro e w10 ⟨rfl, hw⟩; have HB10 := hid (HB9.out.trans (hw.mono HB9.out.size)); have HW10 := hid (HWk.out w10 HB10.out); clear hw HS9)
          | (go_at_call 16; refine (HW10.out).mono ?_; rintro e w11 ⟨rfl, hw⟩; have HB11 := hid (HB10.out.trans (hw.mono HB10.out.size)); clear hw HW10))
        go_ret
        exact ⟨rfl, HB11.out⟩
end Go.Proofs.YtjallmncajhamaaDoor
