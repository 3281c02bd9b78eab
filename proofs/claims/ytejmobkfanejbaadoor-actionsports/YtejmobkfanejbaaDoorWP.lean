/-
  Proved here: ActionsPorts says true of every header, copies and two lists of ports. Condition: the widths' table holds its numbers.
-/
import Derived.Test.YtejmobkfanejbaaDoorWR
namespace Go.Proofs.YtejmobkfanejbaaDoor
open Go.RowKit

theorem here_app (a b : List Int) (x : Int) : here (a ++ b) x = (here a x || here b x) := by simp [here]
theorem flt_flt (a b : List Int) (l : List (Nat → Int)) : flt a (flt (a ++ b) l) = flt a l := by
  unfold flt
  rw [List.filter_filter]
  refine List.filter_congr fun x _ => ?_
  rw [here_app]
  cases here a (x 9) <;> simp
theorem flt_app (ps : List Int) (a b : List (Nat → Int)) : flt ps (a ++ b) = flt ps a ++ flt ps b := by simp [flt]
/-- WITH FEWER PORTS JUST THOSE GO OUT THAT HAVE ONE. -/
theorem outs_few (h : Nat → Int) (a b : List Int) (c : List (List Ac)) : flt a (outs h (a ++ b) c) = outs h a c := by
  induction c with
  | nil => rfl
  | cons l c ih =>
    show flt a (flt (a ++ b) (sens h l) ++ outs h (a ++ b) c) = flt a (sens h l) ++ outs h a c
    rw [flt_app, flt_flt, ih]
theorem flt_take {ps : List Int} {L : List (Nat → Int)} {i : Nat} (hi : i < L.length) : flt ps (L.take (i + 1)) = flt ps (L.take i) ++ if here ps (L[i] 9) = true then [L[i]] else [] := by
  rw [take_one' L i hi, flt_one]
theorem flt_at {ps : List Int} {L : List (Nat → Int)} {i : Nat} (hi : i < L.length) (hy : here ps (L[i] 9) = true) : ∃ hk : (flt ps (L.take i)).length < (flt ps L).length, (flt ps L)[(flt ps (L.take i)).length] = L[i] := by
  have e : flt ps L = flt ps (L.take i) ++ ([L[i]] ++ flt ps (L.drop (i + 1))) := by
    have h1 : flt ps L = flt ps (L.take (i + 1)) ++ flt ps (L.drop (i + 1)) := by rw [← flt_app, List.take_append_drop]
    rw [h1, flt_take hi, if_pos hy, List.append_assoc]
  have hk : (flt ps (L.take i)).length < (flt ps L).length := by
    rw [e]; simp only [List.length_append, List.length_cons]; omega
  refine ⟨hk, ?_⟩
  have : (flt ps L)[(flt ps (L.take i)).length]? = some L[i] := by rw [e, List.getElem?_append_right (Nat.le_refl _)]; simp
  rw [List.getElem?_eq_getElem hk] at this
  exact Option.some.inj this
/-- A header in its block. -/
structure Bh (b : Nat) (h : Nat → Int) (w : World) : Prop where
  blk : Blk w b 11 24 h
theorem Bh.rr {b : Nat} {h : Nat → Int} {w : World} (q : Bh b h w) : w.rangeAt b 0 (row 11 h).toList := range_blk q.blk
/-- An empty slice of ports is made, in a region that draws its order. -/
theorem stepB0 {ops : Array Oper} {o : Oper} {a : Act} {w : World} {K : Act → World → Prop} {Q : Exit → Act → World → Prop} {E : Prop} (ho : o.op = .buildSlice 35 0 #[]) (hw : Region.wanted o (yielded ops a.tmps) = true)
    (hK : K (a.put o.dst (.slice (some ⟨w.heap.size, 0, none⟩) 0 0)) (w.alloc (.cells #[] 40))) : if Region.wanted o (yielded ops a.tmps) = true then Oper.wp Tryd.prog o a w K Q else E := by
  rw [if_pos hw]
  unfold Oper.wp
  simp [execOp, ho, go_sem]
  exact hK
/-- A port, and the port of a header. -/
structure P9 (b o b' o' : Nat) (p : Int) (x : Nat → Int) (w : World) : Prop where
  c0 : w.cell? ⟨b, o, none⟩ = some (.int .u16 p)
  c1 : w.cell? ⟨b', o' + 9, none⟩ = some (.int .u64 (x 9))
/-- Ahead of the looks. -/
structure Rl6 (w : World) (vp va vb : Value) (ps : List Int) (F M : List (Nat → Int)) (x : World) : Prop where
  low : Below w.heap.size w x
  ha : Hs (fun _ => True) x va F
  hb : Hs (fun _ => True) x vb M
  hp : Pts (fun _ => True) x vp ps
theorem Rl6.still {w : World} {vp va vb : Value} {ps : List Int} {F M : List (Nat → Int)} {x y : World} (h : Rl6 w vp va vb ps F M x) (ho : Still x y) : Rl6 w vp va vb ps F M y :=
  ⟨h.low.trans ((still_below ho).mono h.low.size), h.ha.still ho, h.hb.still ho, h.hp.still ho⟩
set_option maxHeartbeats 12800000 in
set_option maxRecDepth 100000 in
theorem ports_law (w : World) (h : Nat → Int) (v vp vq : Value) (c : List (List Ac)) (ps qs : List Int) {T T1 T2 : Nat → Prop} (hc : Cps T w v c) (hp : Pts T1 w vp ps) (hq : Pts T2 w vq qs) (ht : Tab w) : Calls Tryd.prog 8 #[hv h, v, vp, vq] w fun e w' => e = .returned (.bool true) ∧ Below w.heap.size w w' := by
  obtain ⟨ao, cap, rfl, -⟩ := hc.form
  obtain ⟨ap, cp, rfl, -⟩ := hp.form
  obtain ⟨aq, cq, rfl, -⟩ := hq.form
  have hplen := hp.len
  have hqlen := hq.len
  obtain ⟨W0, hW0⟩ : ∃ W0, W0 = w.alloc (.cells (row 11 h) 24) := ⟨_, rfl⟩
  have hB0 : Below w.heap.size w W0 := by rw [hW0]; exact (Below.refl _ _).alloc (Nat.le_refl _) _
  have hA0 : Blk W0 w.heap.size 11 24 h := by rw [hW0]; exact Blk.new w 11 24 h
  have HG := hid (great_any (Cps.on hc hB0))
  have HWk : Hid (∀ x, Below w.heap.size w x → Calls Tryd.prog 10 #[] x fun e w' => e = .returned (.bool true) ∧ Below w.heap.size w w') := fun x hx => (wakes_any x (ht.on hx)).mono fun e w' ⟨h1, h2⟩ => ⟨h1, hx.trans (h2.mono hx.size)⟩
  have HW1 := hid (HWk.out W0 hB0)
  have HR1 : Hid (c.length + cnt c ≤ 4096 → Calls Tryd.prog 14 #[hv h, .slice ao c.length cap, .slice ap ps.length cp] W0 fun e w' => ∃ va, e = .returned (.tuple #[va, .bool (pnts c)]) ∧ (Below w.heap.size w w' ∧ Blk w' w.heap.size 11 24 h) ∧ Hs (fun _ => True) w' va (outs h ps c)) := fun hb => (run_any h (Cps.on hc hB0) (Pts.on hp hB0) (ht.on hB0) (by omega)).mono fun e w' ⟨va, h1, h2, h3⟩ => ⟨va, h1, ⟨hB0.trans (h2.mono hB0.size), hA0.on h2⟩, h3.any⟩
  have HR2 : Hid (c.length + cnt c ≤ 4096 → ∀ x y va vo, Below w.heap.size w x → Below x.heap.size x y → Hs (fun _ => True) x va (outs h ps c) → Pts (fun _ => True) y vo (ps ++ qs) → Calls Tryd.prog 14 #[hv h, .slice ao c.length cap, vo] y fun e w' => ∃ vb, e = .returned (.tuple #[vb, .bool (pnts c)]) ∧ (∃ s k, vb = .slice s (outs h (ps ++ qs) c).length k) ∧ Below y.heap.size y w' ∧ Rl6 w (.slice ap ps.length cp) va vb ps (outs h ps c) (outs h (ps ++ qs) c) w') := fun hb x y va vo hx hxy ha ho => by
    have hy := hx.trans (hxy.mono hx.size)
    refine (run_any h (Cps.on hc hy) ho (ht.on hy) (by omega)).mono ?_
    rintro e w' ⟨vb, rfl, h2, h3⟩
    have hw' := hy.trans (h2.mono hy.size)
    exact ⟨vb, rfl, h3.form, h2, hw', (ha.on hxy).on h2, h3.any, (Pts.on hp hw').any⟩
  have HSp : Hid (∀ x, Below w.heap.size w x → ps.length ≠ 0 → ∃ a, ap = some a ∧ ∀ j z, (ps.map (Value.int .u16))[j]? = some z → x.cell? (a.add j) = some z) := fun x hx => (Pts.src (Pts.on hp hx)).2
  have HSq : Hid (∀ x, Below w.heap.size w x → qs.length ≠ 0 → ∃ a, aq = some a ∧ ∀ j z, (qs.map (Value.int .u16))[j]? = some z → x.cell? (a.add j) = some z) := fun x hx => (Pts.src (Pts.on hq hx)).2
  have HFit : Hid (∀ a ∈ ps ++ qs, 0 ≤ a ∧ a < 65536) := fun a ha => by
    rcases List.mem_append.1 ha with h' | h'
    · exact Pts.fit hp a h'
    · exact Pts.fit hq a h'
  have HFew := hid (outs_few h ps qs c)
  have HLn : Hid (c.length + cnt c ≤ 4096 → (outs h (ps ++ qs) c).length ≤ 4096 ∧ (outs h ps c).length ≤ 4096) := fun hb => by
    have h1 := outs_len h (ps ++ qs) c
    have h2 := outs_len h ps c
    omega
  have HW0 := hid hW0
  have HA0 := hid hA0
  clear hc hp hq ht hW0 hB0 hA0
  by_cases hp1 : 300 < ps.length ∨ 300 < qs.length
  · go_enter Tryd.func8, Tryd.ntmps8
    go_upto_region 1 with fail
    rw [← HW0.out]
    clear HW0 HR1 HR2 HSp HSq HFit HFew HLn HA0
    by_cases hp2 : 300 < ps.length
    · have hd : decide ((300 : Int) < (ps.length : Int)) = true := decide_eq_true (by omega)
      go_wp2_with (first
        | (go_at_call 9; refine (HG.out).mono ?_; rintro e w1 ⟨⟨g, rfl, -⟩, rfl⟩; clear HG; cases g)
        | (go_at_call 10; refine (HW1.out).mono ?_; rintro e w1 ⟨rfl, hb1⟩; have HB1 := hid hb1; clear HW1 hb1))
      all_goals
        go_ret
        exact ⟨rfl, HB1.out⟩
    · have hd : decide ((300 : Int) < (ps.length : Int)) = false := by simp; omega
      have hd' : decide ((300 : Int) < (qs.length : Int)) = true := decide_eq_true (by omega)
      go_wp2_with (first
        | (go_at_call 9; refine (HG.out).mono ?_; rintro e w1 ⟨⟨g, rfl, -⟩, rfl⟩; clear HG; cases g)
        | (go_at_call 10; refine (HW1.out).mono ?_; rintro e w1 ⟨rfl, hb1⟩; have HB1 := hid hb1; clear HW1 hb1))
      all_goals
        go_ret
        exact ⟨rfl, HB1.out⟩
  · have hd : decide ((300 : Int) < (ps.length : Int)) = false := by simp; omega
    have hd' : decide ((300 : Int) < (qs.length : Int)) = false := by simp; omega
    have hpq : ps.length ≤ 300 ∧ qs.length ≤ 300 := by omega
    clear hp1
    generalize pnts c = pb at HR1 HR2
    generalize outs h ps c = F at HR1 HR2 HFew HLn
    generalize outs h (ps ++ qs) c = M at HR2 HFew HLn
    go_enter Tryd.func8, Tryd.ntmps8
    go_upto_region 1 with fail
    rw [← HW0.out]
    clear HW0
    go_upto_region 3 with (first
      | (go_at_call 9; refine (HG.out).mono ?_; rintro e w1 ⟨⟨g, rfl, hg⟩, rfl⟩; have HGg := hid hg; clear HG hg; cases g)
      | (go_at_call 10; refine (HW1.out).mono ?_; rintro e w1 ⟨rfl, hb1⟩; have HB1 := hid hb1; clear HW1 hb1))
    · have hg0 : c.length + cnt c ≤ 4096 := HGg.out trivial
      have HR1' := hid (HR1.out hg0)
      have HR2' := hid (HR2.out hg0)
      obtain ⟨hlM, hlF⟩ := HLn.out hg0
      have hbx := HA0.out
      clear HGg HR1 HR2 HLn HW1 HA0
      go_upto_region 4 with (first
        | (refine ld24 (.tmp 4) rfl _ rfl rfl h hbx ?_; clear hbx)
        | (go_at_call 14; refine (HR1'.out).mono ?_; rintro e x1 ⟨va, rfl, ⟨q1, q2⟩, q3⟩
           have HX1 := hid (And.intro q1 (And.intro q2 q3))
           obtain ⟨s1, k1, rfl⟩ := q3.form
           clear HR1' q1 q2 q3))
      have HBd : Hid (Bh w.heap.size h x1.drew) := ⟨HX1.out.2.1⟩
      have HLd : Hid (Below w.heap.size w x1.drew) := bel_drew HX1.out.1
      have HSd : Hid (Hs (fun _ => True) x1.drew (.slice s1 F.length k1) F) := HX1.out.2.2.carry fun b _ _ => ⟨trivial, rfl⟩
      have HOn : Hid (∀ z, Below x1.drew.heap.size x1.drew z → Bh w.heap.size h z ∧ Below w.heap.size w z) := fun z hz => ⟨⟨HBd.out.blk.on hz⟩, HLd.out.trans (hz.mono HLd.out.size)⟩
      have hal : Below x1.drew.heap.size x1.drew (x1.drew.alloc (.cells #[] 40)) := (Below.refl _ _).alloc (Nat.le_refl _) _
      have HS1 := hid (HSp.out _ (HOn.out _ hal).2)
      have HN1 := hid (HOn.out _ hal).1
      clear HSp hal HX1
      refine wp_region_held_drew (S := Bh w.heap.size h) (by kernel_rfl) HBd.out (fun hHeld => ?_)
      refine wpAnyH_take (i := 0) (v := (hv h)) rfl (by kernel_rfl) (by kernel_rfl) (by kernel_rfl) (fun _ _ _ h => h) (Or.inl ⟨by rfl, ?_⟩) hHeld ?_
      · intro w' hSw
        exact runLd 24 (.tmp 4) rfl w.heap.size 0 rfl (row 11 h) _ hSw.rr Tryd.underlying24 rfl (size24 h)
      simp only [Act.put, List.getElem_toArray, List.getElem_cons_zero, List.setIfInBounds_toArray, List.set_cons_zero, List.set_cons_succ]
      refine wpAnyH_take (i := 1) (v := ?_) rfl (by kernel_rfl) (by kernel_rfl) (by kernel_rfl) (fun _ _ _ h => h) (Or.inl ⟨by rfl, ?_⟩) hHeld ?_
      rotate_left
      · intro w' hSw
        clear hSw
        go_simp
        first | done | with_reducible rfl
      simp only [Act.put, List.getElem_toArray, List.getElem_cons_succ, List.getElem_cons_zero, List.setIfInBounds_toArray, List.set_cons_zero, List.set_cons_succ]
      refine wpAnyH_take (i := 3) (v := ?_) rfl (by kernel_rfl) (by kernel_rfl) (by kernel_rfl) (fun _ _ _ h => h) (Or.inl ⟨by rfl, ?_⟩) hHeld ?_
      rotate_left
      · intro w' hSw
        clear hSw
        go_simp
        first | done | with_reducible rfl
      simp only [Act.put, List.getElem_toArray, List.getElem_cons_succ, List.getElem_cons_zero, List.setIfInBounds_toArray, List.set_cons_zero, List.set_cons_succ]
      refine wpAnyH_take (i := 5) (v := ?_) rfl (by kernel_rfl) (by kernel_rfl) (by kernel_rfl) (fun _ _ _ h => h) (Or.inl ⟨by rfl, ?_⟩) hHeld ?_
      rotate_left
      · intro w' hSw
        clear hSw
        go_simp
        first | done | with_reducible rfl
      simp only [Act.put, List.getElem_toArray, List.getElem_cons_succ, List.getElem_cons_zero, List.setIfInBounds_toArray, List.set_cons_zero, List.set_cons_succ]
      refine wpAnyH_ready (rs := [2]) (by kernel_rfl) (by simp) ?_
      refine AllReadyH.cons rfl (fun K hK => ?_) AllReadyH.nil
      refine stepB0 rfl rfl ?_
      refine hK.out _ _ HN1.out (fun hHeld => ?_)
      clear hK K
      simp only [Act.put, List.getElem_toArray, List.getElem_cons_succ, List.getElem_cons_zero, List.setIfInBounds_toArray, List.set_cons_zero, List.set_cons_succ]
      refine wpAnyH_ready (rs := [4]) (by kernel_rfl) (by simp) ?_
      refine AllReadyH.cons rfl (fun K hK => ?_) AllReadyH.nil
      refine stepAll (v := .slice (some ⟨x1.drew.heap.size, 0, none⟩) 0 0) (.tmp 40) (.tmp 41) 35 rfl rfl rfl rfl Tryd.underlying35 infoU16 rfl (by omega) (by omega) (rw_empty (fun b => x1.drew.heap.size ≤ b) 1 40 x1.drew (Nat.le_refl _)) (by simp) HS1.out (pts_one ps) (by omega) ?_
      intro v2 x2 hA2 hR2
      rw [Nat.zero_add, List.nil_append] at hR2
      have hb2 := app_low hA2
      have HB2 := hid hb2
      have HR2 := hid hR2
      have HN2 := hid (HOn.out _ hb2)
      have HS2 := hid (HSq.out _ HN2.out.2)
      obtain ⟨s2, k2, rfl⟩ := hR2.form
      clear hA2 hR2 hb2 HS1 HN1 HSq
      refine hK.out _ _ HN2.out.1 (fun hHeld => ?_)
      clear hK K
      simp only [Act.put, List.getElem_toArray, List.getElem_cons_succ, List.getElem_cons_zero, List.setIfInBounds_toArray, List.set_cons_zero, List.set_cons_succ]
      refine wpAnyH_ready (rs := [6]) (by kernel_rfl) (by simp) ?_
      refine AllReadyH.cons rfl (fun K hK => ?_) AllReadyH.nil
      refine stepAll (v := .slice s2 ps.length k2) (.tmp 42) (.tmp 43) 35 rfl rfl rfl rfl Tryd.underlying35 infoU16 rfl (by omega) (by omega) HR2.out (by simp) HS2.out (pts_one qs) (by omega) ?_
      intro v3 x3 hA3 hR3
      have hb3 : Below x1.drew.heap.size x1.drew x3 := HB2.out.trans ((hA3.only (S := fun b => x1.drew.heap.size ≤ b) (fun j hj => Nat.le_trans HB2.out.size hj) (fun j hj => (HR2.out.own j hj).elim (fun h => h) (fun h => by have h' : (x1.drew.alloc (.cells #[] 40)).heap.size ≤ j := h; simp at h'; show x1.heap.size ≤ j; omega))).below fun j hj => hj)
      have hPo : Pts (fun _ => True) x3 v3 (ps ++ qs) := pts_of (by rw [List.length_append, List.map_append]; exact hR3.carry fun b _ _ => ⟨trivial, rfl⟩) HFit.out (by rw [List.length_append]; omega)
      have HX3 := hid (HR2'.out x1.drew x3 _ v3 HLd.out hb3 HSd.out hPo)
      have HN3 := hid (HOn.out _ hb3)
      obtain ⟨s3, k3, rfl⟩ := hR3.form
      clear hA3 hR3 hb3 hPo HR2 HS2 HN2 HB2 HR2' HFit HSd HLd HBd
      refine hK.out _ _ HN3.out.1 (fun hHeld => ?_)
      clear hK K
      simp only [Act.put, List.getElem_toArray, List.getElem_cons_succ, List.getElem_cons_zero, List.setIfInBounds_toArray, List.set_cons_zero, List.set_cons_succ]
      refine wpAnyH_ready (rs := [7]) (by kernel_rfl) (by simp) ?_
      refine AllReadyH.cons rfl (fun K hK => ?_) AllReadyH.nil
      refine stepFnW 14 (.func 14) [.tmp 38, .tmp 39, .tmp 44] _ [hv h, .slice ao c.length cap, .slice s3 (ps.length + qs.length) k3] rfl rfl rfl rfl (fun _ => rfl) _ HX3.out ?_
      rintro e x4 ⟨vb, rfl, ⟨s4, k4, rfl⟩, hb4, hr4⟩
      refine Or.inl ⟨_, rfl, ?_⟩
      have HR4 := hid hr4
      have HN4 : Hid (Bh w.heap.size h x4) := ⟨HN3.out.1.blk.on hb4⟩
      clear HX3 HN3 hb4 hr4 HOn
      refine hK.out _ _ HN4.out (fun hHeld => ?_)
      clear hK K
      simp only [Act.put, List.getElem_toArray, List.getElem_cons_succ, List.getElem_cons_zero, List.setIfInBounds_toArray, List.set_cons_zero, List.set_cons_succ]
      refine wpAnyH_take (i := 8) (v := ?_) rfl (by kernel_rfl) (by kernel_rfl) (by kernel_rfl) (fun _ _ _ h => h) (Or.inl ⟨by rfl, ?_⟩) hHeld ?_
      rotate_left
      · intro w' hSw
        clear hSw
        go_simp
        first | done | with_reducible rfl
      simp only [Act.put, List.getElem_toArray, List.getElem_cons_succ, List.getElem_cons_zero, List.setIfInBounds_toArray, List.set_cons_zero, List.set_cons_succ]
      refine wpAnyH_take (i := 9) (v := ?_) rfl (by kernel_rfl) (by kernel_rfl) (by kernel_rfl) (fun _ _ _ h => h) (Or.inl ⟨by rfl, ?_⟩) hHeld ?_
      rotate_left
      · intro w' hSw
        clear hSw
        go_simp
        first | done | with_reducible rfl
      simp only [Act.put, List.getElem_toArray, List.getElem_cons_succ, List.getElem_cons_zero, List.setIfInBounds_toArray, List.set_cons_zero, List.set_cons_succ]
      refine wpAnyH_take (i := 10) (v := ?_) rfl (by kernel_rfl) (by kernel_rfl) (by kernel_rfl) (fun _ _ _ h => h) (Or.inl ⟨by rfl, ?_⟩) hHeld ?_
      rotate_left
      · intro w' hSw
        clear hSw
        go_simp
        first | done | with_reducible rfl
      simp only [Act.put, List.getElem_toArray, List.getElem_cons_succ, List.getElem_cons_zero, List.setIfInBounds_toArray, List.set_cons_zero, List.set_cons_succ]
      refine wpAnyH_take (i := 11) (v := ?_) rfl (by kernel_rfl) (by kernel_rfl) (by kernel_rfl) (fun _ _ _ h => h) (Or.inl ⟨by rfl, ?_⟩) hHeld ?_
      rotate_left
      · intro w' hSw
        clear hSw
        go_simp
        first | done | with_reducible rfl
      simp only [Act.put, List.getElem_toArray, List.getElem_cons_succ, List.getElem_cons_zero, List.setIfInBounds_toArray, List.set_cons_zero, List.set_cons_succ]
      refine wpAnyH_take (i := 12) (v := ?_) rfl (by kernel_rfl) (by kernel_rfl) (by kernel_rfl) (fun _ _ _ h => h) (Or.inl ⟨by rfl, ?_⟩) hHeld ?_
      rotate_left
      · intro w' hSw
        clear hSw
        go_simp
        first | done | with_reducible rfl
      simp only [Act.put, List.getElem_toArray, List.getElem_cons_succ, List.getElem_cons_zero, List.setIfInBounds_toArray, List.set_cons_zero, List.set_cons_succ]
      refine wpAnyH_done (by kernel_rfl) ?_ _
      clear HN4
      go_upto_region 7 with fail
      go_loopw [13, 14] (fun kv i wr => ∃ (k n : Nat), n ≤ M.length ∧ i = .int .i64 n ∧ kv = .int .i64 k ∧ k = (flt ps (M.take n)).length ∧ Still x4 wr) (fun _ i _ => M.length - (intOf i).toNat)
      case atStart => exact ⟨0, 0, by omega, rfl, rfl, by simp [flt], Only.refl _ _⟩
      case round =>
        obtain ⟨k, n, hn, rfl, rfl, hk, ho⟩ := hrel
        generalize wr = wx at *
        have hr := HR4.out.still ho
        have hkn : k ≤ n := by
          have h1 := flt_len ps (M.take n)
          have h2 : (M.take n).length ≤ n := by simp; omega
          omega
        have HK := hid hk
        clear hk
        by_cases hlt : n < M.length
        · have hkl : decide ((n : Int) < (M.length : Int)) = true := decide_eq_true (by omega)
          have HO := hid ho
          have HR5 := hid hr
          have HTk := hid (flt_take (ps := ps) hlt)
          have HAt : Hid (here ps (M[n] 9) = true → ∃ hk : (flt ps (M.take n)).length < F.length, F[(flt ps (M.take n)).length] = M[n]) := fun hy => by
            obtain ⟨h1, h2⟩ := flt_at hlt hy
            have e := HFew.out
            subst e
            exact ⟨h1, h2⟩
          obtain ⟨bM, oM, rfl, -, -, hcM⟩ := hr.hb.at hlt
          have hc9 : wx.cell? ⟨bM, oM + n * 11 + 9, none⟩ = some (.int .u64 (M[n] 9)) := hcM 9 (by omega)
          have HC9 := hid hc9
          obtain ⟨x, hx⟩ : ∃ x, x = M[n] := ⟨_, rfl⟩
          have HX := hid hx
          rw [← hx] at HTk HAt HC9 
          clear hx hr ho hcM hc9
          go_upto_region 11 with fail
          go_loopw [15, 16] (fun t j wr => ∃ m : Nat, m ≤ ps.length ∧ j = .int .i64 m ∧ t = .bool (here (ps.take m) (x 9)) ∧ Still wx wr) (fun _ j _ => ps.length - (intOf j).toNat)
          case atStart => exact ⟨0, by omega, rfl, by simp [here], Only.refl _ _⟩
          case round =>
            obtain ⟨m, hm, rfl, rfl, ho2⟩ := hrel
            have HO2 := hid ho2
            by_cases hmt : m < ps.length
            · have hml : decide ((m : Int) < (ps.length : Int)) = true := decide_eq_true (by omega)
              obtain ⟨b, o, rfl, d0, p0, p1⟩ := (HR5.out.still ho2).hp.at (Below.refl _ _) hmt
              have HH : Hid (P9 b (o + m) bM (oM + n * 11) ps[m] x wr.drew) := ⟨d0, (cell_same (ho2.block bM (fun hf => hf))).trans HC9.out⟩
              have HTm : Hid (here (ps.take (m + 1)) (x 9) = (here (ps.take m) (x 9) || ps[m] == x 9)) := by show _ = _; rw [take_one' ps m hmt, here_one]
              clear ho2 d0
              generalize ps[m] = p at HH HTm p0 p1
              generalize here (ps.take m) (x 9) = tb at HTm
              cases tb with
              | true =>
                have HTm' : Hid (here (ps.take (m + 1)) (x 9) = true) := by show _ = _; rw [HTm.out]; rfl
                go_upto_region 13 with fail
                refine wp_region_held_drew (S := P9 b (o + m) bM (oM + n * 11) p x) (by kernel_rfl) HH.out (fun hHeld => ?_)
                refine wpAnyH_take (i := 0) (v := ?_) rfl (by kernel_rfl) (by kernel_rfl) (by kernel_rfl) (fun _ _ _ h => h) (Or.inl ⟨by rfl, ?_⟩) hHeld ?_
                rotate_left
                · intro w' hSw
                  clear hSw
                  go_simp
                  first | done | with_reducible rfl
                simp only [Act.put, List.getElem_toArray, List.getElem_cons_zero, List.setIfInBounds_toArray, List.set_cons_zero, List.set_cons_succ]
                refine wpAnyH_take (i := 1) (v := ?_) rfl (by kernel_rfl) (by kernel_rfl) (by kernel_rfl) (fun _ _ _ h => h) (Or.inl ⟨by rfl, ?_⟩) hHeld ?_
                rotate_left
                · intro w' hSw
                  clear hSw
                  go_simp
                  first | done | with_reducible rfl
                simp only [Act.put, List.getElem_toArray, List.getElem_cons_succ, List.getElem_cons_zero, List.setIfInBounds_toArray, List.set_cons_zero, List.set_cons_succ]
                refine wpAnyH_take (i := 2) (v := undef) rfl (by kernel_rfl) (by kernel_rfl) (by kernel_rfl) (fun _ _ _ h => h) (Or.inr ⟨by rfl, rfl⟩) hHeld ?_
                simp only [Act.put, List.getElem_toArray, List.getElem_cons_succ, List.getElem_cons_zero, List.setIfInBounds_toArray, List.set_cons_zero, List.set_cons_succ]
                refine wpAnyH_take (i := 3) (v := undef) rfl (by kernel_rfl) (by kernel_rfl) (by kernel_rfl) (fun _ _ _ h => h) (Or.inr ⟨by rfl, rfl⟩) hHeld ?_
                simp only [Act.put, List.getElem_toArray, List.getElem_cons_succ, List.getElem_cons_zero, List.setIfInBounds_toArray, List.set_cons_zero, List.set_cons_succ]
                refine wpAnyH_take (i := 4) (v := undef) rfl (by kernel_rfl) (by kernel_rfl) (by kernel_rfl) (fun _ _ _ h => h) (Or.inr ⟨by rfl, rfl⟩) hHeld ?_
                simp only [Act.put, List.getElem_toArray, List.getElem_cons_succ, List.getElem_cons_zero, List.setIfInBounds_toArray, List.set_cons_zero, List.set_cons_succ]
                refine wpAnyH_take (i := 5) (v := undef) rfl (by kernel_rfl) (by kernel_rfl) (by kernel_rfl) (fun _ _ _ h => h) (Or.inr ⟨by rfl, rfl⟩) hHeld ?_
                simp only [Act.put, List.getElem_toArray, List.getElem_cons_succ, List.getElem_cons_zero, List.setIfInBounds_toArray, List.set_cons_zero, List.set_cons_succ]
                refine wpAnyH_take (i := 6) (v := undef) rfl (by kernel_rfl) (by kernel_rfl) (by kernel_rfl) (fun _ _ _ h => h) (Or.inr ⟨by rfl, rfl⟩) hHeld ?_
                simp only [Act.put, List.getElem_toArray, List.getElem_cons_succ, List.getElem_cons_zero, List.setIfInBounds_toArray, List.set_cons_zero, List.set_cons_succ]
                refine wpAnyH_take (i := 7) (v := undef) rfl (by kernel_rfl) (by kernel_rfl) (by kernel_rfl) (fun _ _ _ h => h) (Or.inr ⟨by rfl, rfl⟩) hHeld ?_
                simp only [Act.put, List.getElem_toArray, List.getElem_cons_succ, List.getElem_cons_zero, List.setIfInBounds_toArray, List.set_cons_zero, List.set_cons_succ]
                refine wpAnyH_take (i := 8) (v := undef) rfl (by kernel_rfl) (by kernel_rfl) (by kernel_rfl) (fun _ _ _ h => h) (Or.inr ⟨by rfl, rfl⟩) hHeld ?_
                simp only [Act.put, List.getElem_toArray, List.getElem_cons_succ, List.getElem_cons_zero, List.setIfInBounds_toArray, List.set_cons_zero, List.set_cons_succ]
                refine wpAnyH_take (i := 9) (v := undef) rfl (by kernel_rfl) (by kernel_rfl) (by kernel_rfl) (fun _ _ _ h => h) (Or.inr ⟨by rfl, rfl⟩) hHeld ?_
                simp only [Act.put, List.getElem_toArray, List.getElem_cons_succ, List.getElem_cons_zero, List.setIfInBounds_toArray, List.set_cons_zero, List.set_cons_succ]
                refine wpAnyH_take (i := 10) (v := undef) rfl (by kernel_rfl) (by kernel_rfl) (by kernel_rfl) (fun _ _ _ h => h) (Or.inr ⟨by rfl, rfl⟩) hHeld ?_
                simp only [Act.put, List.getElem_toArray, List.getElem_cons_succ, List.getElem_cons_zero, List.setIfInBounds_toArray, List.set_cons_zero, List.set_cons_succ]
                refine wpAnyH_take (i := 11) (v := undef) rfl (by kernel_rfl) (by kernel_rfl) (by kernel_rfl) (fun _ _ _ h => h) (Or.inr ⟨by rfl, rfl⟩) hHeld ?_
                simp only [Act.put, List.getElem_toArray, List.getElem_cons_succ, List.getElem_cons_zero, List.setIfInBounds_toArray, List.set_cons_zero, List.set_cons_succ]
                refine wpAnyH_take (i := 12) (v := undef) rfl (by kernel_rfl) (by kernel_rfl) (by kernel_rfl) (fun _ _ _ h => h) (Or.inr ⟨by rfl, rfl⟩) hHeld ?_
                simp only [Act.put, List.getElem_toArray, List.getElem_cons_succ, List.getElem_cons_zero, List.setIfInBounds_toArray, List.set_cons_zero, List.set_cons_succ]
                refine wpAnyH_take (i := 13) (v := ?_) rfl (by kernel_rfl) (by kernel_rfl) (by kernel_rfl) (fun _ _ _ h => h) (Or.inl ⟨by rfl, ?_⟩) hHeld ?_
                rotate_left
                · intro w' hSw
                  clear hSw
                  go_simp
                  first | done | with_reducible rfl
                simp only [Act.put, List.getElem_toArray, List.getElem_cons_succ, List.getElem_cons_zero, List.setIfInBounds_toArray, List.set_cons_zero, List.set_cons_succ]
                refine wpAnyH_take (i := 14) (v := ?_) rfl (by kernel_rfl) (by kernel_rfl) (by kernel_rfl) (fun _ _ _ h => h) (Or.inl ⟨by rfl, ?_⟩) hHeld ?_
                rotate_left
                · intro w' hSw
                  clear hSw
                  go_simp
                  first | done | with_reducible rfl
                simp only [Act.put, List.getElem_toArray, List.getElem_cons_succ, List.getElem_cons_zero, List.setIfInBounds_toArray, List.set_cons_zero, List.set_cons_succ]
                refine wpAnyH_done (by kernel_rfl) ?_ _
                go_wp2
                go_roundw
                case rel => exact ⟨m + 1, by omega, by go_num, by rw [HTm'.out], HO2.out.drew⟩
                case measure => simp [intOf]; omega
              | false =>
                have HTm' : Hid (here (ps.take (m + 1)) (x 9) = (p == x 9)) := by show _ = _; rw [HTm.out]; rfl
                have HWp : Hid (IntKind.u64.wrap p = p) := by show _ = _; rw [IntKind.wrap_u64]; omega
                go_upto_region 13 with fail
                refine wp_region_held_drew (S := P9 b (o + m) bM (oM + n * 11) p x) (by kernel_rfl) HH.out (fun hHeld => ?_)
                refine wpAnyH_take (i := 0) (v := ?_) rfl (by kernel_rfl) (by kernel_rfl) (by kernel_rfl) (fun _ _ _ h => h) (Or.inl ⟨by rfl, ?_⟩) hHeld ?_
                rotate_left
                · intro w' hSw
                  clear hSw
                  go_simp
                  first | done | with_reducible rfl
                simp only [Act.put, List.getElem_toArray, List.getElem_cons_zero, List.setIfInBounds_toArray, List.set_cons_zero, List.set_cons_succ]
                refine wpAnyH_take (i := 1) (v := ?_) rfl (by kernel_rfl) (by kernel_rfl) (by kernel_rfl) (fun _ _ _ h => h) (Or.inl ⟨by rfl, ?_⟩) hHeld ?_
                rotate_left
                · intro w' hSw
                  clear hSw
                  go_simp
                  first | done | with_reducible rfl
                simp only [Act.put, List.getElem_toArray, List.getElem_cons_succ, List.getElem_cons_zero, List.setIfInBounds_toArray, List.set_cons_zero, List.set_cons_succ]
                refine wpAnyH_take (i := 2) (v := ?_) rfl (by kernel_rfl) (by kernel_rfl) (by kernel_rfl) (fun _ _ _ h => h) (Or.inl ⟨by rfl, ?_⟩) hHeld ?_
                rotate_left
                · intro w' hSw
                  clear hSw
                  go_simp
                  first | done | with_reducible rfl
                simp only [Act.put, List.getElem_toArray, List.getElem_cons_succ, List.getElem_cons_zero, List.setIfInBounds_toArray, List.set_cons_zero, List.set_cons_succ]
                refine wpAnyH_take (i := 3) (v := ?_) rfl (by kernel_rfl) (by kernel_rfl) (by kernel_rfl) (fun _ _ _ h => h) (Or.inl ⟨by rfl, ?_⟩) hHeld ?_
                rotate_left
                · intro w' hSw
                  clear hSw
                  go_simp
                  first | done | with_reducible rfl
                simp only [Act.put, List.getElem_toArray, List.getElem_cons_succ, List.getElem_cons_zero, List.setIfInBounds_toArray, List.set_cons_zero, List.set_cons_succ]
                refine wpAnyH_take (i := 4) (v := ?_) rfl (by kernel_rfl) (by kernel_rfl) (by kernel_rfl) (fun _ _ _ h => h) (Or.inl ⟨by rfl, ?_⟩) hHeld ?_
                rotate_left
                · intro w' hSw
                  clear hSw
                  go_simp
                  first | done | with_reducible rfl
                simp only [Act.put, List.getElem_toArray, List.getElem_cons_succ, List.getElem_cons_zero, List.setIfInBounds_toArray, List.set_cons_zero, List.set_cons_succ]
                refine wpAnyH_take (i := 5) (v := ?_) rfl (by kernel_rfl) (by kernel_rfl) (by kernel_rfl) (fun _ _ _ h => h) (Or.inl ⟨by rfl, ?_⟩) hHeld ?_
                rotate_left
                · intro w' hSw
                  have c0 := hSw.c0
                  clear hSw
                  go_simp
                  first | done | with_reducible rfl
                simp only [Act.put, List.getElem_toArray, List.getElem_cons_succ, List.getElem_cons_zero, List.setIfInBounds_toArray, List.set_cons_zero, List.set_cons_succ]
                refine wpAnyH_take (i := 6) (v := ?_) rfl (by kernel_rfl) (by kernel_rfl) (by kernel_rfl) (fun _ _ _ h => h) (Or.inl ⟨by rfl, ?_⟩) hHeld ?_
                rotate_left
                · intro w' hSw
                  clear hSw
                  go_simp
                  first | done | with_reducible rfl
                simp only [Act.put, List.getElem_toArray, List.getElem_cons_succ, List.getElem_cons_zero, List.setIfInBounds_toArray, List.set_cons_zero, List.set_cons_succ]
                refine wpAnyH_take (i := 7) (v := ?_) rfl (by kernel_rfl) (by kernel_rfl) (by kernel_rfl) (fun _ _ _ h => h) (Or.inl ⟨by rfl, ?_⟩) hHeld ?_
                rotate_left
                · intro w' hSw
                  clear hSw
                  go_simp
                  first | done | with_reducible rfl
                simp only [Act.put, List.getElem_toArray, List.getElem_cons_succ, List.getElem_cons_zero, List.setIfInBounds_toArray, List.set_cons_zero, List.set_cons_succ]
                refine wpAnyH_take (i := 8) (v := ?_) rfl (by kernel_rfl) (by kernel_rfl) (by kernel_rfl) (fun _ _ _ h => h) (Or.inl ⟨by rfl, ?_⟩) hHeld ?_
                rotate_left
                · intro w' hSw
                  clear hSw
                  go_simp
                  first | done | with_reducible rfl
                simp only [Act.put, List.getElem_toArray, List.getElem_cons_succ, List.getElem_cons_zero, List.setIfInBounds_toArray, List.set_cons_zero, List.set_cons_succ]
                refine wpAnyH_take (i := 9) (v := ?_) rfl (by kernel_rfl) (by kernel_rfl) (by kernel_rfl) (fun _ _ _ h => h) (Or.inl ⟨by rfl, ?_⟩) hHeld ?_
                rotate_left
                · intro w' hSw
                  clear hSw
                  go_simp
                  first | done | with_reducible rfl
                simp only [Act.put, List.getElem_toArray, List.getElem_cons_succ, List.getElem_cons_zero, List.setIfInBounds_toArray, List.set_cons_zero, List.set_cons_succ]
                refine wpAnyH_take (i := 10) (v := ?_) rfl (by kernel_rfl) (by kernel_rfl) (by kernel_rfl) (fun _ _ _ h => h) (Or.inl ⟨by rfl, ?_⟩) hHeld ?_
                rotate_left
                · intro w' hSw
                  clear hSw
                  go_simp
                  first | done | with_reducible rfl
                simp only [Act.put, List.getElem_toArray, List.getElem_cons_succ, List.getElem_cons_zero, List.setIfInBounds_toArray, List.set_cons_zero, List.set_cons_succ]
                refine wpAnyH_take (i := 11) (v := ?_) rfl (by kernel_rfl) (by kernel_rfl) (by kernel_rfl) (fun _ _ _ h => h) (Or.inl ⟨by rfl, ?_⟩) hHeld ?_
                rotate_left
                · intro w' hSw
                  have c1 := hSw.c1
                  clear hSw
                  go_simp
                  first | done | with_reducible rfl
                simp only [Act.put, List.getElem_toArray, List.getElem_cons_succ, List.getElem_cons_zero, List.setIfInBounds_toArray, List.set_cons_zero, List.set_cons_succ]
                refine wpAnyH_take (i := 12) (v := ?_) rfl (by kernel_rfl) (by kernel_rfl) (by kernel_rfl) (fun _ _ _ h => h) (Or.inl ⟨by rfl, ?_⟩) hHeld ?_
                rotate_left
                · intro w' hSw
                  clear hSw
                  go_simp
                  first | done | with_reducible rfl
                simp only [Act.put, List.getElem_toArray, List.getElem_cons_succ, List.getElem_cons_zero, List.setIfInBounds_toArray, List.set_cons_zero, List.set_cons_succ]
                refine wpAnyH_take (i := 13) (v := ?_) rfl (by kernel_rfl) (by kernel_rfl) (by kernel_rfl) (fun _ _ _ h => h) (Or.inl ⟨by rfl, ?_⟩) hHeld ?_
                rotate_left
                · intro w' hSw
                  clear hSw
                  go_simp
                  first | done | with_reducible rfl
                simp only [Act.put, List.getElem_toArray, List.getElem_cons_succ, List.getElem_cons_zero, List.setIfInBounds_toArray, List.set_cons_zero, List.set_cons_succ]
                refine wpAnyH_take (i := 14) (v := ?_) rfl (by kernel_rfl) (by kernel_rfl) (by kernel_rfl) (fun _ _ _ h => h) (Or.inl ⟨by rfl, ?_⟩) hHeld ?_
                rotate_left
                · intro w' hSw
                  clear hSw
                  go_simp
                  first | done | with_reducible rfl
                simp only [Act.put, List.getElem_toArray, List.getElem_cons_succ, List.getElem_cons_zero, List.setIfInBounds_toArray, List.set_cons_zero, List.set_cons_succ]
                refine wpAnyH_done (by kernel_rfl) ?_ _
                go_wp2
                go_roundw
                case rel => exact ⟨m + 1, by omega, by go_num, by rw [HTm'.out, HWp.out], HO2.out.drew⟩
                case measure => simp [intOf]; omega
            · obtain rfl : m = ps.length := by omega
              have hml : decide ((ps.length : Int) < (ps.length : Int)) = false := by simp
              have HTy : Hid (here (ps.take ps.length) (x 9) = here ps (x 9)) := by show _ = _; rw [List.take_length]
              generalize here (ps.take ps.length) (x 9) = ty at HTy
              cases ty with
              | false =>
                have HKn : Hid (k = (flt ps (M.take (n + 1))).length) := by
                  show _ = _
                  rw [HTk.out, if_neg (by rw [← HTy.out]; simp), List.append_nil]; exact HK.out
                have HO3 := hid (HO.out.trans ho2)
                clear ho2 HO2 HAt HTk HK HTy
                go_wp2
                go_roundw
                case rel => exact ⟨k, n + 1, by omega, by go_num, rfl, HKn.out, HO3.out⟩
                case measure => simp [intOf]; omega
              | true =>
                obtain ⟨hkF, hFx⟩ := HAt.out HTy.out.symm
                have HKn : Hid (k + 1 = (flt ps (M.take (n + 1))).length) := by
                  show _ = _
                  rw [HTk.out, if_pos (by rw [← HTy.out]), List.length_append, ← HK.out]; rfl
                have hkF' : k < F.length := by rw [HK.out]; exact hkF
                have hFk : F[k] = x := by
                  have e := HK.out
                  subst e
                  exact hFx
                have hk1 : decide ((F.length : Int) ≤ (k : Int)) = false := by simp; omega
                have hk2 : decide ((k : Int) < (F.length : Int)) = true := decide_eq_true (by omega)
                have HO3 := hid (HO.out.trans ho2)
                have hr2 := HR5.out.still ho2
                obtain ⟨bF, oF, eF, -, -, rF⟩ := hr2.ha.range hkF'
                obtain ⟨bN, oN, eN, -, -, rN⟩ := hr2.hb.range hlt
                obtain ⟨rfl, rfl⟩ : bM = bN ∧ oM = oN := by simpa using eN
                rw [hFk] at rF
                rw [← HX.out] at rN
                subst eF
                have HH : Hid (H2 bF (oF + k * 11) bM (oM + n * 11) x x wr.drew) := ⟨range_drew rF, range_drew rN⟩
                have hw1 : (k : Int) + 1 ≤ 100000 := by omega
                clear ho2 HO2 HAt HTk HK HTy hFx hkF hr2 rF rN eN hFk
                go_upto_region 15 with fail
                refine wp_region_held_drew (S := H2 bF (oF + k * 11) bM (oM + n * 11) x x) (by kernel_rfl) HH.out (fun hHeld => ?_)
                refine wpAnyH_take (i := 0) (v := ?_) rfl (by kernel_rfl) (by kernel_rfl) (by kernel_rfl) (fun _ _ _ h => h) (Or.inl ⟨by rfl, ?_⟩) hHeld ?_
                rotate_left
                · intro w' hSw
                  clear hSw
                  go_simp
                  first | done | with_reducible rfl
                simp only [Act.put, List.getElem_toArray, List.getElem_cons_zero, List.setIfInBounds_toArray, List.set_cons_zero, List.set_cons_succ]
                refine wpAnyH_take (i := 1) (v := ?_) rfl (by kernel_rfl) (by kernel_rfl) (by kernel_rfl) (fun _ _ _ h => h) (Or.inl ⟨by rfl, ?_⟩) hHeld ?_
                rotate_left
                · intro w' hSw
                  clear hSw
                  go_simp
                  first | done | with_reducible rfl
                simp only [Act.put, List.getElem_toArray, List.getElem_cons_succ, List.getElem_cons_zero, List.setIfInBounds_toArray, List.set_cons_zero, List.set_cons_succ]
                refine wpAnyH_take (i := 2) (v := ?_) rfl (by kernel_rfl) (by kernel_rfl) (by kernel_rfl) (fun _ _ _ h => h) (Or.inl ⟨by rfl, ?_⟩) hHeld ?_
                rotate_left
                · intro w' hSw
                  clear hSw
                  go_simp
                  first | done | with_reducible rfl
                simp only [Act.put, List.getElem_toArray, List.getElem_cons_succ, List.getElem_cons_zero, List.setIfInBounds_toArray, List.set_cons_zero, List.set_cons_succ]
                refine wpAnyH_take (i := 3) (v := (.bool false)) rfl (by kernel_rfl) (by kernel_rfl) (by kernel_rfl) (fun _ _ _ h => h) (Or.inl ⟨by rfl, ?_⟩) hHeld ?_
                · intro w' hSw
                  clear hSw
                  go_simp
                  first | done | with_reducible rfl
                simp only [Act.put, List.getElem_toArray, List.getElem_cons_succ, List.getElem_cons_zero, List.setIfInBounds_toArray, List.set_cons_zero, List.set_cons_succ]
                refine wpAnyH_take (i := 4) (v := ?_) rfl (by kernel_rfl) (by kernel_rfl) (by kernel_rfl) (fun _ _ _ h => h) (Or.inl ⟨by rfl, ?_⟩) hHeld ?_
                rotate_left
                · intro w' hSw
                  clear hSw
                  go_simp
                  first | done | with_reducible rfl
                simp only [Act.put, List.getElem_toArray, List.getElem_cons_succ, List.getElem_cons_zero, List.setIfInBounds_toArray, List.set_cons_zero, List.set_cons_succ]
                refine wpAnyH_take (i := 5) (v := ?_) rfl (by kernel_rfl) (by kernel_rfl) (by kernel_rfl) (fun _ _ _ h => h) (Or.inl ⟨by rfl, ?_⟩) hHeld ?_
                rotate_left
                · intro w' hSw
                  clear hSw
                  go_simp
                  first | done | with_reducible rfl
                simp only [Act.put, List.getElem_toArray, List.getElem_cons_succ, List.getElem_cons_zero, List.setIfInBounds_toArray, List.set_cons_zero, List.set_cons_succ]
                refine wpAnyH_take (i := 6) (v := ?_) rfl (by kernel_rfl) (by kernel_rfl) (by kernel_rfl) (fun _ _ _ h => h) (Or.inl ⟨by rfl, ?_⟩) hHeld ?_
                rotate_left
                · intro w' hSw
                  clear hSw
                  go_simp
                  first | done | with_reducible rfl
                simp only [Act.put, List.getElem_toArray, List.getElem_cons_succ, List.getElem_cons_zero, List.setIfInBounds_toArray, List.set_cons_zero, List.set_cons_succ]
                refine wpAnyH_take (i := 7) (v := ?_) rfl (by kernel_rfl) (by kernel_rfl) (by kernel_rfl) (fun _ _ _ h => h) (Or.inl ⟨by rfl, ?_⟩) hHeld ?_
                rotate_left
                · intro w' hSw
                  clear hSw
                  go_simp
                  first | done | with_reducible rfl
                simp only [Act.put, List.getElem_toArray, List.getElem_cons_succ, List.getElem_cons_zero, List.setIfInBounds_toArray, List.set_cons_zero, List.set_cons_succ]
                refine wpAnyH_take (i := 8) (v := (hv x)) rfl (by kernel_rfl) (by kernel_rfl) (by kernel_rfl) (fun _ _ _ h => h) (Or.inl ⟨by rfl, ?_⟩) hHeld ?_
                · intro w' hSw
                  exact runLd 24 (.tmp 82) rfl bF (oF + k * 11) rfl (row 11 x) _ hSw.rA Tryd.underlying24 rfl (size24 x)
                simp only [Act.put, List.getElem_toArray, List.getElem_cons_succ, List.getElem_cons_zero, List.setIfInBounds_toArray, List.set_cons_zero, List.set_cons_succ]
                refine wpAnyH_take (i := 9) (v := ?_) rfl (by kernel_rfl) (by kernel_rfl) (by kernel_rfl) (fun _ _ _ h => h) (Or.inl ⟨by rfl, ?_⟩) hHeld ?_
                rotate_left
                · intro w' hSw
                  clear hSw
                  go_simp
                  first | done | with_reducible rfl
                simp only [Act.put, List.getElem_toArray, List.getElem_cons_succ, List.getElem_cons_zero, List.setIfInBounds_toArray, List.set_cons_zero, List.set_cons_succ]
                refine wpAnyH_take (i := 10) (v := ?_) rfl (by kernel_rfl) (by kernel_rfl) (by kernel_rfl) (fun _ _ _ h => h) (Or.inl ⟨by rfl, ?_⟩) hHeld ?_
                rotate_left
                · intro w' hSw
                  clear hSw
                  go_simp
                  first | done | with_reducible rfl
                simp only [Act.put, List.getElem_toArray, List.getElem_cons_succ, List.getElem_cons_zero, List.setIfInBounds_toArray, List.set_cons_zero, List.set_cons_succ]
                refine wpAnyH_take (i := 11) (v := ?_) rfl (by kernel_rfl) (by kernel_rfl) (by kernel_rfl) (fun _ _ _ h => h) (Or.inl ⟨by rfl, ?_⟩) hHeld ?_
                rotate_left
                · intro w' hSw
                  clear hSw
                  go_simp
                  first | done | with_reducible rfl
                simp only [Act.put, List.getElem_toArray, List.getElem_cons_succ, List.getElem_cons_zero, List.setIfInBounds_toArray, List.set_cons_zero, List.set_cons_succ]
                refine wpAnyH_take (i := 12) (v := (hv x)) rfl (by kernel_rfl) (by kernel_rfl) (by kernel_rfl) (fun _ _ _ h => h) (Or.inl ⟨by rfl, ?_⟩) hHeld ?_
                · intro w' hSw
                  exact runLd 24 (.tmp 86) rfl bM (oM + n * 11) rfl (row 11 x) _ hSw.rB Tryd.underlying24 rfl (size24 x)
                simp only [Act.put, List.getElem_toArray, List.getElem_cons_succ, List.getElem_cons_zero, List.setIfInBounds_toArray, List.set_cons_zero, List.set_cons_succ]
                refine wpAnyH_take (i := 13) (v := (.bool false)) rfl (by kernel_rfl) (by kernel_rfl) (by kernel_rfl) (fun _ _ _ h => h) (Or.inl ⟨by rfl, ?_⟩) hHeld ?_
                · intro w' hSw
                  exact runNeS (.tmp 83) (.tmp 87) rfl x rfl rfl
                simp only [Act.put, List.getElem_toArray, List.getElem_cons_succ, List.getElem_cons_zero, List.setIfInBounds_toArray, List.set_cons_zero, List.set_cons_succ]
                refine wpAnyH_take (i := 14) (v := ?_) rfl (by kernel_rfl) (by kernel_rfl) (by kernel_rfl) (fun _ _ _ h => h) (Or.inl ⟨by rfl, ?_⟩) hHeld ?_
                rotate_left
                · intro w' hSw
                  clear hSw
                  go_simp
                  first | done | with_reducible rfl
                simp only [Act.put, List.getElem_toArray, List.getElem_cons_succ, List.getElem_cons_zero, List.setIfInBounds_toArray, List.set_cons_zero, List.set_cons_succ]
                refine wpAnyH_done (by kernel_rfl) ?_ _
                go_wp2
                go_roundw
                case rel => exact ⟨k + 1, n + 1, by omega, by go_num, by go_num, HKn.out, HO3.out.drew⟩
                case measure => simp [intOf]; omega
        · obtain rfl : n = M.length := by omega
          have hkl : decide ((M.length : Int) < (M.length : Int)) = false := by simp
          have HKF : Hid (k = F.length) := by have := HK.out; rw [List.take_length, HFew.out] at this; exact this
          have hke : ((k : Int) == (F.length : Int)) = true := by simp [HKF.out]
          have hpp : (pb == pb) = true := by simp
          have HW5 := hid (HWk.out wx hr.low)
          clear hr ho HR4 HK HKF
          go_wp2_with (go_at_call 10; refine (HW5.out).mono ?_; rintro e x8 ⟨rfl, q1⟩; have HB8 := hid q1; clear HW5 q1)
          go_ret
          exact ⟨rfl, HB8.out⟩
    · go_ret
      exact ⟨rfl, HB1.out⟩
end Go.Proofs.YtejmobkfanejbaaDoor
