/-
  Proved here: air.Do. Conditions: fewer than a million datagrams.
-/
import Derived.Test.YthgkmbdnkamcoaaF4
namespace Go.Proofs.Ythgkmbdnkamcoaa
open Go.RowKit

theorem map_erase {α β : Type} (f : α → β) (l : List α) (p : Nat) : (l.eraseIdx p).map f = (l.map f).eraseIdx p := by
  rw [List.eraseIdx_eq_take_drop_succ, List.eraseIdx_eq_take_drop_succ, List.map_append, List.map_take, List.map_drop]
theorem AR.mk {S : Nat → Prop} {f : Nat → Nat} {w : World} {g : Nat} {vr vc : Value} {ps qs : List (Value × Dg)} {a : Ar} (h : ARf S f w g vr vc ps qs) (h1 : a.row = ps.map (·.2)) (h2 : a.came = qs.map (·.2)) : AR S w (.pointer (some ⟨g, 0, none⟩)) a := ⟨g, f, vr, vc, ps, qs, rfl, h, h1, h2⟩
/-- What Do leaves. -/
def DoP (S : Nat → Prop) (w : World) (v : Value) (a : Ar) (x y : Int) (e : Ending) (w' : World) : Prop := e = .returned (.int .i64 (doE a x y)) ∧ Only S w w' ∧ AR S w' v (doS a x y)
theorem three_cells {w : World} {g t : Nat} {x y z : Value} (h : w.heap[g]? = some (.cells #[x, y, z] t (0, 0))) : w.cell? ⟨g, 0, none⟩ = some x ∧ w.cell? ⟨g, 1, none⟩ = some y ∧ w.cell? ⟨g, 2, none⟩ = some z :=
  ⟨by rw [cell_of_row w g _ _ _ _ h]; rfl, by rw [cell_of_row w g _ _ _ _ h]; rfl, by rw [cell_of_row w g _ _ _ _ h]; rfl⟩
set_option maxHeartbeats 1600000 in
set_option maxRecDepth 100000 in
theorem do_bad {S : Nat → Prop} (w : World) (v : Value) (a : Ar) (x y : Int) (h : AR S w v a) (hb : doE a x y ≠ 0) : Calls Try.prog 16 #[v, .int .u8 x, .int .i64 y] w fun e w' => DoP S w v a x y e w' := by
  have HA := hid h
  obtain ⟨g, f, vr, vc, ps, qs, rfl, h, hrow, hcame⟩ := h
  have HS : Hid (doS a x y = a) := by show doS a x y = a; unfold doS; rw [if_neg hb]
  obtain ⟨c0, -⟩ := two_cells h.hg
  obtain ⟨ao, cap, rfl⟩ := h.row.form
  have hl : a.row.length = ps.length := by rw [hrow]; simp
  by_cases h4 : 4 < x
  · have hd : decide ((4 : Int) < x) = true := decide_eq_true h4
    have HE : Hid (doE a x y = 2) := by show doE a x y = 2; unfold doE; rw [if_pos (show bad x y from Or.inl h4)]
    clear h hb hrow hcame
    go_enter Try.func16, Try.ntmps16
    go_wp2
    go_ret
    exact ⟨by rw [HE.out]; rfl, Only.refl _ _, by rw [HS.out]; exact HA.out⟩
  · have hd : decide ((4 : Int) < x) = false := decide_eq_false h4
    by_cases h0 : y < 0
    · have hd0 : decide (y < 0) = true := decide_eq_true h0
      have HE : Hid (doE a x y = 2) := by show doE a x y = 2; unfold doE; rw [if_pos (show bad x y from Or.inr h0)]
      clear h hb hrow hcame
      go_enter Try.func16, Try.ntmps16
      go_wp2
      go_ret
      exact ⟨by rw [HE.out]; rfl, Only.refl _ _, by rw [HS.out]; exact HA.out⟩
    · have hd0 : decide (y < 0) = false := decide_eq_false h0
      have hne : ¬ bad x y := by unfold bad; omega
      have hz : ps.length = 0 := by
        rcases Nat.eq_zero_or_pos ps.length with e | e
        · exact e
        · exact absurd (by unfold doE; rw [if_neg hne, if_neg (by omega)]) hb
      have HE : Hid (doE a x y = 5) := by show doE a x y = 5; unfold doE; rw [if_neg hne, if_pos (by omega)]
      have hq : ((ps.length : Int) == 0) = true := by rw [hz]; rfl
      clear h hb hrow hcame hl hne hz
      go_enter Try.func16, Try.ntmps16
      go_wp2
      go_ret
      exact ⟨by rw [HE.out]; rfl, Only.refl _ _, by rw [HS.out]; exact HA.out⟩
set_option maxHeartbeats 3200000 in
set_option maxRecDepth 100000 in
theorem do_0 {S : Nat → Prop} (w : World) (v : Value) (a : Ar) (y : Int) (h : AR S w v a) (hf : Fresh S w) (hy : y < 9223372036854775808) (hE : doE a 0 y = 0) (hlr : a.row.length < 1000000) (hlc : a.came.length < 1000000) : Calls Try.prog 16 #[v, .int .u8 0, .int .i64 y] w fun e w' => DoP S w v a 0 y e w' := by
  obtain ⟨g, f, vr, vc, ps, qs, rfl, h, hrow, hcame⟩ := h
  have hl : a.row.length = ps.length := by rw [hrow]; simp
  have hl2 : a.came.length = qs.length := by rw [hcame]; simp
  have h0 : 0 ≤ y ∧ ps.length ≠ 0 := by
    unfold doE at hE
    split at hE
    · cases hE
    · rename_i hb
      split at hE
      · cases hE
      · exact ⟨by unfold bad at hb; omega, by omega⟩
  have hd0 : decide (y < 0) = false := decide_eq_false (by omega)
  have hq : ((ps.length : Int) == 0) = false := beq_eq_false_iff_ne.2 (by omega)
  have hq' : ¬ (ps.length : Int) = 0 := by omega
  obtain ⟨p, hp⟩ : ∃ p, p = plc a y := ⟨_, rfl⟩
  have hpl : p < ps.length := by rw [hp, ← hl]; exact plc_lt h0.1 (by omega)
  have hp1 : y.tmod (ps.length : Int) = (p : Int) := by
    have := Int.tmod_nonneg (ps.length : Int) h0.1
    rw [hp]; unfold plc; rw [hl]; omega
  have hp2 : y % (ps.length : Int) = (p : Int) := by rw [← Int.tmod_eq_emod_of_nonneg h0.1]; exact hp1
  have HDo : Hid (doS a 0 y = doG a 0 y) := by show doS a 0 y = doG a 0 y; unfold doS; rw [if_pos hE]
  have HE := hid hE
  obtain ⟨u, hu⟩ : ∃ u, u = ps[p].1 := ⟨_, rfl⟩
  obtain ⟨d, hd⟩ : ∃ d, d = ps[p].2 := ⟨_, rfl⟩
  have hpr := h.pr _ (List.getElem_mem hpl)
  rw [← hu, ← hd] at hpr
  have HPr := hid hpr
  obtain ⟨ua, uc, rfl, -⟩ := hpr.1
  have hpk : pick a y = d := by
    unfold pick
    rw [← hp, hrow, hd, List.getD_eq_getElem?_getD, List.getElem?_map, List.getElem?_eq_getElem hpl]; rfl
  have HU := hid hu
  have HD := hid hd
  have HP := hid hp
  have HPk := hid hpk
  have HRow := hid hrow
  have HCame := hid hcame
  have HL := hid hl
  have hgl := (Array.getElem?_eq_some_iff.1 h.hg).1
  obtain ⟨c0, c1, c2, c9⟩ := two_cells h.hg
  have hdl := hpr.1.len
  have H := hid h
  have HCut := hid (cut_any w g vr vc ps qs p h hf hpl (by omega))
  rw [← HU.out, ← HD.out] at HCut
  have HFr := hid hf
  have HGl := hid hgl
  clear hu hd hp hrow hcame hpr hpk hf hE hl hgl h
  obtain ⟨ao, cap, rfl⟩ : ∃ ao cap, vr = .slice ao ps.length cap := H.out.row.form
  go_enter Try.func16, Try.ntmps16
  go_upto_region 12 with (first
    | (go_at_call 23; refine (HCut.out).mono ?_; rintro e w1 ⟨vr1, rfl, hO1, hA1, hS1⟩; have HO1 := hid hO1; have HA1 := hid hA1; have HS1 := hid hS1; clear hO1 hA1 hS1)
    | (refine stNew 50 (.tmp 9) (.tmp 41) rfl rfl w1 50 z3 #[.slice ua d.b.length uc, .bool d.ch, .int .i64 (d.pl : Nat)] rfl rfl rfl (size3 _ _ _) rfl (one3 rfl _ _) ?_))
  obtain ⟨W2, hW2⟩ : ∃ W2, W2 = w1.alloc (.cells #[.slice ua d.b.length uc, .bool d.ch, .int .i64 (d.pl : Nat)] 50) := ⟨_, rfl⟩
  rw [← hW2]
  have hB2 : Below w1.heap.size w1 W2 := by rw [hW2]; exact (Below.refl _ _).alloc (Nat.le_refl _) _
  have hg1l := (Array.getElem?_eq_some_iff.1 HA1.out.hg).1
  have hg2 : W2.heap[g]? = _ := (hB2.block g hg1l).trans HA1.out.hg
  have hd2 : W2.heap[w1.heap.size]? = some (.cells #[.slice ua d.b.length uc, .bool d.ch, .int .i64 (d.pl : Nat)] 50 (0, 0)) := by rw [hW2]; exact heap_alloc_new _ _
  obtain ⟨y0, y1, y2, y3⟩ := two_cells hg2
  obtain ⟨z0, z1, z2⟩ := three_cells hd2
  have hB3 : Below w1.heap.size w1 (W2.alloc (.cells #[.slice ua d.b.length uc, .bool d.ch, .int .i64 (d.pl : Nat)] 50)).drew := (hB2.alloc hB2.size _).drew
  have hg3 : (W2.alloc (.cells #[.slice ua d.b.length uc, .bool d.ch, .int .i64 (d.pl : Nat)] 50)).drew.heap[g]? = _ := (hB3.block g hg1l).trans HA1.out.hg
  obtain ⟨x0, x1, x2, x3⟩ := two_cells hg3
  have HF1 : Hid (Fresh S w1) := HFr.out.on HO1.out.size
  have HQ : Hid (SlC (fun k => S k ∧ paint f w1.heap.size w1.heap.size 2 k = 3) w1 (.slice ua d.b.length uc) d.b ∧ d.Ok) := ⟨HS1.out.carry fun k hk hS => ⟨⟨hS.1, (paint_old hk).trans hS.2⟩, rfl⟩, HPr.out.2⟩
  have HR1 : Hid (Rw (fun k => S k ∧ paint f w1.heap.size w1.heap.size 2 k = 2) 3 50 (W2.alloc (.cells #[.slice ua d.b.length uc, .bool d.ch, .int .i64 (d.pl : Nat)] 50)).drew vc qs.length (c3s qs)) := HA1.out.came.carry fun k hk hS => ⟨⟨hS.1, (paint_old hk).trans hS.2⟩, hB3.block k hk⟩
  have HNW : Hid (∀ j x, (c3 (.slice ua d.b.length uc, d))[j]? = some x → (W2.alloc (.cells #[.slice ua d.b.length uc, .bool d.ch, .int .i64 (d.pl : Nat)] 50)).drew.cell? (Addr.add ⟨W2.heap.size, 0, none⟩ j) = some x) := fun j x hx => one_cells (w := W2) (q := (.slice ua d.b.length uc, d)) j x hx
  have HON : Hid (∀ x ∈ c3 (.slice ua d.b.length uc, d), x.oneCell' = true) := fun x hx => c3_ones (Prs.one (q := (.slice ua d.b.length uc, d)) HQ.out) x (by rw [c3s_one]; exact hx)
  have HB3 := hid hB3
  obtain ⟨sa, sk, rfl⟩ := HR1.out.form
  have hsz : qs.length + 1 < 2147483648 := by
    omega
  clear hW2 hB2 hg2 hd2 hB3 hg3 HCut
  go_region_law (refine stepRw (S := fun k => S k ∧ paint f w1.heap.size w1.heap.size 2 k = 2) (k := 3) (t := 50) (n := qs.length) (m := 1) (c := 1) (xs := c3s qs) (us := c3 (.slice ua d.b.length uc, d)) (ad := ⟨W2.heap.size, 0, none⟩) (.tmp 46) (.tmp 48) 45 rfl rfl rfl rfl Try.underlying45 infoD rfl (by omega) (by omega) HR1.out rfl HNW.out HON.out hsz (Or.inl (by omega)) ?_
                 intro v3 w3 A3 R3
                 obtain ⟨a3, k3, rfl⟩ := R3.form
                 have HF := hid (came_fin (q := (.slice ua d.b.length uc, d)) HA1.out HF1.out (Below.refl _ _) HB3.out HQ.out A3 R3)
                 have hg4 : w3.heap[g]? = _ := (A3.block g (Nat.lt_of_lt_of_le (Array.getElem?_eq_some_iff.1 HA1.out.hg).1 HB3.out.size) (fun e' => by have h1 := HA1.out.came.own g e'; have h2 := HA1.out.fg; have := h1.2; omega)).trans ((HB3.out.block g (Array.getElem?_eq_some_iff.1 HA1.out.hg).1).trans HA1.out.hg)
                 obtain ⟨q0, q1, q2, q3⟩ := two_cells hg4
                 clear A3 R3 hg4)
  all_goals (
    go_wp2
    go_ret
    refine ⟨by rw [HE.out]; rfl, HO1.out.trans HF.out.1, ?_⟩
    rw [HDo.out]
    refine AR.mk HF.out.2 ?_ ?_
    · unfold doG; rw [if_pos rfl, map_erase, ← HRow.out, HP.out]
    · unfold doG; rw [if_pos rfl, HPk.out, List.map_append, ← HCame.out]; rfl)
set_option maxHeartbeats 3200000 in
set_option maxRecDepth 100000 in
theorem do_1 {S : Nat → Prop} (w : World) (v : Value) (a : Ar) (y : Int) (h : AR S w v a) (hf : Fresh S w) (hy : y < 9223372036854775808) (hE : doE a 1 y = 0) (hlr : a.row.length < 1000000) (_hlc : a.came.length < 1000000) : Calls Try.prog 16 #[v, .int .u8 1, .int .i64 y] w fun e w' => DoP S w v a 1 y e w' := by
  obtain ⟨g, f, vr, vc, ps, qs, rfl, h, hrow, hcame⟩ := h
  have hl : a.row.length = ps.length := by rw [hrow]; simp
  have hl2 : a.came.length = qs.length := by rw [hcame]; simp
  have h0 : 0 ≤ y ∧ ps.length ≠ 0 := by
    unfold doE at hE
    split at hE
    · cases hE
    · rename_i hb
      split at hE
      · cases hE
      · exact ⟨by unfold bad at hb; omega, by omega⟩
  have hd0 : decide (y < 0) = false := decide_eq_false (by omega)
  have hq : ((ps.length : Int) == 0) = false := beq_eq_false_iff_ne.2 (by omega)
  have hq' : ¬ (ps.length : Int) = 0 := by omega
  obtain ⟨p, hp⟩ : ∃ p, p = plc a y := ⟨_, rfl⟩
  have hpl : p < ps.length := by rw [hp, ← hl]; exact plc_lt h0.1 (by omega)
  have hp1 : y.tmod (ps.length : Int) = (p : Int) := by
    have := Int.tmod_nonneg (ps.length : Int) h0.1
    rw [hp]; unfold plc; rw [hl]; omega
  have hp2 : y % (ps.length : Int) = (p : Int) := by rw [← Int.tmod_eq_emod_of_nonneg h0.1]; exact hp1
  have HDo : Hid (doS a 1 y = doG a 1 y) := by show doS a 1 y = doG a 1 y; unfold doS; rw [if_pos hE]
  have HE := hid hE
  obtain ⟨u, hu⟩ : ∃ u, u = ps[p].1 := ⟨_, rfl⟩
  obtain ⟨d, hd⟩ : ∃ d, d = ps[p].2 := ⟨_, rfl⟩
  have hpr := h.pr _ (List.getElem_mem hpl)
  rw [← hu, ← hd] at hpr
  have HPr := hid hpr
  obtain ⟨ua, uc, rfl, -⟩ := hpr.1
  have hpk : pick a y = d := by
    unfold pick
    rw [← hp, hrow, hd, List.getD_eq_getElem?_getD, List.getElem?_map, List.getElem?_eq_getElem hpl]; rfl
  have HU := hid hu
  have HD := hid hd
  have HP := hid hp
  have HPk := hid hpk
  have HRow := hid hrow
  have HCame := hid hcame
  have HL := hid hl
  have hgl := (Array.getElem?_eq_some_iff.1 h.hg).1
  obtain ⟨c0, c1, c2, c9⟩ := two_cells h.hg
  have hdl := hpr.1.len
  have H := hid h
  have HCut := hid (cut_any w g vr vc ps qs p h hf hpl (by omega))
  rw [← HU.out, ← HD.out] at HCut
  clear hu hd hp hrow hcame hpr hpk hf hE hl hgl h
  obtain ⟨ao, cap, rfl⟩ : ∃ ao cap, vr = .slice ao ps.length cap := H.out.row.form
  go_enter Try.func16, Try.ntmps16
  go_wp2_with (go_at_call 23; refine (HCut.out).mono ?_; rintro e w1 ⟨vr1, rfl, hO1, hA1, hS1⟩; have HO1 := hid hO1; have HA1 := hid hA1; clear hO1 hA1 hS1)
  go_ret
  refine ⟨by rw [HE.out]; rfl, HO1.out, ?_⟩
  rw [HDo.out]
  refine AR.mk HA1.out ?_ ?_
  · unfold doG; rw [if_neg (by omega), if_pos rfl, map_erase, ← HRow.out, HP.out]
  · unfold doG; rw [if_neg (by omega), if_pos rfl]; exact HCame.out
set_option maxHeartbeats 3200000 in
set_option maxRecDepth 100000 in
theorem do_2 {S : Nat → Prop} (w : World) (v : Value) (a : Ar) (y : Int) (h : AR S w v a) (hf : Fresh S w) (hy : y < 9223372036854775808) (hE : doE a 2 y = 0) (hlr : a.row.length < 1000000) (_hlc : a.came.length < 1000000) : Calls Try.prog 16 #[v, .int .u8 2, .int .i64 y] w fun e w' => DoP S w v a 2 y e w' := by
  obtain ⟨g, f, vr, vc, ps, qs, rfl, h, hrow, hcame⟩ := h
  have hl : a.row.length = ps.length := by rw [hrow]; simp
  have hl2 : a.came.length = qs.length := by rw [hcame]; simp
  have h0 : 0 ≤ y ∧ ps.length ≠ 0 := by
    unfold doE at hE
    split at hE
    · cases hE
    · rename_i hb
      split at hE
      · cases hE
      · exact ⟨by unfold bad at hb; omega, by omega⟩
  have hd0 : decide (y < 0) = false := decide_eq_false (by omega)
  have hq : ((ps.length : Int) == 0) = false := beq_eq_false_iff_ne.2 (by omega)
  have hq' : ¬ (ps.length : Int) = 0 := by omega
  obtain ⟨p, hp⟩ : ∃ p, p = plc a y := ⟨_, rfl⟩
  have hpl : p < ps.length := by rw [hp, ← hl]; exact plc_lt h0.1 (by omega)
  have hp1 : y.tmod (ps.length : Int) = (p : Int) := by
    have := Int.tmod_nonneg (ps.length : Int) h0.1
    rw [hp]; unfold plc; rw [hl]; omega
  have hp2 : y % (ps.length : Int) = (p : Int) := by rw [← Int.tmod_eq_emod_of_nonneg h0.1]; exact hp1
  have HDo : Hid (doS a 2 y = doG a 2 y) := by show doS a 2 y = doG a 2 y; unfold doS; rw [if_pos hE]
  have HE := hid hE
  obtain ⟨u, hu⟩ : ∃ u, u = ps[p].1 := ⟨_, rfl⟩
  obtain ⟨d, hd⟩ : ∃ d, d = ps[p].2 := ⟨_, rfl⟩
  have hpr := h.pr _ (List.getElem_mem hpl)
  rw [← hu, ← hd] at hpr
  have HPr := hid hpr
  obtain ⟨ua, uc, rfl, -⟩ := hpr.1
  have hpk : pick a y = d := by
    unfold pick
    rw [← hp, hrow, hd, List.getD_eq_getElem?_getD, List.getElem?_map, List.getElem?_eq_getElem hpl]; rfl
  have HU := hid hu
  have HD := hid hd
  have HP := hid hp
  have HPk := hid hpk
  have HRow := hid hrow
  have HCame := hid hcame
  have HL := hid hl
  have hgl := (Array.getElem?_eq_some_iff.1 h.hg).1
  obtain ⟨c0, c1, c2, c9⟩ := two_cells h.hg
  have hdl := hpr.1.len
  have H := hid h
  have hr := h.row
  rcases hr with ⟨hx, ⟨_, hz0⟩ | ⟨b, o, cap, cur, rfl, hb1, hb2, hb3, hb4, hb5⟩⟩
  · omega
  have hat : ∀ i, i < 3 → w.cell? ⟨b, o + p * 3 + i, none⟩ = (#[.slice ua d.b.length uc, .bool d.ch, .int .i64 (d.pl : Nat)] : Array Value)[i]? := by
    intro i hi
    rw [cell_of_row w b _ cur 50 (0, 0) hb2, Nat.add_assoc, cells_at hb5 (by omega), c3s_at ps p i hpl hi, hu, hd]
    have : i = 0 ∨ i = 1 ∨ i = 2 := by omega
    rcases this with rfl | rfl | rfl <;> rfl
  have t0 : w.cell? ⟨b, o + p * 3, none⟩ = some (.slice ua d.b.length uc) := hat 0 (by omega)
  have t1 : w.cell? ⟨b, o + p * 3 + 1, none⟩ = some (.bool d.ch) := hat 1 (by omega)
  have t2 : w.cell? ⟨b, o + p * 3 + 2, none⟩ = some (.int .i64 (d.pl : Nat)) := hat 2 (by omega)
  have hbp : decide ((p : Int) < (ps.length : Int)) = true := by simp; omega
  have HFr := hid hf
  have hB3 : Below w.heap.size w (w.alloc (.cells #[.slice ua d.b.length uc, .bool d.ch, .int .i64 (d.pl : Nat)] 50)).drew := ((Below.refl _ _).alloc (Nat.le_refl _) _).drew
  have hg3 : (w.alloc (.cells #[.slice ua d.b.length uc, .bool d.ch, .int .i64 (d.pl : Nat)] 50)).drew.heap[g]? = _ := (hB3.block g hgl).trans h.hg
  obtain ⟨x0, x1, x2, x3⟩ := two_cells hg3
  have HQ : Hid (SlC (fun k => S k ∧ paint f w.heap.size w.heap.size 1 k = 3) w (.slice ua d.b.length uc) d.b ∧ d.Ok) := ⟨HPr.out.1.carry fun k hk hS => ⟨⟨hS.1, (paint_old hk).trans hS.2⟩, rfl⟩, HPr.out.2⟩
  have HR1 : Hid (Rw (fun k => S k ∧ paint f w.heap.size w.heap.size 1 k = 1) 3 50 (w.alloc (.cells #[.slice ua d.b.length uc, .bool d.ch, .int .i64 (d.pl : Nat)] 50)).drew (.slice (some ⟨b, o, none⟩) ps.length cap) ps.length (c3s ps)) := h.row.carry fun k hk hS => ⟨⟨hS.1, (paint_old hk).trans hS.2⟩, hB3.block k hk⟩
  have HNW : Hid (∀ j x, (c3 (.slice ua d.b.length uc, d))[j]? = some x → (w.alloc (.cells #[.slice ua d.b.length uc, .bool d.ch, .int .i64 (d.pl : Nat)] 50)).drew.cell? (Addr.add ⟨w.heap.size, 0, none⟩ j) = some x) := fun j x hx => one_cells (w := w) (q := (.slice ua d.b.length uc, d)) j x hx
  have HON : Hid (∀ x ∈ c3 (.slice ua d.b.length uc, d), x.oneCell' = true) := fun x hx => c3_ones (Prs.one (q := (.slice ua d.b.length uc, d)) HQ.out) x (by rw [c3s_one]; exact hx)
  have HB3 := hid hB3
  have HGl := hid hgl
  have hsz : ps.length + 1 < 2147483648 := by omega
  clear hu hd hp hrow hcame hpr hpk hf hE hl hgl h hB3 hg3 hat hb2 hb4 hb5 hx
  go_enter Try.func16, Try.ntmps16
  go_upto_region 16 with fail
  go_region_law (refine stepRw (S := fun k => S k ∧ paint f w.heap.size w.heap.size 1 k = 1) (k := 3) (t := 50) (n := ps.length) (m := 1) (c := 1) (xs := c3s ps) (us := c3 (.slice ua d.b.length uc, d)) (ad := ⟨w.heap.size, 0, none⟩) (.tmp 63) (.tmp 71) 45 rfl rfl rfl rfl Try.underlying45 infoD rfl (by omega) (by omega) HR1.out rfl HNW.out HON.out hsz (Or.inl (by omega)) ?_
                 intro v3 w3 A3 R3
                 obtain ⟨a3, k3, rfl⟩ := R3.form
                 have HF := hid (row_fin (q := (.slice ua d.b.length uc, d)) H.out HFr.out (Below.refl _ _) HB3.out HQ.out A3 R3)
                 have hg4 : w3.heap[g]? = _ := (A3.block g (Nat.lt_of_lt_of_le HGl.out HB3.out.size) (fun e' => by have h1 := H.out.row.own g e'; have h2 := H.out.fg; have := h1.2; omega)).trans ((HB3.out.block g HGl.out).trans H.out.hg)
                 obtain ⟨q0, q1, q2, q3⟩ := two_cells hg4
                 clear A3 R3 hg4)
  all_goals (
    go_wp2
    go_ret
    refine ⟨by rw [HE.out]; rfl, HF.out.1, ?_⟩
    rw [HDo.out]
    refine AR.mk HF.out.2 ?_ ?_
    · unfold doG; rw [if_neg (by omega), if_neg (by omega), if_pos rfl, List.map_append, ← HRow.out, HPk.out]; rfl
    · unfold doG; rw [if_neg (by omega), if_neg (by omega), if_pos rfl]; exact HCame.out)
set_option maxHeartbeats 3200000 in
set_option maxRecDepth 100000 in
theorem do_3 {S : Nat → Prop} (w : World) (v : Value) (a : Ar) (y : Int) (h : AR S w v a) (_hf : Fresh S w) (hy : y < 9223372036854775808) (hE : doE a 3 y = 0) (_hlr : a.row.length < 1000000) (_hlc : a.came.length < 1000000) : Calls Try.prog 16 #[v, .int .u8 3, .int .i64 y] w fun e w' => DoP S w v a 3 y e w' := by
  obtain ⟨g, f, vr, vc, ps, qs, rfl, h, hrow, hcame⟩ := h
  have hl : a.row.length = ps.length := by rw [hrow]; simp
  have hl2 : a.came.length = qs.length := by rw [hcame]; simp
  have h0 : 0 ≤ y ∧ ps.length ≠ 0 := by
    unfold doE at hE
    split at hE
    · cases hE
    · rename_i hb
      split at hE
      · cases hE
      · exact ⟨by unfold bad at hb; omega, by omega⟩
  have hd0 : decide (y < 0) = false := decide_eq_false (by omega)
  have hq : ((ps.length : Int) == 0) = false := beq_eq_false_iff_ne.2 (by omega)
  have hq' : ¬ (ps.length : Int) = 0 := by omega
  obtain ⟨p, hp⟩ : ∃ p, p = plc a y := ⟨_, rfl⟩
  have hpl : p < ps.length := by rw [hp, ← hl]; exact plc_lt h0.1 (by omega)
  have hp1 : y.tmod (ps.length : Int) = (p : Int) := by
    have := Int.tmod_nonneg (ps.length : Int) h0.1
    rw [hp]; unfold plc; rw [hl]; omega
  have hp2 : y % (ps.length : Int) = (p : Int) := by rw [← Int.tmod_eq_emod_of_nonneg h0.1]; exact hp1
  have HDo : Hid (doS a 3 y = doG a 3 y) := by show doS a 3 y = doG a 3 y; unfold doS; rw [if_pos hE]
  have HE := hid hE
  obtain ⟨u, hu⟩ : ∃ u, u = ps[p].1 := ⟨_, rfl⟩
  obtain ⟨d, hd⟩ : ∃ d, d = ps[p].2 := ⟨_, rfl⟩
  have hpr := h.pr _ (List.getElem_mem hpl)
  rw [← hu, ← hd] at hpr
  have HPr := hid hpr
  obtain ⟨ua, uc, rfl, -⟩ := hpr.1
  have hpk : pick a y = d := by
    unfold pick
    rw [← hp, hrow, hd, List.getD_eq_getElem?_getD, List.getElem?_map, List.getElem?_eq_getElem hpl]; rfl
  have HU := hid hu
  have HD := hid hd
  have HP := hid hp
  have HPk := hid hpk
  have HRow := hid hrow
  have HCame := hid hcame
  have HL := hid hl
  have hgl := (Array.getElem?_eq_some_iff.1 h.hg).1
  obtain ⟨c0, c1, c2, c9⟩ := two_cells h.hg
  have hdl := hpr.1.len
  have H := hid h
  have hr := h.row
  rcases hr with ⟨hx, ⟨_, hz0⟩ | ⟨b, o, cap, cur, rfl, hb1, hb2, hb3, hb4, hb5⟩⟩
  · omega
  have hat : ∀ i, i < 3 → w.cell? ⟨b, o + p * 3 + i, none⟩ = (#[.slice ua d.b.length uc, .bool d.ch, .int .i64 (d.pl : Nat)] : Array Value)[i]? := by
    intro i hi
    rw [cell_of_row w b _ cur 50 (0, 0) hb2, Nat.add_assoc, cells_at hb5 (by omega), c3s_at ps p i hpl hi, hu, hd]
    have : i = 0 ∨ i = 1 ∨ i = 2 := by omega
    rcases this with rfl | rfl | rfl <;> rfl
  have t0 : w.cell? ⟨b, o + p * 3, none⟩ = some (.slice ua d.b.length uc) := hat 0 (by omega)
  have t1 : w.cell? ⟨b, o + p * 3 + 1, none⟩ = some (.bool d.ch) := hat 1 (by omega)
  have t2 : w.cell? ⟨b, o + p * 3 + 2, none⟩ = some (.int .i64 (d.pl : Nat)) := hat 2 (by omega)
  have hbp : decide ((p : Int) < (ps.length : Int)) = true := by simp; omega
  have HZ : Hid (∀ j, w.drew.frozen? ⟨b, j, none⟩ = false) := fun j => by show w.frozen? _ = _; simp [World.frozen?, hb2]
  have HC2 := hid hb2
  have HC4 := hid hb4
  have HC5 := hid hb5
  have hk0 : 0 ≤ y.tdiv (ps.length : Int) := Int.tdiv_nonneg h0.1 (Int.natCast_nonneg _)
  have hk1 : y / (ps.length : Int) = y.tdiv (ps.length : Int) := (Int.tdiv_eq_ediv_of_nonneg h0.1).symm
  have hk2 : y.tdiv (ps.length : Int) ≤ y := by rw [← hk1]; exact Int.ediv_le_self _ h0.1
  have hk3 : IntKind.i64.wrap (y.tdiv (ps.length : Int)) = y.tdiv (ps.length : Int) := by rw [IntKind.wrap_i64]; omega
  have HK1 := hid hk1
  clear hu hd hp hrow hcame hpr hpk _hf hE hl hgl h hat hb2 hb4 hb5 hx
  go_enter Try.func16, Try.ntmps16
  go_upto_region 18 with fail
  go_region_law (refine stepChange (.tmp 82) (.tmp 85) rfl rfl b (o + p * 3) (.slice ua d.b.length uc) d (y.tdiv (ps.length : Int)) ua uc (by simp [Act.eval, Act.put]) (by first | rfl | (simp [Act.eval, Act.put]; done) | (simp [Act.eval, Act.put, HK1.out]; done)) rfl t0 t1 t2 HZ.out hk0 hdl ?_
                 intro w1 hw1
                 have HF : Hid (Only S w w1 ∧ ARf S f w1 g (.slice (some ⟨b, o, none⟩) ps.length cap) vc (ps.set p (ps[p].1, chg ps[p].2 (y.tdiv (ps.length : Int)))) qs) := by
                   rw [HD.out] at hw1
                   have := chg_fin (w := w.drew) (H.out.carry fun k hk hS => ⟨hS, rfl, rfl⟩) HC2.out hb3 HC4.out HC5.out p hpl (y.tdiv (ps.length : Int)) hk0 hw1
                   exact ⟨⟨this.1.os, this.1.tape, this.1.output, this.1.size, this.1.block⟩, this.2⟩
                 clear hw1)
  all_goals (
    go_wp2
    go_ret
    refine ⟨by rw [HE.out]; rfl, HF.out.1, ?_⟩
    rw [HDo.out]
    refine AR.mk HF.out.2 ?_ ?_
    · unfold doG; rw [if_neg (by omega), if_neg (by omega), if_neg (by omega), if_pos rfl, List.map_set, ← HRow.out, HPk.out, HL.out, ← HP.out, ← HD.out]
    · unfold doG; rw [if_neg (by omega), if_neg (by omega), if_neg (by omega), if_pos rfl]; exact HCame.out)
set_option maxHeartbeats 3200000 in
set_option maxRecDepth 100000 in
theorem do_4 {S : Nat → Prop} (w : World) (v : Value) (a : Ar) (y : Int) (h : AR S w v a) (hf : Fresh S w) (hy : y < 9223372036854775808) (hE : doE a 4 y = 0) (hlr : a.row.length < 1000000) (_hlc : a.came.length < 1000000) : Calls Try.prog 16 #[v, .int .u8 4, .int .i64 y] w fun e w' => DoP S w v a 4 y e w' := by
  obtain ⟨g, f, vr, vc, ps, qs, rfl, h, hrow, hcame⟩ := h
  have hl : a.row.length = ps.length := by rw [hrow]; simp
  have hl2 : a.came.length = qs.length := by rw [hcame]; simp
  have h0 : 0 ≤ y ∧ ps.length ≠ 0 := by
    unfold doE at hE
    split at hE
    · cases hE
    · rename_i hb
      split at hE
      · cases hE
      · exact ⟨by unfold bad at hb; omega, by omega⟩
  have hd0 : decide (y < 0) = false := decide_eq_false (by omega)
  have hq : ((ps.length : Int) == 0) = false := beq_eq_false_iff_ne.2 (by omega)
  have hq' : ¬ (ps.length : Int) = 0 := by omega
  obtain ⟨p, hp⟩ : ∃ p, p = plc a y := ⟨_, rfl⟩
  have hpl : p < ps.length := by rw [hp, ← hl]; exact plc_lt h0.1 (by omega)
  have hp1 : y.tmod (ps.length : Int) = (p : Int) := by
    have := Int.tmod_nonneg (ps.length : Int) h0.1
    rw [hp]; unfold plc; rw [hl]; omega
  have hp2 : y % (ps.length : Int) = (p : Int) := by rw [← Int.tmod_eq_emod_of_nonneg h0.1]; exact hp1
  have HDo : Hid (doS a 4 y = doG a 4 y) := by show doS a 4 y = doG a 4 y; unfold doS; rw [if_pos hE]
  have HE := hid hE
  obtain ⟨u, hu⟩ : ∃ u, u = ps[p].1 := ⟨_, rfl⟩
  obtain ⟨d, hd⟩ : ∃ d, d = ps[p].2 := ⟨_, rfl⟩
  have hpr := h.pr _ (List.getElem_mem hpl)
  rw [← hu, ← hd] at hpr
  have HPr := hid hpr
  obtain ⟨ua, uc, rfl, -⟩ := hpr.1
  have hpk : pick a y = d := by
    unfold pick
    rw [← hp, hrow, hd, List.getD_eq_getElem?_getD, List.getElem?_map, List.getElem?_eq_getElem hpl]; rfl
  have HU := hid hu
  have HD := hid hd
  have HP := hid hp
  have HPk := hid hpk
  have HRow := hid hrow
  have HCame := hid hcame
  have HL := hid hl
  have hgl := (Array.getElem?_eq_some_iff.1 h.hg).1
  obtain ⟨c0, c1, c2, c9⟩ := two_cells h.hg
  have hdl := hpr.1.len
  have H := hid h
  have HCut := hid (cut_any w g vr vc ps qs p h hf hpl (by omega))
  rw [← HU.out, ← HD.out] at HCut
  have HFr := hid hf
  have HGl := hid hgl
  clear hu hd hp hrow hcame hpr hpk hf hE hl hgl h
  obtain ⟨ao, cap, rfl⟩ : ∃ ao cap, vr = .slice ao ps.length cap := H.out.row.form
  go_enter Try.func16, Try.ntmps16
  go_upto_region 21 with (first
    | (go_at_call 23; refine (HCut.out).mono ?_; rintro e w1 ⟨vr1, rfl, hO1, hA1, hS1⟩; have HO1 := hid hO1; have HA1 := hid hA1; have HS1 := hid hS1; clear hO1 hA1 hS1)
    | (refine stNew 50 (.tmp 10) (.tmp 91) rfl rfl w1 50 z3 #[.slice ua d.b.length uc, .bool d.ch, .int .i64 (d.pl : Nat)] rfl rfl rfl (size3 _ _ _) rfl (one3 rfl _ _) ?_))
  obtain ⟨W2, hW2⟩ : ∃ W2, W2 = w1.alloc (.cells #[.slice ua d.b.length uc, .bool d.ch, .int .i64 (d.pl : Nat)] 50) := ⟨_, rfl⟩
  rw [← hW2]
  have hB2 : Below w1.heap.size w1 W2 := by rw [hW2]; exact (Below.refl _ _).alloc (Nat.le_refl _) _
  have hg1l := (Array.getElem?_eq_some_iff.1 HA1.out.hg).1
  have hg2 : W2.heap[g]? = _ := (hB2.block g hg1l).trans HA1.out.hg
  have hd2 : W2.heap[w1.heap.size]? = some (.cells #[.slice ua d.b.length uc, .bool d.ch, .int .i64 (d.pl : Nat)] 50 (0, 0)) := by rw [hW2]; exact heap_alloc_new _ _
  obtain ⟨y0, y1, y2, y3⟩ := two_cells hg2
  obtain ⟨z0, z1, z2⟩ := three_cells hd2
  have hB3 : Below w1.heap.size w1 (W2.alloc (.cells #[.slice ua d.b.length uc, .bool d.ch, .int .i64 (d.pl : Nat)] 50)).drew := (hB2.alloc hB2.size _).drew
  have hg3 : (W2.alloc (.cells #[.slice ua d.b.length uc, .bool d.ch, .int .i64 (d.pl : Nat)] 50)).drew.heap[g]? = _ := (hB3.block g hg1l).trans HA1.out.hg
  obtain ⟨x0, x1, x2, x3⟩ := two_cells hg3
  have HF1 : Hid (Fresh S w1) := HFr.out.on HO1.out.size
  have HQ : Hid (SlC (fun k => S k ∧ paint f w1.heap.size w1.heap.size 1 k = 3) w1 (.slice ua d.b.length uc) d.b ∧ d.Ok) := ⟨HS1.out.carry fun k hk hS => ⟨⟨hS.1, (paint_old hk).trans hS.2⟩, rfl⟩, HPr.out.2⟩
  have HR1 : Hid (Rw (fun k => S k ∧ paint f w1.heap.size w1.heap.size 1 k = 1) 3 50 (W2.alloc (.cells #[.slice ua d.b.length uc, .bool d.ch, .int .i64 (d.pl : Nat)] 50)).drew vr1 (ps.eraseIdx p).length (c3s (ps.eraseIdx p))) := HA1.out.row.carry fun k hk hS => ⟨⟨hS.1, (paint_old hk).trans hS.2⟩, hB3.block k hk⟩
  have HNW : Hid (∀ j x, (c3 (.slice ua d.b.length uc, d))[j]? = some x → (W2.alloc (.cells #[.slice ua d.b.length uc, .bool d.ch, .int .i64 (d.pl : Nat)] 50)).drew.cell? (Addr.add ⟨W2.heap.size, 0, none⟩ j) = some x) := fun j x hx => one_cells (w := W2) (q := (.slice ua d.b.length uc, d)) j x hx
  have HON : Hid (∀ x ∈ c3 (.slice ua d.b.length uc, d), x.oneCell' = true) := fun x hx => c3_ones (Prs.one (q := (.slice ua d.b.length uc, d)) HQ.out) x (by rw [c3s_one]; exact hx)
  have HB3 := hid hB3
  obtain ⟨sa, sk, rfl⟩ := HR1.out.form
  have hsz : (ps.eraseIdx p).length + 1 < 2147483648 := by
    have := List.length_eraseIdx_le ps p; have := HL.out; omega
  clear hW2 hB2 hg2 hd2 hB3 hg3 HCut
  go_region_law (refine stepRw (S := fun k => S k ∧ paint f w1.heap.size w1.heap.size 1 k = 1) (k := 3) (t := 50) (n := (ps.eraseIdx p).length) (m := 1) (c := 1) (xs := c3s (ps.eraseIdx p)) (us := c3 (.slice ua d.b.length uc, d)) (ad := ⟨W2.heap.size, 0, none⟩) (.tmp 96) (.tmp 98) 45 rfl rfl rfl rfl Try.underlying45 infoD rfl (by omega) (by omega) HR1.out rfl HNW.out HON.out hsz (Or.inl (by omega)) ?_
                 intro v3 w3 A3 R3
                 obtain ⟨a3, k3, rfl⟩ := R3.form
                 have HF := hid (row_fin (q := (.slice ua d.b.length uc, d)) HA1.out HF1.out (Below.refl _ _) HB3.out HQ.out A3 R3)
                 have hg4 : w3.heap[g]? = _ := (A3.block g (Nat.lt_of_lt_of_le (Array.getElem?_eq_some_iff.1 HA1.out.hg).1 HB3.out.size) (fun e' => by have h1 := HA1.out.row.own g e'; have h2 := HA1.out.fg; have := h1.2; omega)).trans ((HB3.out.block g (Array.getElem?_eq_some_iff.1 HA1.out.hg).1).trans HA1.out.hg)
                 obtain ⟨q0, q1, q2, q3⟩ := two_cells hg4
                 clear A3 R3 hg4)
  all_goals (
    go_wp2
    go_ret
    refine ⟨by rw [HE.out]; rfl, HO1.out.trans HF.out.1, ?_⟩
    rw [HDo.out]
    refine AR.mk HF.out.2 ?_ ?_
    · unfold doG; rw [if_neg (by omega), if_neg (by omega), if_neg (by omega), if_neg (by omega), List.map_append, map_erase, ← HRow.out, HPk.out, HP.out]; rfl
    · unfold doG; rw [if_neg (by omega), if_neg (by omega), if_neg (by omega), if_neg (by omega)]; exact HCame.out)
theorem do_any {S : Nat → Prop} (w : World) (v : Value) (a : Ar) (x y : Int) (h : AR S w v a) (hf : Fresh S w) (hx : 0 ≤ x) (hy : y < 9223372036854775808) (hlr : a.row.length < 1000000) (hlc : a.came.length < 1000000) : Calls Try.prog 16 #[v, .int .u8 x, .int .i64 y] w fun e w' => DoP S w v a x y e w' := by
  by_cases hE : doE a x y = 0
  · have hb : ¬ bad x y := fun hb => by unfold doE at hE; rw [if_pos hb] at hE; cases hE
    have hx4 : x = 0 ∨ x = 1 ∨ x = 2 ∨ x = 3 ∨ x = 4 := by unfold bad at hb; omega
    rcases hx4 with rfl | rfl | rfl | rfl | rfl
    · exact do_0 w v a y h hf hy hE hlr hlc
    · exact do_1 w v a y h hf hy hE hlr hlc
    · exact do_2 w v a y h hf hy hE hlr hlc
    · exact do_3 w v a y h hf hy hE hlr hlc
    · exact do_4 w v a y h hf hy hE hlr hlc
  · exact do_bad w v a x y h hE
end Go.Proofs.Ythgkmbdnkamcoaa
