/-
  Proved here: deep; ParseBrackets returns true. Condition: the tables.
-/
import Derived.Test.YtdpmllfapjjihaaGreatDoorW2
import Derived.Test.YtdpmllfapjjihaaGreatDoorW3
import Derived.Test.YtdpmllfapjjihaaGreatDoorJB
namespace Go.Proofs.YtdpmllfapjjihaaGreatDoor
set_option maxRecDepth 100000
open Go.RowKit
set_option maxRecDepth 100000

theorem deep_nil (w : World) : Calls Tryz.prog 13 #[.nilIface] w fun e w' => e = .returned (.bool true) ∧ w' = w := by
  go_enter Tryz.func13, Tryz.ntmps13
  go_wp2
  go_ret
  exact ⟨rfl, rfl⟩
theorem deep_hit (N a : Nat) (t : ByteArray) (w : World) (hN : w.heap[N]? = some (.cells (flc 200 a t) 67 (0, 0))) : Calls Tryz.prog 13 #[.iface 65 (ptr N)] w fun e w' => e = .returned (.bool true) ∧ w' = w := by
  have HI := hid (is_hit N 200 w ((cell_of_row _ _ _ _ _ _ hN).trans rfl))
  clear hN
  go_enter Tryz.func13, Tryz.ntmps13
  go_wp2_with (go_at_call 28; refine (HI.out).mono ?_; rintro e w' ⟨rfl, rfl⟩)
  go_ret
  exact ⟨rfl, rfl⟩
/-- what Policy told of a text, in memory -/
def Psd (s : ByteArray) (n : Nat) (cs : Array Value) (er : Value) (w : World) : Prop :=
  (∃ p, prs s = .ok p ∧ er = .nilIface ∧ n = p.qs.length ∧ PoV (fun _ => True) w p cs) ∨ (∃ N c a t, prs s = .no c a t ∧ er = .iface 65 (ptr N) ∧ w.heap[N]? = some (.cells (flc c a t) 67 (0, 0)))
theorem Psd.on {s : ByteArray} {n : Nat} {cs : Array Value} {er : Value} {w w' : World} (h : Psd s n cs er w) (hb : Below w.heap.size w w') : Psd s n cs er w' := by
  rcases h with ⟨p, h1, h2, h3, h4⟩ | ⟨N, c, a, t, h1, h2, h3⟩
  · exact Or.inl ⟨p, h1, h2, h3, h4.carry fun b hl _ => ⟨trivial, hb.block b hl⟩⟩
  · exact Or.inr ⟨N, c, a, t, h1, h2, (hb.block _ (Array.getElem?_eq_some_iff.1 h3).1).trans h3⟩
theorem pol_all (s : ByteArray) (w : World) (hT : Tab w) (hs : s.size ≤ 9223372036854775806) : Calls Tryz.prog 9 #[.string s] w fun e w' => Below w.heap.size w w' ∧ ∃ cs er ao n ca, e = .returned (.tuple #[.agg cs, er]) ∧ cs.size = 5 ∧ cs.all (·.oneCell') = true ∧ cs[4]? = some (.slice ao n ca) ∧ Psd s n cs er w' := by
  cases hp : prs s with
  | ok p =>
    refine (pol_ok w hT hs hp).mono ?_
    rintro e w' ⟨hb, cs, rfl, hpv⟩
    have hsz := hpv.size
    have hone := hpv.one
    have hpv' : PoV (fun _ => True) w' p cs := hpv.carry fun b _ _ => ⟨trivial, rfl⟩
    obtain ⟨ms, qv, xs, e1, h2, h3, -⟩ := hpv
    obtain ⟨ao, ca, rfl⟩ := h3.form
    refine ⟨hb, cs, .nilIface, ao, p.qs.length, ca, rfl, hsz, hone, ?_, Or.inl ⟨p, hp, rfl, rfl, hpv'⟩⟩
    rw [e1, Array.getElem?_append_right (by rw [h2.size]; decide), h2.size]
    rfl
  | no c a t =>
    refine (pol_no w hT hs hp).mono ?_
    rintro e w' ⟨hb, N, rfl, -, hN⟩
    exact ⟨hb, _, _, none, 0, 0, rfl, rfl, by kernel_rfl, rfl, Or.inr ⟨N, c, a, t, hp, rfl, hN⟩⟩
/-- a policy that was told, in a variable -/
structure PlS (s : ByteArray) (P n : Nat) (cs : Array Value) (er : Value) (w : World) : Prop where
  row : w.heap[P]? = some (.cells cs 30 (0, 0))
  told : Psd s n cs er w
theorem PlS.on {s : ByteArray} {P n : Nat} {cs : Array Value} {er : Value} {w w' : World} (h : PlS s P n cs er w) (hb : Below w.heap.size w w') : PlS s P n cs er w' :=
  ⟨(hb.block _ (Array.getElem?_eq_some_iff.1 h.row).1).trans h.row, h.told.on hb⟩
theorem PlS.new {s : ByteArray} {n : Nat} {cs : Array Value} {er : Value} {w : World} (h : Psd s n cs er w) : PlS s w.heap.size n cs er (w.alloc (.cells cs 30)) :=
  ⟨heap_alloc_new _ _, h.on ((Below.refl _ _).alloc (Nat.le_refl _) _)⟩
/-- what the last two regions read -/
structure BrR (P1 P2 P3 P4 P5 g5 o5 c5 g4 o4 c4 : Nat) (cs1 cs3 ms1 ms2 d5 d40 d41 : Array Value) (W : World) : Prop where
  r1 : W.rangeAt P1 0 cs1.toList
  r3 : W.rangeAt P3 0 cs3.toList
  t1 : W.rangeAt P1 0 ms1.toList
  t2 : W.rangeAt P2 0 ms2.toList
  s0 : W.cell? ⟨P5, 0, none⟩ = some (.int .i8 10)
  s3 : W.cell? ⟨P5, 3, none⟩ = some (.slice (some ⟨g5, o5, none⟩) 1 c5)
  u5 : W.rangeAt g5 o5 d5.toList
  b0 : W.cell? ⟨P4, 0, none⟩ = some (.int .i8 9)
  b3 : W.cell? ⟨P4, 3, none⟩ = some (.slice (some ⟨g4, o4, none⟩) 2 c4)
  u0 : W.rangeAt g4 o4 d40.toList
  u1 : W.rangeAt g4 (o4 + 4) d41.toList
  l1 : P1 < W.heap.size
  l2 : P2 < W.heap.size
  l3 : P3 < W.heap.size
  l5 : g5 < W.heap.size
  l4 : g4 < W.heap.size
theorem range_on {W W' : World} {g p : Nat} {l : List Value} (h : W.rangeAt g p l) (e : W'.heap[g]? = W.heap[g]?) : W'.rangeAt g p l := fun j v hj => (cell_same e).trans (h j v hj)
theorem BrR.on {P1 P2 P3 P4 P5 g5 o5 c5 g4 o4 c4 : Nat} {cs1 cs3 ms1 ms2 d5 d40 d41 : Array Value} {W W' : World} (h : BrR P1 P2 P3 P4 P5 g5 o5 c5 g4 o4 c4 cs1 cs3 ms1 ms2 d5 d40 d41 W) (hb : Below W.heap.size W W') : BrR P1 P2 P3 P4 P5 g5 o5 c5 g4 o4 c4 cs1 cs3 ms1 ms2 d5 d40 d41 W' :=
  have hz := hb.size
  ⟨range_on h.r1 (hb.block _ h.l1), range_on h.r3 (hb.block _ h.l3), range_on h.t1 (hb.block _ h.l1), range_on h.t2 (hb.block _ h.l2), (cell_same (hb.block _ (cell_lt h.s0))).trans h.s0, (cell_same (hb.block _ (cell_lt h.s3))).trans h.s3, range_on h.u5 (hb.block _ h.l5), (cell_same (hb.block _ (cell_lt h.b0))).trans h.b0, (cell_same (hb.block _ (cell_lt h.b3))).trans h.b3, range_on h.u0 (hb.block _ h.l4), range_on h.u1 (hb.block _ h.l4), Nat.lt_of_lt_of_le h.l1 hz, Nat.lt_of_lt_of_le h.l2 hz, Nat.lt_of_lt_of_le h.l3 hz, Nat.lt_of_lt_of_le h.l5 hz, Nat.lt_of_lt_of_le h.l4 hz⟩
/-- the terms that they reach -/
structure BrT (m r : Tm) (cs1 cs3 ms1 ms2 d5 d40 d41 : Array Value) (W : World) : Prop where
  p1 : PoV (fun _ => True) W ⟨m, []⟩ cs1
  p3 : PoV (fun _ => True) W ⟨m, []⟩ cs3
  t1 : TmV (fun _ => True) W m ms1
  t2 : TmV (fun _ => True) W r ms2
  t5 : TmV (fun _ => True) W m d5
  t40 : TmV (fun _ => True) W m d40
  t41 : TmV (fun _ => True) W r d41
theorem BrT.on {m r : Tm} {cs1 cs3 ms1 ms2 d5 d40 d41 : Array Value} {W W' : World} (h : BrT m r cs1 cs3 ms1 ms2 d5 d40 d41 W) (hb : Below W.heap.size W W') : BrT m r cs1 cs3 ms1 ms2 d5 d40 d41 W' :=
  have hc : ∀ b, b < W.heap.size → True → True ∧ W'.heap[b]? = W.heap[b]? := fun b hl _ => ⟨trivial, hb.block b hl⟩
  ⟨h.p1.carry hc, h.p3.carry hc, tm_on h.t1 hc, tm_on h.t2 hc, tm_on h.t5 hc, tm_on h.t40 hc, tm_on h.t41 hc⟩
theorem row_range {W : World} {P : Nat} {cs : Array Value} (h : W.heap[P]? = some (.cells cs 30 (0, 0))) : W.rangeAt P 0 cs.toList := fun j v hj => by
  rw [Nat.zero_add, cell_of_row _ _ _ _ _ _ h]; simpa using hj
theorem row_main {W : World} {P : Nat} {ms : Array Value} {q : Value} (h : W.heap[P]? = some (.cells (ms ++ #[q]) 30 (0, 0))) : W.rangeAt P 0 ms.toList := fun j v hj => by
  have hl := (List.getElem?_eq_some_iff.1 hj).1
  rw [Nat.zero_add, cell_of_row _ _ _ _ _ _ h, Array.getElem?_append_left (by simpa using hl)]
  simpa using hj
theorem br_all {m r : Tm} {P1 P2 P3 P4 P5 : Nat} {cs1 cs2 cs3 cs4 cs5 : Array Value} {W : World} (h1 : W.heap[P1]? = some (.cells cs1 30 (0, 0))) (h2 : W.heap[P2]? = some (.cells cs2 30 (0, 0))) (h3 : W.heap[P3]? = some (.cells cs3 30 (0, 0))) (h4 : W.heap[P4]? = some (.cells cs4 30 (0, 0))) (h5 : W.heap[P5]? = some (.cells cs5 30 (0, 0)))
    (v1 : PoV (fun _ => True) W ⟨m, []⟩ cs1) (v2 : PoV (fun _ => True) W ⟨r, []⟩ cs2) (v3 : PoV (fun _ => True) W ⟨m, []⟩ cs3) (v4 : PoV (fun _ => True) W ⟨ov 9 [m, r], []⟩ cs4) (v5 : PoV (fun _ => True) W ⟨ov 10 [m], []⟩ cs5) :
    ∃ g5 o5 c5 g4 o4 c4 ms1 ms2 d5 d40 d41, 1 ≤ c5 ∧ 2 ≤ c4 ∧ BrR P1 P2 P3 P4 P5 g5 o5 c5 g4 o4 c4 cs1 cs3 ms1 ms2 d5 d40 d41 W ∧ BrT m r cs1 cs3 ms1 ms2 d5 d40 d41 W := by
  have v1' := v1
  obtain ⟨ms1, q1, -, rfl, t1, -, -⟩ := v1'
  obtain ⟨ms2, q2, -, rfl, t2, -, -⟩ := v2
  obtain ⟨ms4, q4, -, rfl, t4, -, -⟩ := v4
  obtain ⟨ms5, q5, -, rfl, t5, -, -⟩ := v5
  simp only at t1 t2 t4 t5
  obtain ⟨x4, ys4, rfl, w4, l4⟩ := TmV.get t4
  obtain ⟨x5, ys5, rfl, w5, l5⟩ := TmV.get t5
  obtain ⟨g5, o5, c5, rfl, hc5, -, hg5, d5, td5, ra5⟩ := TmL.rng w5 l5 (j := 0) (Nat.zero_lt_succ _)
  obtain ⟨g4, o4, c4, e4, hc4, -, hg4, d40, td40, ra40⟩ := TmL.rng w4 l4 (j := 0) (Nat.zero_lt_succ _)
  obtain ⟨g4', o4', c4', e4', -, -, -, d41, td41, ra41⟩ := TmL.rng w4 l4 (j := 1) (Nat.lt_succ_self _)
  rw [e4] at e4'
  cases e4'
  subst e4
  refine ⟨g5, o5, c5, g4, o4, c4, ms1, ms2, d5, d40, d41, hc5, hc4, ⟨row_range h1, row_range h3, row_main h1, row_main h2, (cell_of_row _ _ _ _ _ _ h5).trans rfl, (cell_of_row _ _ _ _ _ _ h5).trans rfl, ?_, (cell_of_row _ _ _ _ _ _ h4).trans rfl, (cell_of_row _ _ _ _ _ _ h4).trans rfl, ?_, ?_, (Array.getElem?_eq_some_iff.1 h1).1, (Array.getElem?_eq_some_iff.1 h2).1, (Array.getElem?_eq_some_iff.1 h3).1, hg5, hg4⟩, ⟨v1, v3, t1, t2, td5, td40, td41⟩⟩
  · rw [show o5 = o5 + 0 * 4 by omega]; exact ra5
  · rw [show o4 = o4 + 0 * 4 by omega]; exact ra40
  · rw [show o4 + 4 = o4 + 1 * 4 by omega]; exact ra41
theorem deep_told {s : ByteArray} {n : Nat} {cs : Array Value} {er : Value} {w : World} (h : Psd s n cs er w) (h2 : (∃ p, prs s = .ok p) ∨ prs s = .no 200 0 ⟨#[]⟩) : Calls Tryz.prog 13 #[er] w fun e w' => e = .returned (.bool true) ∧ w' = w := by
  rcases h with ⟨p, -, rfl, -, -⟩ | ⟨N, c, a, t, h1, rfl, h3⟩
  · exact deep_nil w
  · rcases h2 with ⟨p, h2⟩ | h2
    · rw [h2] at h1; cases h1
    · rw [h2] at h1; cases h1; exact deep_hit N 0 _ w h3
set_option maxHeartbeats 12800000 in
theorem brackets_any (a b : ByteArray) (w : World) (hT : Tab w) (ha : a.size ≤ 9223372036854775806) (hb : b.size ≤ 9223372036854775806) : Calls Tryz.prog 5 #[.string a, .string b] w fun e w' => e = .returned (.bool true) ∧ Below w.heap.size w w' := by
  have HT := hid hT
  have HW := hid (wakes_any w hT)
  by_cases h1 : 4096 < a.size
  · have g1 : decide ((4096 : Int) < (a.size : Int)) = true := by simp; omega
    clear hT h1
    go_enter Tryz.func5, Tryz.ntmps5
    go_wp2_with (go_at_call 8; refine (HW.out).mono ?_; rintro e w' ⟨rfl, hw⟩; have HX := hid hw; clear hw)
    go_ret
    exact ⟨rfl, HX.out⟩
  · have g1 : decide ((4096 : Int) < (a.size : Int)) = false := by simp; omega
    by_cases h2 : 4096 < b.size
    · have g2 : decide ((4096 : Int) < (b.size : Int)) = true := by simp; omega
      clear hT h1 h2
      go_enter Tryz.func5, Tryz.ntmps5
      go_wp2_with (go_at_call 8; refine (HW.out).mono ?_; rintro e w' ⟨rfl, hw⟩; have HX := hid hw; clear hw)
      go_ret
      exact ⟨rfl, HX.out⟩
    · have g2 : decide ((4096 : Int) < (b.size : Int)) = false := by simp; omega
      clear HW
      have HWk : Hid (∀ W, Below w.heap.size w W → Calls Tryz.prog 8 #[] W fun e w' => e = .returned (.bool true) ∧ Below W.heap.size W w') := fun W hb => wakes_any W (hT.on hb)
      have HPo : Hid (∀ (s : ByteArray) W, s.size ≤ 65536 → Below w.heap.size w W → Calls Tryz.prog 9 #[.string s] W fun e w' => Below W.heap.size W w' ∧ ∃ cs er ao n ca, e = .returned (.tuple #[.agg cs, er]) ∧ cs.size = 5 ∧ cs.all (·.oneCell') = true ∧ cs[4]? = some (.slice ao n ca) ∧ Psd s n cs er w') := fun s W hs hb => pol_all s W (hT.on hb) (by omega)
      have HP1 := hid (HPo.out a w (by omega) (Below.refl _ _))
      clear hT
      go_enter Tryz.func5, Tryz.ntmps5
      go_upto_region 4 with (first
        | (go_at_call 9; refine (HP1.out).mono ?_; rintro e W1 ⟨hb1, cs1, er1, ao1, n1, ca1, rfl, hz1, ho1, hc1, hp1⟩; have HB1 := hid hb1; have HC1 := hid hp1; have HD1 := hid (And.intro hz1 (And.intro ho1 hc1)); clear hb1 hp1 hz1 ho1 hc1 HP1)
        | (refine stNew 30 (.tmp 5) (.tmp 27) rfl rfl W1 30 pz cs1 rfl rfl rfl (by rw [HD1.out.1]; exact sizePO) (by rw [HD1.out.1]; rfl) HD1.out.2.1 ?_))
      have b1 : Below w.heap.size w (W1.alloc (.cells cs1 30)) := HB1.out.alloc HB1.out.size _
      have HBw1 := hid b1
      have HS1 := hid (PlS.new HC1.out)
      clear b1 HB1 HC1
      generalize W1.alloc (.cells cs1 30) = V1 at HBw1 HS1 ⊢
      generalize W1.heap.size = P1 at HS1 ⊢
      have HP2 := hid (HPo.out b V1 (by omega) HBw1.out)
      go_upto_region 5 with (first
        | (go_at_call 9; refine (HP2.out).mono ?_; rintro e W2 ⟨hb1, cs2, er2, ao2, n2, ca2, rfl, hz1, ho1, hc1, hp1⟩; have HB2 := hid hb1; have HC2 := hid hp1; have HD2 := hid (And.intro hz1 (And.intro ho1 hc1)); clear hb1 hp1 hz1 ho1 hc1 HP2)
        | (refine stNew 30 (.tmp 7) (.tmp 32) rfl rfl W2 30 pz cs2 rfl rfl rfl (by rw [HD2.out.1]; exact sizePO) (by rw [HD2.out.1]; rfl) HD2.out.2.1 ?_))
      have b2 : Below V1.heap.size V1 (W2.alloc (.cells cs2 30)) := HB2.out.alloc HB2.out.size _
      have HBw2 := hid (HBw1.out.trans (b2.mono HBw1.out.size))
      have HS2 := hid (PlS.new HC2.out)
      have HS1' := hid (HS1.out.on b2)
      clear b2 HB2 HC2 HS1 HBw1
      generalize W2.alloc (.cells cs2 30) = V2 at HBw2 HS2 HS1' ⊢
      generalize W2.heap.size = P2 at HS2 ⊢
      have c14 : V2.cell? ⟨P1, 4, none⟩ = some (.slice ao1 n1 ca1) := (cell_of_row _ _ _ _ _ _ HS1'.out.row).trans HD1.out.2.2
      have c24 : V2.cell? ⟨P2, 4, none⟩ = some (.slice ao2 n2 ca2) := (cell_of_row _ _ _ _ _ _ HS2.out.row).trans HD2.out.2.2
      have HW2 := hid (HWk.out V2 HBw2.out)
      rcases HS1'.out.told with ⟨p, hpa, rfl, hn1, hv1⟩ | ⟨N, c, e, t, -, rfl, -⟩
      rotate_left
      · go_wp2_with (go_at_call 8; refine (HW2.out).mono ?_; rintro e w' ⟨rfl, hw⟩; have HX := hid (HBw2.out.trans (hw.mono HBw2.out.size)); clear hw)
        go_ret
        exact ⟨rfl, HX.out⟩
      rcases HS2.out.told with ⟨r, hpb, rfl, hn2, hv2⟩ | ⟨N, c, e, t, -, rfl, -⟩
      rotate_left
      · clear hv1
        go_wp2_with (go_at_call 8; refine (HW2.out).mono ?_; rintro e w' ⟨rfl, hw⟩; have HX := hid (HBw2.out.trans (hw.mono HBw2.out.size)); clear hw)
        go_ret
        exact ⟨rfl, HX.out⟩
      have HN1 := hid hn1
      have HN2 := hid hn2
      have HPa := hid hpa
      have HPb := hid hpb
      clear hv1 hv2 hn1 hn2 hpa hpb
      by_cases k1 : 0 < n1
      · have s1 : decide ((0 : Int) < (n1 : Int)) = true := by simp; omega
        go_wp2_with (go_at_call 8; refine (HW2.out).mono ?_; rintro e w' ⟨rfl, hw⟩; have HX := hid (HBw2.out.trans (hw.mono HBw2.out.size)); clear hw)
        go_ret
        exact ⟨rfl, HX.out⟩
      have s1 : decide ((0 : Int) < (n1 : Int)) = false := by simp; omega
      by_cases k2 : 0 < n2
      · have s2 : decide ((0 : Int) < (n2 : Int)) = true := by simp; omega
        go_wp2_with (go_at_call 8; refine (HW2.out).mono ?_; rintro e w' ⟨rfl, hw⟩; have HX := hid (HBw2.out.trans (hw.mono HBw2.out.size)); clear hw)
        go_ret
        exact ⟨rfl, HX.out⟩
      have s2 : decide ((0 : Int) < (n2 : Int)) = false := by simp; omega
      go_upto_region 7 with fail
      have HQ1 := hid (And.intro HN1.out k1)
      have HQ2 := hid (And.intro HN2.out k2)
      clear c14 c24 s1 s2 k1 k2 HN1 HN2 HW2
      obtain ⟨m, qs⟩ := p
      obtain ⟨r, rs⟩ := r
      obtain rfl : qs = [] := List.eq_nil_of_length_eq_zero (by have := HQ1.out.1; have := HQ1.out.2; simp only at *; omega)
      obtain rfl : rs = [] := List.eq_nil_of_length_eq_zero (by have := HQ2.out.1; have := HQ2.out.2; simp only at *; omega)
      clear HQ1 HQ2
      have HX1 := hid (whole_txt HPa.out (by omega))
      have HX2 := hid (both_txt HPa.out HPb.out (by omega) (by omega))
      have HX3 := hid (star_txt HPa.out (by omega))
      have HP3 := hid (HPo.out _ V2 HX1.out.1 HBw2.out)
      go_upto_region 8 with (first
        | (go_at_call 9; refine (HP3.out).mono ?_; rintro e W3 ⟨hb1, cs3, er3, ao3, n3, ca3, rfl, hz1, ho1, hc1, hp1⟩; have HB3 := hid hb1; have HC3 := hid hp1; have HD3 := hid (And.intro hz1 ho1); clear hb1 hp1 hz1 ho1 hc1 HP3)
        | (refine stNew 30 (.tmp 9) (.tmp 58) rfl rfl W3 30 pz cs3 rfl rfl rfl (by rw [HD3.out.1]; exact sizePO) (by rw [HD3.out.1]; rfl) HD3.out.2 ?_))
      have b3 : Below V2.heap.size V2 (W3.alloc (.cells cs3 30)) := HB3.out.alloc HB3.out.size _
      have HBw3 := hid (HBw2.out.trans (b3.mono HBw2.out.size))
      have HS3 := hid (PlS.new HC3.out)
      have HB23 := hid b3
      clear b3 HB3 HC3 HBw2 HD1 HD2 HD3
      generalize W3.alloc (.cells cs3 30) = V3 at HBw3 HS3 HB23 ⊢
      generalize W3.heap.size = P3 at HS3 ⊢
      have HP4 := hid (HPo.out _ V3 HX2.out.1 HBw3.out)
      go_upto_region 9 with (first
        | (go_at_call 9; refine (HP4.out).mono ?_; rintro e W4 ⟨hb1, cs4, er4, ao4, n4, ca4, rfl, hz1, ho1, hc1, hp1⟩; have HB4 := hid hb1; have HC4 := hid hp1; have HD4 := hid (And.intro hz1 ho1); clear hb1 hp1 hz1 ho1 hc1 HP4)
        | (refine stNew 30 (.tmp 11) (.tmp 68) rfl rfl W4 30 pz cs4 rfl rfl rfl (by rw [HD4.out.1]; exact sizePO) (by rw [HD4.out.1]; rfl) HD4.out.2 ?_))
      have b4 : Below V3.heap.size V3 (W4.alloc (.cells cs4 30)) := HB4.out.alloc HB4.out.size _
      have HBw4 := hid (HBw3.out.trans (b4.mono HBw3.out.size))
      have HS4 := hid (PlS.new HC4.out)
      have HB34 := hid b4
      clear b4 HB4 HC4 HBw3 HD4
      generalize W4.alloc (.cells cs4 30) = V4 at HBw4 HS4 HB34 ⊢
      generalize W4.heap.size = P4 at HS4 ⊢
      have HP5 := hid (HPo.out _ V4 HX3.out.1 HBw4.out)
      go_upto_region 10 with (first
        | (go_at_call 9; refine (HP5.out).mono ?_; rintro e W5 ⟨hb1, cs5, er5, ao5, n5, ca5, rfl, hz1, ho1, hc1, hp1⟩; have HB5 := hid hb1; have HC5 := hid hp1; have HD5 := hid (And.intro hz1 ho1); clear hb1 hp1 hz1 ho1 hc1 HP5)
        | (refine stNew 30 (.tmp 13) (.tmp 75) rfl rfl W5 30 pz cs5 rfl rfl rfl (by rw [HD5.out.1]; exact sizePO) (by rw [HD5.out.1]; rfl) HD5.out.2 ?_))
      have b5 : Below V4.heap.size V4 (W5.alloc (.cells cs5 30)) := HB5.out.alloc HB5.out.size _
      have HBw5 := hid (HBw4.out.trans (b5.mono HBw4.out.size))
      have HS5 := hid (PlS.new HC5.out)
      have HZ4 := hid (HS4.out.on b5)
      have HZ3 := hid ((HS3.out.on HB34.out).on b5)
      have HZ2 := hid (((HS2.out.on HB23.out).on HB34.out).on b5)
      have HZ1 := hid (((HS1'.out.on HB23.out).on HB34.out).on b5)
      clear b5 HB5 HC5 HBw4 HD5 HS4 HS3 HS2 HS1' HB23 HB34 HPo
      generalize W5.alloc (.cells cs5 30) = V5 at HBw5 HS5 HZ4 HZ3 HZ2 HZ1 ⊢
      generalize W5.heap.size = P5 at HS5 ⊢
      have HW5 := hid (HWk.out V5 HBw5.out)
      have HEd : Hid (∀ x, x = er3 ∨ x = er4 ∨ x = er5 → Calls Tryz.prog 13 #[x] V5 fun e w' => e = .returned (.bool true) ∧ w' = V5) := by
        rintro x (rfl | rfl | rfl)
        · exact deep_told HZ3.out.told (Or.inl ⟨_, HX1.out.2⟩)
        · exact deep_told HZ4.out.told (HX2.out.2.imp (fun h => ⟨_, h⟩) id)
        · exact deep_told HS5.out.told (HX3.out.2.imp (fun h => ⟨_, h⟩) id)
      rcases HZ3.out.told with ⟨p3, hp3, rfl, -, hv3⟩ | ⟨N, c, e, t, hp3, -, -⟩
      rotate_left
      · exfalso; rw [HX1.out.2] at hp3; cases hp3
      obtain rfl : p3 = ⟨m, []⟩ := by rw [HX1.out.2] at hp3; cases hp3; rfl
      have HV3 := hid hv3
      clear hp3 hv3
      rcases HZ4.out.told with ⟨p4, hp4, rfl, -, hv4⟩ | ⟨N, c, e, t, -, rfl, -⟩
      rotate_left
      · clear HZ1 HZ2 HZ3 HZ4 HS5 HX1 HX2 HX3 HPa HPb HV3 HWk
        go_wp2_with (first
          | (go_at_call 13; refine Calls.mono (HEd.out _ (by first | exact Or.inl rfl | exact Or.inr (Or.inl rfl) | exact Or.inr (Or.inr rfl))) ?_; rintro e w' ⟨rfl, hw⟩; obtain rfl : V5 = w' := hw.symm)
          | (go_at_call 8; refine (HW5.out).mono ?_; rintro e w' ⟨rfl, hw⟩; have HX := hid (HBw5.out.trans (hw.mono HBw5.out.size)); clear hw))
        go_ret
        exact ⟨rfl, HX.out⟩
      obtain rfl : p4 = ⟨ov 9 [m, r], []⟩ := by
        rcases HX2.out.2 with h | h
        · rw [h] at hp4; cases hp4; rfl
        · rw [h] at hp4; cases hp4
      have HV4 := hid hv4
      clear hp4 hv4
      rcases HS5.out.told with ⟨p5, hp5, rfl, -, hv5⟩ | ⟨N, c, e, t, -, rfl, -⟩
      rotate_left
      · clear HZ1 HZ2 HZ3 HZ4 HS5 HX1 HX2 HX3 HPa HPb HV3 HWk
        go_wp2_with (first
          | (go_at_call 13; refine Calls.mono (HEd.out _ (by first | exact Or.inl rfl | exact Or.inr (Or.inl rfl) | exact Or.inr (Or.inr rfl))) ?_; rintro e w' ⟨rfl, hw⟩; obtain rfl : V5 = w' := hw.symm)
          | (go_at_call 8; refine (HW5.out).mono ?_; rintro e w' ⟨rfl, hw⟩; have HX := hid (HBw5.out.trans (hw.mono HBw5.out.size)); clear hw))
        go_ret
        exact ⟨rfl, HX.out⟩
      obtain rfl : p5 = ⟨ov 10 [m], []⟩ := by
        rcases HX3.out.2 with h | h
        · rw [h] at hp5; cases hp5; rfl
        · rw [h] at hp5; cases hp5
      have HV1 : Hid (PoV (fun _ => True) V5 ⟨m, []⟩ cs1) := by
        rcases HZ1.out.told with ⟨p, hp, -, -, hv⟩ | ⟨_, _, _, _, hp, -, -⟩
        · rw [HPa.out] at hp; cases hp; exact hv
        · rw [HPa.out] at hp; cases hp
      have HV2 : Hid (PoV (fun _ => True) V5 ⟨r, []⟩ cs2) := by
        rcases HZ2.out.told with ⟨p, hp, -, -, hv⟩ | ⟨_, _, _, _, hp, -, -⟩
        · rw [HPb.out] at hp; cases hp; exact hv
        · rw [HPb.out] at hp; cases hp
      obtain ⟨g5, o5, c5, g4, o4, c4, ms1, ms2, d5, d40, d41, hc5, hc4, hR, hTm⟩ := br_all HZ1.out.row HZ2.out.row HZ3.out.row HZ4.out.row HS5.out.row HV1.out HV2.out HV3.out HV4.out hv5
      have HR := hid hR
      have HTm := hid hTm
      have HF := hid (And.intro (aln_of HPa.out).2 (And.intro (fits_sz (aln_of HPa.out).2).1 (fits_sz (aln_of HPb.out).2).1))
      clear hp5 hv5 hR hTm HV1 HV2 HV3 HV4 HZ1 HZ2 HZ3 HZ4 HS5 HEd HX1 HX2 HX3 HPa HPb HW5
      go_upto_region 12 with fail
      have hHeld0 : BrR P1 P2 P3 P4 P5 g5 o5 c5 g4 o4 c4 cs1 cs3 ms1 ms2 d5 d40 d41 V5.drew := HR.out.on (bel_drew (Below.refl _ _))
      have HTd := hid (HTm.out.on (bel_drew (Below.refl _ _)))
      have HBd : Hid (Below w.heap.size w V5.drew) := bel_drew HBw5.out
      have HC1 := hid (policies_same ⟨m, []⟩ cs3 cs1 V5.drew HF.out.1 HTd.out.p3 HTd.out.p1)
      have HI1 := hid HTd.out.p1.info
      have HI3 := hid HTd.out.p3.info
      have HJ1 := hid HTd.out.t1.info
      have HJ2 := hid HTd.out.t2.info
      have HJ5 := hid HTd.out.t5.info
      have HJ40 := hid HTd.out.t40.info
      have HJ41 := hid HTd.out.t41.info
      clear HR HTm
      refine wp_region_held_drew (S := BrR P1 P2 P3 P4 P5 g5 o5 c5 g4 o4 c4 cs1 cs3 ms1 ms2 d5 d40 d41) (by kernel_rfl) hHeld0 (fun hHeld => ?_)
      refine wpAnyH_take (i := 0) (v := .agg cs3) rfl (by kernel_rfl) (by kernel_rfl) (by kernel_rfl) (fun _ _ _ h => h) (Or.inl ⟨by rfl, ?_⟩) hHeld ?_
      · intro w' hSw
        exact runLd 30 (.tmp 9) rfl P3 0 rfl cs3 _ hSw.r3 Tryz.underlying30 rfl HI3.out
      simp only [Act.put, List.getElem_toArray, List.getElem_cons_zero, List.setIfInBounds_toArray, List.set_cons_zero, List.set_cons_succ]
      refine wpAnyH_take (i := 1) (v := .agg cs1) rfl (by kernel_rfl) (by kernel_rfl) (by kernel_rfl) (fun _ _ _ h => h) (Or.inl ⟨by rfl, ?_⟩) hHeld ?_
      · intro w' hSw
        exact runLd 30 (.tmp 5) rfl P1 0 rfl cs1 _ hSw.r1 Tryz.underlying30 rfl HI1.out
      simp only [Act.put, List.getElem_toArray, List.getElem_cons_succ, List.getElem_cons_zero, List.setIfInBounds_toArray, List.set_cons_zero, List.set_cons_succ]
      refine ready_one 2 _ (by kernel_rfl) rfl (stepFnW 12 (.func 12) [.tmp 100, .tmp 101] _ [.agg cs3, .agg cs1] rfl rfl rfl rfl (fun _ => rfl) _ HC1.out ?_)
      rintro e w2 ⟨rfl, hw⟩
      refine Or.inl ⟨_, rfl, ?_⟩
      replace hHeld := hHeld.on hw
      have HT2 := hid (HTd.out.on hw)
      have HB2 := hid (HBd.out.trans (hw.mono HBd.out.size))
      clear hw hHeld0 HTd HBd HC1
      refine ⟨hHeld, ?_⟩
      simp only [Act.put, List.getElem_toArray, List.getElem_cons_succ, List.getElem_cons_zero, List.setIfInBounds_toArray, List.set_cons_zero, List.set_cons_succ]
      refine wpAnyH_take (i := 3) (v := ?_) rfl (by kernel_rfl) (by kernel_rfl) (by kernel_rfl) (fun _ _ _ h => h) (Or.inl ⟨by rfl, ?_⟩) hHeld ?_
      rotate_left
      · intro w' hSw
        have s0 := hSw.s0
        have s3 := hSw.s3
        clear hSw
        go_simp
        first | done | with_reducible rfl
      simp only [Act.put, List.getElem_toArray, List.getElem_cons_succ, List.getElem_cons_zero, List.setIfInBounds_toArray, List.set_cons_zero, List.set_cons_succ]
      refine wpAnyH_take (i := 4) (v := ?_) rfl (by kernel_rfl) (by kernel_rfl) (by kernel_rfl) (fun _ _ _ h => h) (Or.inl ⟨by rfl, ?_⟩) hHeld ?_
      rotate_left
      · intro w' hSw
        have s0 := hSw.s0
        have s3 := hSw.s3
        clear hSw
        go_simp
        first | done | with_reducible rfl
      simp only [Act.put, List.getElem_toArray, List.getElem_cons_succ, List.getElem_cons_zero, List.setIfInBounds_toArray, List.set_cons_zero, List.set_cons_succ]
      refine wpAnyH_take (i := 5) (v := ?_) rfl (by kernel_rfl) (by kernel_rfl) (by kernel_rfl) (fun _ _ _ h => h) (Or.inl ⟨by rfl, ?_⟩) hHeld ?_
      rotate_left
      · intro w' hSw
        have s0 := hSw.s0
        have s3 := hSw.s3
        clear hSw
        go_simp
        first | done | with_reducible rfl
      simp only [Act.put, List.getElem_toArray, List.getElem_cons_succ, List.getElem_cons_zero, List.setIfInBounds_toArray, List.set_cons_zero, List.set_cons_succ]
      refine wpAnyH_take (i := 6) (v := ?_) rfl (by kernel_rfl) (by kernel_rfl) (by kernel_rfl) (fun _ _ _ h => h) (Or.inl ⟨by rfl, ?_⟩) hHeld ?_
      rotate_left
      · intro w' hSw
        have s0 := hSw.s0
        have s3 := hSw.s3
        clear hSw
        go_simp
        first | done | with_reducible rfl
      simp only [Act.put, List.getElem_toArray, List.getElem_cons_succ, List.getElem_cons_zero, List.setIfInBounds_toArray, List.set_cons_zero, List.set_cons_succ]
      refine wpAnyH_take (i := 7) (v := ?_) rfl (by kernel_rfl) (by kernel_rfl) (by kernel_rfl) (fun _ _ _ h => h) (Or.inl ⟨by rfl, ?_⟩) hHeld ?_
      rotate_left
      · intro w' hSw
        have s0 := hSw.s0
        have s3 := hSw.s3
        clear hSw
        go_simp
        first | done | with_reducible rfl
      simp only [Act.put, List.getElem_toArray, List.getElem_cons_succ, List.getElem_cons_zero, List.setIfInBounds_toArray, List.set_cons_zero, List.set_cons_succ]
      refine wpAnyH_take (i := 8) (v := ?_) rfl (by kernel_rfl) (by kernel_rfl) (by kernel_rfl) (fun _ _ _ h => h) (Or.inl ⟨by rfl, ?_⟩) hHeld ?_
      rotate_left
      · intro w' hSw
        have s0 := hSw.s0
        have s3 := hSw.s3
        clear hSw
        go_simp
        first | done | with_reducible rfl
      simp only [Act.put, List.getElem_toArray, List.getElem_cons_succ, List.getElem_cons_zero, List.setIfInBounds_toArray, List.set_cons_zero, List.set_cons_succ]
      refine wpAnyH_take (i := 9) (v := ?_) rfl (by kernel_rfl) (by kernel_rfl) (by kernel_rfl) (fun _ _ _ h => h) (Or.inl ⟨by rfl, ?_⟩) hHeld ?_
      rotate_left
      · intro w' hSw
        have s0 := hSw.s0
        have s3 := hSw.s3
        clear hSw
        go_simp
        first | done | with_reducible rfl
      simp only [Act.put, List.getElem_toArray, List.getElem_cons_succ, List.getElem_cons_zero, List.setIfInBounds_toArray, List.set_cons_zero, List.set_cons_succ]
      refine wpAnyH_take (i := 10) (v := ?_) rfl (by kernel_rfl) (by kernel_rfl) (by kernel_rfl) (fun _ _ _ h => h) (Or.inl ⟨by rfl, ?_⟩) hHeld ?_
      rotate_left
      · intro w' hSw
        have s0 := hSw.s0
        have s3 := hSw.s3
        clear hSw
        go_simp
        first | done | with_reducible rfl
      simp only [Act.put, List.getElem_toArray, List.getElem_cons_succ, List.getElem_cons_zero, List.setIfInBounds_toArray, List.set_cons_zero, List.set_cons_succ]
      refine wpAnyH_take (i := 11) (v := ?_) rfl (by kernel_rfl) (by kernel_rfl) (by kernel_rfl) (fun _ _ _ h => h) (Or.inl ⟨by rfl, ?_⟩) hHeld ?_
      rotate_left
      · intro w' hSw
        have s0 := hSw.s0
        have s3 := hSw.s3
        clear hSw
        go_simp
        first | done | with_reducible rfl
      simp only [Act.put, List.getElem_toArray, List.getElem_cons_succ, List.getElem_cons_zero, List.setIfInBounds_toArray, List.set_cons_zero, List.set_cons_succ]
      refine wpAnyH_take (i := 12) (v := ?_) rfl (by kernel_rfl) (by kernel_rfl) (by kernel_rfl) (fun _ _ _ h => h) (Or.inl ⟨by rfl, ?_⟩) hHeld ?_
      rotate_left
      · intro w' hSw
        have s0 := hSw.s0
        have s3 := hSw.s3
        clear hSw
        go_simp
        first | done | with_reducible rfl
      simp only [Act.put, List.getElem_toArray, List.getElem_cons_succ, List.getElem_cons_zero, List.setIfInBounds_toArray, List.set_cons_zero, List.set_cons_succ]
      refine wpAnyH_take (i := 13) (v := ?_) rfl (by kernel_rfl) (by kernel_rfl) (by kernel_rfl) (fun _ _ _ h => h) (Or.inl ⟨by rfl, ?_⟩) hHeld ?_
      rotate_left
      · intro w' hSw
        have s0 := hSw.s0
        have s3 := hSw.s3
        clear hSw
        go_simp
        first | done | with_reducible rfl
      simp only [Act.put, List.getElem_toArray, List.getElem_cons_succ, List.getElem_cons_zero, List.setIfInBounds_toArray, List.set_cons_zero, List.set_cons_succ]
      refine wpAnyH_take (i := 14) (v := ?_) rfl (by kernel_rfl) (by kernel_rfl) (by kernel_rfl) (fun _ _ _ h => h) (Or.inl ⟨by rfl, ?_⟩) hHeld ?_
      rotate_left
      · intro w' hSw
        have s0 := hSw.s0
        have s3 := hSw.s3
        clear hSw
        go_simp
        first | done | with_reducible rfl
      simp only [Act.put, List.getElem_toArray, List.getElem_cons_succ, List.getElem_cons_zero, List.setIfInBounds_toArray, List.set_cons_zero, List.set_cons_succ]
      refine wpAnyH_take (i := 15) (v := ?_) rfl (by kernel_rfl) (by kernel_rfl) (by kernel_rfl) (fun _ _ _ h => h) (Or.inl ⟨by rfl, ?_⟩) hHeld ?_
      rotate_left
      · intro w' hSw
        have s0 := hSw.s0
        have s3 := hSw.s3
        clear hSw
        go_simp
        first | done | with_reducible rfl
      simp only [Act.put, List.getElem_toArray, List.getElem_cons_succ, List.getElem_cons_zero, List.setIfInBounds_toArray, List.set_cons_zero, List.set_cons_succ]
      refine wpAnyH_take (i := 16) (v := ?_) rfl (by kernel_rfl) (by kernel_rfl) (by kernel_rfl) (fun _ _ _ h => h) (Or.inl ⟨by rfl, ?_⟩) hHeld ?_
      rotate_left
      · intro w' hSw
        have s0 := hSw.s0
        have s3 := hSw.s3
        clear hSw
        go_simp
        first | done | with_reducible rfl
      simp only [Act.put, List.getElem_toArray, List.getElem_cons_succ, List.getElem_cons_zero, List.setIfInBounds_toArray, List.set_cons_zero, List.set_cons_succ]
      refine wpAnyH_take (i := 17) (v := ?_) rfl (by kernel_rfl) (by kernel_rfl) (by kernel_rfl) (fun _ _ _ h => h) (Or.inl ⟨by rfl, ?_⟩) hHeld ?_
      rotate_left
      · intro w' hSw
        have s0 := hSw.s0
        have s3 := hSw.s3
        clear hSw
        go_simp
        first | done | with_reducible rfl
      simp only [Act.put, List.getElem_toArray, List.getElem_cons_succ, List.getElem_cons_zero, List.setIfInBounds_toArray, List.set_cons_zero, List.set_cons_succ]
      refine wpAnyH_take (i := 18) (v := ?_) rfl (by kernel_rfl) (by kernel_rfl) (by kernel_rfl) (fun _ _ _ h => h) (Or.inl ⟨by rfl, ?_⟩) hHeld ?_
      rotate_left
      · intro w' hSw
        have s0 := hSw.s0
        have s3 := hSw.s3
        clear hSw
        go_simp
        first | done | with_reducible rfl
      simp only [Act.put, List.getElem_toArray, List.getElem_cons_succ, List.getElem_cons_zero, List.setIfInBounds_toArray, List.set_cons_zero, List.set_cons_succ]
      refine wpAnyH_take (i := 19) (v := ?_) rfl (by kernel_rfl) (by kernel_rfl) (by kernel_rfl) (fun _ _ _ h => h) (Or.inl ⟨by rfl, ?_⟩) hHeld ?_
      rotate_left
      · intro w' hSw
        have s0 := hSw.s0
        have s3 := hSw.s3
        clear hSw
        go_simp
        first | done | with_reducible rfl
      simp only [Act.put, List.getElem_toArray, List.getElem_cons_succ, List.getElem_cons_zero, List.setIfInBounds_toArray, List.set_cons_zero, List.set_cons_succ]
      refine wpAnyH_take (i := 20) (v := ?_) rfl (by kernel_rfl) (by kernel_rfl) (by kernel_rfl) (fun _ _ _ h => h) (Or.inl ⟨by rfl, ?_⟩) hHeld ?_
      rotate_left
      · intro w' hSw
        have s0 := hSw.s0
        have s3 := hSw.s3
        clear hSw
        go_simp
        first | done | with_reducible rfl
      simp only [Act.put, List.getElem_toArray, List.getElem_cons_succ, List.getElem_cons_zero, List.setIfInBounds_toArray, List.set_cons_zero, List.set_cons_succ]
      refine wpAnyH_take (i := 21) (v := ?_) rfl (by kernel_rfl) (by kernel_rfl) (by kernel_rfl) (fun _ _ _ h => h) (Or.inl ⟨by rfl, ?_⟩) hHeld ?_
      rotate_left
      · intro w' hSw
        have s3 := hSw.s3
        clear hSw
        go_simp
        first | done | with_reducible rfl
      simp only [Act.put, List.getElem_toArray, List.getElem_cons_succ, List.getElem_cons_zero, List.setIfInBounds_toArray, List.set_cons_zero, List.set_cons_succ]
      refine wpAnyH_take (i := 22) (v := .agg d5) rfl (by kernel_rfl) (by kernel_rfl) (by kernel_rfl) (fun _ _ _ h => h) (Or.inl ⟨by rfl, ?_⟩) hHeld ?_
      · intro w' hSw
        exact runLd 27 (.tmp 121) rfl g5 o5 rfl d5 _ hSw.u5 Tryz.underlying27 rfl HJ5.out
      simp only [Act.put, List.getElem_toArray, List.getElem_cons_succ, List.getElem_cons_zero, List.setIfInBounds_toArray, List.set_cons_zero, List.set_cons_succ]
      refine wpAnyH_take (i := 23) (v := ?_) rfl (by kernel_rfl) (by kernel_rfl) (by kernel_rfl) (fun _ _ _ h => h) (Or.inl ⟨by rfl, ?_⟩) hHeld ?_
      rotate_left
      · intro w' hSw
        have s3 := hSw.s3
        clear hSw
        go_simp
        first | done | with_reducible rfl
      simp only [Act.put, List.getElem_toArray, List.getElem_cons_succ, List.getElem_cons_zero, List.setIfInBounds_toArray, List.set_cons_zero, List.set_cons_succ]
      refine wpAnyH_take (i := 24) (v := .agg ms1) rfl (by kernel_rfl) (by kernel_rfl) (by kernel_rfl) (fun _ _ _ h => h) (Or.inl ⟨by rfl, ?_⟩) hHeld ?_
      · intro w' hSw
        exact runLd 27 (.tmp 123) rfl P1 0 rfl ms1 _ hSw.t1 Tryz.underlying27 rfl HJ1.out
      simp only [Act.put, List.getElem_toArray, List.getElem_cons_succ, List.getElem_cons_zero, List.setIfInBounds_toArray, List.set_cons_zero, List.set_cons_succ]
      have HC2 := hid (terms_same 4096 m d5 ms1 w2 HF.out.2.1 (by omega) HT2.out.t5 HT2.out.t1)
      refine ready_one 25 _ (by kernel_rfl) rfl (stepFnW 14 (.func 14) [.tmp 122, .tmp 124] _ [.agg d5, .agg ms1] rfl rfl rfl rfl (fun _ => rfl) _ HC2.out ?_)
      rintro e w3 ⟨rfl, hw⟩
      refine Or.inl ⟨_, rfl, ?_⟩
      replace hHeld := hHeld.on hw
      have HT3 := hid (HT2.out.on hw)
      have HB3 := hid (HB2.out.trans (hw.mono HB2.out.size))
      clear hw HT2 HB2 HC2
      refine ⟨hHeld, ?_⟩
      simp only [Act.put, List.getElem_toArray, List.getElem_cons_succ, List.getElem_cons_zero, List.setIfInBounds_toArray, List.set_cons_zero, List.set_cons_succ]
      refine wpAnyH_take (i := 26) (v := ?_) rfl (by kernel_rfl) (by kernel_rfl) (by kernel_rfl) (fun _ _ _ h => h) (Or.inl ⟨by rfl, ?_⟩) hHeld ?_
      rotate_left
      · intro w' hSw
        clear hSw
        go_simp
        first | done | with_reducible rfl
      simp only [Act.put, List.getElem_toArray, List.getElem_cons_succ, List.getElem_cons_zero, List.setIfInBounds_toArray, List.set_cons_zero, List.set_cons_succ]
      refine wpAnyH_take (i := 27) (v := ?_) rfl (by kernel_rfl) (by kernel_rfl) (by kernel_rfl) (fun _ _ _ h => h) (Or.inl ⟨by rfl, ?_⟩) hHeld ?_
      rotate_left
      · intro w' hSw
        clear hSw
        go_simp
        first | done | with_reducible rfl
      simp only [Act.put, List.getElem_toArray, List.getElem_cons_succ, List.getElem_cons_zero, List.setIfInBounds_toArray, List.set_cons_zero, List.set_cons_succ]
      refine wpAnyH_done (by kernel_rfl) ?_ _
      have HH3 := hid hHeld
      clear hHeld
      go_upto_region 14 with fail
      have hHeld0 : BrR P1 P2 P3 P4 P5 g5 o5 c5 g4 o4 c4 cs1 cs3 ms1 ms2 d5 d40 d41 w3.drew := HH3.out.on (bel_drew (Below.refl _ _))
      have HTd := hid (HT3.out.on (bel_drew (Below.refl _ _)))
      have HBd : Hid (Below w.heap.size w w3.drew) := bel_drew HB3.out
      have HC1 := hid (terms_same 4096 m d40 ms1 w3.drew HF.out.2.1 (by omega) HTd.out.t40 HTd.out.t1)
      clear HH3 HT3 HB3
      refine wp_region_held_drew (S := BrR P1 P2 P3 P4 P5 g5 o5 c5 g4 o4 c4 cs1 cs3 ms1 ms2 d5 d40 d41) (by kernel_rfl) hHeld0 (fun hHeld => ?_)
      refine wpAnyH_take (i := 0) (v := ?_) rfl (by kernel_rfl) (by kernel_rfl) (by kernel_rfl) (fun _ _ _ h => h) (Or.inl ⟨by rfl, ?_⟩) hHeld ?_
      rotate_left
      · intro w' hSw
        have b0 := hSw.b0
        have b3 := hSw.b3
        clear hSw
        go_simp
        first | done | with_reducible rfl
      simp only [Act.put, List.getElem_toArray, List.getElem_cons_zero, List.setIfInBounds_toArray, List.set_cons_zero, List.set_cons_succ]
      refine wpAnyH_take (i := 1) (v := ?_) rfl (by kernel_rfl) (by kernel_rfl) (by kernel_rfl) (fun _ _ _ h => h) (Or.inl ⟨by rfl, ?_⟩) hHeld ?_
      rotate_left
      · intro w' hSw
        have b0 := hSw.b0
        have b3 := hSw.b3
        clear hSw
        go_simp
        first | done | with_reducible rfl
      simp only [Act.put, List.getElem_toArray, List.getElem_cons_succ, List.getElem_cons_zero, List.setIfInBounds_toArray, List.set_cons_zero, List.set_cons_succ]
      refine wpAnyH_take (i := 2) (v := ?_) rfl (by kernel_rfl) (by kernel_rfl) (by kernel_rfl) (fun _ _ _ h => h) (Or.inl ⟨by rfl, ?_⟩) hHeld ?_
      rotate_left
      · intro w' hSw
        have b0 := hSw.b0
        have b3 := hSw.b3
        clear hSw
        go_simp
        first | done | with_reducible rfl
      simp only [Act.put, List.getElem_toArray, List.getElem_cons_succ, List.getElem_cons_zero, List.setIfInBounds_toArray, List.set_cons_zero, List.set_cons_succ]
      refine wpAnyH_take (i := 3) (v := ?_) rfl (by kernel_rfl) (by kernel_rfl) (by kernel_rfl) (fun _ _ _ h => h) (Or.inl ⟨by rfl, ?_⟩) hHeld ?_
      rotate_left
      · intro w' hSw
        have b0 := hSw.b0
        have b3 := hSw.b3
        clear hSw
        go_simp
        first | done | with_reducible rfl
      simp only [Act.put, List.getElem_toArray, List.getElem_cons_succ, List.getElem_cons_zero, List.setIfInBounds_toArray, List.set_cons_zero, List.set_cons_succ]
      refine wpAnyH_take (i := 4) (v := ?_) rfl (by kernel_rfl) (by kernel_rfl) (by kernel_rfl) (fun _ _ _ h => h) (Or.inl ⟨by rfl, ?_⟩) hHeld ?_
      rotate_left
      · intro w' hSw
        have b0 := hSw.b0
        have b3 := hSw.b3
        clear hSw
        go_simp
        first | done | with_reducible rfl
      simp only [Act.put, List.getElem_toArray, List.getElem_cons_succ, List.getElem_cons_zero, List.setIfInBounds_toArray, List.set_cons_zero, List.set_cons_succ]
      refine wpAnyH_take (i := 5) (v := ?_) rfl (by kernel_rfl) (by kernel_rfl) (by kernel_rfl) (fun _ _ _ h => h) (Or.inl ⟨by rfl, ?_⟩) hHeld ?_
      rotate_left
      · intro w' hSw
        have b0 := hSw.b0
        have b3 := hSw.b3
        clear hSw
        go_simp
        first | done | with_reducible rfl
      simp only [Act.put, List.getElem_toArray, List.getElem_cons_succ, List.getElem_cons_zero, List.setIfInBounds_toArray, List.set_cons_zero, List.set_cons_succ]
      refine wpAnyH_take (i := 6) (v := ?_) rfl (by kernel_rfl) (by kernel_rfl) (by kernel_rfl) (fun _ _ _ h => h) (Or.inl ⟨by rfl, ?_⟩) hHeld ?_
      rotate_left
      · intro w' hSw
        have b0 := hSw.b0
        have b3 := hSw.b3
        clear hSw
        go_simp
        first | done | with_reducible rfl
      simp only [Act.put, List.getElem_toArray, List.getElem_cons_succ, List.getElem_cons_zero, List.setIfInBounds_toArray, List.set_cons_zero, List.set_cons_succ]
      refine wpAnyH_take (i := 7) (v := ?_) rfl (by kernel_rfl) (by kernel_rfl) (by kernel_rfl) (fun _ _ _ h => h) (Or.inl ⟨by rfl, ?_⟩) hHeld ?_
      rotate_left
      · intro w' hSw
        have b0 := hSw.b0
        have b3 := hSw.b3
        clear hSw
        go_simp
        first | done | with_reducible rfl
      simp only [Act.put, List.getElem_toArray, List.getElem_cons_succ, List.getElem_cons_zero, List.setIfInBounds_toArray, List.set_cons_zero, List.set_cons_succ]
      refine wpAnyH_take (i := 8) (v := ?_) rfl (by kernel_rfl) (by kernel_rfl) (by kernel_rfl) (fun _ _ _ h => h) (Or.inl ⟨by rfl, ?_⟩) hHeld ?_
      rotate_left
      · intro w' hSw
        have b0 := hSw.b0
        have b3 := hSw.b3
        clear hSw
        go_simp
        first | done | with_reducible rfl
      simp only [Act.put, List.getElem_toArray, List.getElem_cons_succ, List.getElem_cons_zero, List.setIfInBounds_toArray, List.set_cons_zero, List.set_cons_succ]
      refine wpAnyH_take (i := 9) (v := ?_) rfl (by kernel_rfl) (by kernel_rfl) (by kernel_rfl) (fun _ _ _ h => h) (Or.inl ⟨by rfl, ?_⟩) hHeld ?_
      rotate_left
      · intro w' hSw
        have b0 := hSw.b0
        have b3 := hSw.b3
        clear hSw
        go_simp
        first | done | with_reducible rfl
      simp only [Act.put, List.getElem_toArray, List.getElem_cons_succ, List.getElem_cons_zero, List.setIfInBounds_toArray, List.set_cons_zero, List.set_cons_succ]
      refine wpAnyH_take (i := 10) (v := ?_) rfl (by kernel_rfl) (by kernel_rfl) (by kernel_rfl) (fun _ _ _ h => h) (Or.inl ⟨by rfl, ?_⟩) hHeld ?_
      rotate_left
      · intro w' hSw
        have b0 := hSw.b0
        have b3 := hSw.b3
        clear hSw
        go_simp
        first | done | with_reducible rfl
      simp only [Act.put, List.getElem_toArray, List.getElem_cons_succ, List.getElem_cons_zero, List.setIfInBounds_toArray, List.set_cons_zero, List.set_cons_succ]
      refine wpAnyH_take (i := 11) (v := ?_) rfl (by kernel_rfl) (by kernel_rfl) (by kernel_rfl) (fun _ _ _ h => h) (Or.inl ⟨by rfl, ?_⟩) hHeld ?_
      rotate_left
      · intro w' hSw
        have b0 := hSw.b0
        have b3 := hSw.b3
        clear hSw
        go_simp
        first | done | with_reducible rfl
      simp only [Act.put, List.getElem_toArray, List.getElem_cons_succ, List.getElem_cons_zero, List.setIfInBounds_toArray, List.set_cons_zero, List.set_cons_succ]
      refine wpAnyH_take (i := 12) (v := ?_) rfl (by kernel_rfl) (by kernel_rfl) (by kernel_rfl) (fun _ _ _ h => h) (Or.inl ⟨by rfl, ?_⟩) hHeld ?_
      rotate_left
      · intro w' hSw
        have b0 := hSw.b0
        have b3 := hSw.b3
        clear hSw
        go_simp
        first | done | with_reducible rfl
      simp only [Act.put, List.getElem_toArray, List.getElem_cons_succ, List.getElem_cons_zero, List.setIfInBounds_toArray, List.set_cons_zero, List.set_cons_succ]
      refine wpAnyH_take (i := 13) (v := ?_) rfl (by kernel_rfl) (by kernel_rfl) (by kernel_rfl) (fun _ _ _ h => h) (Or.inl ⟨by rfl, ?_⟩) hHeld ?_
      rotate_left
      · intro w' hSw
        have b0 := hSw.b0
        have b3 := hSw.b3
        clear hSw
        go_simp
        first | done | with_reducible rfl
      simp only [Act.put, List.getElem_toArray, List.getElem_cons_succ, List.getElem_cons_zero, List.setIfInBounds_toArray, List.set_cons_zero, List.set_cons_succ]
      refine wpAnyH_take (i := 14) (v := ?_) rfl (by kernel_rfl) (by kernel_rfl) (by kernel_rfl) (fun _ _ _ h => h) (Or.inl ⟨by rfl, ?_⟩) hHeld ?_
      rotate_left
      · intro w' hSw
        have b0 := hSw.b0
        have b3 := hSw.b3
        clear hSw
        go_simp
        first | done | with_reducible rfl
      simp only [Act.put, List.getElem_toArray, List.getElem_cons_succ, List.getElem_cons_zero, List.setIfInBounds_toArray, List.set_cons_zero, List.set_cons_succ]
      refine wpAnyH_take (i := 15) (v := ?_) rfl (by kernel_rfl) (by kernel_rfl) (by kernel_rfl) (fun _ _ _ h => h) (Or.inl ⟨by rfl, ?_⟩) hHeld ?_
      rotate_left
      · intro w' hSw
        have b0 := hSw.b0
        have b3 := hSw.b3
        clear hSw
        go_simp
        first | done | with_reducible rfl
      simp only [Act.put, List.getElem_toArray, List.getElem_cons_succ, List.getElem_cons_zero, List.setIfInBounds_toArray, List.set_cons_zero, List.set_cons_succ]
      refine wpAnyH_take (i := 16) (v := .agg d40) rfl (by kernel_rfl) (by kernel_rfl) (by kernel_rfl) (fun _ _ _ h => h) (Or.inl ⟨by rfl, ?_⟩) hHeld ?_
      · intro w' hSw
        exact runLd 27 (.tmp 143) rfl g4 o4 rfl d40 _ hSw.u0 Tryz.underlying27 rfl HJ40.out
      simp only [Act.put, List.getElem_toArray, List.getElem_cons_succ, List.getElem_cons_zero, List.setIfInBounds_toArray, List.set_cons_zero, List.set_cons_succ]
      refine wpAnyH_take (i := 17) (v := ?_) rfl (by kernel_rfl) (by kernel_rfl) (by kernel_rfl) (fun _ _ _ h => h) (Or.inl ⟨by rfl, ?_⟩) hHeld ?_
      rotate_left
      · intro w' hSw
        have b0 := hSw.b0
        clear hSw
        go_simp
        first | done | with_reducible rfl
      simp only [Act.put, List.getElem_toArray, List.getElem_cons_succ, List.getElem_cons_zero, List.setIfInBounds_toArray, List.set_cons_zero, List.set_cons_succ]
      refine wpAnyH_take (i := 18) (v := .agg ms1) rfl (by kernel_rfl) (by kernel_rfl) (by kernel_rfl) (fun _ _ _ h => h) (Or.inl ⟨by rfl, ?_⟩) hHeld ?_
      · intro w' hSw
        exact runLd 27 (.tmp 145) rfl P1 0 rfl ms1 _ hSw.t1 Tryz.underlying27 rfl HJ1.out
      simp only [Act.put, List.getElem_toArray, List.getElem_cons_succ, List.getElem_cons_zero, List.setIfInBounds_toArray, List.set_cons_zero, List.set_cons_succ]
      refine ready_one 19 _ (by kernel_rfl) rfl (stepFnW 14 (.func 14) [.tmp 144, .tmp 146] _ [.agg d40, .agg ms1] rfl rfl rfl rfl (fun _ => rfl) _ HC1.out ?_)
      rintro e w4 ⟨rfl, hw⟩
      refine Or.inl ⟨_, rfl, ?_⟩
      replace hHeld := hHeld.on hw
      have HT2 := hid (HTd.out.on hw)
      have HB2 := hid (HBd.out.trans (hw.mono HBd.out.size))
      clear hw hHeld0 HTd HBd HC1
      refine ⟨hHeld, ?_⟩
      simp only [Act.put, List.getElem_toArray, List.getElem_cons_succ, List.getElem_cons_zero, List.setIfInBounds_toArray, List.set_cons_zero, List.set_cons_succ]
      refine wpAnyH_take (i := 20) (v := ?_) rfl (by kernel_rfl) (by kernel_rfl) (by kernel_rfl) (fun _ _ _ h => h) (Or.inl ⟨by rfl, ?_⟩) hHeld ?_
      rotate_left
      · intro w' hSw
        have b3 := hSw.b3
        clear hSw
        go_simp
        first | done | with_reducible rfl
      simp only [Act.put, List.getElem_toArray, List.getElem_cons_succ, List.getElem_cons_zero, List.setIfInBounds_toArray, List.set_cons_zero, List.set_cons_succ]
      refine wpAnyH_take (i := 21) (v := ?_) rfl (by kernel_rfl) (by kernel_rfl) (by kernel_rfl) (fun _ _ _ h => h) (Or.inl ⟨by rfl, ?_⟩) hHeld ?_
      rotate_left
      · intro w' hSw
        have b3 := hSw.b3
        clear hSw
        go_simp
        first | done | with_reducible rfl
      simp only [Act.put, List.getElem_toArray, List.getElem_cons_succ, List.getElem_cons_zero, List.setIfInBounds_toArray, List.set_cons_zero, List.set_cons_succ]
      refine wpAnyH_take (i := 22) (v := ?_) rfl (by kernel_rfl) (by kernel_rfl) (by kernel_rfl) (fun _ _ _ h => h) (Or.inl ⟨by rfl, ?_⟩) hHeld ?_
      rotate_left
      · intro w' hSw
        have b3 := hSw.b3
        clear hSw
        go_simp
        first | done | with_reducible rfl
      simp only [Act.put, List.getElem_toArray, List.getElem_cons_succ, List.getElem_cons_zero, List.setIfInBounds_toArray, List.set_cons_zero, List.set_cons_succ]
      refine wpAnyH_take (i := 23) (v := ?_) rfl (by kernel_rfl) (by kernel_rfl) (by kernel_rfl) (fun _ _ _ h => h) (Or.inl ⟨by rfl, ?_⟩) hHeld ?_
      rotate_left
      · intro w' hSw
        have b3 := hSw.b3
        clear hSw
        go_simp
        first | done | with_reducible rfl
      simp only [Act.put, List.getElem_toArray, List.getElem_cons_succ, List.getElem_cons_zero, List.setIfInBounds_toArray, List.set_cons_zero, List.set_cons_succ]
      refine wpAnyH_take (i := 24) (v := ?_) rfl (by kernel_rfl) (by kernel_rfl) (by kernel_rfl) (fun _ _ _ h => h) (Or.inl ⟨by rfl, ?_⟩) hHeld ?_
      rotate_left
      · intro w' hSw
        have b3 := hSw.b3
        clear hSw
        go_simp
        first | done | with_reducible rfl
      simp only [Act.put, List.getElem_toArray, List.getElem_cons_succ, List.getElem_cons_zero, List.setIfInBounds_toArray, List.set_cons_zero, List.set_cons_succ]
      refine wpAnyH_take (i := 25) (v := ?_) rfl (by kernel_rfl) (by kernel_rfl) (by kernel_rfl) (fun _ _ _ h => h) (Or.inl ⟨by rfl, ?_⟩) hHeld ?_
      rotate_left
      · intro w' hSw
        have b3 := hSw.b3
        clear hSw
        go_simp
        first | done | with_reducible rfl
      simp only [Act.put, List.getElem_toArray, List.getElem_cons_succ, List.getElem_cons_zero, List.setIfInBounds_toArray, List.set_cons_zero, List.set_cons_succ]
      refine wpAnyH_take (i := 26) (v := .agg d41) rfl (by kernel_rfl) (by kernel_rfl) (by kernel_rfl) (fun _ _ _ h => h) (Or.inl ⟨by rfl, ?_⟩) hHeld ?_
      · intro w' hSw
        exact runLd 27 (.tmp 153) rfl g4 (o4 + 4) rfl d41 _ hSw.u1 Tryz.underlying27 rfl HJ41.out
      simp only [Act.put, List.getElem_toArray, List.getElem_cons_succ, List.getElem_cons_zero, List.setIfInBounds_toArray, List.set_cons_zero, List.set_cons_succ]
      refine wpAnyH_take (i := 27) (v := ?_) rfl (by kernel_rfl) (by kernel_rfl) (by kernel_rfl) (fun _ _ _ h => h) (Or.inl ⟨by rfl, ?_⟩) hHeld ?_
      rotate_left
      · intro w' hSw
        have b3 := hSw.b3
        clear hSw
        go_simp
        first | done | with_reducible rfl
      simp only [Act.put, List.getElem_toArray, List.getElem_cons_succ, List.getElem_cons_zero, List.setIfInBounds_toArray, List.set_cons_zero, List.set_cons_succ]
      refine wpAnyH_take (i := 28) (v := .agg ms2) rfl (by kernel_rfl) (by kernel_rfl) (by kernel_rfl) (fun _ _ _ h => h) (Or.inl ⟨by rfl, ?_⟩) hHeld ?_
      · intro w' hSw
        exact runLd 27 (.tmp 155) rfl P2 0 rfl ms2 _ hSw.t2 Tryz.underlying27 rfl HJ2.out
      simp only [Act.put, List.getElem_toArray, List.getElem_cons_succ, List.getElem_cons_zero, List.setIfInBounds_toArray, List.set_cons_zero, List.set_cons_succ]
      have HC2 := hid (terms_same 4096 r d41 ms2 w4 HF.out.2.2 (by omega) HT2.out.t41 HT2.out.t2)
      refine ready_one 29 _ (by kernel_rfl) rfl (stepFnW 14 (.func 14) [.tmp 154, .tmp 156] _ [.agg d41, .agg ms2] rfl rfl rfl rfl (fun _ => rfl) _ HC2.out ?_)
      rintro e w5 ⟨rfl, hw⟩
      refine Or.inl ⟨_, rfl, ?_⟩
      replace hHeld := hHeld.on hw
      have HB3 := hid (HB2.out.trans (hw.mono HB2.out.size))
      clear hw HT2 HB2 HC2
      refine ⟨hHeld, ?_⟩
      simp only [Act.put, List.getElem_toArray, List.getElem_cons_succ, List.getElem_cons_zero, List.setIfInBounds_toArray, List.set_cons_zero, List.set_cons_succ]
      refine wpAnyH_take (i := 30) (v := ?_) rfl (by kernel_rfl) (by kernel_rfl) (by kernel_rfl) (fun _ _ _ h => h) (Or.inl ⟨by rfl, ?_⟩) hHeld ?_
      rotate_left
      · intro w' hSw
        clear hSw
        go_simp
        first | done | with_reducible rfl
      simp only [Act.put, List.getElem_toArray, List.getElem_cons_succ, List.getElem_cons_zero, List.setIfInBounds_toArray, List.set_cons_zero, List.set_cons_succ]
      refine wpAnyH_take (i := 31) (v := ?_) rfl (by kernel_rfl) (by kernel_rfl) (by kernel_rfl) (fun _ _ _ h => h) (Or.inl ⟨by rfl, ?_⟩) hHeld ?_
      rotate_left
      · intro w' hSw
        clear hSw
        go_simp
        first | done | with_reducible rfl
      simp only [Act.put, List.getElem_toArray, List.getElem_cons_succ, List.getElem_cons_zero, List.setIfInBounds_toArray, List.set_cons_zero, List.set_cons_succ]
      have HW6 := hid (HWk.out w5 HB3.out)
      refine ready_one 32 _ (by kernel_rfl) rfl (stepFnW 8 (.func 8) [] _ [] rfl rfl rfl rfl (fun _ => rfl) _ HW6.out ?_)
      rintro e w6 ⟨rfl, hw⟩
      refine Or.inl ⟨_, rfl, ?_⟩
      replace hHeld := hHeld.on hw
      have HX := hid (HB3.out.trans (hw.mono HB3.out.size))
      clear hw HB3
      refine ⟨hHeld, ?_⟩
      simp only [Act.put, List.getElem_toArray, List.getElem_cons_succ, List.getElem_cons_zero, List.setIfInBounds_toArray, List.set_cons_zero, List.set_cons_succ]
      refine wpAnyH_take (i := 33) (v := ?_) rfl (by kernel_rfl) (by kernel_rfl) (by kernel_rfl) (fun _ _ _ h => h) (Or.inl ⟨by rfl, ?_⟩) hHeld ?_
      rotate_left
      · intro w' hSw
        clear hSw
        go_simp
        first | done | with_reducible rfl
      simp only [Act.put, List.getElem_toArray, List.getElem_cons_succ, List.getElem_cons_zero, List.setIfInBounds_toArray, List.set_cons_zero, List.set_cons_succ]
      refine wpAnyH_take (i := 34) (v := ?_) rfl (by kernel_rfl) (by kernel_rfl) (by kernel_rfl) (fun _ _ _ h => h) (Or.inl ⟨by rfl, ?_⟩) hHeld ?_
      rotate_left
      · intro w' hSw
        clear hSw
        go_simp
        first | done | with_reducible rfl
      simp only [Act.put, List.getElem_toArray, List.getElem_cons_succ, List.getElem_cons_zero, List.setIfInBounds_toArray, List.set_cons_zero, List.set_cons_succ]
      refine wpAnyH_done (by kernel_rfl) ?_ _
      clear hHeld
      go_wp2
      go_ret
      exact ⟨rfl, HX.out⟩
end Go.Proofs.YtdpmllfapjjihaaGreatDoor
