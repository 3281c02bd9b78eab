/-
  Proved here: ActionsEach says true of every header, two lists of copies and ports. Condition: the widths' table holds its numbers.
-/
import Derived.Test.YtejmobkfanejbaaDoorWR
namespace Go.Proofs.YtejmobkfanejbaaDoor
open Go.RowKit

theorem Hs.src {S : Nat → Prop} {w : World} {ao : Option Addr} {n cap : Nat} {l : List (Nat → Int)} (h : Hs S w (.slice ao n cap) l) : n ≠ 0 → ∃ a, ao = some a ∧ ∀ j x, (hcs l)[j]? = some x → w.cell? (a.add j) = some x := by
  intro h0
  rcases h.2 with ⟨e, h1⟩ | ⟨g, o, cap', cur, he, hb1, hb2, hb3, hb4, hb5⟩
  · simp at e; omega
  obtain ⟨rfl, rfl, rfl⟩ : ao = some ⟨g, o, none⟩ ∧ n = l.length ∧ cap = cap' := by simpa using he
  refine ⟨_, rfl, fun j x hj => ?_⟩
  have hjl := (List.getElem?_eq_some_iff.1 hj).1
  rw [hcs_len] at hjl
  rw [Addr.add_lit, cell_of_row _ _ _ _ _ _ hb2, cells_at hb5 hjl, hj]
/-- Copies put behind copies. -/
theorem cps_app {S T : Nat → Prop} {w : World} {v : Value} {a b : List (List Ac)} {us1 us2 : List Value} (h : Rw S 1 45 w v (a.length + b.length) (us1 ++ us2)) (hu1 : us1.length = a.length) (h1 : ∀ j (hj : j < a.length), ∃ u, us1[j]? = some u ∧ Acs T w u a[j]) (h2 : ∀ j (hj : j < b.length), ∃ u, us2[j]? = some u ∧ Acs T w u b[j]) (hl : a.length + b.length ≤ 2147483648) (hS : ∀ b, S b → T b) : Cps T w v (a ++ b) := by
  refine cps_of (S := S) (us := us1 ++ us2) (by rw [List.length_append]; exact h) (fun j hj => ?_) (by rw [List.length_append]; exact hl) hS
  by_cases hja : j < a.length
  · obtain ⟨u, hu, hA⟩ := h1 j hja
    refine ⟨u, by rw [List.getElem?_append_left (by omega)]; exact hu, ?_⟩
    rw [List.getElem_append_left hja]; exact hA
  · have hjb : j - a.length < b.length := by rw [List.length_append] at hj; omega
    obtain ⟨u, hu, hA⟩ := h2 _ hjb
    refine ⟨u, by rw [List.getElem?_append_right (by omega), hu1]; exact hu, ?_⟩
    rw [List.getElem_append_right (by omega)]; exact hA
/-- Behind the putting together. -/
structure E2 (w : World) (h : Nat → Int) (c : List (List Ac)) (v : Value) (x : World) : Prop where
  low : Below w.heap.size w x
  box : Blk x w.heap.size 11 24 h
  all : Cps (fun _ => True) x v c
theorem E2.on {w : World} {h : Nat → Int} {c : List (List Ac)} {v : Value} {x y : World} (q : E2 w h c v x) (hb : Below x.heap.size x y) : E2 w h c v y := ⟨q.low.trans (hb.mono q.low.size), q.box.on hb, Cps.on q.all hb⟩
set_option maxHeartbeats 12800000 in
set_option maxRecDepth 100000 in
theorem each_law (w : World) (h : Nat → Int) (v1 v2 vp : Value) (a b : List (List Ac)) (ps : List Int) {T1 T' : Nat → Prop} (ha : Cps T1 w v1 a) (hcb : Cps (fun b => b < w.heap.size) w v2 b) (hp : Pts T' w vp ps) (ht : Tab w) : Calls Tryd.prog 6 #[hv h, v1, v2, vp] w fun e w' => e = .returned (.bool true) ∧ Below w.heap.size w w' := by
  obtain ⟨oa, ca, rfl, -⟩ := ha.form
  obtain ⟨ob, cb, rfl, -⟩ := hcb.form
  obtain ⟨ap, cp, rfl, -⟩ := hp.form
  have hplen := hp.len
  obtain ⟨W0, hW0⟩ : ∃ W0, W0 = w.alloc (.cells (row 11 h) 24) := ⟨_, rfl⟩
  have hB0 : Below w.heap.size w W0 := by rw [hW0]; exact (Below.refl _ _).alloc (Nat.le_refl _) _
  have hA0 : Blk W0 w.heap.size 11 24 h := by rw [hW0]; exact Blk.new w 11 24 h
  have HG1 := hid (great_any (Cps.on ha hB0))
  have HG2 := hid (great_any (Cps.on hcb hB0))
  have HWk : Hid (∀ x, Below w.heap.size w x → Calls Tryd.prog 10 #[] x fun e w' => e = .returned (.bool true) ∧ Below w.heap.size w w') := fun x hx => (wakes_any x (ht.on hx)).mono fun e w' ⟨h1, h2⟩ => ⟨h1, hx.trans (h2.mono hx.size)⟩
  have HW1 := hid (HWk.out W0 hB0)
  have HCp : Hid (a.length + cnt a ≤ 4096 → b.length + cnt b ≤ 4096 → Calls Tryd.prog 13 #[.slice oa a.length ca] W0 fun e x1 => ∃ vm, e = .returned vm ∧ (∃ s k, vm = .slice s a.length k) ∧ ∃ us1 us2, Rw (fun b => W0.heap.size ≤ b) 1 45 x1 vm a.length us1 ∧ us2.length = b.length * 1 ∧ (b.length ≠ 0 → ∃ ad, ob = some ad ∧ ∀ j x, us2[j]? = some x → x1.cell? (ad.add j) = some x) ∧ (∀ x ∈ us2, x.oneCell' = true) ∧ ∀ v' x2, Apd x1 vm x2 → Rw (fun b => W0.heap.size ≤ b ∨ x1.heap.size ≤ b) 1 45 x2 v' (a.length + b.length) (us1 ++ us2) → E2 w h (a ++ b) v' x2) := fun hb1 hb2 => by
    refine (copied_any (Cps.on ha hB0) (by omega) (by omega)).mono ?_
    rintro e x1 ⟨vm, rfl, hb, -, us1, hR, hac⟩
    have hlow := hB0.trans (hb.mono hB0.size)
    obtain ⟨us2, k1, -, k2, k3, k4⟩ := Cps.src (Cps.on hcb hlow)
    refine ⟨vm, rfl, hR.form, us1, us2, hR, by omega, k3, k2, fun v' x2 hA hR2 => ?_⟩
    have hown : ∀ j, vm.ownBlock = some j → W0.heap.size ≤ j := fun j hj => hR.own j hj
    have hs0 := hB0.size
    have hge : ∀ j, j < W0.heap.size → vm.ownBlock ≠ some j := fun j hj e => by have := hown j e; omega
    have hx2 : Below W0.heap.size W0 x2 := hb.trans ((hA.only (S := fun b => W0.heap.size ≤ b) (fun j hj => Nat.le_trans hb.size hj) hown).below fun j hj => hj)
    refine ⟨hB0.trans (hx2.mono hB0.size), hA0.on hx2, ?_⟩
    refine cps_app (T := fun _ => True) hR2 (by have := hR.len; omega) (fun j hj => ?_) (fun j hj => ?_) (by omega) (fun _ _ => trivial)
    · obtain ⟨u, hu, hA1⟩ := hac j hj
      exact ⟨u, hu, Acs.carry (fun i hi hT => ⟨trivial, hA.block i hi hT.2⟩) hA1⟩
    · obtain ⟨u, hu, hA1⟩ := k4 j hj
      exact ⟨u, hu, Acs.carry (fun i hi hT => ⟨trivial, hA.block i hi (hge i (Nat.lt_of_lt_of_le hT hs0))⟩) hA1⟩
  have HR : Hid (∀ x c v vall, Below w.heap.size w x → Cps (fun _ => True) x v c → cnt c ≤ 10000 → E2 w h (a ++ b) vall x → Calls Tryd.prog 14 #[hv h, v, .slice ap ps.length cp] x fun e w' => ∃ va, e = .returned (.tuple #[va, .bool (pnts c)]) ∧ E2 w h (a ++ b) vall w' ∧ Below x.heap.size x w' ∧ Hs (fun _ => True) w' va (outs h ps c)) := fun x c v vall hx hc hn hq => (run_any h hc (Pts.on hp hx) (ht.on hx) (by omega)).mono fun e w' ⟨va, h1, h2, h3⟩ => ⟨va, h1, hq.on h2, h2, h3.any⟩
  have HR1 : Hid (a.length + cnt a ≤ 4096 → ∀ x vall, E2 w h (a ++ b) vall x → Calls Tryd.prog 14 #[hv h, .slice oa a.length ca, .slice ap ps.length cp] x fun e w' => ∃ va, e = .returned (.tuple #[va, .bool (pnts a)]) ∧ E2 w h (a ++ b) vall w' ∧ Hs (fun _ => True) w' va (outs h ps a)) := fun hn x vall hq => (HR.out x a _ vall hq.low (Cps.on ha hq.low).any (by omega) hq).mono fun e w' ⟨va, h1, h2, _, h4⟩ => ⟨va, h1, h2, h4⟩
  have HR2 : Hid (b.length + cnt b ≤ 4096 → ∀ x vall va, E2 w h (a ++ b) vall x → Hs (fun _ => True) x va (outs h ps a) → Calls Tryd.prog 14 #[hv h, .slice ob b.length cb, .slice ap ps.length cp] x fun e w' => ∃ vb, e = .returned (.tuple #[vb, .bool (pnts b)]) ∧ E2 w h (a ++ b) vall w' ∧ Hs (fun _ => True) w' va (outs h ps a) ∧ Hs (fun _ => True) w' vb (outs h ps b)) := fun hn x vall va hq hva => (HR.out x b _ vall hq.low (Cps.on hcb hq.low).any (by omega) hq).mono fun e w' ⟨vb, h1, h2, h3, h4⟩ => ⟨vb, h1, h2, hva.on h3, h4⟩
  have HR3 : Hid (a.length + cnt a ≤ 4096 → b.length + cnt b ≤ 4096 → ∀ x vall va vb, E2 w h (a ++ b) vall x → Hs (fun _ => True) x va (outs h ps a) → Hs (fun _ => True) x vb (outs h ps b) → Calls Tryd.prog 14 #[hv h, vall, .slice ap ps.length cp] x fun e w' => ∃ vz, e = .returned (.tuple #[vz, .bool (pnts a || pnts b)]) ∧ Below w.heap.size w w' ∧ Hs (fun _ => True) w' va (outs h ps a) ∧ Hs (fun _ => True) w' vb (outs h ps b) ∧ Hs (fun _ => True) w' vz (outs h ps a ++ outs h ps b)) := fun hn1 hn2 x vall va vb hq hva hvb => by
    have := HR.out x (a ++ b) vall vall hq.low hq.all (by rw [cnt_app]; omega) hq
    rw [pnts_app, outs_app] at this
    exact this.mono fun e w' ⟨vz, h1, h2, h3, h4⟩ => ⟨vz, h1, h2.low, hva.on h3, hvb.on h3, h4⟩
  have HLa : Hid (a.length + cnt a ≤ 4096 → (outs h ps a).length ≤ 4096) := fun hn => by have := outs_len h ps a; omega
  have HLb : Hid (b.length + cnt b ≤ 4096 → (outs h ps b).length ≤ 4096) := fun hn => by have := outs_len h ps b; omega
  have HW0 := hid hW0
  clear ha hcb hp ht hW0 hB0 hA0 HR
  by_cases hp1 : 1000 < ps.length
  · have hd : decide ((1000 : Int) < (ps.length : Int)) = true := decide_eq_true (by omega)
    go_enter Tryd.func6, Tryd.ntmps6
    go_upto_region 1 with fail
    rw [← HW0.out]
    clear HW0 HCp HR1 HR2 HR3 HLa HLb
    go_wp2_with (first
      | (go_at_call 9; refine (HG1.out).mono ?_; rintro e w1 ⟨⟨g, rfl, -⟩, rfl⟩; clear HG1; cases g)
      | (go_at_call 9; refine (HG2.out).mono ?_; rintro e w1 ⟨⟨g, rfl, -⟩, rfl⟩; clear HG2; cases g)
      | (go_at_call 10; refine (HW1.out).mono ?_; rintro e w1 ⟨rfl, hb1⟩; have HB1 := hid hb1; clear HW1 hb1))
    all_goals
      go_ret
      exact ⟨rfl, HB1.out⟩
  · have hd : decide ((1000 : Int) < (ps.length : Int)) = false := by simp; omega
    generalize pnts a = pa at HR1 HR3
    generalize pnts b = pb at HR2 HR3
    generalize outs h ps a = La at HR1 HR2 HR3 HLa
    generalize outs h ps b = Lb at HR2 HR3 HLb
    go_enter Tryd.func6, Tryd.ntmps6
    go_upto_region 1 with fail
    rw [← HW0.out]
    clear HW0
    go_upto_region 3 with (first
      | (go_at_call 9; refine (HG1.out).mono ?_; rintro e w1 ⟨⟨g, rfl, hg⟩, rfl⟩; have HGg := hid hg; clear HG1 hg; cases g)
      | (go_at_call 9; refine (HG2.out).mono ?_; rintro e w1 ⟨⟨g, rfl, hg⟩, rfl⟩; have HGh := hid hg; clear HG2 hg; cases g)
      | (go_at_call 10; refine (HW1.out).mono ?_; rintro e w1 ⟨rfl, hb1⟩; have HB1 := hid hb1; clear HW1 hb1))
    · have hga : a.length + cnt a ≤ 4096 := HGg.out trivial
      have hgb : b.length + cnt b ≤ 4096 := HGh.out trivial
      have HCp' := hid (HCp.out hga hgb)
      have HR1' := hid (HR1.out hga)
      have HR2' := hid (HR2.out hgb)
      have HR3' := hid (HR3.out hga hgb)
      have hla := HLa.out hga
      have hlb := HLb.out hgb
      clear HGg HGh HCp HR1 HR2 HR3 HLa HLb HW1
      go_upto_region 7 with (first
        | (go_at_call 13; refine (HCp'.out).mono ?_; rintro e x1 ⟨vm, rfl, ⟨s1, k1, rfl⟩, us1, us2, q1, q2, q3, q4, q5⟩
           have HQ1 := hid q1
           have HQ3 := hid q3
           have HQ4 := hid q4
           have HQ5 := hid q5
           clear HCp' q1 q3 q4 q5)
        | (at_builtin; refine appAll (v := .slice s1 a.length k1) (.tmp 29) (.tmp 30) 27 rfl rfl rfl rfl Tryd.underlying27 infoACTS rfl (by omega) (by omega) HQ1.out q2 HQ3.out HQ4.out (by omega) ?_
           intro va x2 hA2 hR2
           have hq := HQ5.out va x2 hA2 hR2
           have m2 := hq.box
           have HX2 := hid (HR1'.out x2 va hq)
           obtain ⟨s2, k2, rfl⟩ := hR2.form
           clear hA2 hR2 hq HQ1 HQ3 HQ4 HQ5 HR1')
        | (refine ld24 (.tmp 4) rfl _ rfl rfl h m2 ?_; clear m2)
        | (go_at_call 14; refine (HX2.out).mono ?_; rintro e x3 ⟨v3, rfl, q1, q5⟩
           have m3 := q1.box
           have HX3 := hid (HR2'.out x3 _ v3 q1 q5)
           obtain ⟨s3, k3, rfl⟩ := q5.form
           clear HX2 HR2' q1 q5)
        | (refine ld24 (.tmp 4) rfl _ rfl rfl h m3 ?_; clear m3)
        | (go_at_call 14; refine (HX3.out).mono ?_; rintro e x4 ⟨v4, rfl, q1, q5, q6⟩
           have m4 := q1.box
           have HX4 := hid (HR3'.out x4 _ _ v4 q1 q5 q6)
           obtain ⟨s4, k4, rfl⟩ := q6.form
           clear HX3 HR3' q1 q5 q6)
        | (refine ld24 (.tmp 4) rfl _ rfl rfl h m4 ?_; clear m4)
        | (go_at_call 14; refine (HX4.out).mono ?_; rintro e x5 ⟨v5, rfl, q1, q5, q6, q7⟩
           have HB5 := hid q1
           have HA5 := hid q5
           have HBb5 := hid q6
           have HZ5 := hid q7
           obtain ⟨s5, k5, rfl⟩ := q7.form
           clear HX4 q1 q5 q6 q7))
      have hb5 : Below x5.heap.size x5 (x5.alloc (.cells #[] 24)) := (Below.refl _ _).alloc (Nat.le_refl _) _
      have HS5 := hid ((HA5.out.on hb5).src)
      clear hb5
      have HHe : Hid (∀ x7 v7, Below x5.heap.size x5 x7 → Hs (fun _ => True) x7 v7 (La ++ Lb) → Calls Tryd.prog 16 #[.slice s5 (La.length + Lb.length) k5, v7] x7 fun e w' => e = .returned (.bool true) ∧ Below w.heap.size w w') := fun x7 v7 hb7 hH7 => by
        have hz := HZ5.out.on hb7
        rw [List.length_append] at hz
        exact (heads_same hz hH7 (by rw [List.length_append]; omega)).mono fun e w' ⟨h1, h2⟩ => ⟨h1, (HB5.out.trans (hb7.mono HB5.out.size)).trans ((still_below h2).mono (Nat.le_trans HB5.out.size hb7.size))⟩
      cases pa <;> cases pb
      all_goals
        go_wp2_with (first
          | (at_builtin; refine appAll (v := .slice (some ⟨x5.heap.size, 0, none⟩) 0 0) (.tmp 54) (.tmp 55) 37 rfl rfl rfl rfl Tryd.underlying37 infoHDR (row_size _ _) (by omega) (by omega) (rw_empty (fun b => x5.heap.size ≤ b) 11 24 x5 (Nat.le_refl _)) (hcs_len La) HS5.out (hcs_one' La) (by omega) ?_
             intro v6 x6 hA6 hR6
             rw [Nat.zero_add, List.nil_append] at hR6
             have hb6 := app_low hA6
             have HB6 := hid hb6
             have HR6 := hid hR6
             have HS6 := hid ((HBb5.out.on hb6).src)
             obtain ⟨s6, k6, rfl⟩ := hR6.form
             clear hA6 hR6 hb6 HS5)
          | (at_builtin; refine appAll (v := .slice s6 La.length k6) (.tmp 56) (.tmp 57) 37 rfl rfl rfl rfl Tryd.underlying37 infoHDR (row_size _ _) (by omega) (by omega) HR6.out (hcs_len Lb) HS6.out (hcs_one' Lb) (by omega) ?_
             intro v7 x7 hA7 hR7
             have hb7 : Below x5.heap.size x5 x7 := HB6.out.trans ((hA7.only (S := fun b => x5.heap.size ≤ b) (fun j hj => Nat.le_trans HB6.out.size hj) (fun j hj => (HR6.out.own j hj).elim (fun h => h) (fun h => by have h' : (x5.alloc (.cells #[] 24)).heap.size ≤ j := h; simp at h'; show x5.heap.size ≤ j; omega))).below fun j hj => hj)
             have hH7 : Hs (fun _ => True) x7 v7 (La ++ Lb) := by
               have := hR7.carry (T := fun _ => True) (w' := x7) fun b _ _ => ⟨trivial, rfl⟩
               unfold Hs
               rw [List.length_append, hcs_app]
               exact this
             have HX7 := hid (HHe.out x7 v7 hb7 hH7)
             obtain ⟨s7, k7, rfl⟩ := hR7.form
             clear hA7 hR7 hb7 hH7 HHe HR6 HS6)
          | (go_at_call 16; refine (HX7.out).mono ?_; rintro e x8 ⟨rfl, q1⟩; have H8 := hid (HWk.out x8 q1); clear HX7 q1 HWk)
          | (go_at_call 10; refine (H8.out).mono ?_; rintro e x9 ⟨rfl, q1⟩; have HB9 := hid q1; clear H8 q1))
        go_ret
        exact ⟨rfl, HB9.out⟩
    all_goals
      go_ret
      exact ⟨rfl, HB1.out⟩
end Go.Proofs.YtejmobkfanejbaaDoor
