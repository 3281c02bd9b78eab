/-
  Proved here: ActionsRun says true of every header, copies and ports. Condition: the widths' table holds its numbers.
-/
import Derived.Test.YtejmobkfanejbaaDoorL2
import Derived.Test.YtejmobkfanejbaaDoorD2
import Derived.Test.YtejmobkfanejbaaDoorWS
namespace Go.Proofs.YtejmobkfanejbaaDoor
open Go.RowKit

theorem Hs.on {S : Nat → Prop} {w w' : World} {v : Value} {l : List (Nat → Int)} (h : Hs S w v l) (hb : Below w.heap.size w w') : Hs S w' v l := h.carry fun b hb' hS => ⟨hS, hb.block b hb'⟩
theorem Pts.still {T : Nat → Prop} {w w' : World} {v : Value} {l : List Int} (h : Pts T w v l) (ho : Still w w') : Pts T w' v l := Pts.carry (fun b _ hT => ⟨hT, ho.block b (fun hf => hf)⟩) h
/-- Ahead of the looks: two lists of headers, two of copies, two of ports. -/
structure Rl8 (w : World) (v vm vp vo va vb : Value) (c : List (List Ac)) (ps : List Int) (L : List (Nat → Int)) (x : World) : Prop where
  low : Below w.heap.size w x
  ha : Hs (fun _ => True) x va L
  hb : Hs (fun _ => True) x vb L
  hc : Cps (fun _ => True) x v c
  hm : Cps (fun _ => True) x vm c
  hp : Pts (fun _ => True) x vp ps
  ho : Pts (fun _ => True) x vo ps
theorem Rl8.still {w : World} {v vm vp vo va vb : Value} {c : List (List Ac)} {ps : List Int} {L : List (Nat → Int)} {x y : World} (h : Rl8 w v vm vp vo va vb c ps L x) (ho : Still x y) : Rl8 w v vm vp vo va vb c ps L y :=
  ⟨h.low.trans ((still_below ho).mono h.low.size), h.ha.still ho, h.hb.still ho, h.hc.still ho, h.hm.still ho, h.hp.still ho, h.ho.still ho⟩
theorem Cps.any {T : Nat → Prop} {w : World} {v : Value} {c : List (List Ac)} (h : Cps T w v c) : Cps (fun _ => True) w v c := Cps.carry (fun _ _ _ => ⟨trivial, rfl⟩) h
theorem Pts.any {T : Nat → Prop} {w : World} {v : Value} {l : List Int} (h : Pts T w v l) : Pts (fun _ => True) w v l := Pts.carry (fun _ _ _ => ⟨trivial, rfl⟩) h
theorem Hs.any {S : Nat → Prop} {w : World} {v : Value} {l : List (Nat → Int)} (h : Hs S w v l) : Hs (fun _ => True) w v l := h.carry fun _ _ _ => ⟨trivial, rfl⟩
/-- An append to an empty row of one's own. -/
theorem app_low {x1 x2 : World} {t : Nat} (hA : Apd (x1.alloc (.cells #[] t)) (.slice (some ⟨x1.heap.size, 0, none⟩) 0 0) x2) : Below x1.heap.size x1 x2 := by
  have hb1 : Below x1.heap.size x1 (x1.alloc (.cells #[] t)) := (Below.refl _ _).alloc (Nat.le_refl _) _
  refine hb1.trans ((hA.only (S := fun b => x1.heap.size ≤ b) (fun j hj => Nat.le_trans hb1.size hj) (fun j hj => ?_)).below fun j hj => hj)
  have e : x1.heap.size = j := by simpa [Value.ownBlock] using hj
  exact Nat.le_of_eq e
set_option maxHeartbeats 12800000 in
set_option maxRecDepth 100000 in
theorem run_law (w : World) (h : Nat → Int) (v vp : Value) (c : List (List Ac)) (ps : List Int) {T T' : Nat → Prop} (hc : Cps T w v c) (hp : Pts T' w vp ps) (ht : Tab w) : Calls Tryd.prog 4 #[hv h, v, vp] w fun e w' => e = .returned (.bool true) ∧ Below w.heap.size w w' := by
  obtain ⟨ao, cap, rfl, -⟩ := hc.form
  obtain ⟨ap, cp, rfl, -⟩ := hp.form
  have hplen := hp.len
  obtain ⟨W0, hW0⟩ : ∃ W0, W0 = w.alloc (.cells (row 11 h) 24) := ⟨_, rfl⟩
  have hB0 : Below w.heap.size w W0 := by rw [hW0]; exact (Below.refl _ _).alloc (Nat.le_refl _) _
  have hA0 : Blk W0 w.heap.size 11 24 h := by rw [hW0]; exact Blk.new w 11 24 h
  have HG := hid (great_any (Cps.on hc hB0))
  have HWk : Hid (∀ x, Below w.heap.size w x → Calls Tryd.prog 10 #[] x fun e w' => e = .returned (.bool true) ∧ Below w.heap.size w w') := fun x hx => (wakes_any x (ht.on hx)).mono fun e w' ⟨h1, h2⟩ => ⟨h1, hx.trans (h2.mono hx.size)⟩
  have HW1 := hid (HWk.out W0 hB0)
  have HCp : Hid (c.length + cnt c ≤ 4096 → Calls Tryd.prog 13 #[.slice ao c.length cap] W0 fun e w' => ∃ vm, e = .returned vm ∧ (Below w.heap.size w w' ∧ Below W0.heap.size W0 w' ∧ Blk w' w.heap.size 11 24 h) ∧ Cps (fun _ => True) w' vm c) := fun hb => (copied_any (Cps.on hc hB0) (by omega) (by omega)).mono fun e w' ⟨vm, h1, h2, h3, _⟩ => ⟨vm, h1, ⟨hB0.trans (h2.mono hB0.size), h2, hA0.on h2⟩, h3.any⟩
  have HRu : Hid (c.length + cnt c ≤ 4096 → ∀ x vm vo, Below w.heap.size w x → Blk x w.heap.size 11 24 h → Cps (fun _ => True) x vm c → Pts (fun _ => True) x vo ps → Calls Tryd.prog 14 #[hv h, vm, vo] x fun e w' => ∃ va, e = .returned (.tuple #[va, .bool (pnts c)]) ∧ (Below w.heap.size w w' ∧ Blk w' w.heap.size 11 24 h ∧ Cps (fun _ => True) w' vm c ∧ Pts (fun _ => True) w' vo ps) ∧ Hs (fun _ => True) w' va (outs h ps c)) := fun hb x vm vo hx hbx hm ho => (run_any h hm ho (ht.on hx) (by omega)).mono fun e w' ⟨va, h1, h2, h3⟩ => ⟨va, h1, ⟨hx.trans (h2.mono hx.size), hbx.on h2, Cps.on hm h2, Pts.on ho h2⟩, h3.any⟩
  have HDu : Hid (c.length + cnt c ≤ 4096 → ∀ x vm vo va, Below w.heap.size w x → Cps (fun _ => True) x vm c → Pts (fun _ => True) x vo ps → Hs (fun _ => True) x va (outs h ps c) → Calls Tryd.prog 15 #[hv h, .slice ao c.length cap, .slice ap ps.length cp] x fun e w' => ∃ vb, e = .returned (.tuple #[vb, .bool (pnts c)]) ∧ (∃ s k, vb = .slice s (outs h ps c).length k) ∧ Rl8 w (.slice ao c.length cap) vm (.slice ap ps.length cp) vo va vb c ps (outs h ps c) w') := fun hb x vm vo va hx hm ho ha => (drun_any h (Cps.on hc hx) (Pts.on hp hx) (by omega)).mono fun e w' ⟨vb, h1, h2, h3⟩ => by
    have hx' := hx.trans (h2.mono hx.size)
    exact ⟨vb, h1, h3.form, ⟨hx', ha.on h2, h3.any, (Cps.on hc hx').any, (Cps.on hm h2), (Pts.on hp hx').any, Pts.on ho h2⟩⟩
  have HSrc : Hid (∀ x, Below w.heap.size w x → ps.length ≠ 0 → ∃ a, ap = some a ∧ ∀ j z, (ps.map (Value.int .u16))[j]? = some z → x.cell? (a.add j) = some z) := fun x hx => (Pts.src (Pts.on hp hx)).2
  have HFit := hid (Pts.fit hp)
  have HHe : Hid (c.length + cnt c ≤ 4096 → ∀ x vm vo va vb, Rl8 w (.slice ao c.length cap) vm (.slice ap ps.length cp) vo va vb c ps (outs h ps c) x → Calls Tryd.prog 16 #[va, vb] x fun e w' => e = .returned (.bool true) ∧ Rl8 w (.slice ao c.length cap) vm (.slice ap ps.length cp) vo va vb c ps (outs h ps c) w') := fun hb x vm vo va vb hr => (heads_same hr.ha hr.hb (by have := outs_len h ps c; omega)).mono fun e w' ⟨h1, h2⟩ => ⟨h1, hr.still h2⟩
  have HSa : Hid (∀ x vm vo va vb, Rl8 w (.slice ao c.length cap) vm (.slice ap ps.length cp) vo va vb c ps (outs h ps c) x → Calls Tryd.prog 17 #[vm, .slice ao c.length cap] x fun e w' => e = .returned (.bool true) ∧ Rl8 w (.slice ao c.length cap) vm (.slice ap ps.length cp) vo va vb c ps (outs h ps c) w') := fun x vm vo va vb hr => (asame_any hr.hm hr.hc).mono fun e w' ⟨⟨r, h1, h2⟩, h3⟩ => ⟨by rw [h1, h2.2 rfl], hr.still h3⟩
  have HSd : Hid (∀ x vm vo va vb, Rl8 w (.slice ao c.length cap) vm (.slice ap ps.length cp) vo va vb c ps (outs h ps c) x → Calls Tryd.prog 18 #[vm, .slice ao c.length cap] x fun e w' => e = .returned (.bool true) ∧ Rl8 w (.slice ao c.length cap) vm (.slice ap ps.length cp) vo va vb c ps (outs h ps c) w') := fun x vm vo va vb hr => (dsame_any hr.hm hr.hc).mono fun e w' ⟨⟨r, h1, h2⟩, h3⟩ => ⟨by rw [h1, h2.2 rfl], hr.still h3⟩
  have HW0 := hid hW0
  clear hc hp ht hW0 hB0 hA0
  by_cases hp1 : 1000 < ps.length
  · have hd : decide ((1000 : Int) < (ps.length : Int)) = true := decide_eq_true (by omega)
    go_enter Tryd.func4, Tryd.ntmps4
    go_upto_region 1 with fail
    rw [← HW0.out]
    clear HW0 HCp HRu HDu HHe HSa HSd
    go_wp2_with (first
      | (go_at_call 9; refine (HG.out).mono ?_; rintro e w1 ⟨⟨g, rfl, -⟩, rfl⟩; clear HG; cases g)
      | (go_at_call 10; refine (HW1.out).mono ?_; rintro e w1 ⟨rfl, hb1⟩; have HB1 := hid hb1; clear HW1 hb1))
    · go_ret
      exact ⟨rfl, HB1.out⟩
    · go_ret
      exact ⟨rfl, HB1.out⟩
  · have hd : decide ((1000 : Int) < (ps.length : Int)) = false := by simp; omega
    generalize pnts c = pb at HRu HDu
    generalize outs h ps c = L at HRu HDu HHe HSa HSd
    go_enter Tryd.func4, Tryd.ntmps4
    go_upto_region 1 with fail
    rw [← HW0.out]
    clear HW0
    go_upto_region 3 with (first
      | (go_at_call 9; refine (HG.out).mono ?_; rintro e w1 ⟨⟨g, rfl, hg⟩, rfl⟩; have HGg := hid hg; clear HG hg; cases g)
      | (go_at_call 10; refine (HW1.out).mono ?_; rintro e w1 ⟨rfl, hb1⟩; have HB1 := hid hb1; clear HW1 hb1))
    · have hg0 : c.length + cnt c ≤ 4096 := HGg.out trivial
      have HCp' := hid (HCp.out hg0)
      have HRu' := hid (HRu.out hg0)
      have HDu' := hid (HDu.out hg0)
      have HHe' := hid (HHe.out hg0)
      clear HGg HCp HRu HDu HHe HW1
      go_upto_region 8 with (first
        | (go_at_call 13; refine (HCp'.out).mono ?_; rintro e x1 ⟨vm, rfl, ⟨q1, q2, q3⟩, q4⟩
           have hb1 : Below x1.heap.size x1 (x1.alloc (.cells #[] 40)) := (Below.refl _ _).alloc (Nat.le_refl _) _
           have HQ1 := hid (And.intro q1 (And.intro q3 q4))
           obtain ⟨s1, k1, rfl, -⟩ := q4.form
           have HX1 := hid (HSrc.out _ (q1.trans (hb1.mono q1.size)))
           clear HCp' HSrc q1 q2 q3 q4 hb1)
        | (at_builtin; refine appAll (v := .slice (some ⟨x1.heap.size, 0, none⟩) 0 0) (.tmp 24) (.tmp 25) 35 rfl rfl rfl rfl Tryd.underlying35 infoU16 rfl (by omega) (by omega) (rw_empty (fun b => x1.heap.size ≤ b) 1 40 x1 (Nat.le_refl _)) (by simp) HX1.out (pts_one ps) (by omega) ?_
           intro vo x2 hA2 hR2
           rw [Nat.zero_add, List.nil_append] at hR2
           have hb2 := app_low hA2
           have hPo := pts_of (hR2.carry (T := fun _ => True) fun b _ _ => ⟨trivial, rfl⟩) HFit.out (by omega)
           obtain ⟨q1, q2, q3⟩ := HQ1.out
           have m2 := q2.on hb2
           have HR2 := hid (HRu'.out x2 _ vo (q1.trans (hb2.mono q1.size)) m2 (Cps.on q3 hb2) hPo)
           obtain ⟨s2, k2, rfl, -⟩ := hPo.form
           clear hA2 hR2 hb2 hPo q1 q2 q3 HQ1 HX1 HRu')
        | (refine ld24 (.tmp 3) rfl _ rfl rfl h m2 ?_; clear m2)
        | (go_at_call 14; refine (HR2.out).mono ?_; rintro e x3 ⟨va, rfl, ⟨q1, q2, q3, q4⟩, q5⟩
           have m3 := q2
           have HR3 := hid (HDu'.out x3 _ _ va q1 q3 q4 q5)
           obtain ⟨s3, k3, rfl⟩ := q5.form
           clear HR2 HDu' q1 q2 q3 q4 q5)
        | (refine ld24 (.tmp 3) rfl _ rfl rfl h m3 ?_; clear m3)
        | (go_at_call 15; refine (HR3.out).mono ?_; rintro e x4 ⟨vb, rfl, ⟨s4, k4, rfl⟩, q1⟩
           have HR4 := hid q1
           clear HR3 q1))
      go_loopw [13] (fun i wr => ∃ k : Nat, k ≤ ps.length ∧ i = .int .i64 k ∧ Still x4 wr) (fun i _ => ps.length - (intOf i).toNat)
      case atStart => exact ⟨0, by omega, rfl, Only.refl _ _⟩
      case round =>
        obtain ⟨k, hk, rfl, ho⟩ := hrel
        generalize wr = wx at *
        have hr := HR4.out.still ho
        by_cases hlt : k < ps.length
        · have hkl : decide ((k : Int) < (ps.length : Int)) = true := decide_eq_true (by omega)
          obtain ⟨b, o, rfl, d0, p0, p1⟩ := hr.hp.at (Below.refl _ _) hlt
          obtain ⟨b', o', rfl, d0', -, -⟩ := hr.ho.at (Below.refl _ _) hlt
          generalize ps[k] = p at d0 d0' p0 p1
          have HO := hid ho
          clear ho hr
          go_wp2
          go_region
          go_wp2
          go_roundw
          case rel => exact ⟨k + 1, by omega, by go_num, HO.out.drew⟩
          case measure => simp [intOf]; omega
        · obtain rfl : k = ps.length := by omega
          have hkl : decide ((ps.length : Int) < (ps.length : Int)) = false := by simp
          have H5 := hid (HHe'.out wx _ _ _ _ hr)
          clear hr ho HR4 HHe'
          have hpp : (pb == pb) = true := by simp
          go_wp2_with (first
            | (go_at_call 16; refine (H5.out).mono ?_; rintro e x5 ⟨rfl, q1⟩; have H6 := hid (HSa.out x5 _ _ _ _ q1); clear H5 q1 HSa)
            | (go_at_call 17; refine (H6.out).mono ?_; rintro e x6 ⟨rfl, q1⟩; have H7 := hid (HSd.out x6 _ _ _ _ q1); clear H6 q1 HSd)
            | (go_at_call 18; refine (H7.out).mono ?_; rintro e x7 ⟨rfl, q1⟩; have H8 := hid (HWk.out x7 q1.low); clear H7 q1 HWk)
            | (go_at_call 10; refine (H8.out).mono ?_; rintro e x8 ⟨rfl, q1⟩; have HB8 := hid q1; clear H8 q1))
          go_ret
          exact ⟨rfl, HB8.out⟩
    · go_ret
      exact ⟨rfl, HB1.out⟩
end Go.Proofs.YtejmobkfanejbaaDoor
