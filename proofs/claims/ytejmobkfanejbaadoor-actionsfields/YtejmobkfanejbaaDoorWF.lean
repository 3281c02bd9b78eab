/-
  Proved here: ActionsFields says true of every header, rule and ports. Condition: the widths' table holds its numbers.
-/
import Derived.Test.YtejmobkfanejbaaDoorFP
namespace Go.Proofs.YtejmobkfanejbaaDoor
open Go.RowKit

/-- Ahead of the looks: the header, the rule, what went out. -/
structure Rf (w : World) (h : Nat → Int) (r : Rl) (u va : Value) (L : List (Nat → Int)) (x : World) : Prop where
  low : Below w.heap.size w x
  bh : Blk x w.heap.size 11 24 h
  rb : Rb (w.heap.size + 1) r u x
  cp : Cps (fun _ => True) x u r.cp
  hs : Hs (fun _ => True) x va L
theorem Rf.still {w : World} {h : Nat → Int} {r : Rl} {u va : Value} {L : List (Nat → Int)} {x y : World} (q : Rf w h r u va L x) (ho : Still x y) : Rf w h r u va L y :=
  ⟨q.low.trans ((still_below ho).mono q.low.size), q.bh.on (still_below ho), q.rb.on (still_below ho), q.cp.still ho, q.hs.still ho⟩
/-- One field of a header that went out, and of the header. -/
structure F2 (b o b' f : Nat) (x y : Int) (w : World) : Prop where
  c0 : w.cell? ⟨b, o + f, none⟩ = some (.int .u64 x)
  c1 : w.cell? ⟨b', f, none⟩ = some (.int .u64 y)
theorem runIx {o : Oper} {a : Act} {w' : World} (x y : Operand) (ho : o.op = .indexAddr 24 x y) (b p f : Nat) (hx : a.eval x = .pointer (some ⟨b, p, none⟩)) (hy : a.eval y = .int .i64 (f : Int)) (hf : f < 11) : (execOp a.eval o).run Tryd.prog w' = .ok (.value (.pointer (some ⟨b, p + f, none⟩))) w' := by
  have hf' : (f : Int) < 11 := by omega
  unfold execOp
  simp only [ho, hx, hy]
  go_simp
theorem entW (args : Array Value) (w : World) : (callFunc 19 args).run Tryd.prog w = .ok (.enter 19 args) w := rfl
set_option maxHeartbeats 25600000 in
set_option maxRecDepth 100000 in
theorem fields_law (w : World) (h : Nat → Int) (r : Rl) (u vp : Value) (ps : List Int) {T T' : Nat → Prop} (hc : Cps T w u r.cp) (hp : Pts T' w vp ps) (ht : Tab w) : Calls Tryd.prog 7 #[hv h, .agg (rlc r u), vp] w fun e w' => e = .returned (.bool true) ∧ Below w.heap.size w w' := by
  obtain ⟨ao, cap, rfl, -⟩ := hc.form
  obtain ⟨ap, cp, rfl, -⟩ := hp.form
  have hplen := hp.len
  have hclen := hc.len
  obtain ⟨u, hu⟩ : ∃ u, u = Value.slice ao r.cp.length cap := ⟨_, rfl⟩
  rw [← hu] at hc
  obtain ⟨W0, hW0⟩ : ∃ W0, W0 = (w.alloc (.cells (row 11 h) 24)).alloc (.cells (rlc r (.slice ao r.cp.length cap)) 29) := ⟨_, rfl⟩
  have hB0 : Below w.heap.size w W0 := by rw [hW0]; exact ((Below.refl _ _).alloc (Nat.le_refl _) _).alloc (by simp) _
  have hA0 : Blk W0 w.heap.size 11 24 h := by rw [hW0]; exact (Blk.new w 11 24 h).alloc _
  have hR0 : Rb (w.heap.size + 1) r (.slice ao r.cp.length cap) W0 := by rw [hW0]; exact ⟨blk_new (by simp)⟩
  rw [hu] at hc
  clear hu u
  have HG := hid (great_any (Cps.on hc hB0))
  have HWk : Hid (∀ x, Below w.heap.size w x → Calls Tryd.prog 10 #[] x fun e w' => e = .returned (.bool true) ∧ Below w.heap.size w w') := fun x hx => (wakes_any x (ht.on hx)).mono fun e w' ⟨h1, h2⟩ => ⟨h1, hx.trans (h2.mono hx.size)⟩
  have HW1 := hid (HWk.out W0 hB0)
  have HCk : Hid (Calls Tryd.prog 11 #[.agg (rlc r (.slice ao r.cp.length cap))] W0 fun e w' => e = .returned (.int .i64 (ckR r)) ∧ Below w.heap.size w w' ∧ Blk w' w.heap.size 11 24 h ∧ Rb (w.heap.size + 1) r (.slice ao r.cp.length cap) w') := (acheck_any (Cps.on hc hB0) (ht.on hB0)).mono fun e w' ⟨h1, h2⟩ => ⟨h1, hB0.trans (h2.mono hB0.size), hA0.on h2, hR0.on h2⟩
  have HRu : Hid (r.cp.length + cnt r.cp ≤ 4096 → ∀ x, Below w.heap.size w x → Blk x w.heap.size 11 24 h → Rb (w.heap.size + 1) r (.slice ao r.cp.length cap) x → Calls Tryd.prog 14 #[hv h, .slice ao r.cp.length cap, .slice ap ps.length cp] x fun e w' => ∃ va, e = .returned (.tuple #[va, .bool (pnts r.cp)]) ∧ (∃ s k, va = .slice s (outs h ps r.cp).length k) ∧ Rf w h r (.slice ao r.cp.length cap) va (outs h ps r.cp) w') := fun hb x hx hbx hrx => (run_any h (Cps.on hc hx) (Pts.on hp hx) (ht.on hx) (by omega)).mono fun e w' ⟨va, h1, h2, h3⟩ => by
    have hw' := hx.trans (h2.mono hx.size)
    exact ⟨va, h1, h3.form, hw', hbx.on h2, hrx.on h2, (Cps.on hc hw').any, h3.any⟩
  have HWi : Hid (∀ x (f : Nat), Below w.heap.size w x → Calls Tryd.prog 19 #[.int .i8 (f : Int)] x fun e w' => e = .returned (.int .i64 (widV (f : Int))) ∧ w' = x) := fun x f hx => width_any (f : Int) x (ht.on hx)
  have HLn : Hid (r.cp.length + cnt r.cp ≤ 4096 → (outs h ps r.cp).length ≤ 4096) := fun hb => by
    have h1 := outs_len h ps r.cp
    omega
  have HStay : Hid (∀ x ∈ outs h ps r.cp, ∀ f, f < 11 → (decide (f = 9) || sets f r.cp) = false → x f = h f) := fun x hx f hf hm => outs_stay hx hf hm
  have HFits : Hid (ckR r = 0 → ∀ x ∈ outs h ps r.cp, ∀ f : Nat, x f ≠ h f → fits (f : Int) (x f) = true) := fun hz x hx f hne => outs_fit hx (ckR_zero hz) hne
  have HW0 := hid hW0
  have HA0 := hid hA0
  have HR0 := hid hR0
  have c23 := hR0.cp
  have HRR := hid hR0.rr
  clear hc hp ht hW0 hB0 hA0 hR0
  by_cases hp1 : 1000 < ps.length
  · have hd : decide ((1000 : Int) < (ps.length : Int)) = true := decide_eq_true (by omega)
    go_enter Tryd.func7, Tryd.ntmps7
    go_upto_region 1 with fail
    rw [← HW0.out]
    clear HW0 HCk HRu HWi HLn HStay HFits HA0 HR0 HRR
    go_wp2_with (first
      | (go_at_call 9; refine (HG.out).mono ?_; rintro e w1 ⟨⟨g, rfl, -⟩, rfl⟩; clear HG; cases g)
      | (go_at_call 10; refine (HW1.out).mono ?_; rintro e w1 ⟨rfl, hb1⟩; have HB1 := hid hb1; clear HW1 hb1))
    all_goals
      go_ret
      exact ⟨rfl, HB1.out⟩
  · have hd : decide ((1000 : Int) < (ps.length : Int)) = false := by simp; omega
    by_cases hz : ckR r = 0
    · rw [hz] at HCk
      have HFits' := hid (HFits.out hz)
      clear HFits hz
      generalize pnts r.cp = pb at HRu
      generalize hL0 : outs h ps r.cp = L at HRu HLn HStay HFits'
      clear hL0
      go_enter Tryd.func7, Tryd.ntmps7
      go_upto_region 1 with fail
      rw [← HW0.out]
      clear HW0
      go_upto_region 3 with (first
        | (go_at_call 9; refine (HG.out).mono ?_; rintro e w1 ⟨⟨g, rfl, hg⟩, rfl⟩; have HGg := hid hg; clear HG hg; cases g)
        | (refine ldMid 29 (.tmp 4) rfl rfl (w.heap.size + 1) 0 rfl (rlc r (.slice ao r.cp.length cap)) _ Tryd.underlying29 rfl (size_rl _ _) HRR.out ?_; clear HRR)
        | (go_at_call 11; refine (HCk.out).mono ?_; rintro e x1 ⟨rfl, q1, q2, q3⟩; have HX1 := hid (And.intro q1 (And.intro q2 q3)); clear HCk q1 q2 q3)
        | (go_at_call 10; refine (HW1.out).mono ?_; rintro e w1 ⟨rfl, hb1⟩; have HB1 := hid hb1; clear HW1 hb1))
      · have hg0 : r.cp.length + cnt r.cp ≤ 4096 := HGg.out trivial
        have HRu' := hid (HRu.out hg0 x1 HX1.out.1 HX1.out.2.1 HX1.out.2.2)
        have hlL := HLn.out hg0
        have hbx := HX1.out.2.1
        have k23 := HX1.out.2.2.cp
        clear HGg HRu HLn HW1 c23 HX1 HA0 HR0
        go_upto_region 5 with (first
          | (refine ld24 (.tmp 3) rfl _ rfl rfl h hbx ?_; clear hbx)
          | (go_at_call 14; refine (HRu'.out).mono ?_; rintro e x2 ⟨va, rfl, ⟨s1, k1, rfl⟩, q1⟩; have HX2 := hid q1; clear HRu' q1 k23))
        go_loopw [9] (fun i wr => ∃ f : Nat, f ≤ 11 ∧ i = .int .i64 f ∧ Still x2 wr) (fun i _ => 11 - (intOf i).toNat)
        case atStart => exact ⟨0, by omega, rfl, Only.refl _ _⟩
        case round =>
          obtain ⟨f, hf, rfl, ho⟩ := hrel
          generalize wr = wx at *
          by_cases hlt : f < 11
          · have hfl : decide ((f : Int) < 11) = true := decide_eq_true (by omega)
            have HO := hid ho
            have HX3 := hid (HX2.out.still ho)
            have HSt := hid (fun x hx hm => HStay.out x hx f hlt hm)
            have HFi := hid (fun x hx hne => HFits'.out x hx f hne)
            have HWf := hid (fun x hx => HWi.out x f hx)
            have h9 : ((f : Int) == 9) = decide (f = 9) := by
              rw [Bool.eq_iff_iff, beq_iff_eq, decide_eq_true_iff]; omega
            clear ho
            go_upto_region 9 with fail
            go_loopw [10, 11] (fun m i wr => ∃ k : Nat, k ≤ r.cp.length ∧ i = .int .i64 k ∧ m = .bool (decide (f = 9) || sets f (r.cp.take k)) ∧ Still wx wr) (fun _ i _ => r.cp.length - (intOf i).toNat)
            case atStart => exact ⟨0, by omega, rfl, by simp [sets], Only.refl _ _⟩
            case round =>
              obtain ⟨k, hk, rfl, rfl, ho2⟩ := hrel
              generalize wr = wy at *
              have hx4 := HX3.out.still ho2
              have q23 := hx4.rb.cp
              have HO2 := hid ho2
              by_cases hkt : k < r.cp.length
              · have hkl : decide ((k : Int) < (r.cp.length : Int)) = true := decide_eq_true (by omega)
                have HTk : Hid (sets f (r.cp.take (k + 1)) = (sets f (r.cp.take k) || r.cp[k].any (setF f))) := by show _ = _; rw [take_one' r.cp k hkt, sets_one]
                obtain ⟨b, o, a1, c1, rfl, f0, -, hl1, hac⟩ := hx4.cp.at (Below.refl _ _) hkt
                have HAc := hid hac
                have HF0 := hid (And.intro f0 q23)
                clear ho2 hx4 hac
                generalize r.cp[k] = y at f0 hl1 HAc HTk HF0
                have HMb : Hid (∀ z, (decide (f = 9) || (sets f (r.cp.take k) || z)) = ((decide (f = 9) || sets f (r.cp.take k)) || z)) := fun z => by rw [Bool.or_assoc]
                generalize (decide (f = 9) || sets f (r.cp.take k)) = mb at *
                go_upto_region 12 with fail
                go_loopw [10, 12] (fun m j wr => ∃ n : Nat, n ≤ y.length ∧ j = .int .i64 n ∧ m = .bool (mb || (y.take n).any (setF f)) ∧ Still wy wr) (fun _ j _ => y.length - (intOf j).toNat)
                case atStart => exact ⟨0, by omega, rfl, by simp, Only.refl _ _⟩
                case round =>
                  obtain ⟨n, hn, rfl, rfl, ho3⟩ := hrel
                  have g0 : wr.cell? ⟨b, o + k, none⟩ = _ := (cell_same (ho3.block b (fun hf => hf))).trans HF0.out.1
                  have g23 : wr.cell? ⟨w.heap.size + 1, 23, none⟩ = _ := (cell_same (ho3.block _ (fun hf => hf))).trans HF0.out.2
                  have HO3 := hid ho3
                  by_cases hnt : n < y.length
                  · have hnl : decide ((n : Int) < (y.length : Int)) = true := decide_eq_true (by omega)
                    obtain ⟨p, q, rfl, d0, d1, d2, hfit⟩ := HAc.out.at (still_below ho3) hnt
                    have HTn : Hid ((y.take (n + 1)).any (setF f) = ((y.take n).any (setF f) || setF f y[n])) := by show _ = _; rw [take_one' y n hnt, any_one]
                    have hsf : setF f y[n] = (y[n].dw == 0 && y[n].fd == (f : Int)) := rfl
                    rw [hsf] at HTn
                    obtain ⟨hfd0, hfd1⟩ := hfit.2.1
                    clear ho3 hfit hsf d2 q23 f0
                    generalize y[n] = ac at d0 d1 hfd0 hfd1 HTn
                    obtain ⟨d, fd, na⟩ := ac
                    replace hfd0 : -128 ≤ fd := hfd0
                    replace hfd1 : fd < 128 := hfd1
                    have HTm : Hid ((mb || (y.take (n + 1)).any (setF f)) = ((mb || (y.take n).any (setF f)) || (d == 0 && fd == (f : Int)))) := by show _ = _; rw [HTn.out, Bool.or_assoc]
                    clear HTn
                    generalize (mb || (y.take n).any (setF f)) = tb at HTm
                    cases tb with
                    | true =>
                      have HTf : Hid ((mb || (y.take (n + 1)).any (setF f)) = true) := by show _ = _; rw [HTm.out]; rfl
                      clear HTm
                      go_wp2
                      go_roundw
                      case rel => exact ⟨n + 1, by omega, by go_num, by rw [HTf.out], HO3.out⟩
                      case measure => simp [intOf]; omega
                    | false =>
                      by_cases hd0 : d = 0
                      · subst hd0
                        have HTf : Hid ((mb || (y.take (n + 1)).any (setF f)) = (fd == (f : Int))) := by show _ = _; rw [HTm.out]; simp
                        have HWr : Hid (wrap64 fd = fd) := by show _ = _; unfold wrap64; omega
                        clear HTm
                        go_wp2
                        go_roundw
                        case rel => exact ⟨n + 1, by omega, by go_num, by first | (rw [HTf.out]; done) | rw [HTf.out, HWr.out], HO3.out⟩
                        case measure => simp [intOf]; omega
                      · have t0 : (d == 0) = false := beq_eq_false_iff_ne.2 hd0
                        have HTf : Hid ((mb || (y.take (n + 1)).any (setF f)) = false) := by show _ = _; rw [HTm.out, t0]; rfl
                        clear HTm
                        go_wp2
                        go_roundw
                        case rel => exact ⟨n + 1, by omega, by go_num, by rw [HTf.out], HO3.out⟩
                        case measure => simp [intOf]; omega
                  · obtain rfl : n = y.length := by omega
                    have hnl : decide ((y.length : Int) < (y.length : Int)) = false := by simp
                    have HTf : Hid ((decide (f = 9) || sets f (r.cp.take (k + 1))) = (mb || (y.take y.length).any (setF f))) := by show _ = _; rw [HTk.out, HMb.out, List.take_length]
                    have HO4 := hid (HO2.out.trans ho3)
                    clear ho3 HO3 q23 f0
                    generalize (mb || (y.take y.length).any (setF f)) = tb at HTf
                    go_wp2
                    go_roundw
                    case rel => exact ⟨k + 1, by omega, by go_num, by rw [HTf.out], HO4.out⟩
                    case measure => simp [intOf]; omega
              · obtain rfl : k = r.cp.length := by omega
                have hkl : decide ((r.cp.length : Int) < (r.cp.length : Int)) = false := by simp
                have HMy : Hid ((decide (f = 9) || sets f (r.cp.take r.cp.length)) = false → ∀ x ∈ L, x f = h f) := fun hm x hx => HSt.out x hx (by rw [List.take_length] at hm; exact hm)
                have HX5 := hid hx4
                have HO5 := hid (HO.out.trans ho2)
                clear hx4 ho2 HO2
                generalize (decide (f = 9) || sets f (r.cp.take r.cp.length)) = mb at HMy
                go_upto_region 16 with fail
                clear q23
                go_loopw [13] (fun i wr => ∃ n : Nat, n ≤ L.length ∧ i = .int .i64 n ∧ Still wy wr) (fun i _ => L.length - (intOf i).toNat)
                case atStart => exact ⟨0, by omega, rfl, Only.refl _ _⟩
                case round =>
                  obtain ⟨n, hn, rfl, ho3⟩ := hrel
                  by_cases hnt : n < L.length
                  · have hnl : decide ((n : Int) < (L.length : Int)) = true := decide_eq_true (by omega)
                    have hx6 := HX5.out.still ho3
                    obtain ⟨bO, oO, rfl, -, -, hcO⟩ := hx6.hs.at hnt
                    have hmem : L[n] ∈ L := List.getElem_mem hnt
                    have HMx := hid (fun (hm : mb = false) => HMy.out hm L[n] hmem)
                    have HFx := hid (fun (hne : L[n] f ≠ h f) => HFi.out L[n] hmem hne)
                    have e0 : wr.cell? ⟨bO, oO + n * 11 + f, none⟩ = some (.int .u64 (L[n] f)) := hcO f hlt
                    have e1 : wr.cell? ⟨w.heap.size, f, none⟩ = some (.int .u64 (h f)) := hx6.bh.cell f hlt
                    have HWd := hid (HWf.out wr.drew.drew (bel_drew (bel_drew hx6.low)))
                    have hbd := widV_bd (f : Int)
                    have HO6 := hid ho3
                    have hi8 : IntKind.i8.wrap (f : Int) = (f : Int) := by
                      have hfc : f = 0 ∨ f = 1 ∨ f = 2 ∨ f = 3 ∨ f = 4 ∨ f = 5 ∨ f = 6 ∨ f = 7 ∨ f = 8 ∨ f = 9 ∨ f = 10 := by omega
                      rcases hfc with rfl | rfl | rfl | rfl | rfl | rfl | rfl | rfl | rfl | rfl | rfl <;> rfl
                    clear hcO hmem hx6 ho3
                    generalize L[n] f = X at HMx HFx e0
                    generalize h f = Y at HMx HFx e1
                    have HH1 : Hid (F2 bO (oO + n * 11) w.heap.size f X Y wr.drew) := ⟨e0, e1⟩
                    have HH2 : Hid (F2 bO (oO + n * 11) w.heap.size f X Y wr.drew.drew) := ⟨e0, e1⟩
                    clear e0 e1
                    by_cases hXY : X = Y
                    · subst hXY
                      have hne : (X != X) = false := by simp
                      clear HFx HMx HWd
                      cases mb with
                      | true =>
                        go_upto_region 18 with fail
                        refine wp_region_held_drew (S := F2 bO (oO + n * 11) w.heap.size f X X) (by kernel_rfl) HH1.out (fun hHeld => ?_)
                        refine wpAnyH_take (i := 0) (v := ?_) rfl (by kernel_rfl) (by kernel_rfl) (by kernel_rfl) (fun _ _ _ h => h) (Or.inl ⟨by rfl, ?_⟩) hHeld ?_
                        rotate_left
                        · intro w' hSw
                          clear hSw
                          go_simp
                          first | done | with_reducible rfl
                        simp only [Act.put, List.getElem_toArray, List.getElem_cons_zero, List.setIfInBounds_toArray, List.set_cons_zero, List.set_cons_succ]
                        refine wpAnyH_take (i := 1) (v := ?_) rfl (by kernel_rfl) (by kernel_rfl) (by kernel_rfl) (fun _ _ _ h => h) (Or.inl ⟨by rfl, ?_⟩) hHeld ?_
                        rotate_left
                        · intro w' hSw
                          clear hSw
                          go_simp
                          first | done | with_reducible rfl
                        simp only [Act.put, List.getElem_toArray, List.getElem_cons_succ, List.getElem_cons_zero, List.setIfInBounds_toArray, List.set_cons_zero, List.set_cons_succ]
                        refine wpAnyH_take (i := 2) (v := ?_) rfl (by kernel_rfl) (by kernel_rfl) (by kernel_rfl) (fun _ _ _ h => h) (Or.inl ⟨by rfl, ?_⟩) hHeld ?_
                        rotate_left
                        · intro w' hSw
                          clear hSw
                          go_simp
                          first | done | with_reducible rfl
                        simp only [Act.put, List.getElem_toArray, List.getElem_cons_succ, List.getElem_cons_zero, List.setIfInBounds_toArray, List.set_cons_zero, List.set_cons_succ]
                        refine wpAnyH_take (i := 3) (v := undef) rfl (by kernel_rfl) (by kernel_rfl) (by kernel_rfl) (fun _ _ _ h => h) (Or.inr ⟨by rfl, rfl⟩) hHeld ?_
                        simp only [Act.put, List.getElem_toArray, List.getElem_cons_succ, List.getElem_cons_zero, List.setIfInBounds_toArray, List.set_cons_zero, List.set_cons_succ]
                        refine wpAnyH_take (i := 4) (v := undef) rfl (by kernel_rfl) (by kernel_rfl) (by kernel_rfl) (fun _ _ _ h => h) (Or.inr ⟨by rfl, rfl⟩) hHeld ?_
                        simp only [Act.put, List.getElem_toArray, List.getElem_cons_succ, List.getElem_cons_zero, List.setIfInBounds_toArray, List.set_cons_zero, List.set_cons_succ]
                        refine wpAnyH_take (i := 5) (v := undef) rfl (by kernel_rfl) (by kernel_rfl) (by kernel_rfl) (fun _ _ _ h => h) (Or.inr ⟨by rfl, rfl⟩) hHeld ?_
                        simp only [Act.put, List.getElem_toArray, List.getElem_cons_succ, List.getElem_cons_zero, List.setIfInBounds_toArray, List.set_cons_zero, List.set_cons_succ]
                        refine wpAnyH_take (i := 6) (v := undef) rfl (by kernel_rfl) (by kernel_rfl) (by kernel_rfl) (fun _ _ _ h => h) (Or.inr ⟨by rfl, rfl⟩) hHeld ?_
                        simp only [Act.put, List.getElem_toArray, List.getElem_cons_succ, List.getElem_cons_zero, List.setIfInBounds_toArray, List.set_cons_zero, List.set_cons_succ]
                        refine wpAnyH_take (i := 7) (v := undef) rfl (by kernel_rfl) (by kernel_rfl) (by kernel_rfl) (fun _ _ _ h => h) (Or.inr ⟨by rfl, rfl⟩) hHeld ?_
                        simp only [Act.put, List.getElem_toArray, List.getElem_cons_succ, List.getElem_cons_zero, List.setIfInBounds_toArray, List.set_cons_zero, List.set_cons_succ]
                        refine wpAnyH_take (i := 8) (v := undef) rfl (by kernel_rfl) (by kernel_rfl) (by kernel_rfl) (fun _ _ _ h => h) (Or.inr ⟨by rfl, rfl⟩) hHeld ?_
                        simp only [Act.put, List.getElem_toArray, List.getElem_cons_succ, List.getElem_cons_zero, List.setIfInBounds_toArray, List.set_cons_zero, List.set_cons_succ]
                        refine wpAnyH_take (i := 9) (v := undef) rfl (by kernel_rfl) (by kernel_rfl) (by kernel_rfl) (fun _ _ _ h => h) (Or.inr ⟨by rfl, rfl⟩) hHeld ?_
                        simp only [Act.put, List.getElem_toArray, List.getElem_cons_succ, List.getElem_cons_zero, List.setIfInBounds_toArray, List.set_cons_zero, List.set_cons_succ]
                        refine wpAnyH_take (i := 10) (v := undef) rfl (by kernel_rfl) (by kernel_rfl) (by kernel_rfl) (fun _ _ _ h => h) (Or.inr ⟨by rfl, rfl⟩) hHeld ?_
                        simp only [Act.put, List.getElem_toArray, List.getElem_cons_succ, List.getElem_cons_zero, List.setIfInBounds_toArray, List.set_cons_zero, List.set_cons_succ]
                        refine wpAnyH_take (i := 11) (v := undef) rfl (by kernel_rfl) (by kernel_rfl) (by kernel_rfl) (fun _ _ _ h => h) (Or.inr ⟨by rfl, rfl⟩) hHeld ?_
                        simp only [Act.put, List.getElem_toArray, List.getElem_cons_succ, List.getElem_cons_zero, List.setIfInBounds_toArray, List.set_cons_zero, List.set_cons_succ]
                        refine wpAnyH_take (i := 12) (v := undef) rfl (by kernel_rfl) (by kernel_rfl) (by kernel_rfl) (fun _ _ _ h => h) (Or.inr ⟨by rfl, rfl⟩) hHeld ?_
                        simp only [Act.put, List.getElem_toArray, List.getElem_cons_succ, List.getElem_cons_zero, List.setIfInBounds_toArray, List.set_cons_zero, List.set_cons_succ]
                        refine wpAnyH_take (i := 13) (v := ?_) rfl (by kernel_rfl) (by kernel_rfl) (by kernel_rfl) (fun _ _ _ h => h) (Or.inl ⟨by rfl, ?_⟩) hHeld ?_
                        rotate_left
                        · intro w' hSw
                          clear hSw
                          go_simp
                          first | done | with_reducible rfl
                        simp only [Act.put, List.getElem_toArray, List.getElem_cons_succ, List.getElem_cons_zero, List.setIfInBounds_toArray, List.set_cons_zero, List.set_cons_succ]
                        refine wpAnyH_done (by kernel_rfl) ?_ _
                        go_upto_region 20 with fail
                        refine wp_region_held_drew (S := F2 bO (oO + n * 11) w.heap.size f X X) (by kernel_rfl) HH2.out (fun hHeld => ?_)
                        refine wpAnyH_take (i := 0) (v := ?_) rfl (by kernel_rfl) (by kernel_rfl) (by kernel_rfl) (fun _ _ _ h => h) (Or.inl ⟨by rfl, ?_⟩) hHeld ?_
                        rotate_left
                        · intro w' hSw
                          clear hSw
                          go_simp
                          first | done | with_reducible rfl
                        simp only [Act.put, List.getElem_toArray, List.getElem_cons_zero, List.setIfInBounds_toArray, List.set_cons_zero, List.set_cons_succ]
                        refine wpAnyH_take (i := 1) (v := ?_) rfl (by kernel_rfl) (by kernel_rfl) (by kernel_rfl) (fun _ _ _ h => h) (Or.inl ⟨by rfl, ?_⟩) hHeld ?_
                        rotate_left
                        · intro w' hSw
                          clear hSw
                          go_simp
                          first | done | with_reducible rfl
                        simp only [Act.put, List.getElem_toArray, List.getElem_cons_succ, List.getElem_cons_zero, List.setIfInBounds_toArray, List.set_cons_zero, List.set_cons_succ]
                        refine wpAnyH_take (i := 2) (v := ?_) rfl (by kernel_rfl) (by kernel_rfl) (by kernel_rfl) (fun _ _ _ h => h) (Or.inl ⟨by rfl, ?_⟩) hHeld ?_
                        rotate_left
                        · intro w' hSw
                          clear hSw
                          go_simp
                          first | done | with_reducible rfl
                        simp only [Act.put, List.getElem_toArray, List.getElem_cons_succ, List.getElem_cons_zero, List.setIfInBounds_toArray, List.set_cons_zero, List.set_cons_succ]
                        refine wpAnyH_take (i := 3) (v := ?_) rfl (by kernel_rfl) (by kernel_rfl) (by kernel_rfl) (fun _ _ _ h => h) (Or.inl ⟨by rfl, ?_⟩) hHeld ?_
                        rotate_left
                        · intro w' hSw
                          clear hSw
                          go_simp
                          first | done | with_reducible rfl
                        simp only [Act.put, List.getElem_toArray, List.getElem_cons_succ, List.getElem_cons_zero, List.setIfInBounds_toArray, List.set_cons_zero, List.set_cons_succ]
                        refine wpAnyH_take (i := 4) (v := (.pointer (some ⟨bO, oO + n * 11 + f, none⟩))) rfl (by kernel_rfl) (by kernel_rfl) (by kernel_rfl) (fun _ _ _ h => h) (Or.inl ⟨by rfl, ?_⟩) hHeld ?_
                        · intro w' hSw
                          exact runIx (.tmp 109) (.tmp 108) rfl bO (oO + n * 11) f rfl rfl hlt
                        simp only [Act.put, List.getElem_toArray, List.getElem_cons_succ, List.getElem_cons_zero, List.setIfInBounds_toArray, List.set_cons_zero, List.set_cons_succ]
                        refine wpAnyH_take (i := 5) (v := ?_) rfl (by kernel_rfl) (by kernel_rfl) (by kernel_rfl) (fun _ _ _ h => h) (Or.inl ⟨by rfl, ?_⟩) hHeld ?_
                        rotate_left
                        · intro w' hSw
                          have c0 := hSw.c0
                          clear hSw
                          go_simp
                          first | done | with_reducible rfl
                        simp only [Act.put, List.getElem_toArray, List.getElem_cons_succ, List.getElem_cons_zero, List.setIfInBounds_toArray, List.set_cons_zero, List.set_cons_succ]
                        refine wpAnyH_take (i := 6) (v := ?_) rfl (by kernel_rfl) (by kernel_rfl) (by kernel_rfl) (fun _ _ _ h => h) (Or.inl ⟨by rfl, ?_⟩) hHeld ?_
                        rotate_left
                        · intro w' hSw
                          clear hSw
                          go_simp
                          first | done | with_reducible rfl
                        simp only [Act.put, List.getElem_toArray, List.getElem_cons_succ, List.getElem_cons_zero, List.setIfInBounds_toArray, List.set_cons_zero, List.set_cons_succ]
                        refine wpAnyH_take (i := 7) (v := (.pointer (some ⟨w.heap.size, 0 + f, none⟩))) rfl (by kernel_rfl) (by kernel_rfl) (by kernel_rfl) (fun _ _ _ h => h) (Or.inl ⟨by rfl, ?_⟩) hHeld ?_
                        · intro w' hSw
                          exact runIx (.tmp 3) (.tmp 112) rfl w.heap.size 0 f rfl rfl hlt
                        simp only [Act.put, List.getElem_toArray, List.getElem_cons_succ, List.getElem_cons_zero, List.setIfInBounds_toArray, List.set_cons_zero, List.set_cons_succ]
                        refine wpAnyH_take (i := 8) (v := ?_) rfl (by kernel_rfl) (by kernel_rfl) (by kernel_rfl) (fun _ _ _ h => h) (Or.inl ⟨by rfl, ?_⟩) hHeld ?_
                        rotate_left
                        · intro w' hSw
                          have c1 := hSw.c1
                          clear hSw
                          go_simp
                          first | done | with_reducible rfl
                        simp only [Act.put, List.getElem_toArray, List.getElem_cons_succ, List.getElem_cons_zero, List.setIfInBounds_toArray, List.set_cons_zero, List.set_cons_succ]
                        refine wpAnyH_take (i := 9) (v := (.bool false)) rfl (by kernel_rfl) (by kernel_rfl) (by kernel_rfl) (fun _ _ _ h => h) (Or.inl ⟨by rfl, ?_⟩) hHeld ?_
                        · intro w' hSw
                          clear hSw
                          go_simp
                          first | done | with_reducible rfl
                        simp only [Act.put, List.getElem_toArray, List.getElem_cons_succ, List.getElem_cons_zero, List.setIfInBounds_toArray, List.set_cons_zero, List.set_cons_succ]
                        refine wpAnyH_take (i := 10) (v := ?_) rfl (by kernel_rfl) (by kernel_rfl) (by kernel_rfl) (fun _ _ _ h => h) (Or.inl ⟨by rfl, ?_⟩) hHeld ?_
                        rotate_left
                        · intro w' hSw
                          clear hSw
                          go_simp
                          first | done | with_reducible rfl
                        simp only [Act.put, List.getElem_toArray, List.getElem_cons_succ, List.getElem_cons_zero, List.setIfInBounds_toArray, List.set_cons_zero, List.set_cons_succ]
                        refine wpAnyH_take (i := 11) (v := undef) rfl (by kernel_rfl) (by kernel_rfl) (by kernel_rfl) (fun _ _ _ h => h) (Or.inr ⟨by rfl, rfl⟩) hHeld ?_
                        simp only [Act.put, List.getElem_toArray, List.getElem_cons_succ, List.getElem_cons_zero, List.setIfInBounds_toArray, List.set_cons_zero, List.set_cons_succ]
                        refine wpAnyH_take (i := 12) (v := undef) rfl (by kernel_rfl) (by kernel_rfl) (by kernel_rfl) (fun _ _ _ h => h) (Or.inr ⟨by rfl, rfl⟩) hHeld ?_
                        simp only [Act.put, List.getElem_toArray, List.getElem_cons_succ, List.getElem_cons_zero, List.setIfInBounds_toArray, List.set_cons_zero, List.set_cons_succ]
                        refine wpAnyH_take (i := 13) (v := undef) rfl (by kernel_rfl) (by kernel_rfl) (by kernel_rfl) (fun _ _ _ h => h) (Or.inr ⟨by rfl, rfl⟩) hHeld ?_
                        simp only [Act.put, List.getElem_toArray, List.getElem_cons_succ, List.getElem_cons_zero, List.setIfInBounds_toArray, List.set_cons_zero, List.set_cons_succ]
                        refine wpAnyH_take (i := 14) (v := undef) rfl (by kernel_rfl) (by kernel_rfl) (by kernel_rfl) (fun _ _ _ h => h) (Or.inr ⟨by rfl, rfl⟩) hHeld ?_
                        simp only [Act.put, List.getElem_toArray, List.getElem_cons_succ, List.getElem_cons_zero, List.setIfInBounds_toArray, List.set_cons_zero, List.set_cons_succ]
                        refine wpAnyH_take (i := 15) (v := undef) rfl (by kernel_rfl) (by kernel_rfl) (by kernel_rfl) (fun _ _ _ h => h) (Or.inr ⟨by rfl, rfl⟩) hHeld ?_
                        simp only [Act.put, List.getElem_toArray, List.getElem_cons_succ, List.getElem_cons_zero, List.setIfInBounds_toArray, List.set_cons_zero, List.set_cons_succ]
                        refine wpAnyH_take (i := 16) (v := undef) rfl (by kernel_rfl) (by kernel_rfl) (by kernel_rfl) (fun _ _ _ h => h) (Or.inr ⟨by rfl, rfl⟩) hHeld ?_
                        simp only [Act.put, List.getElem_toArray, List.getElem_cons_succ, List.getElem_cons_zero, List.setIfInBounds_toArray, List.set_cons_zero, List.set_cons_succ]
                        refine wpAnyH_take (i := 17) (v := undef) rfl (by kernel_rfl) (by kernel_rfl) (by kernel_rfl) (fun _ _ _ h => h) (Or.inr ⟨by rfl, rfl⟩) hHeld ?_
                        simp only [Act.put, List.getElem_toArray, List.getElem_cons_succ, List.getElem_cons_zero, List.setIfInBounds_toArray, List.set_cons_zero, List.set_cons_succ]
                        refine wpAnyH_take (i := 18) (v := undef) rfl (by kernel_rfl) (by kernel_rfl) (by kernel_rfl) (fun _ _ _ h => h) (Or.inr ⟨by rfl, rfl⟩) hHeld ?_
                        simp only [Act.put, List.getElem_toArray, List.getElem_cons_succ, List.getElem_cons_zero, List.setIfInBounds_toArray, List.set_cons_zero, List.set_cons_succ]
                        refine wpAnyH_take (i := 19) (v := undef) rfl (by kernel_rfl) (by kernel_rfl) (by kernel_rfl) (fun _ _ _ h => h) (Or.inr ⟨by rfl, rfl⟩) hHeld ?_
                        simp only [Act.put, List.getElem_toArray, List.getElem_cons_succ, List.getElem_cons_zero, List.setIfInBounds_toArray, List.set_cons_zero, List.set_cons_succ]
                        refine wpAnyH_take (i := 20) (v := undef) rfl (by kernel_rfl) (by kernel_rfl) (by kernel_rfl) (fun _ _ _ h => h) (Or.inr ⟨by rfl, rfl⟩) hHeld ?_
                        simp only [Act.put, List.getElem_toArray, List.getElem_cons_succ, List.getElem_cons_zero, List.setIfInBounds_toArray, List.set_cons_zero, List.set_cons_succ]
                        refine wpAnyH_take (i := 21) (v := undef) rfl (by kernel_rfl) (by kernel_rfl) (by kernel_rfl) (fun _ _ _ h => h) (Or.inr ⟨by rfl, rfl⟩) hHeld ?_
                        simp only [Act.put, List.getElem_toArray, List.getElem_cons_succ, List.getElem_cons_zero, List.setIfInBounds_toArray, List.set_cons_zero, List.set_cons_succ]
                        refine wpAnyH_take (i := 22) (v := ?_) rfl (by kernel_rfl) (by kernel_rfl) (by kernel_rfl) (fun _ _ _ h => h) (Or.inl ⟨by rfl, ?_⟩) hHeld ?_
                        rotate_left
                        · intro w' hSw
                          clear hSw
                          go_simp
                          first | done | with_reducible rfl
                        simp only [Act.put, List.getElem_toArray, List.getElem_cons_succ, List.getElem_cons_zero, List.setIfInBounds_toArray, List.set_cons_zero, List.set_cons_succ]
                        refine wpAnyH_done (by kernel_rfl) ?_ _
                        go_wp2
                        go_roundw
                        case rel => exact ⟨n + 1, by omega, by go_num, HO6.out.drew.drew⟩
                        case measure => simp [intOf]; omega
                      | false =>
                        go_upto_region 18 with fail
                        refine wp_region_held_drew (S := F2 bO (oO + n * 11) w.heap.size f X X) (by kernel_rfl) HH1.out (fun hHeld => ?_)
                        refine wpAnyH_take (i := 0) (v := ?_) rfl (by kernel_rfl) (by kernel_rfl) (by kernel_rfl) (fun _ _ _ h => h) (Or.inl ⟨by rfl, ?_⟩) hHeld ?_
                        rotate_left
                        · intro w' hSw
                          clear hSw
                          go_simp
                          first | done | with_reducible rfl
                        simp only [Act.put, List.getElem_toArray, List.getElem_cons_zero, List.setIfInBounds_toArray, List.set_cons_zero, List.set_cons_succ]
                        refine wpAnyH_take (i := 1) (v := ?_) rfl (by kernel_rfl) (by kernel_rfl) (by kernel_rfl) (fun _ _ _ h => h) (Or.inl ⟨by rfl, ?_⟩) hHeld ?_
                        rotate_left
                        · intro w' hSw
                          clear hSw
                          go_simp
                          first | done | with_reducible rfl
                        simp only [Act.put, List.getElem_toArray, List.getElem_cons_succ, List.getElem_cons_zero, List.setIfInBounds_toArray, List.set_cons_zero, List.set_cons_succ]
                        refine wpAnyH_take (i := 2) (v := ?_) rfl (by kernel_rfl) (by kernel_rfl) (by kernel_rfl) (fun _ _ _ h => h) (Or.inl ⟨by rfl, ?_⟩) hHeld ?_
                        rotate_left
                        · intro w' hSw
                          clear hSw
                          go_simp
                          first | done | with_reducible rfl
                        simp only [Act.put, List.getElem_toArray, List.getElem_cons_succ, List.getElem_cons_zero, List.setIfInBounds_toArray, List.set_cons_zero, List.set_cons_succ]
                        refine wpAnyH_take (i := 3) (v := ?_) rfl (by kernel_rfl) (by kernel_rfl) (by kernel_rfl) (fun _ _ _ h => h) (Or.inl ⟨by rfl, ?_⟩) hHeld ?_
                        rotate_left
                        · intro w' hSw
                          clear hSw
                          go_simp
                          first | done | with_reducible rfl
                        simp only [Act.put, List.getElem_toArray, List.getElem_cons_succ, List.getElem_cons_zero, List.setIfInBounds_toArray, List.set_cons_zero, List.set_cons_succ]
                        refine wpAnyH_take (i := 4) (v := ?_) rfl (by kernel_rfl) (by kernel_rfl) (by kernel_rfl) (fun _ _ _ h => h) (Or.inl ⟨by rfl, ?_⟩) hHeld ?_
                        rotate_left
                        · intro w' hSw
                          clear hSw
                          go_simp
                          first | done | with_reducible rfl
                        simp only [Act.put, List.getElem_toArray, List.getElem_cons_succ, List.getElem_cons_zero, List.setIfInBounds_toArray, List.set_cons_zero, List.set_cons_succ]
                        refine wpAnyH_take (i := 5) (v := ?_) rfl (by kernel_rfl) (by kernel_rfl) (by kernel_rfl) (fun _ _ _ h => h) (Or.inl ⟨by rfl, ?_⟩) hHeld ?_
                        rotate_left
                        · intro w' hSw
                          clear hSw
                          go_simp
                          first | done | with_reducible rfl
                        simp only [Act.put, List.getElem_toArray, List.getElem_cons_succ, List.getElem_cons_zero, List.setIfInBounds_toArray, List.set_cons_zero, List.set_cons_succ]
                        refine wpAnyH_take (i := 6) (v := ?_) rfl (by kernel_rfl) (by kernel_rfl) (by kernel_rfl) (fun _ _ _ h => h) (Or.inl ⟨by rfl, ?_⟩) hHeld ?_
                        rotate_left
                        · intro w' hSw
                          clear hSw
                          go_simp
                          first | done | with_reducible rfl
                        simp only [Act.put, List.getElem_toArray, List.getElem_cons_succ, List.getElem_cons_zero, List.setIfInBounds_toArray, List.set_cons_zero, List.set_cons_succ]
                        refine wpAnyH_take (i := 7) (v := (.pointer (some ⟨bO, oO + n * 11 + f, none⟩))) rfl (by kernel_rfl) (by kernel_rfl) (by kernel_rfl) (fun _ _ _ h => h) (Or.inl ⟨by rfl, ?_⟩) hHeld ?_
                        · intro w' hSw
                          exact runIx (.tmp 98) (.tmp 97) rfl bO (oO + n * 11) f rfl rfl hlt
                        simp only [Act.put, List.getElem_toArray, List.getElem_cons_succ, List.getElem_cons_zero, List.setIfInBounds_toArray, List.set_cons_zero, List.set_cons_succ]
                        refine wpAnyH_take (i := 8) (v := ?_) rfl (by kernel_rfl) (by kernel_rfl) (by kernel_rfl) (fun _ _ _ h => h) (Or.inl ⟨by rfl, ?_⟩) hHeld ?_
                        rotate_left
                        · intro w' hSw
                          have c0 := hSw.c0
                          clear hSw
                          go_simp
                          first | done | with_reducible rfl
                        simp only [Act.put, List.getElem_toArray, List.getElem_cons_succ, List.getElem_cons_zero, List.setIfInBounds_toArray, List.set_cons_zero, List.set_cons_succ]
                        refine wpAnyH_take (i := 9) (v := ?_) rfl (by kernel_rfl) (by kernel_rfl) (by kernel_rfl) (fun _ _ _ h => h) (Or.inl ⟨by rfl, ?_⟩) hHeld ?_
                        rotate_left
                        · intro w' hSw
                          clear hSw
                          go_simp
                          first | done | with_reducible rfl
                        simp only [Act.put, List.getElem_toArray, List.getElem_cons_succ, List.getElem_cons_zero, List.setIfInBounds_toArray, List.set_cons_zero, List.set_cons_succ]
                        refine wpAnyH_take (i := 10) (v := (.pointer (some ⟨w.heap.size, 0 + f, none⟩))) rfl (by kernel_rfl) (by kernel_rfl) (by kernel_rfl) (fun _ _ _ h => h) (Or.inl ⟨by rfl, ?_⟩) hHeld ?_
                        · intro w' hSw
                          exact runIx (.tmp 3) (.tmp 101) rfl w.heap.size 0 f rfl rfl hlt
                        simp only [Act.put, List.getElem_toArray, List.getElem_cons_succ, List.getElem_cons_zero, List.setIfInBounds_toArray, List.set_cons_zero, List.set_cons_succ]
                        refine wpAnyH_take (i := 11) (v := ?_) rfl (by kernel_rfl) (by kernel_rfl) (by kernel_rfl) (fun _ _ _ h => h) (Or.inl ⟨by rfl, ?_⟩) hHeld ?_
                        rotate_left
                        · intro w' hSw
                          have c1 := hSw.c1
                          clear hSw
                          go_simp
                          first | done | with_reducible rfl
                        simp only [Act.put, List.getElem_toArray, List.getElem_cons_succ, List.getElem_cons_zero, List.setIfInBounds_toArray, List.set_cons_zero, List.set_cons_succ]
                        refine wpAnyH_take (i := 12) (v := (.bool false)) rfl (by kernel_rfl) (by kernel_rfl) (by kernel_rfl) (fun _ _ _ h => h) (Or.inl ⟨by rfl, ?_⟩) hHeld ?_
                        · intro w' hSw
                          clear hSw
                          go_simp
                          first | done | with_reducible rfl
                        simp only [Act.put, List.getElem_toArray, List.getElem_cons_succ, List.getElem_cons_zero, List.setIfInBounds_toArray, List.set_cons_zero, List.set_cons_succ]
                        refine wpAnyH_take (i := 13) (v := ?_) rfl (by kernel_rfl) (by kernel_rfl) (by kernel_rfl) (fun _ _ _ h => h) (Or.inl ⟨by rfl, ?_⟩) hHeld ?_
                        rotate_left
                        · intro w' hSw
                          clear hSw
                          go_simp
                          first | done | with_reducible rfl
                        simp only [Act.put, List.getElem_toArray, List.getElem_cons_succ, List.getElem_cons_zero, List.setIfInBounds_toArray, List.set_cons_zero, List.set_cons_succ]
                        refine wpAnyH_done (by kernel_rfl) ?_ _
                        go_upto_region 20 with fail
                        refine wp_region_held_drew (S := F2 bO (oO + n * 11) w.heap.size f X X) (by kernel_rfl) HH2.out (fun hHeld => ?_)
                        refine wpAnyH_take (i := 0) (v := ?_) rfl (by kernel_rfl) (by kernel_rfl) (by kernel_rfl) (fun _ _ _ h => h) (Or.inl ⟨by rfl, ?_⟩) hHeld ?_
                        rotate_left
                        · intro w' hSw
                          clear hSw
                          go_simp
                          first | done | with_reducible rfl
                        simp only [Act.put, List.getElem_toArray, List.getElem_cons_zero, List.setIfInBounds_toArray, List.set_cons_zero, List.set_cons_succ]
                        refine wpAnyH_take (i := 1) (v := ?_) rfl (by kernel_rfl) (by kernel_rfl) (by kernel_rfl) (fun _ _ _ h => h) (Or.inl ⟨by rfl, ?_⟩) hHeld ?_
                        rotate_left
                        · intro w' hSw
                          clear hSw
                          go_simp
                          first | done | with_reducible rfl
                        simp only [Act.put, List.getElem_toArray, List.getElem_cons_succ, List.getElem_cons_zero, List.setIfInBounds_toArray, List.set_cons_zero, List.set_cons_succ]
                        refine wpAnyH_take (i := 2) (v := ?_) rfl (by kernel_rfl) (by kernel_rfl) (by kernel_rfl) (fun _ _ _ h => h) (Or.inl ⟨by rfl, ?_⟩) hHeld ?_
                        rotate_left
                        · intro w' hSw
                          clear hSw
                          go_simp
                          first | done | with_reducible rfl
                        simp only [Act.put, List.getElem_toArray, List.getElem_cons_succ, List.getElem_cons_zero, List.setIfInBounds_toArray, List.set_cons_zero, List.set_cons_succ]
                        refine wpAnyH_take (i := 3) (v := ?_) rfl (by kernel_rfl) (by kernel_rfl) (by kernel_rfl) (fun _ _ _ h => h) (Or.inl ⟨by rfl, ?_⟩) hHeld ?_
                        rotate_left
                        · intro w' hSw
                          clear hSw
                          go_simp
                          first | done | with_reducible rfl
                        simp only [Act.put, List.getElem_toArray, List.getElem_cons_succ, List.getElem_cons_zero, List.setIfInBounds_toArray, List.set_cons_zero, List.set_cons_succ]
                        refine wpAnyH_take (i := 4) (v := (.pointer (some ⟨bO, oO + n * 11 + f, none⟩))) rfl (by kernel_rfl) (by kernel_rfl) (by kernel_rfl) (fun _ _ _ h => h) (Or.inl ⟨by rfl, ?_⟩) hHeld ?_
                        · intro w' hSw
                          exact runIx (.tmp 109) (.tmp 108) rfl bO (oO + n * 11) f rfl rfl hlt
                        simp only [Act.put, List.getElem_toArray, List.getElem_cons_succ, List.getElem_cons_zero, List.setIfInBounds_toArray, List.set_cons_zero, List.set_cons_succ]
                        refine wpAnyH_take (i := 5) (v := ?_) rfl (by kernel_rfl) (by kernel_rfl) (by kernel_rfl) (fun _ _ _ h => h) (Or.inl ⟨by rfl, ?_⟩) hHeld ?_
                        rotate_left
                        · intro w' hSw
                          have c0 := hSw.c0
                          clear hSw
                          go_simp
                          first | done | with_reducible rfl
                        simp only [Act.put, List.getElem_toArray, List.getElem_cons_succ, List.getElem_cons_zero, List.setIfInBounds_toArray, List.set_cons_zero, List.set_cons_succ]
                        refine wpAnyH_take (i := 6) (v := ?_) rfl (by kernel_rfl) (by kernel_rfl) (by kernel_rfl) (fun _ _ _ h => h) (Or.inl ⟨by rfl, ?_⟩) hHeld ?_
                        rotate_left
                        · intro w' hSw
                          clear hSw
                          go_simp
                          first | done | with_reducible rfl
                        simp only [Act.put, List.getElem_toArray, List.getElem_cons_succ, List.getElem_cons_zero, List.setIfInBounds_toArray, List.set_cons_zero, List.set_cons_succ]
                        refine wpAnyH_take (i := 7) (v := (.pointer (some ⟨w.heap.size, 0 + f, none⟩))) rfl (by kernel_rfl) (by kernel_rfl) (by kernel_rfl) (fun _ _ _ h => h) (Or.inl ⟨by rfl, ?_⟩) hHeld ?_
                        · intro w' hSw
                          exact runIx (.tmp 3) (.tmp 112) rfl w.heap.size 0 f rfl rfl hlt
                        simp only [Act.put, List.getElem_toArray, List.getElem_cons_succ, List.getElem_cons_zero, List.setIfInBounds_toArray, List.set_cons_zero, List.set_cons_succ]
                        refine wpAnyH_take (i := 8) (v := ?_) rfl (by kernel_rfl) (by kernel_rfl) (by kernel_rfl) (fun _ _ _ h => h) (Or.inl ⟨by rfl, ?_⟩) hHeld ?_
                        rotate_left
                        · intro w' hSw
                          have c1 := hSw.c1
                          clear hSw
                          go_simp
                          first | done | with_reducible rfl
                        simp only [Act.put, List.getElem_toArray, List.getElem_cons_succ, List.getElem_cons_zero, List.setIfInBounds_toArray, List.set_cons_zero, List.set_cons_succ]
                        refine wpAnyH_take (i := 9) (v := (.bool false)) rfl (by kernel_rfl) (by kernel_rfl) (by kernel_rfl) (fun _ _ _ h => h) (Or.inl ⟨by rfl, ?_⟩) hHeld ?_
                        · intro w' hSw
                          clear hSw
                          go_simp
                          first | done | with_reducible rfl
                        simp only [Act.put, List.getElem_toArray, List.getElem_cons_succ, List.getElem_cons_zero, List.setIfInBounds_toArray, List.set_cons_zero, List.set_cons_succ]
                        refine wpAnyH_take (i := 10) (v := ?_) rfl (by kernel_rfl) (by kernel_rfl) (by kernel_rfl) (fun _ _ _ h => h) (Or.inl ⟨by rfl, ?_⟩) hHeld ?_
                        rotate_left
                        · intro w' hSw
                          clear hSw
                          go_simp
                          first | done | with_reducible rfl
                        simp only [Act.put, List.getElem_toArray, List.getElem_cons_succ, List.getElem_cons_zero, List.setIfInBounds_toArray, List.set_cons_zero, List.set_cons_succ]
                        refine wpAnyH_take (i := 11) (v := undef) rfl (by kernel_rfl) (by kernel_rfl) (by kernel_rfl) (fun _ _ _ h => h) (Or.inr ⟨by rfl, rfl⟩) hHeld ?_
                        simp only [Act.put, List.getElem_toArray, List.getElem_cons_succ, List.getElem_cons_zero, List.setIfInBounds_toArray, List.set_cons_zero, List.set_cons_succ]
                        refine wpAnyH_take (i := 12) (v := undef) rfl (by kernel_rfl) (by kernel_rfl) (by kernel_rfl) (fun _ _ _ h => h) (Or.inr ⟨by rfl, rfl⟩) hHeld ?_
                        simp only [Act.put, List.getElem_toArray, List.getElem_cons_succ, List.getElem_cons_zero, List.setIfInBounds_toArray, List.set_cons_zero, List.set_cons_succ]
                        refine wpAnyH_take (i := 13) (v := undef) rfl (by kernel_rfl) (by kernel_rfl) (by kernel_rfl) (fun _ _ _ h => h) (Or.inr ⟨by rfl, rfl⟩) hHeld ?_
                        simp only [Act.put, List.getElem_toArray, List.getElem_cons_succ, List.getElem_cons_zero, List.setIfInBounds_toArray, List.set_cons_zero, List.set_cons_succ]
                        refine wpAnyH_take (i := 14) (v := undef) rfl (by kernel_rfl) (by kernel_rfl) (by kernel_rfl) (fun _ _ _ h => h) (Or.inr ⟨by rfl, rfl⟩) hHeld ?_
                        simp only [Act.put, List.getElem_toArray, List.getElem_cons_succ, List.getElem_cons_zero, List.setIfInBounds_toArray, List.set_cons_zero, List.set_cons_succ]
                        refine wpAnyH_take (i := 15) (v := undef) rfl (by kernel_rfl) (by kernel_rfl) (by kernel_rfl) (fun _ _ _ h => h) (Or.inr ⟨by rfl, rfl⟩) hHeld ?_
                        simp only [Act.put, List.getElem_toArray, List.getElem_cons_succ, List.getElem_cons_zero, List.setIfInBounds_toArray, List.set_cons_zero, List.set_cons_succ]
                        refine wpAnyH_take (i := 16) (v := undef) rfl (by kernel_rfl) (by kernel_rfl) (by kernel_rfl) (fun _ _ _ h => h) (Or.inr ⟨by rfl, rfl⟩) hHeld ?_
                        simp only [Act.put, List.getElem_toArray, List.getElem_cons_succ, List.getElem_cons_zero, List.setIfInBounds_toArray, List.set_cons_zero, List.set_cons_succ]
                        refine wpAnyH_take (i := 17) (v := undef) rfl (by kernel_rfl) (by kernel_rfl) (by kernel_rfl) (fun _ _ _ h => h) (Or.inr ⟨by rfl, rfl⟩) hHeld ?_
                        simp only [Act.put, List.getElem_toArray, List.getElem_cons_succ, List.getElem_cons_zero, List.setIfInBounds_toArray, List.set_cons_zero, List.set_cons_succ]
                        refine wpAnyH_take (i := 18) (v := undef) rfl (by kernel_rfl) (by kernel_rfl) (by kernel_rfl) (fun _ _ _ h => h) (Or.inr ⟨by rfl, rfl⟩) hHeld ?_
                        simp only [Act.put, List.getElem_toArray, List.getElem_cons_succ, List.getElem_cons_zero, List.setIfInBounds_toArray, List.set_cons_zero, List.set_cons_succ]
                        refine wpAnyH_take (i := 19) (v := undef) rfl (by kernel_rfl) (by kernel_rfl) (by kernel_rfl) (fun _ _ _ h => h) (Or.inr ⟨by rfl, rfl⟩) hHeld ?_
                        simp only [Act.put, List.getElem_toArray, List.getElem_cons_succ, List.getElem_cons_zero, List.setIfInBounds_toArray, List.set_cons_zero, List.set_cons_succ]
                        refine wpAnyH_take (i := 20) (v := undef) rfl (by kernel_rfl) (by kernel_rfl) (by kernel_rfl) (fun _ _ _ h => h) (Or.inr ⟨by rfl, rfl⟩) hHeld ?_
                        simp only [Act.put, List.getElem_toArray, List.getElem_cons_succ, List.getElem_cons_zero, List.setIfInBounds_toArray, List.set_cons_zero, List.set_cons_succ]
                        refine wpAnyH_take (i := 21) (v := undef) rfl (by kernel_rfl) (by kernel_rfl) (by kernel_rfl) (fun _ _ _ h => h) (Or.inr ⟨by rfl, rfl⟩) hHeld ?_
                        simp only [Act.put, List.getElem_toArray, List.getElem_cons_succ, List.getElem_cons_zero, List.setIfInBounds_toArray, List.set_cons_zero, List.set_cons_succ]
                        refine wpAnyH_take (i := 22) (v := ?_) rfl (by kernel_rfl) (by kernel_rfl) (by kernel_rfl) (fun _ _ _ h => h) (Or.inl ⟨by rfl, ?_⟩) hHeld ?_
                        rotate_left
                        · intro w' hSw
                          clear hSw
                          go_simp
                          first | done | with_reducible rfl
                        simp only [Act.put, List.getElem_toArray, List.getElem_cons_succ, List.getElem_cons_zero, List.setIfInBounds_toArray, List.set_cons_zero, List.set_cons_succ]
                        refine wpAnyH_done (by kernel_rfl) ?_ _
                        go_wp2
                        go_roundw
                        case rel => exact ⟨n + 1, by omega, by go_num, HO6.out.drew.drew⟩
                        case measure => simp [intOf]; omega
                    · have hfx := HFx.out hXY
                      obtain ⟨⟨hX0, hX1⟩, hX2⟩ := fits_bd hfx
                      have hne : (X != Y) = true := by simpa using hXY
                      have hsh : (X / 2 ^ (widV (f : Int)).toNat != 0) = false := by rw [hX2]; rfl
                      clear hX2 hfx HFx
                      generalize widV (f : Int) = wd at HWd hbd hsh
                      cases mb with
                      | true =>
                        clear HMx
                        go_upto_region 18 with fail
                        refine wp_region_held_drew (S := F2 bO (oO + n * 11) w.heap.size f X Y) (by kernel_rfl) HH1.out (fun hHeld => ?_)
                        refine wpAnyH_take (i := 0) (v := ?_) rfl (by kernel_rfl) (by kernel_rfl) (by kernel_rfl) (fun _ _ _ h => h) (Or.inl ⟨by rfl, ?_⟩) hHeld ?_
                        rotate_left
                        · intro w' hSw
                          clear hSw
                          go_simp
                          first | done | with_reducible rfl
                        simp only [Act.put, List.getElem_toArray, List.getElem_cons_zero, List.setIfInBounds_toArray, List.set_cons_zero, List.set_cons_succ]
                        refine wpAnyH_take (i := 1) (v := ?_) rfl (by kernel_rfl) (by kernel_rfl) (by kernel_rfl) (fun _ _ _ h => h) (Or.inl ⟨by rfl, ?_⟩) hHeld ?_
                        rotate_left
                        · intro w' hSw
                          clear hSw
                          go_simp
                          first | done | with_reducible rfl
                        simp only [Act.put, List.getElem_toArray, List.getElem_cons_succ, List.getElem_cons_zero, List.setIfInBounds_toArray, List.set_cons_zero, List.set_cons_succ]
                        refine wpAnyH_take (i := 2) (v := ?_) rfl (by kernel_rfl) (by kernel_rfl) (by kernel_rfl) (fun _ _ _ h => h) (Or.inl ⟨by rfl, ?_⟩) hHeld ?_
                        rotate_left
                        · intro w' hSw
                          clear hSw
                          go_simp
                          first | done | with_reducible rfl
                        simp only [Act.put, List.getElem_toArray, List.getElem_cons_succ, List.getElem_cons_zero, List.setIfInBounds_toArray, List.set_cons_zero, List.set_cons_succ]
                        refine wpAnyH_take (i := 3) (v := undef) rfl (by kernel_rfl) (by kernel_rfl) (by kernel_rfl) (fun _ _ _ h => h) (Or.inr ⟨by rfl, rfl⟩) hHeld ?_
                        simp only [Act.put, List.getElem_toArray, List.getElem_cons_succ, List.getElem_cons_zero, List.setIfInBounds_toArray, List.set_cons_zero, List.set_cons_succ]
                        refine wpAnyH_take (i := 4) (v := undef) rfl (by kernel_rfl) (by kernel_rfl) (by kernel_rfl) (fun _ _ _ h => h) (Or.inr ⟨by rfl, rfl⟩) hHeld ?_
                        simp only [Act.put, List.getElem_toArray, List.getElem_cons_succ, List.getElem_cons_zero, List.setIfInBounds_toArray, List.set_cons_zero, List.set_cons_succ]
                        refine wpAnyH_take (i := 5) (v := undef) rfl (by kernel_rfl) (by kernel_rfl) (by kernel_rfl) (fun _ _ _ h => h) (Or.inr ⟨by rfl, rfl⟩) hHeld ?_
                        simp only [Act.put, List.getElem_toArray, List.getElem_cons_succ, List.getElem_cons_zero, List.setIfInBounds_toArray, List.set_cons_zero, List.set_cons_succ]
                        refine wpAnyH_take (i := 6) (v := undef) rfl (by kernel_rfl) (by kernel_rfl) (by kernel_rfl) (fun _ _ _ h => h) (Or.inr ⟨by rfl, rfl⟩) hHeld ?_
                        simp only [Act.put, List.getElem_toArray, List.getElem_cons_succ, List.getElem_cons_zero, List.setIfInBounds_toArray, List.set_cons_zero, List.set_cons_succ]
                        refine wpAnyH_take (i := 7) (v := undef) rfl (by kernel_rfl) (by kernel_rfl) (by kernel_rfl) (fun _ _ _ h => h) (Or.inr ⟨by rfl, rfl⟩) hHeld ?_
                        simp only [Act.put, List.getElem_toArray, List.getElem_cons_succ, List.getElem_cons_zero, List.setIfInBounds_toArray, List.set_cons_zero, List.set_cons_succ]
                        refine wpAnyH_take (i := 8) (v := undef) rfl (by kernel_rfl) (by kernel_rfl) (by kernel_rfl) (fun _ _ _ h => h) (Or.inr ⟨by rfl, rfl⟩) hHeld ?_
                        simp only [Act.put, List.getElem_toArray, List.getElem_cons_succ, List.getElem_cons_zero, List.setIfInBounds_toArray, List.set_cons_zero, List.set_cons_succ]
                        refine wpAnyH_take (i := 9) (v := undef) rfl (by kernel_rfl) (by kernel_rfl) (by kernel_rfl) (fun _ _ _ h => h) (Or.inr ⟨by rfl, rfl⟩) hHeld ?_
                        simp only [Act.put, List.getElem_toArray, List.getElem_cons_succ, List.getElem_cons_zero, List.setIfInBounds_toArray, List.set_cons_zero, List.set_cons_succ]
                        refine wpAnyH_take (i := 10) (v := undef) rfl (by kernel_rfl) (by kernel_rfl) (by kernel_rfl) (fun _ _ _ h => h) (Or.inr ⟨by rfl, rfl⟩) hHeld ?_
                        simp only [Act.put, List.getElem_toArray, List.getElem_cons_succ, List.getElem_cons_zero, List.setIfInBounds_toArray, List.set_cons_zero, List.set_cons_succ]
                        refine wpAnyH_take (i := 11) (v := undef) rfl (by kernel_rfl) (by kernel_rfl) (by kernel_rfl) (fun _ _ _ h => h) (Or.inr ⟨by rfl, rfl⟩) hHeld ?_
                        simp only [Act.put, List.getElem_toArray, List.getElem_cons_succ, List.getElem_cons_zero, List.setIfInBounds_toArray, List.set_cons_zero, List.set_cons_succ]
                        refine wpAnyH_take (i := 12) (v := undef) rfl (by kernel_rfl) (by kernel_rfl) (by kernel_rfl) (fun _ _ _ h => h) (Or.inr ⟨by rfl, rfl⟩) hHeld ?_
                        simp only [Act.put, List.getElem_toArray, List.getElem_cons_succ, List.getElem_cons_zero, List.setIfInBounds_toArray, List.set_cons_zero, List.set_cons_succ]
                        refine wpAnyH_take (i := 13) (v := ?_) rfl (by kernel_rfl) (by kernel_rfl) (by kernel_rfl) (fun _ _ _ h => h) (Or.inl ⟨by rfl, ?_⟩) hHeld ?_
                        rotate_left
                        · intro w' hSw
                          clear hSw
                          go_simp
                          first | done | with_reducible rfl
                        simp only [Act.put, List.getElem_toArray, List.getElem_cons_succ, List.getElem_cons_zero, List.setIfInBounds_toArray, List.set_cons_zero, List.set_cons_succ]
                        refine wpAnyH_done (by kernel_rfl) ?_ _
                        go_upto_region 20 with fail
                        refine wp_region_held_drew (S := F2 bO (oO + n * 11) w.heap.size f X Y) (by kernel_rfl) HH2.out (fun hHeld => ?_)
                        refine wpAnyH_take (i := 0) (v := ?_) rfl (by kernel_rfl) (by kernel_rfl) (by kernel_rfl) (fun _ _ _ h => h) (Or.inl ⟨by rfl, ?_⟩) hHeld ?_
                        rotate_left
                        · intro w' hSw
                          clear hSw
                          go_simp
                          first | done | with_reducible rfl
                        simp only [Act.put, List.getElem_toArray, List.getElem_cons_zero, List.setIfInBounds_toArray, List.set_cons_zero, List.set_cons_succ]
                        refine wpAnyH_take (i := 1) (v := ?_) rfl (by kernel_rfl) (by kernel_rfl) (by kernel_rfl) (fun _ _ _ h => h) (Or.inl ⟨by rfl, ?_⟩) hHeld ?_
                        rotate_left
                        · intro w' hSw
                          clear hSw
                          go_simp
                          first | done | with_reducible rfl
                        simp only [Act.put, List.getElem_toArray, List.getElem_cons_succ, List.getElem_cons_zero, List.setIfInBounds_toArray, List.set_cons_zero, List.set_cons_succ]
                        refine wpAnyH_take (i := 2) (v := ?_) rfl (by kernel_rfl) (by kernel_rfl) (by kernel_rfl) (fun _ _ _ h => h) (Or.inl ⟨by rfl, ?_⟩) hHeld ?_
                        rotate_left
                        · intro w' hSw
                          clear hSw
                          go_simp
                          first | done | with_reducible rfl
                        simp only [Act.put, List.getElem_toArray, List.getElem_cons_succ, List.getElem_cons_zero, List.setIfInBounds_toArray, List.set_cons_zero, List.set_cons_succ]
                        refine wpAnyH_take (i := 3) (v := ?_) rfl (by kernel_rfl) (by kernel_rfl) (by kernel_rfl) (fun _ _ _ h => h) (Or.inl ⟨by rfl, ?_⟩) hHeld ?_
                        rotate_left
                        · intro w' hSw
                          clear hSw
                          go_simp
                          first | done | with_reducible rfl
                        simp only [Act.put, List.getElem_toArray, List.getElem_cons_succ, List.getElem_cons_zero, List.setIfInBounds_toArray, List.set_cons_zero, List.set_cons_succ]
                        refine wpAnyH_take (i := 4) (v := (.pointer (some ⟨bO, oO + n * 11 + f, none⟩))) rfl (by kernel_rfl) (by kernel_rfl) (by kernel_rfl) (fun _ _ _ h => h) (Or.inl ⟨by rfl, ?_⟩) hHeld ?_
                        · intro w' hSw
                          exact runIx (.tmp 109) (.tmp 108) rfl bO (oO + n * 11) f rfl rfl hlt
                        simp only [Act.put, List.getElem_toArray, List.getElem_cons_succ, List.getElem_cons_zero, List.setIfInBounds_toArray, List.set_cons_zero, List.set_cons_succ]
                        refine wpAnyH_take (i := 5) (v := ?_) rfl (by kernel_rfl) (by kernel_rfl) (by kernel_rfl) (fun _ _ _ h => h) (Or.inl ⟨by rfl, ?_⟩) hHeld ?_
                        rotate_left
                        · intro w' hSw
                          have c0 := hSw.c0
                          clear hSw
                          go_simp
                          first | done | with_reducible rfl
                        simp only [Act.put, List.getElem_toArray, List.getElem_cons_succ, List.getElem_cons_zero, List.setIfInBounds_toArray, List.set_cons_zero, List.set_cons_succ]
                        refine wpAnyH_take (i := 6) (v := ?_) rfl (by kernel_rfl) (by kernel_rfl) (by kernel_rfl) (fun _ _ _ h => h) (Or.inl ⟨by rfl, ?_⟩) hHeld ?_
                        rotate_left
                        · intro w' hSw
                          clear hSw
                          go_simp
                          first | done | with_reducible rfl
                        simp only [Act.put, List.getElem_toArray, List.getElem_cons_succ, List.getElem_cons_zero, List.setIfInBounds_toArray, List.set_cons_zero, List.set_cons_succ]
                        refine wpAnyH_take (i := 7) (v := (.pointer (some ⟨w.heap.size, 0 + f, none⟩))) rfl (by kernel_rfl) (by kernel_rfl) (by kernel_rfl) (fun _ _ _ h => h) (Or.inl ⟨by rfl, ?_⟩) hHeld ?_
                        · intro w' hSw
                          exact runIx (.tmp 3) (.tmp 112) rfl w.heap.size 0 f rfl rfl hlt
                        simp only [Act.put, List.getElem_toArray, List.getElem_cons_succ, List.getElem_cons_zero, List.setIfInBounds_toArray, List.set_cons_zero, List.set_cons_succ]
                        refine wpAnyH_take (i := 8) (v := ?_) rfl (by kernel_rfl) (by kernel_rfl) (by kernel_rfl) (fun _ _ _ h => h) (Or.inl ⟨by rfl, ?_⟩) hHeld ?_
                        rotate_left
                        · intro w' hSw
                          have c1 := hSw.c1
                          clear hSw
                          go_simp
                          first | done | with_reducible rfl
                        simp only [Act.put, List.getElem_toArray, List.getElem_cons_succ, List.getElem_cons_zero, List.setIfInBounds_toArray, List.set_cons_zero, List.set_cons_succ]
                        refine wpAnyH_take (i := 9) (v := (.bool true)) rfl (by kernel_rfl) (by kernel_rfl) (by kernel_rfl) (fun _ _ _ h => h) (Or.inl ⟨by rfl, ?_⟩) hHeld ?_
                        · intro w' hSw
                          clear hSw
                          go_simp
                          first | done | with_reducible rfl
                        simp only [Act.put, List.getElem_toArray, List.getElem_cons_succ, List.getElem_cons_zero, List.setIfInBounds_toArray, List.set_cons_zero, List.set_cons_succ]
                        refine wpAnyH_take (i := 10) (v := ?_) rfl (by kernel_rfl) (by kernel_rfl) (by kernel_rfl) (fun _ _ _ h => h) (Or.inl ⟨by rfl, ?_⟩) hHeld ?_
                        rotate_left
                        · intro w' hSw
                          clear hSw
                          go_simp
                          first | done | with_reducible rfl
                        simp only [Act.put, List.getElem_toArray, List.getElem_cons_succ, List.getElem_cons_zero, List.setIfInBounds_toArray, List.set_cons_zero, List.set_cons_succ]
                        refine wpAnyH_take (i := 11) (v := ?_) rfl (by kernel_rfl) (by kernel_rfl) (by kernel_rfl) (fun _ _ _ h => h) (Or.inl ⟨by rfl, ?_⟩) hHeld ?_
                        rotate_left
                        · intro w' hSw
                          clear hSw
                          go_simp
                          first | done | with_reducible rfl
                        simp only [Act.put, List.getElem_toArray, List.getElem_cons_succ, List.getElem_cons_zero, List.setIfInBounds_toArray, List.set_cons_zero, List.set_cons_succ]
                        refine wpAnyH_take (i := 12) (v := ?_) rfl (by kernel_rfl) (by kernel_rfl) (by kernel_rfl) (fun _ _ _ h => h) (Or.inl ⟨by rfl, ?_⟩) hHeld ?_
                        rotate_left
                        · intro w' hSw
                          clear hSw
                          go_simp
                          first | done | with_reducible rfl
                        simp only [Act.put, List.getElem_toArray, List.getElem_cons_succ, List.getElem_cons_zero, List.setIfInBounds_toArray, List.set_cons_zero, List.set_cons_succ]
                        refine wpAnyH_take (i := 13) (v := ?_) rfl (by kernel_rfl) (by kernel_rfl) (by kernel_rfl) (fun _ _ _ h => h) (Or.inl ⟨by rfl, ?_⟩) hHeld ?_
                        rotate_left
                        · intro w' hSw
                          clear hSw
                          go_simp
                          first | done | with_reducible rfl
                        simp only [Act.put, List.getElem_toArray, List.getElem_cons_succ, List.getElem_cons_zero, List.setIfInBounds_toArray, List.set_cons_zero, List.set_cons_succ]
                        refine wpAnyH_take (i := 14) (v := ?_) rfl (by kernel_rfl) (by kernel_rfl) (by kernel_rfl) (fun _ _ _ h => h) (Or.inl ⟨by rfl, ?_⟩) hHeld ?_
                        rotate_left
                        · intro w' hSw
                          clear hSw
                          go_simp
                          first | done | with_reducible rfl
                        simp only [Act.put, List.getElem_toArray, List.getElem_cons_succ, List.getElem_cons_zero, List.setIfInBounds_toArray, List.set_cons_zero, List.set_cons_succ]
                        refine wpAnyH_take (i := 15) (v := (.pointer (some ⟨bO, oO + n * 11 + f, none⟩))) rfl (by kernel_rfl) (by kernel_rfl) (by kernel_rfl) (fun _ _ _ h => h) (Or.inl ⟨by rfl, ?_⟩) hHeld ?_
                        · intro w' hSw
                          exact runIx (.tmp 120) (.tmp 119) rfl bO (oO + n * 11) f rfl rfl hlt
                        simp only [Act.put, List.getElem_toArray, List.getElem_cons_succ, List.getElem_cons_zero, List.setIfInBounds_toArray, List.set_cons_zero, List.set_cons_succ]
                        refine wpAnyH_take (i := 16) (v := ?_) rfl (by kernel_rfl) (by kernel_rfl) (by kernel_rfl) (fun _ _ _ h => h) (Or.inl ⟨by rfl, ?_⟩) hHeld ?_
                        rotate_left
                        · intro w' hSw
                          have c0 := hSw.c0
                          clear hSw
                          go_simp
                          first | done | with_reducible rfl
                        simp only [Act.put, List.getElem_toArray, List.getElem_cons_succ, List.getElem_cons_zero, List.setIfInBounds_toArray, List.set_cons_zero, List.set_cons_succ]
                        refine wpAnyH_take (i := 17) (v := ?_) rfl (by kernel_rfl) (by kernel_rfl) (by kernel_rfl) (fun _ _ _ h => h) (Or.inl ⟨by rfl, ?_⟩) hHeld ?_
                        rotate_left
                        · intro w' hSw
                          clear hSw
                          go_simp
                          first | done | with_reducible rfl
                        simp only [Act.put, List.getElem_toArray, List.getElem_cons_succ, List.getElem_cons_zero, List.setIfInBounds_toArray, List.set_cons_zero, List.set_cons_succ]
                        refine wpAnyH_take (i := 18) (v := (.int .i8 (f : Int))) rfl (by kernel_rfl) (by kernel_rfl) (by kernel_rfl) (fun _ _ _ h => h) (Or.inl ⟨by rfl, ?_⟩) hHeld ?_
                        · intro w' hSw
                          clear hSw
                          go_simp
                          first | done | with_reducible rfl
                        simp only [Act.put, List.getElem_toArray, List.getElem_cons_succ, List.getElem_cons_zero, List.setIfInBounds_toArray, List.set_cons_zero, List.set_cons_succ]
                        refine wpAnyH_ready (rs := [19]) (by kernel_rfl) (by simp) ?_
                        refine AllReadyH.cons rfl (fun K hK => ?_) AllReadyH.nil
                        refine stepFnW 19 (.func 19) [.tmp 124] _ [.int .i8 (f : Int)] rfl rfl rfl rfl (fun _ => rfl) _ HWd.out ?_
                        rintro e w5 ⟨rfl, hw5⟩
                        refine Or.inl ⟨_, rfl, ?_⟩
                        rw [hw5]
                        refine hK.out _ _ hHeld (fun hHeld => ?_)
                        clear hK K
                        simp only [Act.put, List.getElem_toArray, List.getElem_cons_succ, List.getElem_cons_zero, List.setIfInBounds_toArray, List.set_cons_zero, List.set_cons_succ]
                        clear hw5
                        refine wpAnyH_take (i := 20) (v := ?_) rfl (by kernel_rfl) (by kernel_rfl) (by kernel_rfl) (fun _ _ _ h => h) (Or.inl ⟨by rfl, ?_⟩) hHeld ?_
                        rotate_left
                        · intro w' hSw
                          clear hSw
                          go_simp
                          first | done | with_reducible rfl
                        simp only [Act.put, List.getElem_toArray, List.getElem_cons_succ, List.getElem_cons_zero, List.setIfInBounds_toArray, List.set_cons_zero, List.set_cons_succ]
                        refine wpAnyH_take (i := 21) (v := (.bool false)) rfl (by kernel_rfl) (by kernel_rfl) (by kernel_rfl) (fun _ _ _ h => h) (Or.inl ⟨by rfl, ?_⟩) hHeld ?_
                        · intro w' hSw
                          clear hSw
                          go_simp
                          first | done | with_reducible rfl
                        simp only [Act.put, List.getElem_toArray, List.getElem_cons_succ, List.getElem_cons_zero, List.setIfInBounds_toArray, List.set_cons_zero, List.set_cons_succ]
                        refine wpAnyH_take (i := 22) (v := ?_) rfl (by kernel_rfl) (by kernel_rfl) (by kernel_rfl) (fun _ _ _ h => h) (Or.inl ⟨by rfl, ?_⟩) hHeld ?_
                        rotate_left
                        · intro w' hSw
                          clear hSw
                          go_simp
                          first | done | with_reducible rfl
                        simp only [Act.put, List.getElem_toArray, List.getElem_cons_succ, List.getElem_cons_zero, List.setIfInBounds_toArray, List.set_cons_zero, List.set_cons_succ]
                        refine wpAnyH_done (by kernel_rfl) ?_ _
                        go_wp2
                        go_roundw
                        case rel => exact ⟨n + 1, by omega, by go_num, HO6.out.drew.drew⟩
                        case measure => simp [intOf]; omega
                      | false => exact absurd (HMx.out rfl) hXY
                  · obtain rfl : n = L.length := by omega
                    have hnl : decide ((L.length : Int) < (L.length : Int)) = false := by simp
                    have HO6 := hid (HO5.out.trans ho3)
                    clear ho3 HO5
                    go_wp2
                    go_roundw
                    case rel => exact ⟨f + 1, by omega, by go_num, HO6.out⟩
                    case measure => simp [intOf]; omega
          · obtain rfl : f = 11 := by omega
            have HW5 := hid (HWk.out wx (HX2.out.still ho).low)
            clear ho HX2
            go_wp2_with (go_at_call 10; refine (HW5.out).mono ?_; rintro e x8 ⟨rfl, q1⟩; have HB8 := hid q1; clear HW5 q1)
            go_ret
            exact ⟨rfl, HB8.out⟩
      · go_ret
        exact ⟨rfl, HB1.out⟩
    · have hz' : (ckR r != 0) = true := by simpa using hz
      generalize ckR r = z at HCk hz' hz
      go_enter Tryd.func7, Tryd.ntmps7
      go_upto_region 1 with fail
      rw [← HW0.out]
      clear HW0 HRu HWi HLn HStay HFits HA0 HR0
      go_wp2_with (first
        | (go_at_call 9; refine (HG.out).mono ?_; rintro e w1 ⟨⟨g, rfl, -⟩, rfl⟩; clear HG; cases g)
        | (refine ldMid 29 (.tmp 4) rfl rfl (w.heap.size + 1) 0 rfl (rlc r (.slice ao r.cp.length cap)) _ Tryd.underlying29 rfl (size_rl _ _) HRR.out ?_; clear HRR)
        | (go_at_call 11; refine (HCk.out).mono ?_; rintro e x1 ⟨rfl, q1, -, -⟩; have HX1 := hid (HWk.out x1 q1); clear HCk q1)
        | (go_at_call 10; refine (HX1.out).mono ?_; rintro e w1 ⟨rfl, hb1⟩; have HB1 := hid hb1; clear HX1 hb1)
        | (go_at_call 10; refine (HW1.out).mono ?_; rintro e w1 ⟨rfl, hb1⟩; have HB1 := hid hb1; clear HW1 hb1))
      all_goals
        go_ret
        exact ⟨rfl, HB1.out⟩
end Go.Proofs.YtejmobkfanejbaaDoor
