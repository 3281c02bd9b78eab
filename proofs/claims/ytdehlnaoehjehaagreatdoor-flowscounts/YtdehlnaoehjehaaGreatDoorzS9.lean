/-
  Proved here: pdqsortOrdered does what the plain one does. Conditions: the numbers lie as they say; the bounds lie within them; nothing in the part is less than what stands right ahead of it.
-/
import Derived.Test.YtdehlnaoehjehaaGreatDoorzS4
import Derived.Test.YtdehlnaoehjehaaGreatDoorzS6
import Derived.Test.YtdehlnaoehjehaaGreatDoorzS7
import Derived.Test.YtdehlnaoehjehaaGreatDoorzS8
import Derived.Sort.Walk13a
namespace Go.Proofs.YtdehlnaoehjehaaGreatDoor
open Go.RowKit Go.Sort

/-- What a sorting of a part leaves: the numbers d', and new memory. -/
structure Sn (w : World) (g o cap t : Nat) (d' : Array Int) (w' : World) : Prop where
  only : Only (fun k => k = g ∨ w.heap.size ≤ k) w w'
  dt : Dt w' g o cap t d'
section
variable {w w' w'' : World} {g o cap t : Nat} {d d' : Array Int}
theorem Sn.refl (h : Dt w g o cap t d) : Sn w g o cap t d w := ⟨Only.refl _ _, h⟩
theorem Sn.of (h : Sd w g o cap t d w') : Sn w g o cap t d w' := ⟨h.only.mono fun _ hb => Or.inl hb, h.dt⟩
theorem Sn.trans (h : Sn w g o cap t d w') (k : Sn w' g o cap t d' w'') : Sn w g o cap t d' w'' := ⟨h.only.trans (k.only.mono fun _ hb => hb.imp id (Nat.le_trans h.only.size)), k.dt⟩
theorem Sn.drewN (h : Sn w g o cap t d w') (n : Nat) : Sn w g o cap t d (w'.drewN n) := ⟨⟨h.only.os, h.only.tape, h.only.output, h.only.size, h.only.block⟩, h.dt⟩
theorem Sn.same (h : Sn w g o cap t d w') (ho : Only (fun k => w'.heap.size ≤ k) w' w'') : Sn w g o cap t d w'' := h.trans ⟨ho.mono fun _ hb => Or.inr hb, h.dt.same (ho.block g (by have := h.dt.lt; omega))⟩
end
/-- Where the loop stands. -/
def PdI (w : World) (g o cap t N a0 b0 : Nat) (R : Array Int) (x1 x2 x3 x8 x9 : Value) (wr : World) : Prop := ∃ (a b l : Nat) (wb wp : Bool) (d' : Array Int), (a ≤ b ∧ b ≤ N ∧ b - a ≤ b0 - a0 ∧ l < 4611686018427387904) ∧ x1 = .int .i64 a ∧ x2 = .int .i64 b ∧ x3 = .int .i64 l ∧ x8 = .bool wb ∧ x9 = .bool wp ∧ d'.size = N ∧ Sn w g o cap t d' wr ∧ Go.Sort.Below ltInt a b d' ∧ pdq ltInt d' a b l wb wp = R
/-- A round's own numbers, and what the whole is by them. -/
structure Rnd (d' : Array Int) (a b l : Nat) (wb wp : Bool) (N : Nat) (R : Array Int) (X : Rd Int) : Prop where
  yes : wb = true → X.d1 = d' ∧ X.lim = l
  no : wb = false → X.d1 = breakPatterns d' a b ∧ X.lim = l - 1
  c : X.c = choosePivot ltInt X.d1 a b
  dec : X.c.2 = .decreasing → X.d2 = reverseRange X.d1 a b ∧ X.pivot = (b - 1) - (X.c.1 - a) ∧ X.hint = .increasing
  ndec : X.c.2 ≠ .decreasing → X.d2 = X.d1 ∧ X.pivot = X.c.1 ∧ X.hint = X.c.2
  pi : (wb && wp && decide (X.hint = .increasing)) = true → X.pi = partialInsertionSort ltInt X.d2 a b
  npi : (wb && wp && decide (X.hint = .increasing)) = false → X.pi = (X.d2, false)
  lim : X.lim ≤ l
  s1 : X.d1.size = N
  s2 : X.d2.size = N
  s3 : X.pi.1.size = N
  B3 : Go.Sort.Below ltInt a b X.pi.1
  c1 : a ≤ X.c.1
  c2 : X.c.1 < b
  p1 : a ≤ X.pivot
  p2 : X.pivot < b
  done : X.pi.2 = true → R = X.pi.1
  eq : X.pi.2 = false → (decide (a > 0) && !ltInt X.pi.1[a - 1]! X.pi.1[X.pivot]!) = true → a < (partitionEqual ltInt X.pi.1 a b X.pivot).1 ∧ (partitionEqual ltInt X.pi.1 a b X.pivot).1 ≤ b → R = pdq ltInt (partitionEqual ltInt X.pi.1 a b X.pivot).2 (partitionEqual ltInt X.pi.1 a b X.pivot).1 b X.lim wb wp
  lr : X.pi.2 = false → (decide (a > 0) && !ltInt X.pi.1[a - 1]! X.pi.1[X.pivot]!) = false → a ≤ (partition ltInt X.pi.1 a b X.pivot).1 ∧ (partition ltInt X.pi.1 a b X.pivot).1 < b →
    ((partition ltInt X.pi.1 a b X.pivot).1 - a < b - (partition ltInt X.pi.1 a b X.pivot).1 → R = pdq ltInt (pdq ltInt (partition ltInt X.pi.1 a b X.pivot).2.2 a (partition ltInt X.pi.1 a b X.pivot).1 X.lim true true) ((partition ltInt X.pi.1 a b X.pivot).1 + 1) b X.lim (decide ((partition ltInt X.pi.1 a b X.pivot).1 - a ≥ (b - a) / 8)) (partition ltInt X.pi.1 a b X.pivot).2.1) ∧
    (¬ (partition ltInt X.pi.1 a b X.pivot).1 - a < b - (partition ltInt X.pi.1 a b X.pivot).1 → R = pdq ltInt (pdq ltInt (partition ltInt X.pi.1 a b X.pivot).2.2 ((partition ltInt X.pi.1 a b X.pivot).1 + 1) b X.lim true true) a (partition ltInt X.pi.1 a b X.pivot).1 X.lim (decide (b - (partition ltInt X.pi.1 a b X.pivot).1 ≥ (b - a) / 8)) (partition ltInt X.pi.1 a b X.pivot).2.1)
theorem rnd_of {d' : Array Int} {a b l N : Nat} {wb wp : Bool} {R : Array Int} (h12 : ¬ b - a ≤ 12) (hl : ¬ l = 0) (hz : d'.size = N) (hb : b ≤ N) (hB : Go.Sort.Below ltInt a b d') (hE : pdq ltInt d' a b l wb wp = R) : Rnd d' a b l wb wp N R (rd ltInt d' a b l wb wp) := by
  obtain ⟨s1, B1, ⟨c1, c2⟩, s2, B2, ⟨p1, p2⟩, s3, B3⟩ := rd_facts (limit := l) (wb := wb) (wp := wp) swo_ltInt partialInsertionSort_holds reverseRange_holds (show a < b by omega) (by omega) hB
  refine ⟨fun e => by subst e; exact rd_true, fun e => by subst e; exact rd_false, rd_c, rd_dec, rd_not, rd_pi_yes, rd_pi_no, rd_lim_le, by omega, by omega, by omega, B3, c1, c2, p1, p2, fun h => ?_, fun h h2 h3 => ?_, fun h h2 h3 => ⟨fun h4 => ?_, fun h4 => ?_⟩⟩
  · rw [← hE, pdq_done h12 hl h]
  · rw [← hE, pdq_eq h12 hl h h2 h3]
  · rw [← hE, pdq_left h12 hl h h2 h3 h4]
  · rw [← hE, pdq_right h12 hl h h2 h3 h4]
theorem hN_dec {h : Hint} (e : h = .decreasing) : (hN h == 2) = true := by subst e; rfl
theorem hN_ndec {h : Hint} (e : h ≠ .decreasing) : (hN h == 2) = false := by cases h <;> first | rfl | exact absurd rfl e
theorem hN_inc (h : Hint) : (hN h == 1) = decide (h = .increasing) := by cases h <;> rfl
set_option maxHeartbeats 12800000 in
set_option maxRecDepth 100000 in
theorem pdq_any (g o cap t N : Nat) (hs : N < 4611686018427387904) : ∀ (n : Nat) (w : World) (d : Array Int) (a b l : Nat), b - a < n → d.size = N → Dt w g o cap t d → a ≤ b → b ≤ N → l < 4611686018427387904 → Go.Sort.Below ltInt a b d →
    Calls Tryz.prog 131 #[.slice (some ⟨g, o, none⟩) N cap, .int .i64 a, .int .i64 b, .int .i64 l] w fun e w' => e = .returned (.tuple #[]) ∧ Sn w g o cap t (pdq ltInt d a b l true true) w' := by
  intro n
  induction n with
  | zero => intro w d a b l hn; omega
  | succ n ih =>
    intro w d a0 b0 l0 hn hN h hab hb hl hB
    have HIH := hid ih
    have HS := hid (And.intro (Sn.refl h) (And.intro hB hN))
    obtain ⟨R, hR⟩ : ∃ R, R = pdq ltInt d a0 b0 l0 true true := ⟨_, rfl⟩
    rw [← hR]
    have HR := hid hR.symm
    clear ih h hB hN hR
    go_enter Tryz.func131, Tryz.ntmps131
    go_upto_region 2 with fail
    go_loopw [1, 2, 3, 8, 9] (fun x1 x2 x3 x8 x9 wr => PdI w g o cap t N a0 b0 R x1 x2 x3 x8 x9 wr) (fun x1 x2 _ _ _ _ => (intOf x2 - intOf x1).toNat)
    case atStart => exact ⟨a0, b0, l0, true, true, d, ⟨hab, hb, by omega, hl⟩, rfl, rfl, rfl, rfl, rfl, HS.out.2.2, HS.out.1, HS.out.2.1, HR.out⟩
    case round =>
      obtain ⟨a, b, l, wb, wp, d', ⟨hab', hb', hba, hl'⟩, rfl, rfl, rfl, rfl, rfl, hsz, hS, hB, hE⟩ := hrel
      generalize wr = wx at *
      have HS' := hid hS
      have HB := hid hB
      have HE := hid hE
      have HZ := hid hsz
      clear hS hB hE hsz HS HR
      by_cases h12 : b - a ≤ 12
      · have hd12 : decide ((b : Int) - (a : Int) ≤ 12) = true := decide_eq_true (by omega)
        have hd12I : (b : Int) - (a : Int) ≤ 12 := by omega
        have HC := hid (ins_any wx g o cap t d' a b HS'.out.dt hab' (by rw [HZ.out]; omega) (by rw [HZ.out]; omega))
        have hR := HE.out
        rw [pdq_small h12] at hR
        rw [HZ.out, hR] at HC
        clear hR
        go_wp2_with (go_at_call 159; refine (HC.out).mono ?_; rintro e z ⟨rfl, h1⟩; have H1 := hid (HS'.out.trans (Sn.of h1)); clear h1 HC)
        first | go_end0 | refine bodyPost_ret (results_none rfl _ _ _) rfl ?_
        exact ⟨rfl, H1.out⟩
      · have hd12 : decide ((b : Int) - (a : Int) ≤ 12) = false := decide_eq_false (by omega)
        have hd12I : ¬ (b : Int) - (a : Int) ≤ 12 := by omega
        by_cases hl0 : l = 0
        · have hR := HE.out
          rw [pdq_heap h12 hl0] at hR
          have HC := hid (heap_any wx g o cap t d' a b HS'.out.dt (by omega) (by rw [HZ.out]; omega) (by rw [HZ.out]; omega))
          rw [HZ.out, hR] at HC
          subst hl0
          clear hR
          go_wp2_with (go_at_call 160; refine (HC.out).mono ?_; rintro e z ⟨rfl, h1⟩; have H1 := hid (HS'.out.trans (Sn.of h1)); clear h1 HC)
          first | go_end0 | refine bodyPost_ret (results_none rfl _ _ _) rfl ?_
          exact ⟨rfl, H1.out⟩
        · have hl0b : ((l : Int) == 0) = false := by simp; omega
          have hX := rnd_of h12 hl0 HZ.out hb' HB.out HE.out
          generalize rd ltInt d' a b l wb wp = X at hX
          have p1 := hX.p1
          have p2 := hX.p2
          have q1 := hX.c1
          have q2 := hX.c2
          have HX := hid hX
          clear hX HE
          go_upto_if 35 with fail
          go_cut [3] (fun x wy => x = .int .i64 (X.lim : Nat) ∧ Sn w g o cap t X.d1 wy)
          case first =>
            cases wb with
            | true =>
              obtain ⟨e1, e2⟩ := HX.out.yes rfl
              have HE12 := hid (And.intro e1 e2)
              clear e1 e2
              go_wp2
              go_meet
              case rel => exact ⟨by rw [HE12.out.2], by rw [HE12.out.1]; exact HS'.out⟩
            | false =>
              obtain ⟨e1, e2⟩ := HX.out.no rfl
              have HE12 := hid (And.intro e1 e2)
              have HC := hid (brk_any wx g o cap t d' a b HS'.out.dt (by omega) (by rw [HZ.out]; omega) (by rw [HZ.out]; omega))
              rw [HZ.out, ← e1] at HC
              clear e1 e2
              go_wp2_with (go_at_call 161; refine (HC.out).mono ?_; rintro e z ⟨rfl, h1, h2⟩; have H1 := hid (HS'.out.trans ⟨h1, h2⟩); clear h1 h2 HC)
              go_meet
              case rel => exact ⟨by rw [HE12.out.2, show ((l - 1 : Nat) : Int) = (l : Int) - 1 by omega], H1.out⟩
          case rest =>
            obtain ⟨rfl, hS1⟩ := hcut
            generalize wc = w1 at *
            have HS1 := hid hS1
            clear hS1 HS'
            have HC := hid (piv_any w1 g o cap t X.d1 a b HS1.out.dt (by omega) (by rw [HX.out.s1]; omega) (by rw [HX.out.s1]; omega))
            rw [HX.out.s1, ← HX.out.c] at HC
            go_upto_if 50 with (go_at_call 162; refine (HC.out).mono ?_; rintro e w2 ⟨rfl, h1⟩; have HS2 := hid (HS1.out.same h1); clear h1 HC)
            clear HS1
            go_cut [11, 12] (fun x y wy => x = .int .i64 (X.pivot : Nat) ∧ y = .int .i64 (hN X.hint) ∧ Sn w g o cap t X.d2 wy)
            case first =>
              by_cases hdc : X.c.2 = .decreasing
              · have t2 := hN_dec hdc
                obtain ⟨e1, e2, e3⟩ := HX.out.dec hdc
                have HC := hid (rev_any w2 g o cap t X.d1 a b HS2.out.dt (by omega) (by rw [HX.out.s1]; omega) (by rw [HX.out.s1]; omega))
                rw [HX.out.s1, ← e1] at HC
                have HE3 : Hid ((X.pivot : Int) = (b : Int) - 1 - ((X.c.1 : Int) - (a : Int)) ∧ hN X.hint = 1) := ⟨by omega, by rw [e3]; rfl⟩
                clear e1 e2 e3 hdc
                go_wp2_with (go_at_call 163; refine (HC.out).mono ?_; rintro e z ⟨rfl, h1⟩; have H1 := hid (HS2.out.trans (Sn.of h1)); clear h1 HC)
                go_meet
                case rel => exact ⟨by rw [HE3.out.1], by rw [HE3.out.2], H1.out⟩
              · have t2 := hN_ndec hdc
                obtain ⟨e1, e2, e3⟩ := HX.out.ndec hdc
                have HE3 := hid (And.intro e1 (And.intro e2 e3))
                clear e1 e2 e3 hdc
                go_wp2
                go_meet
                case rel => exact ⟨by rw [HE3.out.2.1], by rw [HE3.out.2.2], by rw [HE3.out.1]; exact HS2.out⟩
            case rest =>
              obtain ⟨rfl, rfl, hS3⟩ := hcut
              generalize wc = w3 at *
              have HS3 := hid hS3
              clear hS3 HS2
              have hinc := hN_inc X.hint
              obtain ⟨inc, hinc2⟩ : ∃ inc, inc = decide (X.hint = .increasing) := ⟨_, rfl⟩
              rw [← hinc2] at hinc
              have HI1 := hid HX.out.pi
              have HI2 := hid HX.out.npi
              rw [← hinc2] at HI1 HI2
              clear hinc2
              go_upto_region 15 with fail
              go_cut [68] (fun x wy => x = .bool (wb && wp && inc) ∧ wy = w3)
              case first =>
                cases wb <;> cases wp <;> cases inc
                all_goals
                  go_wp2
                  go_meet
                  case rel => exact ⟨rfl, rfl⟩
              case rest =>
                obtain ⟨rfl, hwc⟩ := hcut
                rw [hwc]
                clear hwc
                cases hcc : (wb && wp && inc) with
                | true =>
                  have e1 := HI1.out hcc
                  have HC := hid (pins_any w3 g o cap t X.d2 a b HS3.out.dt (by omega) (by rw [HX.out.s2]; omega) (by rw [HX.out.s2]; omega))
                  rw [HX.out.s2, ← e1] at HC
                  clear e1 hcc hinc HI1 HI2
                  cases hp2 : X.pi.2 with
                  | true =>
                    have HD := hid (HX.out.done hp2)
                    rw [hp2] at HC
                    go_wp2_with (go_at_call 164; refine (HC.out).mono ?_; rintro e z ⟨rfl, h1⟩; have H1 := hid (HS3.out.trans (Sn.of h1)); clear h1 HC)
                    first | go_end0 | refine bodyPost_ret (results_none rfl _ _ _) rfl ?_
                    exact ⟨rfl, by rw [HD.out]; exact H1.out⟩
                  | false =>
                    rw [hp2] at HC
                    have hpf := hp2
                    clear hp2
                    go_upto_region 17 with (go_at_call 164; refine (HC.out).mono ?_; rintro e w4 ⟨rfl, h1⟩; have HS4 := hid (HS3.out.trans (Sn.of h1)); clear h1 HC)
                    clear HS3
                    by_cases ha0 : a = 0
                    · have hda : decide ((0 : Int) < (a : Int)) = false := decide_eq_false (by omega)
                      have hda' : decide (0 < a) = false := decide_eq_false (by omega)
                      have hda2 : ¬ (0 < a) := by omega
                      have hcond : (decide (a > 0) && !ltInt X.pi.1[a - 1]! X.pi.1[X.pivot]!) = false := by simp [ha0]
                      clear ha0
                      go_wp2
                      go_quiet (fail)
                      have HSy := hid (HS4.out.drewN nq)
                      generalize w4.drewN nq = wy at HSy ⊢
                      clear HS4
                      have hpt := round_part swo_ltInt (partition_holds _) (d3 := X.pi.1) (d4 := (partition ltInt X.pi.1 a b X.pivot).2.2) (mid := (partition ltInt X.pi.1 a b X.pivot).1) (ap := (partition ltInt X.pi.1 a b X.pivot).2.1) p1 p2 (by rw [HX.out.s3]; omega) HX.out.B3 rfl
                      obtain ⟨m1, m2, m3, m4, m5, m6, m7⟩ := hpt
                      have hlr := HX.out.lr hpf hcond ⟨m1, m2⟩
                      have HC8 := hid (part_any wy g o cap t X.pi.1 a b X.pivot HSy.out.dt p1 p2 (by rw [HX.out.s3]; omega) (by rw [HX.out.s3]; omega))
                      rw [HX.out.s3] at HC8 m3
                      obtain ⟨mid, hmid⟩ : ∃ mid, mid = (partition ltInt X.pi.1 a b X.pivot).1 := ⟨_, rfl⟩
                      rw [← hmid] at hlr HC8 m1 m2 m4 m5 m6 m7
                      generalize (partition ltInt X.pi.1 a b X.pivot).2.2 = d4 at *
                      generalize (partition ltInt X.pi.1 a b X.pivot).2.1 = ap at *
                      have HM := hid (And.intro m3 (And.intro m4 (And.intro m5 (And.intro m6 m7))))
                      have HLR := hid hlr
                      have hq8 : Int.tdiv ((b : Int) - (a : Int)) 8 = (((b - a) / 8 : Nat) : Int) := by
                        rw [show (b : Int) - (a : Int) = ((b - a : Nat) : Int) by omega]
                        rfl
                      clear hmid m3 m4 m5 m6 m7 hlr hcond
                      go_upto_region 22 with (
                         go_at_call 167; refine (HC8.out).mono ?_; rintro e z8 ⟨rfl, h8⟩
                         have HS8 := hid (HSy.out.trans (Sn.of h8))
                         clear h8 HC8)
                      clear HSy
                      obtain ⟨th, hth⟩ : ∃ th : Nat, th = (b - a) / 8 := ⟨_, rfl⟩
                      rw [← hth] at hq8 HLR
                      have hthl : th ≤ b := by omega
                      clear hth
                      have HTW : Hid (wrap64 (th : Int) = (th : Int)) := hid (show wrap64 (th : Int) = (th : Int) by unfold wrap64; omega)
                      clear hthl
                      by_cases hlr2 : mid - a < b - mid
                      · have hd8 : decide ((mid : Int) - (a : Int) < (b : Int) - (mid : Int)) = true := decide_eq_true (by omega)
                        have hd8I : (mid : Int) - (a : Int) < (b : Int) - (mid : Int) := by omega
                        have hRl := HLR.out.1 hlr2
                        have hps := (pdq_sorts ltInt) swo_ltInt d4 a mid X.lim true true m1 (by have := HM.out.1; omega) HM.out.2.1
                        have hBr := (HM.out.2.2.2.1 _ hps.1 hps.2).1
                        have HC9 := hid (HIH.out z8 d4 a mid X.lim (by omega) HM.out.1 HS8.out.dt m1 (by omega) (by have := HX.out.lim; omega) HM.out.2.1)
                        have hz9 := hps.1.1
                        rw [HM.out.1] at hz9
                        generalize pdq ltInt d4 a mid X.lim true true = d9 at *
                        have HZ9 := hid (And.intro hz9 hBr)
                        have HRl := hid hRl
                        obtain ⟨wb2, hwb2⟩ : ∃ wb2, wb2 = decide (mid - a ≥ th) := ⟨_, rfl⟩
                        have hdb : decide ((th : Int) ≤ (mid : Int) - (a : Int)) = wb2 := by
                          rw [hwb2]
                          exact decide_eq_decide.2 ⟨fun h => by omega, fun h => by omega⟩
                        rw [← hwb2] at HRl
                        clear hps hBr hz9 hRl hwb2
                        go_wp2_with (
                         go_at_call 131; refine (HC9.out).mono ?_; rintro e z9 ⟨rfl, h9⟩
                         have HS9 := hid (HS8.out.trans h9)
                         clear h9 HC9)
                        go_roundw
                        case rel => exact ⟨mid + 1, b, X.lim, wb2, ap, d9, ⟨by omega, by omega, by omega, by have := HX.out.lim; omega⟩, by go_num, rfl, rfl, (by rw [HTW.out, hdb]), rfl, HZ9.out.1, HS9.out, HZ9.out.2, HRl.out.symm⟩
                        case measure => simp [intOf]; omega
                      · have hd8 : decide ((mid : Int) - (a : Int) < (b : Int) - (mid : Int)) = false := decide_eq_false (by omega)
                        have hd8I : ¬ (mid : Int) - (a : Int) < (b : Int) - (mid : Int) := by omega
                        have hRl := HLR.out.2 hlr2
                        have hps := (pdq_sorts ltInt) swo_ltInt d4 (mid + 1) b X.lim true true (by omega) (by have := HM.out.1; omega) HM.out.2.2.1
                        have hBr := (HM.out.2.2.2.2 _ hps.1 hps.2).1
                        have HC9 : Hid (Calls Tryz.prog 131 #[.slice (some ⟨g, o, none⟩) N cap, .int .i64 ((mid : Int) + 1), .int .i64 b, .int .i64 X.lim] z8 fun e w' => e = .returned (.tuple #[]) ∧ Sn z8 g o cap t (pdq ltInt d4 (mid + 1) b X.lim true true) w') := HIH.out z8 d4 (mid + 1) b X.lim (by omega) HM.out.1 HS8.out.dt (by omega) (by omega) (by have := HX.out.lim; omega) HM.out.2.2.1
                        have hz9 := hps.1.1
                        rw [HM.out.1] at hz9
                        generalize pdq ltInt d4 (mid + 1) b X.lim true true = d9 at *
                        have HZ9 := hid (And.intro hz9 hBr)
                        have HRl := hid hRl
                        obtain ⟨wb2, hwb2⟩ : ∃ wb2, wb2 = decide (b - mid ≥ th) := ⟨_, rfl⟩
                        have hdb : decide ((th : Int) ≤ (b : Int) - (mid : Int)) = wb2 := by
                          rw [hwb2]
                          exact decide_eq_decide.2 ⟨fun h => by omega, fun h => by omega⟩
                        rw [← hwb2] at HRl
                        clear hps hBr hz9 hRl hwb2
                        go_wp2_with (
                         go_at_call 131; refine (HC9.out).mono ?_; rintro e z9 ⟨rfl, h9⟩
                         have HS9 := hid (HS8.out.trans h9)
                         clear h9 HC9)
                        go_roundw
                        case rel => exact ⟨a, mid, X.lim, wb2, ap, d9, ⟨by omega, by omega, by omega, by have := HX.out.lim; omega⟩, rfl, rfl, rfl, (by rw [HTW.out, hdb]), rfl, HZ9.out.1, HS9.out, HZ9.out.2, HRl.out.symm⟩
                        case measure => simp [intOf]; omega
                    · obtain ⟨a1, ha1⟩ : ∃ a1, a = a1 + 1 := ⟨a - 1, by omega⟩
                      have he : (a : Int) - 1 = (a1 : Int) := by omega
                      have ha2 : a - 1 = a1 := by omega
                      have hda : decide ((0 : Int) < (a : Int)) = true := decide_eq_true (by omega)
                      have hda' : decide (0 < a) = true := decide_eq_true (by omega)
                      have hda2 : 0 < a := by omega
                      have c1 := HS4.out.dt.cell a1 (by rw [HX.out.s3]; omega)
                      have c0 := HS4.out.dt.cell X.pivot (by rw [HX.out.s3]; omega)
                      have hi1 : (a1 : Int) < (N : Int) := by omega
                      have hi2 : (X.pivot : Int) < (N : Int) := by omega
                      have HLs := hid (fun w => less_any X.pi.1[a1]! X.pi.1[X.pivot]! w)
                      cases hc : ltInt X.pi.1[a1]! X.pi.1[X.pivot]! with
                      | true =>
                        rw [hc] at HLs
                        have hcond : (decide (a > 0) && !ltInt X.pi.1[a - 1]! X.pi.1[X.pivot]!) = false := by
                          rw [ha2, hc]; simp
                        obtain ⟨xa, hxa⟩ : ∃ x, x = X.pi.1[a1]! := ⟨_, rfl⟩
                        obtain ⟨xb, hxb⟩ : ∃ x, x = X.pi.1[X.pivot]! := ⟨_, rfl⟩
                        rw [← hxa] at c1 HLs
                        rw [← hxb] at c0 HLs
                        clear hxa hxb hc ha1 ha2
                        go_wp2
                        go_quiet (first | (go_at_call 165; refine Calls.quiet_of_same (HLs.out _)))
                        have HSy := hid (HS4.out.drewN nq)
                        clear c1 c0 HLs he
                        generalize w4.drewN nq = wy at HSy ⊢
                        clear HS4 ha0
                        have hpt := round_part swo_ltInt (partition_holds _) (d3 := X.pi.1) (d4 := (partition ltInt X.pi.1 a b X.pivot).2.2) (mid := (partition ltInt X.pi.1 a b X.pivot).1) (ap := (partition ltInt X.pi.1 a b X.pivot).2.1) p1 p2 (by rw [HX.out.s3]; omega) HX.out.B3 rfl
                        obtain ⟨m1, m2, m3, m4, m5, m6, m7⟩ := hpt
                        have hlr := HX.out.lr hpf hcond ⟨m1, m2⟩
                        have HC8 := hid (part_any wy g o cap t X.pi.1 a b X.pivot HSy.out.dt p1 p2 (by rw [HX.out.s3]; omega) (by rw [HX.out.s3]; omega))
                        rw [HX.out.s3] at HC8 m3
                        obtain ⟨mid, hmid⟩ : ∃ mid, mid = (partition ltInt X.pi.1 a b X.pivot).1 := ⟨_, rfl⟩
                        rw [← hmid] at hlr HC8 m1 m2 m4 m5 m6 m7
                        generalize (partition ltInt X.pi.1 a b X.pivot).2.2 = d4 at *
                        generalize (partition ltInt X.pi.1 a b X.pivot).2.1 = ap at *
                        have HM := hid (And.intro m3 (And.intro m4 (And.intro m5 (And.intro m6 m7))))
                        have HLR := hid hlr
                        have hq8 : Int.tdiv ((b : Int) - (a : Int)) 8 = (((b - a) / 8 : Nat) : Int) := by
                          rw [show (b : Int) - (a : Int) = ((b - a : Nat) : Int) by omega]
                          rfl
                        clear hmid m3 m4 m5 m6 m7 hlr hcond
                        go_upto_region 22 with (
                           go_at_call 167; refine (HC8.out).mono ?_; rintro e z8 ⟨rfl, h8⟩
                           have HS8 := hid (HSy.out.trans (Sn.of h8))
                           clear h8 HC8)
                        clear HSy
                        obtain ⟨th, hth⟩ : ∃ th : Nat, th = (b - a) / 8 := ⟨_, rfl⟩
                        rw [← hth] at hq8 HLR
                        have hthl : th ≤ b := by omega
                        clear hth
                        have HTW : Hid (wrap64 (th : Int) = (th : Int)) := hid (show wrap64 (th : Int) = (th : Int) by unfold wrap64; omega)
                        clear hthl
                        by_cases hlr2 : mid - a < b - mid
                        · have hd8 : decide ((mid : Int) - (a : Int) < (b : Int) - (mid : Int)) = true := decide_eq_true (by omega)
                          have hd8I : (mid : Int) - (a : Int) < (b : Int) - (mid : Int) := by omega
                          have hRl := HLR.out.1 hlr2
                          have hps := (pdq_sorts ltInt) swo_ltInt d4 a mid X.lim true true m1 (by have := HM.out.1; omega) HM.out.2.1
                          have hBr := (HM.out.2.2.2.1 _ hps.1 hps.2).1
                          have HC9 := hid (HIH.out z8 d4 a mid X.lim (by omega) HM.out.1 HS8.out.dt m1 (by omega) (by have := HX.out.lim; omega) HM.out.2.1)
                          have hz9 := hps.1.1
                          rw [HM.out.1] at hz9
                          generalize pdq ltInt d4 a mid X.lim true true = d9 at *
                          have HZ9 := hid (And.intro hz9 hBr)
                          have HRl := hid hRl
                          obtain ⟨wb2, hwb2⟩ : ∃ wb2, wb2 = decide (mid - a ≥ th) := ⟨_, rfl⟩
                          have hdb : decide ((th : Int) ≤ (mid : Int) - (a : Int)) = wb2 := by
                            rw [hwb2]
                            exact decide_eq_decide.2 ⟨fun h => by omega, fun h => by omega⟩
                          rw [← hwb2] at HRl
                          clear hps hBr hz9 hRl hwb2
                          go_wp2_with (
                           go_at_call 131; refine (HC9.out).mono ?_; rintro e z9 ⟨rfl, h9⟩
                           have HS9 := hid (HS8.out.trans h9)
                           clear h9 HC9)
                          go_roundw
                          case rel => exact ⟨mid + 1, b, X.lim, wb2, ap, d9, ⟨by omega, by omega, by omega, by have := HX.out.lim; omega⟩, by go_num, rfl, rfl, (by rw [HTW.out, hdb]), rfl, HZ9.out.1, HS9.out, HZ9.out.2, HRl.out.symm⟩
                          case measure => simp [intOf]; omega
                        · have hd8 : decide ((mid : Int) - (a : Int) < (b : Int) - (mid : Int)) = false := decide_eq_false (by omega)
                          have hd8I : ¬ (mid : Int) - (a : Int) < (b : Int) - (mid : Int) := by omega
                          have hRl := HLR.out.2 hlr2
                          have hps := (pdq_sorts ltInt) swo_ltInt d4 (mid + 1) b X.lim true true (by omega) (by have := HM.out.1; omega) HM.out.2.2.1
                          have hBr := (HM.out.2.2.2.2 _ hps.1 hps.2).1
                          have HC9 : Hid (Calls Tryz.prog 131 #[.slice (some ⟨g, o, none⟩) N cap, .int .i64 ((mid : Int) + 1), .int .i64 b, .int .i64 X.lim] z8 fun e w' => e = .returned (.tuple #[]) ∧ Sn z8 g o cap t (pdq ltInt d4 (mid + 1) b X.lim true true) w') := HIH.out z8 d4 (mid + 1) b X.lim (by omega) HM.out.1 HS8.out.dt (by omega) (by omega) (by have := HX.out.lim; omega) HM.out.2.2.1
                          have hz9 := hps.1.1
                          rw [HM.out.1] at hz9
                          generalize pdq ltInt d4 (mid + 1) b X.lim true true = d9 at *
                          have HZ9 := hid (And.intro hz9 hBr)
                          have HRl := hid hRl
                          obtain ⟨wb2, hwb2⟩ : ∃ wb2, wb2 = decide (b - mid ≥ th) := ⟨_, rfl⟩
                          have hdb : decide ((th : Int) ≤ (b : Int) - (mid : Int)) = wb2 := by
                            rw [hwb2]
                            exact decide_eq_decide.2 ⟨fun h => by omega, fun h => by omega⟩
                          rw [← hwb2] at HRl
                          clear hps hBr hz9 hRl hwb2
                          go_wp2_with (
                           go_at_call 131; refine (HC9.out).mono ?_; rintro e z9 ⟨rfl, h9⟩
                           have HS9 := hid (HS8.out.trans h9)
                           clear h9 HC9)
                          go_roundw
                          case rel => exact ⟨a, mid, X.lim, wb2, ap, d9, ⟨by omega, by omega, by omega, by have := HX.out.lim; omega⟩, rfl, rfl, rfl, (by rw [HTW.out, hdb]), rfl, HZ9.out.1, HS9.out, HZ9.out.2, HRl.out.symm⟩
                          case measure => simp [intOf]; omega
                      | false =>
                        rw [hc] at HLs
                        have hcond : (decide (a > 0) && !ltInt X.pi.1[a - 1]! X.pi.1[X.pivot]!) = true := by
                          rw [ha2, hc]; simp; omega
                        have hre := round_eq swo_ltInt (partitionEqual_holds _) (d3 := X.pi.1) (d4 := (partitionEqual ltInt X.pi.1 a b X.pivot).2) (mid := (partitionEqual ltInt X.pi.1 a b X.pivot).1) (by omega) p1 p2 (by rw [HX.out.s3]; omega) HX.out.B3 (by rw [ha2]; exact hc) rfl
                        obtain ⟨m1, m2, m3, m4, -⟩ := hre
                        have hq := HX.out.eq hpf hcond ⟨m1, m2⟩
                        obtain ⟨xa, hxa⟩ : ∃ x, x = X.pi.1[a1]! := ⟨_, rfl⟩
                        obtain ⟨xb, hxb⟩ : ∃ x, x = X.pi.1[X.pivot]! := ⟨_, rfl⟩
                        rw [← hxa] at c1 HLs
                        rw [← hxb] at c0 HLs
                        have HC8 := hid (fun wy (hSy : Sn w g o cap t X.pi.1 wy) => peq_any wy g o cap t X.pi.1 a b X.pivot hSy.dt p1 p2 (by rw [HX.out.s3]; omega) (by rw [HX.out.s3]; omega))
                        rw [HX.out.s3] at HC8 m3
                        clear hxa hxb hc ha1 ha2 hcond
                        obtain ⟨mid, hmid⟩ : ∃ mid, mid = (partitionEqual ltInt X.pi.1 a b X.pivot).1 := ⟨_, rfl⟩
                        rw [← hmid] at hq HC8 m1 m2 m4
                        generalize (partitionEqual ltInt X.pi.1 a b X.pivot).2 = d4 at *
                        have HM := hid (And.intro m3 (And.intro m4 hq))
                        clear hmid m3 m4 hq
                        go_wp2
                        go_quiet (first | (go_at_call 165; refine Calls.quiet_of_same (HLs.out _)))
                        have HSy := hid (HS4.out.drewN nq)
                        clear c1 c0 HLs he
                        generalize w4.drewN nq = wy at HSy ⊢
                        clear HS4 ha0
                        have HC9 := hid (HC8.out wy HSy.out)
                        clear HC8
                        go_wp2_with (
                         go_at_call 166; refine (HC9.out).mono ?_; rintro e z8 ⟨rfl, h8⟩
                         have HS8 := hid (HSy.out.trans (Sn.of h8))
                         clear h8 HC9)
                        go_roundw
                        case rel => exact ⟨mid, b, X.lim, wb, wp, d4, ⟨by omega, by omega, by omega, by have := HX.out.lim; omega⟩, rfl, rfl, rfl, rfl, rfl, HM.out.1, HS8.out, HM.out.2.1, HM.out.2.2.symm⟩
                        case measure => simp [intOf]; omega
                | false =>
                  have e1 := HI2.out hcc
                  have hpf : X.pi.2 = false := by rw [e1]
                  have HS4 : Hid (Sn w g o cap t X.pi.1 w3) := by rw [e1]; exact HS3.out
                  clear e1 hcc hinc HI1 HI2 HS3
                  generalize w3 = w4 at *
                  by_cases ha0 : a = 0
                  · have hda : decide ((0 : Int) < (a : Int)) = false := decide_eq_false (by omega)
                    have hda' : decide (0 < a) = false := decide_eq_false (by omega)
                    have hda2 : ¬ (0 < a) := by omega
                    have hcond : (decide (a > 0) && !ltInt X.pi.1[a - 1]! X.pi.1[X.pivot]!) = false := by simp [ha0]
                    clear ha0
                    go_wp2
                    go_quiet (fail)
                    have HSy := hid (HS4.out.drewN nq)
                    generalize w4.drewN nq = wy at HSy ⊢
                    clear HS4
                    have hpt := round_part swo_ltInt (partition_holds _) (d3 := X.pi.1) (d4 := (partition ltInt X.pi.1 a b X.pivot).2.2) (mid := (partition ltInt X.pi.1 a b X.pivot).1) (ap := (partition ltInt X.pi.1 a b X.pivot).2.1) p1 p2 (by rw [HX.out.s3]; omega) HX.out.B3 rfl
                    obtain ⟨m1, m2, m3, m4, m5, m6, m7⟩ := hpt
                    have hlr := HX.out.lr hpf hcond ⟨m1, m2⟩
                    have HC8 := hid (part_any wy g o cap t X.pi.1 a b X.pivot HSy.out.dt p1 p2 (by rw [HX.out.s3]; omega) (by rw [HX.out.s3]; omega))
                    rw [HX.out.s3] at HC8 m3
                    obtain ⟨mid, hmid⟩ : ∃ mid, mid = (partition ltInt X.pi.1 a b X.pivot).1 := ⟨_, rfl⟩
                    rw [← hmid] at hlr HC8 m1 m2 m4 m5 m6 m7
                    generalize (partition ltInt X.pi.1 a b X.pivot).2.2 = d4 at *
                    generalize (partition ltInt X.pi.1 a b X.pivot).2.1 = ap at *
                    have HM := hid (And.intro m3 (And.intro m4 (And.intro m5 (And.intro m6 m7))))
                    have HLR := hid hlr
                    have hq8 : Int.tdiv ((b : Int) - (a : Int)) 8 = (((b - a) / 8 : Nat) : Int) := by
                      rw [show (b : Int) - (a : Int) = ((b - a : Nat) : Int) by omega]
                      rfl
                    clear hmid m3 m4 m5 m6 m7 hlr hcond
                    go_upto_region 22 with (
                       go_at_call 167; refine (HC8.out).mono ?_; rintro e z8 ⟨rfl, h8⟩
                       have HS8 := hid (HSy.out.trans (Sn.of h8))
                       clear h8 HC8)
                    clear HSy
                    obtain ⟨th, hth⟩ : ∃ th : Nat, th = (b - a) / 8 := ⟨_, rfl⟩
                    rw [← hth] at hq8 HLR
                    have hthl : th ≤ b := by omega
                    clear hth
                    have HTW : Hid (wrap64 (th : Int) = (th : Int)) := hid (show wrap64 (th : Int) = (th : Int) by unfold wrap64; omega)
                    clear hthl
                    by_cases hlr2 : mid - a < b - mid
                    · have hd8 : decide ((mid : Int) - (a : Int) < (b : Int) - (mid : Int)) = true := decide_eq_true (by omega)
                      have hd8I : (mid : Int) - (a : Int) < (b : Int) - (mid : Int) := by omega
                      have hRl := HLR.out.1 hlr2
                      have hps := (pdq_sorts ltInt) swo_ltInt d4 a mid X.lim true true m1 (by have := HM.out.1; omega) HM.out.2.1
                      have hBr := (HM.out.2.2.2.1 _ hps.1 hps.2).1
                      have HC9 := hid (HIH.out z8 d4 a mid X.lim (by omega) HM.out.1 HS8.out.dt m1 (by omega) (by have := HX.out.lim; omega) HM.out.2.1)
                      have hz9 := hps.1.1
                      rw [HM.out.1] at hz9
                      generalize pdq ltInt d4 a mid X.lim true true = d9 at *
                      have HZ9 := hid (And.intro hz9 hBr)
                      have HRl := hid hRl
                      obtain ⟨wb2, hwb2⟩ : ∃ wb2, wb2 = decide (mid - a ≥ th) := ⟨_, rfl⟩
                      have hdb : decide ((th : Int) ≤ (mid : Int) - (a : Int)) = wb2 := by
                        rw [hwb2]
                        exact decide_eq_decide.2 ⟨fun h => by omega, fun h => by omega⟩
                      rw [← hwb2] at HRl
                      clear hps hBr hz9 hRl hwb2
                      go_wp2_with (
                       go_at_call 131; refine (HC9.out).mono ?_; rintro e z9 ⟨rfl, h9⟩
                       have HS9 := hid (HS8.out.trans h9)
                       clear h9 HC9)
                      go_roundw
                      case rel => exact ⟨mid + 1, b, X.lim, wb2, ap, d9, ⟨by omega, by omega, by omega, by have := HX.out.lim; omega⟩, by go_num, rfl, rfl, (by rw [HTW.out, hdb]), rfl, HZ9.out.1, HS9.out, HZ9.out.2, HRl.out.symm⟩
                      case measure => simp [intOf]; omega
                    · have hd8 : decide ((mid : Int) - (a : Int) < (b : Int) - (mid : Int)) = false := decide_eq_false (by omega)
                      have hd8I : ¬ (mid : Int) - (a : Int) < (b : Int) - (mid : Int) := by omega
                      have hRl := HLR.out.2 hlr2
                      have hps := (pdq_sorts ltInt) swo_ltInt d4 (mid + 1) b X.lim true true (by omega) (by have := HM.out.1; omega) HM.out.2.2.1
                      have hBr := (HM.out.2.2.2.2 _ hps.1 hps.2).1
                      have HC9 : Hid (Calls Tryz.prog 131 #[.slice (some ⟨g, o, none⟩) N cap, .int .i64 ((mid : Int) + 1), .int .i64 b, .int .i64 X.lim] z8 fun e w' => e = .returned (.tuple #[]) ∧ Sn z8 g o cap t (pdq ltInt d4 (mid + 1) b X.lim true true) w') := HIH.out z8 d4 (mid + 1) b X.lim (by omega) HM.out.1 HS8.out.dt (by omega) (by omega) (by have := HX.out.lim; omega) HM.out.2.2.1
                      have hz9 := hps.1.1
                      rw [HM.out.1] at hz9
                      generalize pdq ltInt d4 (mid + 1) b X.lim true true = d9 at *
                      have HZ9 := hid (And.intro hz9 hBr)
                      have HRl := hid hRl
                      obtain ⟨wb2, hwb2⟩ : ∃ wb2, wb2 = decide (b - mid ≥ th) := ⟨_, rfl⟩
                      have hdb : decide ((th : Int) ≤ (b : Int) - (mid : Int)) = wb2 := by
                        rw [hwb2]
                        exact decide_eq_decide.2 ⟨fun h => by omega, fun h => by omega⟩
                      rw [← hwb2] at HRl
                      clear hps hBr hz9 hRl hwb2
                      go_wp2_with (
                       go_at_call 131; refine (HC9.out).mono ?_; rintro e z9 ⟨rfl, h9⟩
                       have HS9 := hid (HS8.out.trans h9)
                       clear h9 HC9)
                      go_roundw
                      case rel => exact ⟨a, mid, X.lim, wb2, ap, d9, ⟨by omega, by omega, by omega, by have := HX.out.lim; omega⟩, rfl, rfl, rfl, (by rw [HTW.out, hdb]), rfl, HZ9.out.1, HS9.out, HZ9.out.2, HRl.out.symm⟩
                      case measure => simp [intOf]; omega
                  · obtain ⟨a1, ha1⟩ : ∃ a1, a = a1 + 1 := ⟨a - 1, by omega⟩
                    have he : (a : Int) - 1 = (a1 : Int) := by omega
                    have ha2 : a - 1 = a1 := by omega
                    have hda : decide ((0 : Int) < (a : Int)) = true := decide_eq_true (by omega)
                    have hda' : decide (0 < a) = true := decide_eq_true (by omega)
                    have hda2 : 0 < a := by omega
                    have c1 := HS4.out.dt.cell a1 (by rw [HX.out.s3]; omega)
                    have c0 := HS4.out.dt.cell X.pivot (by rw [HX.out.s3]; omega)
                    have hi1 : (a1 : Int) < (N : Int) := by omega
                    have hi2 : (X.pivot : Int) < (N : Int) := by omega
                    have HLs := hid (fun w => less_any X.pi.1[a1]! X.pi.1[X.pivot]! w)
                    cases hc : ltInt X.pi.1[a1]! X.pi.1[X.pivot]! with
                    | true =>
                      rw [hc] at HLs
                      have hcond : (decide (a > 0) && !ltInt X.pi.1[a - 1]! X.pi.1[X.pivot]!) = false := by
                        rw [ha2, hc]; simp
                      obtain ⟨xa, hxa⟩ : ∃ x, x = X.pi.1[a1]! := ⟨_, rfl⟩
                      obtain ⟨xb, hxb⟩ : ∃ x, x = X.pi.1[X.pivot]! := ⟨_, rfl⟩
                      rw [← hxa] at c1 HLs
                      rw [← hxb] at c0 HLs
                      clear hxa hxb hc ha1 ha2
                      go_wp2
                      go_quiet (first | (go_at_call 165; refine Calls.quiet_of_same (HLs.out _)))
                      have HSy := hid (HS4.out.drewN nq)
                      clear c1 c0 HLs he
                      generalize w4.drewN nq = wy at HSy ⊢
                      clear HS4 ha0
                      have hpt := round_part swo_ltInt (partition_holds _) (d3 := X.pi.1) (d4 := (partition ltInt X.pi.1 a b X.pivot).2.2) (mid := (partition ltInt X.pi.1 a b X.pivot).1) (ap := (partition ltInt X.pi.1 a b X.pivot).2.1) p1 p2 (by rw [HX.out.s3]; omega) HX.out.B3 rfl
                      obtain ⟨m1, m2, m3, m4, m5, m6, m7⟩ := hpt
                      have hlr := HX.out.lr hpf hcond ⟨m1, m2⟩
                      have HC8 := hid (part_any wy g o cap t X.pi.1 a b X.pivot HSy.out.dt p1 p2 (by rw [HX.out.s3]; omega) (by rw [HX.out.s3]; omega))
                      rw [HX.out.s3] at HC8 m3
                      obtain ⟨mid, hmid⟩ : ∃ mid, mid = (partition ltInt X.pi.1 a b X.pivot).1 := ⟨_, rfl⟩
                      rw [← hmid] at hlr HC8 m1 m2 m4 m5 m6 m7
                      generalize (partition ltInt X.pi.1 a b X.pivot).2.2 = d4 at *
                      generalize (partition ltInt X.pi.1 a b X.pivot).2.1 = ap at *
                      have HM := hid (And.intro m3 (And.intro m4 (And.intro m5 (And.intro m6 m7))))
                      have HLR := hid hlr
                      have hq8 : Int.tdiv ((b : Int) - (a : Int)) 8 = (((b - a) / 8 : Nat) : Int) := by
                        rw [show (b : Int) - (a : Int) = ((b - a : Nat) : Int) by omega]
                        rfl
                      clear hmid m3 m4 m5 m6 m7 hlr hcond
                      go_upto_region 22 with (
                         go_at_call 167; refine (HC8.out).mono ?_; rintro e z8 ⟨rfl, h8⟩
                         have HS8 := hid (HSy.out.trans (Sn.of h8))
                         clear h8 HC8)
                      clear HSy
                      obtain ⟨th, hth⟩ : ∃ th : Nat, th = (b - a) / 8 := ⟨_, rfl⟩
                      rw [← hth] at hq8 HLR
                      have hthl : th ≤ b := by omega
                      clear hth
                      have HTW : Hid (wrap64 (th : Int) = (th : Int)) := hid (show wrap64 (th : Int) = (th : Int) by unfold wrap64; omega)
                      clear hthl
                      by_cases hlr2 : mid - a < b - mid
                      · have hd8 : decide ((mid : Int) - (a : Int) < (b : Int) - (mid : Int)) = true := decide_eq_true (by omega)
                        have hd8I : (mid : Int) - (a : Int) < (b : Int) - (mid : Int) := by omega
                        have hRl := HLR.out.1 hlr2
                        have hps := (pdq_sorts ltInt) swo_ltInt d4 a mid X.lim true true m1 (by have := HM.out.1; omega) HM.out.2.1
                        have hBr := (HM.out.2.2.2.1 _ hps.1 hps.2).1
                        have HC9 := hid (HIH.out z8 d4 a mid X.lim (by omega) HM.out.1 HS8.out.dt m1 (by omega) (by have := HX.out.lim; omega) HM.out.2.1)
                        have hz9 := hps.1.1
                        rw [HM.out.1] at hz9
                        generalize pdq ltInt d4 a mid X.lim true true = d9 at *
                        have HZ9 := hid (And.intro hz9 hBr)
                        have HRl := hid hRl
                        obtain ⟨wb2, hwb2⟩ : ∃ wb2, wb2 = decide (mid - a ≥ th) := ⟨_, rfl⟩
                        have hdb : decide ((th : Int) ≤ (mid : Int) - (a : Int)) = wb2 := by
                          rw [hwb2]
                          exact decide_eq_decide.2 ⟨fun h => by omega, fun h => by omega⟩
                        rw [← hwb2] at HRl
                        clear hps hBr hz9 hRl hwb2
                        go_wp2_with (
                         go_at_call 131; refine (HC9.out).mono ?_; rintro e z9 ⟨rfl, h9⟩
                         have HS9 := hid (HS8.out.trans h9)
                         clear h9 HC9)
                        go_roundw
                        case rel => exact ⟨mid + 1, b, X.lim, wb2, ap, d9, ⟨by omega, by omega, by omega, by have := HX.out.lim; omega⟩, by go_num, rfl, rfl, (by rw [HTW.out, hdb]), rfl, HZ9.out.1, HS9.out, HZ9.out.2, HRl.out.symm⟩
                        case measure => simp [intOf]; omega
                      · have hd8 : decide ((mid : Int) - (a : Int) < (b : Int) - (mid : Int)) = false := decide_eq_false (by omega)
                        have hd8I : ¬ (mid : Int) - (a : Int) < (b : Int) - (mid : Int) := by omega
                        have hRl := HLR.out.2 hlr2
                        have hps := (pdq_sorts ltInt) swo_ltInt d4 (mid + 1) b X.lim true true (by omega) (by have := HM.out.1; omega) HM.out.2.2.1
                        have hBr := (HM.out.2.2.2.2 _ hps.1 hps.2).1
                        have HC9 : Hid (Calls Tryz.prog 131 #[.slice (some ⟨g, o, none⟩) N cap, .int .i64 ((mid : Int) + 1), .int .i64 b, .int .i64 X.lim] z8 fun e w' => e = .returned (.tuple #[]) ∧ Sn z8 g o cap t (pdq ltInt d4 (mid + 1) b X.lim true true) w') := HIH.out z8 d4 (mid + 1) b X.lim (by omega) HM.out.1 HS8.out.dt (by omega) (by omega) (by have := HX.out.lim; omega) HM.out.2.2.1
                        have hz9 := hps.1.1
                        rw [HM.out.1] at hz9
                        generalize pdq ltInt d4 (mid + 1) b X.lim true true = d9 at *
                        have HZ9 := hid (And.intro hz9 hBr)
                        have HRl := hid hRl
                        obtain ⟨wb2, hwb2⟩ : ∃ wb2, wb2 = decide (b - mid ≥ th) := ⟨_, rfl⟩
                        have hdb : decide ((th : Int) ≤ (b : Int) - (mid : Int)) = wb2 := by
                          rw [hwb2]
                          exact decide_eq_decide.2 ⟨fun h => by omega, fun h => by omega⟩
                        rw [← hwb2] at HRl
                        clear hps hBr hz9 hRl hwb2
                        go_wp2_with (
                         go_at_call 131; refine (HC9.out).mono ?_; rintro e z9 ⟨rfl, h9⟩
                         have HS9 := hid (HS8.out.trans h9)
                         clear h9 HC9)
                        go_roundw
                        case rel => exact ⟨a, mid, X.lim, wb2, ap, d9, ⟨by omega, by omega, by omega, by have := HX.out.lim; omega⟩, rfl, rfl, rfl, (by rw [HTW.out, hdb]), rfl, HZ9.out.1, HS9.out, HZ9.out.2, HRl.out.symm⟩
                        case measure => simp [intOf]; omega
                    | false =>
                      rw [hc] at HLs
                      have hcond : (decide (a > 0) && !ltInt X.pi.1[a - 1]! X.pi.1[X.pivot]!) = true := by
                        rw [ha2, hc]; simp; omega
                      have hre := round_eq swo_ltInt (partitionEqual_holds _) (d3 := X.pi.1) (d4 := (partitionEqual ltInt X.pi.1 a b X.pivot).2) (mid := (partitionEqual ltInt X.pi.1 a b X.pivot).1) (by omega) p1 p2 (by rw [HX.out.s3]; omega) HX.out.B3 (by rw [ha2]; exact hc) rfl
                      obtain ⟨m1, m2, m3, m4, -⟩ := hre
                      have hq := HX.out.eq hpf hcond ⟨m1, m2⟩
                      obtain ⟨xa, hxa⟩ : ∃ x, x = X.pi.1[a1]! := ⟨_, rfl⟩
                      obtain ⟨xb, hxb⟩ : ∃ x, x = X.pi.1[X.pivot]! := ⟨_, rfl⟩
                      rw [← hxa] at c1 HLs
                      rw [← hxb] at c0 HLs
                      have HC8 := hid (fun wy (hSy : Sn w g o cap t X.pi.1 wy) => peq_any wy g o cap t X.pi.1 a b X.pivot hSy.dt p1 p2 (by rw [HX.out.s3]; omega) (by rw [HX.out.s3]; omega))
                      rw [HX.out.s3] at HC8 m3
                      clear hxa hxb hc ha1 ha2 hcond
                      obtain ⟨mid, hmid⟩ : ∃ mid, mid = (partitionEqual ltInt X.pi.1 a b X.pivot).1 := ⟨_, rfl⟩
                      rw [← hmid] at hq HC8 m1 m2 m4
                      generalize (partitionEqual ltInt X.pi.1 a b X.pivot).2 = d4 at *
                      have HM := hid (And.intro m3 (And.intro m4 hq))
                      clear hmid m3 m4 hq
                      go_wp2
                      go_quiet (first | (go_at_call 165; refine Calls.quiet_of_same (HLs.out _)))
                      have HSy := hid (HS4.out.drewN nq)
                      clear c1 c0 HLs he
                      generalize w4.drewN nq = wy at HSy ⊢
                      clear HS4 ha0
                      have HC9 := hid (HC8.out wy HSy.out)
                      clear HC8
                      go_wp2_with (
                       go_at_call 166; refine (HC9.out).mono ?_; rintro e z8 ⟨rfl, h8⟩
                       have HS8 := hid (HSy.out.trans (Sn.of h8))
                       clear h8 HC9)
                      go_roundw
                      case rel => exact ⟨mid, b, X.lim, wb, wp, d4, ⟨by omega, by omega, by omega, by have := HX.out.lim; omega⟩, rfl, rfl, rfl, rfl, rfl, HM.out.1, HS8.out, HM.out.2.1, HM.out.2.2.symm⟩
                      case measure => simp [intOf]; omega
end Go.Proofs.YtdehlnaoehjehaaGreatDoor
