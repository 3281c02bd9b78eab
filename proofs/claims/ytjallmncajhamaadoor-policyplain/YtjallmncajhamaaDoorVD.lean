/-
  Proved here: the document's Width, fits and name. No condition.
-/
import Derived.Test.YtjallmncajhamaaDoorTN
namespace Go.Proofs.YtjallmncajhamaaDoor
open Go.RowKit
set_option maxRecDepth 100000

def wdI (fd : Int) : Nat := if 0 ≤ fd ∧ fd ≤ 10 then wdt fd.toNat else 0
theorem rwd_in (f : Int) (hf : f = 0 ∨ f = 1 ∨ f = 2 ∨ f = 3 ∨ f = 4 ∨ f = 5 ∨ f = 6 ∨ f = 7 ∨ f = 8 ∨ f = 9 ∨ f = 10) (w : World) :
    Calls Tryd.prog 97 #[.int .i8 f] w fun e w' => e = .returned (.int .i64 ((wdI f : Nat) : Int)) ∧ w' = w := by
  rcases hf with rfl | rfl | rfl | rfl | rfl | rfl | rfl | rfl | rfl | rfl | rfl
  all_goals
    go_enter Tryd.func97, Tryd.ntmps97
    go_wp2
    go_ret
    exact ⟨rfl, rfl⟩
set_option maxHeartbeats 1600000 in
theorem rwd_out (f : Int) (hf : f < 0 ∨ 10 < f) (w : World) :
    Calls Tryd.prog 97 #[.int .i8 f] w fun e w' => e = .returned (.int .i64 ((wdI f : Nat) : Int)) ∧ w' = w := by
  have e0 : wdI f = 0 := by unfold wdI; rw [if_neg (by omega)]
  rw [e0]
  have t0 : (f == 0) = false := beq_eq_false_iff_ne.2 (by omega)
  have t1 : (f == 1) = false := beq_eq_false_iff_ne.2 (by omega)
  have t2 : (f == 2) = false := beq_eq_false_iff_ne.2 (by omega)
  have t3 : (f == 3) = false := beq_eq_false_iff_ne.2 (by omega)
  have t4 : (f == 4) = false := beq_eq_false_iff_ne.2 (by omega)
  have t5 : (f == 5) = false := beq_eq_false_iff_ne.2 (by omega)
  have t6 : (f == 6) = false := beq_eq_false_iff_ne.2 (by omega)
  have t7 : (f == 7) = false := beq_eq_false_iff_ne.2 (by omega)
  have t8 : (f == 8) = false := beq_eq_false_iff_ne.2 (by omega)
  have t9 : (f == 9) = false := beq_eq_false_iff_ne.2 (by omega)
  have t10 : (f == 10) = false := beq_eq_false_iff_ne.2 (by omega)
  clear hf e0
  go_enter Tryd.func97, Tryd.ntmps97
  go_wp2
  go_ret
  exact ⟨rfl, rfl⟩
theorem rwd_any (f : Int) (w : World) : Calls Tryd.prog 97 #[.int .i8 f] w fun e w' => e = .returned (.int .i64 ((wdI f : Nat) : Int)) ∧ w' = w := by
  by_cases h : f < 0 ∨ 10 < f
  · exact rwd_out f h w
  · exact rwd_in f (by omega) w
theorem fit_wd (fd : Int) (n : Nat) : fitB fd n = (decide (0 < wdI fd) && (((n : Int) / 2 ^ wdI fd) == 0)) := by
  unfold wdI
  by_cases h : 0 ≤ fd ∧ fd ≤ 10
  · rw [if_pos h, decide_eq_true (wdt_pos _), Bool.true_and]
    unfold fitB
    rw [decide_eq_true h.1, decide_eq_true h.2, Bool.true_and, Bool.true_and, Bool.eq_iff_iff, decide_eq_true_eq, beq_iff_eq]
    have hp : 0 < 2 ^ wdt fd.toNat := Nat.pow_pos (by decide)
    rw [show ((2 : Int) ^ wdt fd.toNat) = ((2 ^ wdt fd.toNat : Nat) : Int) by simp, ← Int.natCast_ediv]
    constructor
    · intro h; rw [Nat.div_eq_of_lt h]; rfl
    · intro h
      have h0 : n / 2 ^ wdt fd.toNat = 0 := by omega
      rcases Nat.lt_or_ge n (2 ^ wdt fd.toNat) with h1 | h1
      · exact h1
      · have := Nat.div_pos h1 hp; omega
  · rw [if_neg h]
    have : fitB fd n = false := by
      unfold fitB
      by_cases h1 : 0 ≤ fd
      · rw [decide_eq_false (show ¬ fd ≤ 10 from fun h2 => h ⟨h1, h2⟩)]; simp
      · rw [decide_eq_false h1]; simp
    rw [this]; simp
theorem wdI_le (fd : Int) : wdI fd ≤ 48 := by
  unfold wdI
  split
  · unfold wdt; split <;> decide
  · decide
set_option maxHeartbeats 3200000 in
theorem rfits_any (op fd : Int) (n : Nat) (v : Value) (w : World) : Calls Tryd.prog 66 #[.agg (tic op fd n v)] w fun e w' => e = .returned (.bool (fitB fd n)) ∧ Below w.heap.size w w' := by
  have HF := hid (fit_wd fd n)
  have hl := wdI_le fd
  have HN : Hid ((w.alloc (.cells (tic op fd n v) 26)).heap[w.heap.size]? = some (.cells (tic op fd n v) 26 (0, 0))) := heap_alloc_new _ _
  have HB : Hid (Below w.heap.size w (w.alloc (.cells (tic op fd n v) 26))) := (Below.refl _ _).alloc (Nat.le_refl _) _
  have HW := hid (rwd_any fd (w.alloc (.cells (tic op fd n v) 26)))
  go_enter Tryd.func66, Tryd.ntmps66
  go_upto_region 1 with fail
  generalize w.alloc (.cells (tic op fd n v) 26) = W1 at HN HB HW ⊢
  have c1 := (four_cells HN.out).2.1
  have c2 := (four_cells HN.out).2.2.1
  generalize wdI fd = k at HW HF hl
  obtain ⟨r, hr⟩ : ∃ r, r = (((n : Nat) : Int) / 2 ^ k == 0) := ⟨_, rfl⟩
  rw [← hr] at HF
  have gr : (((n : Nat) : Int) / 2 ^ k == 0) = r := hr.symm
  have gr2 : decide (((n : Nat) : Int) / 2 ^ k = 0) = r := by rw [hr]; rfl
  have g3 : decide ((k : Int) < 64) = true := decide_eq_true (by omega)
  clear hr
  by_cases hk : 0 < k
  · have d1 : decide (0 < k) = true := decide_eq_true hk
    have d2 : decide ((0 : Int) < (k : Int)) = true := decide_eq_true (by omega)
    rw [d1, Bool.true_and] at HF
    go_wp2_with (go_at_call 97; refine (HW.out).mono ?_; rintro e w' ⟨rfl, hw⟩; rw [hw]; clear hw w' HW)
    go_ret
    exact ⟨by rw [HF.out]; rfl, HB.out⟩
  · have d1 : decide (0 < k) = false := decide_eq_false hk
    have d2 : decide ((0 : Int) < (k : Int)) = false := decide_eq_false (by omega)
    rw [d1, Bool.false_and] at HF
    go_wp2_with (go_at_call 97; refine (HW.out).mono ?_; rintro e w' ⟨rfl, hw⟩; rw [hw]; clear hw w' HW)
    go_ret
    exact ⟨by rw [HF.out]; rfl, HB.out⟩
set_option maxHeartbeats 6400000 in
theorem rname_any (s : ByteArray) (w : World) : Calls Tryd.prog 42 #[.string s] w fun e w' => e = .returned (.bool (nmB s)) ∧ w' = w := by
  obtain ⟨r, hr⟩ : ∃ r, r = nmB s := ⟨_, rfl⟩
  rw [← hr]
  have HR := hid hr
  clear hr
  by_cases h0 : s.size = 0
  · have hs : s = ⟨#[]⟩ := ByteArray.ext (Array.eq_empty_of_size_eq_zero h0)
    obtain rfl : r = false := by rw [HR.out, hs]; rfl
    have g0' : (s.toList == []) = true := by rw [hs, ByteArray.toList_eq]; rfl
    clear HR h0
    clear hs
    go_enter Tryd.func42, Tryd.ntmps42
    go_wp2
    go_ret
    exact ⟨rfl, rfl⟩
  have g0 : (s.toList == []) = false := by
    have := str_b (b := false) (decide_eq_false (show ¬ s = ⟨#[]⟩ from fun e => h0 (by rw [e]; rfl)))
    rw [show (⟨#[]⟩ : ByteArray).toList = [] by rw [ByteArray.toList_eq]] at this
    exact this
  by_cases h1 : 32 < s.size
  · have g1 : decide ((32 : Int) < (s.size : Int)) = true := decide_eq_true (by omega)
    obtain rfl : r = false := by rw [HR.out]; unfold nmB; rw [decide_eq_false (show ¬ s.size ≤ 32 by omega)]; simp
    clear HR
    go_enter Tryd.func42, Tryd.ntmps42
    go_wp2
    go_ret
    exact ⟨rfl, rfl⟩
  have g1 : decide ((32 : Int) < (s.size : Int)) = false := decide_eq_false (by omega)
  have hp : 0 < s.size := by omega
  have HR2 : Hid (isD (bt s 0) = false → (∀ j, j < s.size → isN (bt s j) = true) → r = true) := fun hd h => by rw [HR.out]; exact nmB_yes hp (by omega) hd h
  have HR3 : Hid (isD (bt s 0) = true → r = false) := fun hd => by rw [HR.out]; unfold nmB; rw [hd]; simp
  go_enter Tryd.func42, Tryd.ntmps42
  go_upto_region 4 with fail
  clear g0
  go_loop [3] (fun v => ∃ j : Nat, v = .int .i64 ((j : Nat) : Int) ∧ j ≤ s.size ∧ Hid ((∀ i, i < j → isN (bt s i) = true) ∧ (0 < j → isD (bt s 0) = false))) (fun v => s.size - (intOf v).toNat)
  case atStart => exact ⟨0, rfl, by omega, fun i hi => by omega, fun h => by omega⟩
  case round =>
    obtain ⟨j, rfl, hj, HS⟩ := hrel
    by_cases hl : j < s.size
    · have gl : decide ((j : Int) < (s.size : Int)) = true := decide_eq_true (by omega)
      have hix := run_bt s j hl w
      have hw1 : IntKind.i64.wrap ((j : Int) + 1) = (j : Int) + 1 := by rw [IntKind.wrap_i64]; omega
      have HNo : Hid (isN (bt s j) = false → r = false) := fun hb => by rw [HR.out]; exact nmB_no hl hb
      have HYe : Hid (isN (bt s j) = true → (j = 0 → isD (bt s 0) = false) → (∀ i, i < j + 1 → isN (bt s i) = true) ∧ (0 < j + 1 → isD (bt s 0) = false)) := fun hb hd => ⟨fun i hi => by
        rcases Nat.lt_or_eq_of_le (Nat.lt_succ_iff.1 hi) with h | h
        · exact HS.out.1 i h
        · rw [h]; exact hb, fun _ => by
        by_cases h : j = 0
        · exact hd h
        · exact HS.out.2 (by omega)⟩
      have HZe : Hid (j = 0 → bt s j = bt s 0) := fun h => by rw [h]
      clear HS
      have HLD : Hid (isL (bt s j) = true → isD (bt s j) = false) := fun h => by unfold isL at h; unfold isD; simp at h ⊢; omega
      go_upto_region 7 with fail
      clear hix
      obtain ⟨c, hc⟩ : ∃ c, c = bt s j := ⟨_, rfl⟩
      rw [← hc] at HNo HYe HZe HLD ⊢
      clear hc
      go_cut [5] from 22 (fun s5 wc => s5 = .bool (isL c) ∧ wc = w)
      case first =>
        by_cases a1 : 97 ≤ c
        · have p1 : decide (97 ≤ c) = true := decide_eq_true a1
          have q1 : decide ((97 : Int) ≤ (c : Int)) = true := decide_eq_true (by omega)
          by_cases a2 : c ≤ 122
          · have p2 : decide (c ≤ 122) = true := decide_eq_true a2
            have q2 : decide ((c : Int) ≤ 122) = true := decide_eq_true (by omega)
            have HL : Hid (isL c = true) := by show _ = _; unfold isL; rw [p1, p2]; simp
            go_wp2_with fail
            go_meet
            case rel => exact ⟨by rw [HL.out], rfl⟩
          · have p2 : decide (c ≤ 122) = false := decide_eq_false a2
            have q2 : decide ((c : Int) ≤ 122) = false := decide_eq_false (by omega)
            have p3 : decide (65 ≤ c) = true := decide_eq_true (by omega)
            have q3 : decide ((65 : Int) ≤ (c : Int)) = true := decide_eq_true (by omega)
            have p4 : decide (c ≤ 90) = false := decide_eq_false (by omega)
            have q4 : decide ((c : Int) ≤ 90) = false := decide_eq_false (by omega)
            have p5 : decide (c = 95) = false := decide_eq_false (by omega)
            have q5 : ((c : Int) == 95) = false := beq_eq_false_iff_ne.2 (by omega)
            have q5' : decide ((c : Int) = 95) = false := decide_eq_false (by omega)
            have HL : Hid (isL c = false) := by show _ = _; unfold isL; rw [p2, p4, p5]; simp
            go_wp2_with fail
            go_meet
            case rel => exact ⟨by rw [HL.out], rfl⟩
        · have p1 : decide (97 ≤ c) = false := decide_eq_false a1
          have q1 : decide ((97 : Int) ≤ (c : Int)) = false := decide_eq_false (by omega)
          by_cases a3 : 65 ≤ c
          · have p3 : decide (65 ≤ c) = true := decide_eq_true a3
            have q3 : decide ((65 : Int) ≤ (c : Int)) = true := decide_eq_true (by omega)
            by_cases a4 : c ≤ 90
            · have p4 : decide (c ≤ 90) = true := decide_eq_true a4
              have q4 : decide ((c : Int) ≤ 90) = true := decide_eq_true (by omega)
              have HL : Hid (isL c = true) := by show _ = _; unfold isL; rw [p3, p4]; simp
              go_wp2_with fail
              go_meet
              case rel => exact ⟨by rw [HL.out], rfl⟩
            · have p4 : decide (c ≤ 90) = false := decide_eq_false a4
              have q4 : decide ((c : Int) ≤ 90) = false := decide_eq_false (by omega)
              obtain ⟨u, hu⟩ : ∃ u, u = decide (c = 95) := ⟨_, rfl⟩
              have p5 : decide (c = 95) = u := hu.symm
              have q5 : ((c : Int) == 95) = u := by rw [hu, Bool.eq_iff_iff]; simp; omega
              have q5' : decide ((c : Int) = 95) = u := by rw [hu]; exact decide_eq_decide.2 (by omega)
              have HL : Hid (isL c = u) := by show _ = _; unfold isL; rw [p1, p4, p5]; simp
              clear hu
              go_wp2_with fail
              go_meet
              case rel => exact ⟨by rw [HL.out], rfl⟩
          · have p3 : decide (65 ≤ c) = false := decide_eq_false a3
            have q3 : decide ((65 : Int) ≤ (c : Int)) = false := decide_eq_false (by omega)
            have p5 : decide (c = 95) = false := decide_eq_false (by omega)
            have q5 : ((c : Int) == 95) = false := beq_eq_false_iff_ne.2 (by omega)
            have q5' : decide ((c : Int) = 95) = false := decide_eq_false (by omega)
            have HL : Hid (isL c = false) := by show _ = _; unfold isL; rw [p1, p3, p5]; simp
            go_wp2_with fail
            go_meet
            case rel => exact ⟨by rw [HL.out], rfl⟩
      case rest =>
      obtain ⟨rfl, hwc⟩ := hcut
      rw [hwc]
      clear hwc wc
      cases hb : isL c with
      | true =>
        have HS2 := hid (HYe.out (by unfold isN; rw [hb]; rfl) (fun h => by rw [← HZe.out h]; exact HLD.out hb))
        clear hb HNo HYe HZe HLD
        go_wp2_with fail
        go_round
        case rel => exact ⟨j + 1, by go_num, by omega, HS2⟩
        case measure => simp [intOf]; omega
      | false =>
        by_cases hj0 : j = 0
        · obtain rfl : r = false := by
            cases hd : isD c with
            | true => exact HR3.out (by rw [← HZe.out hj0]; exact hd)
            | false => exact HNo.out (by unfold isN; rw [hb, hd]; rfl)
          subst hj0
          clear HR HR2 HR3 HNo HYe HZe HLD hb
          go_wp2_with fail
          go_ret
          exact ⟨rfl, rfl⟩
        have z0 : ((j : Int) == 0) = false := beq_eq_false_iff_ne.2 (by omega)
        have z0' : decide (j = 0) = false := decide_eq_false hj0
        have z0'' : decide ((j : Int) = 0) = false := decide_eq_false (by omega)
        by_cases a1 : c < 48
        · obtain rfl : r = false := HNo.out (by unfold isN isD; rw [hb, decide_eq_false (show ¬ 48 ≤ c by omega)]; rfl)
          have p1 : decide (c < 48) = true := decide_eq_true a1
          have q1 : decide ((c : Int) < 48) = true := decide_eq_true (by omega)
          clear HR HR2 HR3 HNo HYe HZe HLD hb
          go_wp2_with fail
          go_ret
          exact ⟨rfl, rfl⟩
        have p1 : decide (c < 48) = false := decide_eq_false a1
        have q1 : decide ((c : Int) < 48) = false := decide_eq_false (by omega)
        by_cases a2 : 57 < c
        · obtain rfl : r = false := HNo.out (by unfold isN isD; rw [hb, decide_eq_false (show ¬ c ≤ 57 by omega)]; simp)
          have p2 : decide (57 < c) = true := decide_eq_true a2
          have q2 : decide ((57 : Int) < (c : Int)) = true := decide_eq_true (by omega)
          clear HR HR2 HR3 HNo HYe HZe HLD hb
          go_wp2_with fail
          go_ret
          exact ⟨rfl, rfl⟩
        have p2 : decide (57 < c) = false := decide_eq_false a2
        have q2 : decide ((57 : Int) < (c : Int)) = false := decide_eq_false (by omega)
        have HS2 := hid (HYe.out (by unfold isN isD; rw [decide_eq_true (show 48 ≤ c by omega), decide_eq_true (show c ≤ 57 by omega)]; simp) (fun h => absurd h hj0))
        clear HNo HYe HZe HLD hb
        go_wp2_with fail
        go_round
        case rel => exact ⟨j + 1, by go_num, by omega, HS2⟩
        case measure => simp [intOf]; omega
    · obtain rfl : j = s.size := by omega
      have gl : decide ((s.size : Int) < (s.size : Int)) = false := by simp
      obtain rfl : r = true := HR2.out (HS.out.2 hp) HS.out.1
      clear HR HR2 HR3 HS
      go_wp2
      go_ret
      exact ⟨rfl, rfl⟩
end Go.Proofs.YtjallmncajhamaaDoor
