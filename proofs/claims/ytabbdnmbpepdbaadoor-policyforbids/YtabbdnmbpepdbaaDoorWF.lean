/-
  Proved here: the body of PolicyForbids says true. Conditions: the tables; the policy lies in old memory, its Ops are of eight bits.
-/
import Derived.Test.YtabbdnmbpepdbaaDoorWE
namespace Go.Proofs.YtabbdnmbpepdbaaDoor
open Go.RowKit
set_option maxRecDepth 100000

def fineS (fd : Int) (n : Nat) : Bool := decide (fd = 0) || (decide (fd = 1) || (decide (fd = 4) || (decide (fd = 5) || (decide (fd = 7) || (decide (fd = 8) || (decide (fd = 9) && decide (n ≠ 0)))))))
def fineQ (fd : Int) : Bool := decide (0 ≤ fd) && decide (fd < 11) && decide (fd ≠ 3)
/-- the term that may be barred -/
def badT (test : Bool) (fd : Int) (n : Nat) : Ti := if test = true then .mk 6 0 0 [.mk 2 fd n []] else .mk 7 fd n []
def fineT (test : Bool) (fd : Int) (n : Nat) : Bool := if test = true then fineQ fd else fineS fd n
theorem nat_of {fd : Int} (h : 0 ≤ fd ∧ fd ≤ 10) : ∃ f : Nat, fd = (f : Int) ∧ f ≤ 10 := ⟨fd.toNat, by omega, by omega⟩
theorem bad_fine (test : Bool) (fd : Int) (n : Nat) : oneI false (badT test fd n) = (fineT test fd n && fitB fd n) := by
  cases test with
  | true =>
    have h1 : oneI false (badT true fd n) = nwF 2039 2 fd n := by
      unfold badT
      rw [if_pos rfl, oneI, oneIs, oneIs, oneI, oneIs]
      simp [kndB, lst1, mst, wfl, nwF]
    rw [h1]
    unfold fineT fineQ nwF
    rw [if_pos rfl, if_neg (by decide)]
    by_cases h : 0 ≤ fd ∧ fd ≤ 10
    · obtain ⟨f, rfl, hf⟩ := nat_of h
      rw [show ((f : Nat) : Int).toNat = f from rfl, ask_fbit hf, decide_eq_true h.1, decide_eq_true (show ((f : Nat) : Int) < 11 by omega)]
      cases fitB (f : Int) n <;> simp <;> omega
    · have : fitB fd n = false := by
        unfold fitB
        by_cases h1 : 0 ≤ fd
        · rw [decide_eq_false (show ¬ fd ≤ 10 from fun h2 => h ⟨h1, h2⟩)]; simp
        · rw [decide_eq_false h1]; simp
      rw [this]; simp
  | false =>
    have h1 : oneI false (badT false fd n) = nwF 947 7 fd n := by
      unfold badT
      rw [if_neg (by decide), oneI, oneIs]
      simp [kndB, lst1, mst, wfl, nwF]
    rw [h1]
    unfold fineT fineS nwF
    rw [if_neg (by decide), if_neg (by decide)]
    by_cases h : 0 ≤ fd ∧ fd ≤ 10
    · obtain ⟨f, rfl, hf⟩ := nat_of h
      rw [show ((f : Nat) : Int).toNat = f from rfl, sett_fbit hf]
      have hc : f = 0 ∨ f = 1 ∨ f = 2 ∨ f = 3 ∨ f = 4 ∨ f = 5 ∨ f = 6 ∨ f = 7 ∨ f = 8 ∨ f = 9 ∨ f = 10 := by omega
      generalize fitB ((f : Nat) : Int) n = q
      rcases hc with rfl | rfl | rfl | rfl | rfl | rfl | rfl | rfl | rfl | rfl | rfl <;> cases q <;> simp [sett]
    · have : fitB fd n = false := by
        unfold fitB
        by_cases h1 : 0 ≤ fd
        · rw [decide_eq_false (show ¬ fd ≤ 10 from fun h2 => h ⟨h1, h2⟩)]; simp
        · rw [decide_eq_false h1]; simp
      rw [this]; simp
/-- what Check answers of the union -/
theorem chk_union {P : Po} (h : OkW P) (test : Bool) (fd : Int) (n : Nat) (hc : chk ⟨.mk 8 0 0 [(pi P).main, badT test fd n], (pi P).qs⟩ ≠ 200) : (chk ⟨.mk 8 0 0 [(pi P).main, badT test fd n], (pi P).qs⟩ = 0) ↔ (fineT test fd n && fitB fd n) = true := by
  rw [← bad_fine]
  rw [chk_zero]
  have h2 : (pi P).qs.length ≤ 32 ∧ fitI (tmsI ⟨.mk 8 0 0 [(pi P).main, badT test fd n], (pi P).qs⟩) = true := by
    apply Classical.byContradiction
    intro hn
    apply hc
    unfold chk
    rw [if_neg hn]
  have h3 : oneI false (.mk 8 0 0 [(pi P).main, badT test fd n]) = oneI false (badT test fd n) := by
    rw [oneI, oneIs, oneIs, oneIs]
    have : oneI false (pi P).main = true := (one_same false P.main).trans h.m
    rw [show decide ((8 : Int) ≤ 7) = false from rfl, this]
    simp [kndB, lst1, mst, wfl, nwF]
  constructor
  · intro h4; rw [← h3]; exact h4.2.2.1
  · intro h4; exact ⟨h2.1, h2.2, h3.trans h4, h.a⟩
theorem wi_union {t : Ti} (h : Wi t) (test : Bool) (fd : Int) (n : Nat) : Wi (.mk 8 0 0 [t, badT test fd n]) := by
  refine Wi.mk _ _ _ _ (by decide) (by decide) fun k hk => ?_
  rcases List.mem_cons.1 hk with rfl | hk
  · exact h
  · rw [List.mem_singleton] at hk
    subst hk
    unfold badT
    split
    · refine Wi.mk _ _ _ _ (by decide) (by decide) fun k hk => ?_
      rw [List.mem_singleton] at hk
      subst hk
      exact Wi.mk _ _ _ _ (by decide) (by decide) fun k hk => by cases hk
    · exact Wi.mk _ _ _ _ (by decide) (by decide) fun k hk => by cases hk
theorem fit_div (f n : Nat) (hf : f ≤ 10) : fitB (f : Int) n = (((n : Int) / 2 ^ wdt f) == 0) := by
  unfold fitB
  rw [decide_eq_true (show (0 : Int) ≤ (f : Int) by omega), decide_eq_true (show (f : Int) ≤ 10 by omega), Bool.true_and, Bool.true_and, Bool.eq_iff_iff, decide_eq_true_eq, beq_iff_eq, show ((f : Nat) : Int).toNat = f from rfl]
  have hp : 0 < 2 ^ wdt f := Nat.pow_pos (by decide)
  rw [show ((2 : Int) ^ wdt f) = ((2 ^ wdt f : Nat) : Int) by simp, ← Int.natCast_ediv]
  constructor
  · intro h; rw [Nat.div_eq_of_lt h]; rfl
  · intro h
    have h0 : n / 2 ^ wdt f = 0 := by omega
    rcases Nat.lt_or_ge n (2 ^ wdt f) with h1 | h1
    · exact h1
    · have := Nat.div_pos h1 hp; omega
set_option maxHeartbeats 12800000 in
theorem forbids_any (p : Pi) (cs : Array Value) (fd : Int) (n : Nat) (test : Bool) (w : World) (hp : PiV (fun b => b < w.heap.size) w p cs) (hwp : Wp p) (hfd : -128 ≤ fd ∧ fd ≤ 127) (hT : TabP w) (hz : 3 ≤ w.heap.size) :
    Calls Tryd.prog 8 #[.agg cs, .int .i8 fd, .int .u64 ((n : Nat) : Int), .bool test] w fun e w' => e = .returned (.bool true) ∧ Below w.heap.size w w' := by
  have HPV := hid hp
  have HTw := hid hT
  obtain ⟨x0, x1, x2, x3, ao, cap, xs, rfl, h1, h2, h3⟩ := hp.five
  have hB1 : Below w.heap.size w (w.alloc (.cells #[x0, x1, x2, x3, .slice ao p.qs.length cap] 29)) := (Below.refl _ _).alloc (Nat.le_refl _) _
  have HN1 : Hid ((w.alloc (.cells #[x0, x1, x2, x3, .slice ao p.qs.length cap] 29)).heap[w.heap.size]? = some (.cells #[x0, x1, x2, x3, .slice ao p.qs.length cap] 29 (0, 0))) := heap_alloc_new _ _
  have HC := hid (check8_any p _ (w.alloc (.cells #[x0, x1, x2, x3, .slice ao p.qs.length cap] 29)) (HPV.out.carry fun b hb hS => ⟨by have := hB1.size; omega, hB1.block b hb⟩) hwp (hT.on hB1 hz) (by have := hB1.size; omega))
  have HB1 := hid hB1
  have HK := hid (And.intro h1 (And.intro h2 h3))
  have HWp := hid hwp
  clear hp h1 h2 h3 hB1 hT hwp
  have HWk : Hid (∀ W, Below w.heap.size w W → Calls Tryd.prog 13 #[] W fun e w' => e = .returned (.bool true) ∧ Below W.heap.size W w') := fun W hb => wakes8_any W (HTw.out.on hb hz) (by have := hb.size; omega)
  go_enter Tryd.func8, Tryd.ntmps8
  go_upto_region 1 with fail
  generalize w.alloc (.cells #[x0, x1, x2, x3, .slice ao p.qs.length cap] 29) = W1 at HN1 HB1 HC ⊢
  by_cases hc0 : chk p = 0
  case neg =>
    have gc : (((chk p : Nat) : Int) != 0) = true := by simp; exact hc0
    generalize chk p = c at gc HC
    clear hc0
    go_wp2_with (first
      | (refine ldRow 29 (.tmp 4) rfl rfl w.heap.size rfl 29 #[x0, x1, x2, x3, .slice ao p.qs.length cap] _ Tryd.underlying29 rfl sizePO HN1.out ?_)
      | (go_at_call 9; refine (HC.out).mono ?_; rintro e w2 ⟨rfl, hw⟩; have HB2 := hid (HB1.out.trans (hw.mono HB1.out.size)); have HW2 := hid (HWk.out w2 HB2.out); clear hw HC)
      | (go_at_call 13; refine (HW2.out).mono ?_; rintro e w3 ⟨rfl, hw⟩; have HB3 := hid (HB2.out.trans (hw.mono HB2.out.size)); clear hw))
    go_ret
    exact ⟨rfl, HB3.out⟩
  case pos =>
  obtain ⟨P, rfl, hok⟩ := chk_ok hc0
  rw [hc0] at HC
  have HOk := hid hok
  clear hc0 hok
  have gc : (((0 : Nat) : Int) != 0) = false := rfl
  go_upto_region 3 with (first
      | (refine ldRow 29 (.tmp 4) rfl rfl w.heap.size rfl 29 #[x0, x1, x2, x3, .slice ao (pi P).qs.length cap] _ Tryd.underlying29 rfl sizePO HN1.out ?_)
      | (go_at_call 9; refine (HC.out).mono ?_; rintro e w2 ⟨rfl, hw⟩; have HB2 := hid (HB1.out.trans (hw.mono HB1.out.size)); have HN2 := hid ((hw.block _ (Array.getElem?_eq_some_iff.1 HN1.out).1).trans HN1.out); clear hw HC))
  have HZ2 : Hid (w.heap.size < w2.heap.size) := (Array.getElem?_eq_some_iff.1 HN2.out).1
  clear HB1 HN1 gc
  obtain ⟨W3, hW3⟩ : ∃ W3, W3 = w2.alloc (.cells (tic 7 fd n nilS) 26) := ⟨_, rfl⟩
  have HE3 : Hid (w2.alloc (.cells #[.int .i8 7, .int .i8 fd, .int .u64 ((n : Nat) : Int), .slice none 0 0] 26) = W3) := hW3.symm
  have HB3 : Hid (Below w2.heap.size w2 W3) := by show Below _ _ _; rw [hW3]; exact (Below.refl _ _).alloc (Nat.le_refl _) _
  have HA3 : Hid (W3.heap[w2.heap.size]? = some (.cells (tic 7 fd n nilS) 26 (0, 0))) := by show _ = _; rw [hW3]; exact heap_alloc_new _ _
  clear hW3
  have hbt := fun W => run_bt012 7 fd ((n : Nat) : Int) W
  go_upto_region 4 with (refine stNew 26 (.tmp 9) (.tmp 20) rfl rfl w2 26 (tmc 0 0 0 nilS) (tic 7 fd n nilS) rfl rfl rfl sizeTM rfl rfl ?_)
  rw [show w2.alloc (.cells #[.int .i8 7, .int .i8 fd, .int .u64 ((n : Nat) : Int), .slice none 0 0] 26) = W3 from HE3.out]
  clear HE3 hbt
  go_cut [10] from 21 (fun s10 wc => s10 = .bool (fineS fd n) ∧ wc = W3)
  case first =>
    by_cases e0 : fd = 0
    · subst e0
      go_wp2_with fail
      go_meet
      case rel => exact ⟨by simp [fineS], rfl⟩
    have d0 : decide (fd = 0) = false := decide_eq_false e0
    have b0 : (fd == 0) = false := beq_eq_false_iff_ne.2 e0
    by_cases e1 : fd = 1
    · subst e1
      go_wp2_with fail
      go_meet
      case rel => exact ⟨by simp [fineS], rfl⟩
    have d1 : decide (fd = 1) = false := decide_eq_false e1
    have b1 : (fd == 1) = false := beq_eq_false_iff_ne.2 e1
    by_cases e4 : fd = 4
    · subst e4
      go_wp2_with fail
      go_meet
      case rel => exact ⟨by simp [fineS], rfl⟩
    have d4 : decide (fd = 4) = false := decide_eq_false e4
    have b4 : (fd == 4) = false := beq_eq_false_iff_ne.2 e4
    by_cases e5 : fd = 5
    · subst e5
      go_wp2_with fail
      go_meet
      case rel => exact ⟨by simp [fineS], rfl⟩
    have d5 : decide (fd = 5) = false := decide_eq_false e5
    have b5 : (fd == 5) = false := beq_eq_false_iff_ne.2 e5
    by_cases e7 : fd = 7
    · subst e7
      go_wp2_with fail
      go_meet
      case rel => exact ⟨by simp [fineS], rfl⟩
    have d7 : decide (fd = 7) = false := decide_eq_false e7
    have b7 : (fd == 7) = false := beq_eq_false_iff_ne.2 e7
    by_cases e8 : fd = 8
    · subst e8
      go_wp2_with fail
      go_meet
      case rel => exact ⟨by simp [fineS], rfl⟩
    have d8 : decide (fd = 8) = false := decide_eq_false e8
    have b8 : (fd == 8) = false := beq_eq_false_iff_ne.2 e8
    by_cases e9 : fd = 9
    · subst e9
      by_cases en : n = 0
      · subst en
        go_wp2_with fail
        go_meet
        case rel => exact ⟨by simp [fineS], rfl⟩
      · have dn : (((n : Nat) : Int) != 0) = true := by simp; exact en
        go_wp2_with fail
        go_meet
        case rel => exact ⟨by simp [fineS, en], rfl⟩
    have d9 : decide (fd = 9) = false := decide_eq_false e9
    have b9 : (fd == 9) = false := beq_eq_false_iff_ne.2 e9
    go_wp2_with fail
    go_meet
    case rel => exact ⟨by simp only [fineS, d0, d1, d4, d5, d7, d8, d9, Bool.false_or, Bool.false_and], rfl⟩
  case rest =>
  obtain ⟨rfl, hwc⟩ := hcut
  rw [hwc]
  clear hwc wc
  go_upto_if 51 with fail
  go_cut [10] from 51 (fun s10 wc => s10 = .bool (fineT test fd n) ∧ Hid (Below w2.heap.size w2 wc) ∧ Hid (wc.heap[w2.heap.size]? = some (.cells (tic (if test = true then 2 else 7) fd n nilS) 26 (0, 0))))
  case first =>
    cases test with
    | false =>
      go_wp2_with fail
      go_meet
      case rel => exact ⟨rfl, HB3.out, HA3.out⟩
    | true =>
      have hc1 : W3.cell? ⟨w2.heap.size, 0, none⟩ = some (.int .i8 7) := (four_cells HA3.out).1
      have hf1 : W3.frozen? ⟨w2.heap.size, 0, none⟩ = false := by simp [World.frozen?, HA3.out]
      have HB4 : Hid (Below w2.heap.size w2 (W3.setCell ⟨w2.heap.size, 0, none⟩ (.int .i8 2))) := HB3.out.setCell (Nat.le_refl _) _
      have HA4 : Hid ((W3.setCell ⟨w2.heap.size, 0, none⟩ (.int .i8 2)).heap[w2.heap.size]? = some (.cells (tic 2 fd n nilS) 26 (0, 0))) := by show _ = _; rw [heap_setCell_same W3 w2.heap.size 0 _ _ _ HA3.out]; rfl
      by_cases g0 : 0 ≤ fd
      · have d0 : decide (0 ≤ fd) = true := decide_eq_true g0
        by_cases g1 : fd < 11
        · have d1 : decide (fd < 11) = true := decide_eq_true g1
          by_cases g3 : fd = 3
          · subst g3
            go_wp2_with fail
            go_meet
            case rel => exact ⟨by simp [fineT, fineQ], HB4.out, HA4.out⟩
          · have d3 : (fd != 3) = true := bne_iff_ne.2 g3
            have d3' : decide (fd = 3) = false := decide_eq_false g3
            go_wp2_with fail
            go_meet
            case rel => exact ⟨by simp [fineT, fineQ, d0, d1, g3], HB4.out, HA4.out⟩
        · have d1 : decide (fd < 11) = false := decide_eq_false g1
          go_wp2_with fail
          go_meet
          case rel => exact ⟨by simp [fineT, fineQ, d1], HB4.out, HA4.out⟩
      · have d0 : decide (0 ≤ fd) = false := decide_eq_false g0
        go_wp2_with fail
        go_meet
        case rel => exact ⟨by simp [fineT, fineQ, d0], HB4.out, HA4.out⟩
  case rest =>
  obtain ⟨rfl, HB5, HA5⟩ := hcut
  rename World => W5
  clear HB3 HA3
  go_upto_region 8 with fail
  go_cut [11] from 63 (fun s11 wx => s11 = .bool (fitB fd n) ∧ wx = W5)
  case first =>
    by_cases g0 : 0 ≤ fd
    · by_cases g1 : fd < 11
      · obtain ⟨f, rfl, hf⟩ := nat_of (fd := fd) ⟨g0, by omega⟩
        have HW := hid (width8_any (f : Int) W5 (HTw.out.on (HB2.out.trans (HB5.out.mono HB2.out.size)) hz))
        rw [if_pos (by omega), show ((f : Nat) : Int).toNat = f from rfl] at HW
        have HFit : Hid (fitB (f : Int) n = (((n : Int) / 2 ^ wdt f) == 0)) := fit_div f n hf
        have hwp := wdt_pos f
        have hwl : wdt f ≤ 48 := by unfold wdt; split <;> decide
        generalize wdt f = k at HW hwp hwl HFit
        have d0 : decide (0 ≤ (f : Int)) = true := decide_eq_true g0
        have d1 : decide ((f : Int) < 11) = true := decide_eq_true g1
        have g3 : decide ((k : Int) < 64) = true := decide_eq_true (by omega)
        obtain ⟨r, hr⟩ : ∃ r, r = ((n : Int) / 2 ^ k == 0) := ⟨_, rfl⟩
        rw [← hr] at HFit
        have gr : ((n : Int) / 2 ^ k == 0) = r := hr.symm
        have gr2 : decide ((n : Int) / 2 ^ k = 0) = r := by rw [hr]; rfl
        clear hr
        go_wp2_with (go_at_call 22; refine (HW.out).mono ?_; rintro e w' ⟨rfl, hw⟩; rw [hw]; clear hw w')
        go_meet
        case rel => exact ⟨by rw [HFit.out], rfl⟩
      · have d0 : decide (0 ≤ fd) = true := decide_eq_true g0
        have d1 : decide (fd < 11) = false := decide_eq_false g1
        go_wp2_with fail
        go_meet
        case rel => exact ⟨by rw [show fitB fd n = false from by unfold fitB; rw [decide_eq_false (show ¬ fd ≤ 10 by omega)]; simp], rfl⟩
    · have d0 : decide (0 ≤ fd) = false := decide_eq_false g0
      go_wp2_with fail
      go_meet
      case rel => exact ⟨by rw [show fitB fd n = false from by unfold fitB; rw [d0]; simp], rfl⟩
  case rest =>
  obtain ⟨rfl, hwc⟩ := hcut
  rw [hwc]
  clear hwc wc
  have HZ5 : Hid (w2.heap.size < W5.heap.size) := (Array.getElem?_eq_some_iff.1 HA5.out).1
  obtain ⟨q, hq⟩ : ∃ q : Int, q = if test = true then 2 else 7 := ⟨_, rfl⟩
  rw [← hq] at HA5
  have HQ := hid hq
  clear hq
  obtain ⟨W6, hW6⟩ : ∃ W6, W6 = W5.alloc (.cells (tic q fd n nilS) 26) := ⟨_, rfl⟩
  have HE6 : Hid (W5.alloc (.cells #[.int .i8 q, .int .i8 fd, .int .u64 ((n : Nat) : Int), .slice none 0 0] 26) = W6) := hW6.symm
  have HB6 : Hid (Below w2.heap.size w2 W6) := by show Below _ _ _; rw [hW6]; exact HB5.out.alloc (by have := HZ5.out; omega) _
  have HA6 : Hid (W6.heap[w2.heap.size]? = some (.cells (tic q fd n nilS) 26 (0, 0))) := by show _ = _; rw [hW6]; exact (heap_alloc_old _ _ HZ5.out).trans HA5.out
  have HN6 : Hid (W6.heap[W5.heap.size]? = some (.cells (tic q fd n nilS) 26 (0, 0))) := by show _ = _; rw [hW6]; exact heap_alloc_new _ _
  clear hW6
  go_upto_if 77 with (first
    | (refine ldRow 26 (.tmp 9) rfl rfl w2.heap.size rfl 26 (tic q fd n nilS) _ Tryd.underlying26 rfl sizeTM HA5.out ?_)
    | (refine stNew 26 (.tmp 12) (.tmp 76) rfl rfl W5 26 (tmc 0 0 0 nilS) (tic q fd n nilS) rfl rfl rfl sizeTM rfl rfl ?_))
  rw [show W5.alloc (.cells #[.int .i8 q, .int .i8 fd, .int .u64 ((n : Nat) : Int), .slice none 0 0] 26) = W6 from HE6.out]
  clear HE6 HA5
  go_cut [] from 76 (fun wd => Hid (Below w2.heap.size w2 wd) ∧ Hid (∃ ds, wd.heap[W5.heap.size]? = some (.cells ds 26 (0, 0)) ∧ TiV (fun b => b < wd.heap.size) wd (badT test fd n) ds))
  case first =>
    cases test with
    | false =>
      obtain rfl : q = 7 := HQ.out
      go_wp2_with fail
      go_meet
      case rel => exact ⟨HB6.out, _, HN6.out, TiV.leaf _ _ _ _ _⟩
    | true =>
      obtain rfl : q = 2 := HQ.out
      have HF := hid (filterI_any (fun _ => False) (.mk 2 fd n []) _ W6 (TiV.leaf _ _ _ _ _))
      go_wp2_with (first
        | (refine ldRow 26 (.tmp 9) rfl rfl w2.heap.size rfl 26 (tic 2 fd n nilS) _ Tryd.underlying26 rfl sizeTM HA6.out ?_)
        | (refine stRow 26 (.tmp 12) (.tmp 79) rfl rfl W5.heap.size ds rfl rfl 26 (tic 2 fd n nilS) HN7.out HU7.out.info (by rw [HU7.out.size]; rfl) HU7.out.one ?_)
        | (go_at_call 23; refine (HF.out).mono ?_; rintro e w7 ⟨ds, rfl, hw, hu⟩; have HB7 := hid (HB6.out.trans (hw.mono HB6.out.size)); have HN7 := hid ((hw.block _ (Array.getElem?_eq_some_iff.1 HN6.out).1).trans HN6.out); have HU7 := hid hu; clear hw hu HF))
      go_meet
      case rel =>
        have hl := (Array.getElem?_eq_some_iff.1 HN6.out).1
        refine ⟨bel_row HB7.out (by have := HZ5.out; omega) _, ds, setRow_heap _ _ _ _ _ _ HN7.out, ti_on HU7.out fun b hb hS => ⟨?_, setRow_other _ _ b _ ?_⟩⟩
        · show b < (w7.setRow _ _).heap.size
          simp [World.setRow]
          exact hb
        · rcases hS with hS | hS
          · exact hS.2.elim
          · omega
  case rest =>
  obtain ⟨HB8, HD8⟩ := hcut
  rename World => W8
  obtain ⟨ds, hd1, hd2⟩ := HD8.out
  clear HD8 HB6 HA6 HN6 HQ HZ5 HB5
  obtain ⟨y0, y1, y2, y3, rfl⟩ := arr4 hd2.size
  have HN8 : Hid (W8.heap[w.heap.size]? = some (.cells #[x0, x1, x2, x3, .slice ao (pi P).qs.length cap] 29 (0, 0))) := (HB8.out.block _ HZ2.out).trans HN2.out
  have HR8 := hid (five_rng HN8.out)
  have HD1 := hid hd1
  obtain ⟨W9, hW9⟩ : ∃ W9, W9 = W8.alloc (.cells (#[x0, x1, x2, x3] ++ #[y0, y1, y2, y3]) 26) := ⟨_, rfl⟩
  have HE9 : Hid (W8.alloc (.cells (#[x0, x1, x2, x3] ++ #[y0, y1, y2, y3]) 26) = W9) := hW9.symm
  have hb9 : Below W8.heap.size W8 W9 := by rw [hW9]; exact (Below.refl _ _).alloc (Nat.le_refl _) _
  have hb8 : Below w.heap.size w W8 := HB2.out.trans (HB8.out.mono HB2.out.size)
  have HB9 := hid (hb8.trans (hb9.mono hb8.size))
  have c4 : W9.cell? ⟨w.heap.size, 4, none⟩ = some (.slice ao (pi P).qs.length cap) := (cell_of_row _ _ _ _ _ _ ((hb9.block _ (Array.getElem?_eq_some_iff.1 HN8.out).1).trans HN8.out)).trans rfl
  have htu : TiV (fun b => b < W9.heap.size) W9 (.mk 8 0 0 [(pi P).main, badT test fd n]) (tic 8 0 0 (.slice (some ⟨W8.heap.size, 0, none⟩) 2 2)) := by
    rw [hW9]
    refine TiV.bld2 (S := fun b => b < W8.heap.size) (ti_on HK.out.1 fun b hb hS => ⟨by have := hb8.size; omega, hb8.block b hS⟩) hd2 8 (by simp) (fun b hb hS => by simp; omega)
  have hcar : ∀ b, b < w.heap.size → b < w.heap.size → b < W9.heap.size ∧ W9.heap[b]? = w.heap[b]? := fun b hb _ => ⟨by have := HB9.out.size; omega, HB9.out.block b hb⟩
  have HC9 : Hid (Calls Tryd.prog 9 #[.agg #[.int .i8 8, .int .i8 0, .int .u64 0, .slice (some ⟨W8.heap.size, 0, none⟩) 2 2, .slice ao (pi P).qs.length cap]] W9 fun e w' => e = .returned (.int .i64 ((chk ⟨.mk 8 0 0 [(pi P).main, badT test fd n], (pi P).qs⟩ : Nat) : Int)) ∧ Below W9.heap.size W9 w') :=
    check8_any ⟨.mk 8 0 0 [(pi P).main, badT test fd n], (pi P).qs⟩ _ W9 ⟨_, _, xs, rfl, htu, HK.out.2.1.carry hcar, QiL.carry hcar _ _ HK.out.2.2⟩ ⟨wi_union HWp.out.m test fd n, HWp.out.q⟩ (HTw.out.on HB9.out hz) (by have := HB9.out.size; omega)
  have HU := hid (chk_union HOk.out test fd n)
  generalize chk ⟨.mk 8 0 0 [(pi P).main, badT test fd n], (pi P).qs⟩ = c at HC9 HU
  generalize fineT test fd n = u at HU ⊢
  generalize fitB fd n = v at HU ⊢
  clear hd1 hd2 hW9 hb9 hb8 htu hcar HK HPV HWp HOk HB2 HN2 HN8 HB8
  have hbt := fun W => run_bt03 8 (some ⟨W8.heap.size, 0, none⟩) 2 2 W
  have hbp := fun W => run_bp01 (.int .i8 8) (.int .i8 0) (.int .u64 0) (.slice (some ⟨W8.heap.size, 0, none⟩) 2 2) ao (pi P).qs.length cap W
  go_upto_region 13 with (first
    | (refine ldMid 26 (.tmp 80) rfl rfl w.heap.size 0 rfl #[x0, x1, x2, x3] _ Tryd.underlying26 rfl sizeTM HR8.out ?_)
    | (refine ldRow 26 (.tmp 12) rfl rfl W5.heap.size rfl 26 #[y0, y1, y2, y3] _ Tryd.underlying26 rfl sizeTM HD1.out ?_)
    | (refine bldSl2 (.tmp 81) (.tmp 82) rfl rfl #[x0, x1, x2, x3] #[y0, y1, y2, y3] rfl rfl rfl rfl ?_; rw [HE9.out])
    | (go_at_call 9; refine (HC9.out).mono ?_; rintro e w10 ⟨rfl, hw⟩; have HB10 := hid (HB9.out.trans (hw.mono HB9.out.size)); have HW10 := hid (HWk.out w10 HB10.out); clear hw HC9))
  by_cases e2 : c = 200
  · subst e2
    go_wp2_with (go_at_call 13; refine (HW10.out).mono ?_; rintro e w11 ⟨rfl, hw⟩; have HB11 := hid (HB10.out.trans (hw.mono HB10.out.size)); clear hw)
    go_ret
    exact ⟨rfl, HB11.out⟩
  have n2 : decide (((c : Nat) : Int) = 200) = false := decide_eq_false (by omega)
  have n2b : (((c : Nat) : Int) == 200) = false := beq_eq_false_iff_ne.2 (by omega)
  have hu := HU.out e2
  by_cases e0 : c = 0
  · subst e0
    have huv := hu.1 rfl
    rw [Bool.and_eq_true] at huv
    obtain ⟨rfl, rfl⟩ := huv
    clear hu e2 n2 n2b
    go_wp2_with (go_at_call 13; refine (HW10.out).mono ?_; rintro e w11 ⟨rfl, hw⟩; have HB11 := hid (HB10.out.trans (hw.mono HB10.out.size)); clear hw)
    go_ret
    exact ⟨rfl, HB11.out⟩
  have n0 : decide (((c : Nat) : Int) = 0) = false := decide_eq_false (by omega)
  have n0b : (((c : Nat) : Int) == 0) = false := beq_eq_false_iff_ne.2 (by omega)
  cases u with
  | false =>
    clear hu e2 e0
    go_wp2_with (go_at_call 13; refine (HW10.out).mono ?_; rintro e w11 ⟨rfl, hw⟩; have HB11 := hid (HB10.out.trans (hw.mono HB10.out.size)); clear hw)
    go_ret
    exact ⟨rfl, HB11.out⟩
  | true =>
    cases v with
    | true => exact absurd (hu.2 rfl) e0
    | false =>
      clear hu e2 e0
      go_wp2_with (go_at_call 13; refine (HW10.out).mono ?_; rintro e w11 ⟨rfl, hw⟩; have HB11 := hid (HB10.out.trans (hw.mono HB10.out.size)); clear hw)
      go_ret
      exact ⟨rfl, HB11.out⟩
end Go.Proofs.YtabbdnmbpepdbaaDoor
