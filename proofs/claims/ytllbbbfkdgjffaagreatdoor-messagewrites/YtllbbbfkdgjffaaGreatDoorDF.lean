/-
  Proved here: the document's Check returns 0 or 20 as 'chk' says, for every match; no old memory turns. No condition.
-/
/-
  Proved here: the document's fair (of package tollbridgeref07) says whether a rule is one. No condition.
-/
import Derived.Test.YtllbbbfkdgjffaaGreatDoorDR
namespace Go.Proofs.YtllbbbfkdgjffaaGreatDoor
open Go.RowKit

set_option maxHeartbeats 800000 in
/-- WHAT THE DOCUMENT's Check ANSWERS. -/
theorem r2check_any (m : Nat → Int) (w : World) :
    Calls Tryz.prog 50 #[mv m] w fun e w' => e = .returned (.int .i64 (chk m)) ∧ Below w.heap.size w w' := by
  have hB0 : Blk (w.alloc (.cells (row 22 m) 28)) w.heap.size 22 28 m := Blk.new w 22 28 m
  have hlow0 : Below w.heap.size w (w.alloc (.cells (row 22 m) 28)) := (Below.refl _ _).alloc (Nat.le_refl _) _
  go_enter Tryz.func50, Tryz.ntmps50
  go_wp2
  go_loopw [3] (fun i wr => ∃ k : Nat, k ≤ 11 ∧ i = .int .i64 k ∧ allU (fun k => !bad m k) k = true ∧ Blk wr w.heap.size 22 28 m ∧ Below w.heap.size w wr) (fun i _ => 11 - (intOf i).toNat)
  case atStart => exact ⟨0, by omega, rfl, rfl, hB0, hlow0⟩
  case round =>
    clear hB0 hlow0
    obtain ⟨k, hk, rfl, hall, hB, hlow⟩ := hrel
    have HALL : Hid (allU (fun k => !bad m k) k = true) := hall
    clear hall
    by_cases hlt : k < 11
    · have hc1 : wr.cell? ⟨w.heap.size, k, none⟩ = some (.int .u64 (m k)) := hB.cell k (by omega)
      have hc2 : wr.cell? ⟨w.heap.size, 11 + k, none⟩ = some (.int .u64 (m (11 + k))) := hB.cell (11 + k) (by omega)
      have hbd := wid_bd k
      have HC : ∀ W, Hid (Calls Tryz.prog 52 #[.int .i8 (k : Int)] W fun e w' => e = .returned (.int .i64 (wid k)) ∧ w' = W) := fun W => by
        have hC := rwidth_any (k : Int) W
        rw [widV_nat k hlt] at hC
        exact hC
      cases t1 : (m (11 + k) / 2 ^ (wid k).toNat != 0)
      · cases t2 : (bits .andNot .u64 (m k) (m (11 + k)) != 0)
        · have HF : Hid (bad m k = false) := by show bad m k = false; simp [bad, t1, t2]
          go_wp2_with fail
          go_quiet (first | (go_at_call 52; refine Calls.quiet_of_same (HC _).out))
          go_wp2
          go_roundw
          case rel => exact ⟨k + 1, by omega, by go_num, by simp [allU, HALL.out, HF.out], hB.drewN _, bel_drewN hlow _⟩
          case measure => simp [intOf]; omega
        · have HF : Hid (chk m = 20) := by
            show chk m = 20
            exact chk_bad (allU_false hlt (by simp [bad, t2]))
          go_wp2_with fail
          go_quiet (first | (go_at_call 52; refine Calls.quiet_of_same (HC _).out))
          go_wp2
          go_ret
          exact ⟨by rw [HF.out]; rfl, bel_drewN hlow _⟩
      · have HF : Hid (chk m = 20) := by
          show chk m = 20
          exact chk_bad (allU_false hlt (by simp [bad, t1]))
        go_wp2_with fail
        go_quiet (first | (go_at_call 52; refine Calls.quiet_of_same (HC _).out))
        go_wp2
        go_ret
        exact ⟨by rw [HF.out]; rfl, bel_drewN hlow _⟩
    · obtain rfl : k = 11 := by omega
      have HF : Hid (chk m = 0) := by
        show chk m = 0
        exact chk_ok HALL.out
      go_wp2
      go_ret
      exact ⟨by rw [HF.out]; rfl, hlow⟩
end Go.Proofs.YtllbbbfkdgjffaaGreatDoor
namespace Go.Proofs.YtllbbbfkdgjffaaGreatDoor
open Go.RowKit

set_option maxHeartbeats 3200000 in
set_option maxRecDepth 100000 in
theorem rfair_any {T : Nat → Prop} {w : World} (r : Rl) (u : Value) (hu : Cps T w u r.cp) (hf : r.Fit) :
    Calls Tryz.prog 38 #[.agg (rlc r u)] w fun e w' => e = .returned (.bool (okRl r)) ∧ Below w.heap.size w w' := by
  have hb1 : Below w.heap.size w (w.alloc (.cells (rlc r u) 31)) := (Below.refl _ _).alloc (Nat.le_refl _) _
  have hg1 : (w.alloc (.cells (rlc r u) 31)).heap[w.heap.size]? = some (.cells (rlc r u) 31 (0, 0)) := heap_alloc_new _ _
  have hu1 : Cps T (w.alloc (.cells (rlc r u) 31)) u r.cp := Cps.carry (fun k hk h => ⟨h, heap_alloc_old _ _ hk⟩) hu
  obtain ⟨ua, uc, hue, -⟩ := hu.form
  have hlen := hu.len
  obtain ⟨W, HWe⟩ : ∃ W, Hid (w.alloc (.cells (rlc r u) 31) = W) := ⟨_, rfl⟩
  rw [HWe.out] at hb1 hg1 hu1
  have hsz1 : w.heap.size ≤ W.heap.size := hb1.size
  have HFin : Hid (∀ z, Below W.heap.size W z → Below w.heap.size w z) := fun z h => hb1.trans (h.mono hsz1)
  obtain ⟨q0, q1, q2, Q3⟩ := rl_cells (t := 31) hg1
  have hgl : w.heap.size < W.heap.size := (Array.getElem?_eq_some_iff.1 hg1).1
  have HC : Hid (∀ z, Below W.heap.size W z → z.cell? ⟨w.heap.size, 23, none⟩ = some u) := fun z h => (rl_cells (t := 31) ((h.block _ hgl).trans hg1)).2.1
  have HU := hid hu1
  have HM := hid (r2check_any r.mt W)
  have HOk : Hid (okRl r = (okRk r.rk && (mOk r.mt && r.cp.all okCp))) := rfl
  have hfr := hf.1
  subst hue
  obtain ⟨L, hL⟩ : ∃ L, L = r.cp := ⟨_, rfl⟩
  rw [← hL] at HU q1 hlen HWe HC HOk
  rw [← hL]
  obtain ⟨g, hg⟩ : ∃ g, g = w.heap.size := ⟨_, rfl⟩
  rw [← hg] at q0 q1 q2 Q3 HC
  have HG := hid hg
  obtain ⟨OK, hOK⟩ : ∃ OK, OK = okRl r := ⟨_, rfl⟩
  rw [← hOK] at HOk
  rw [← hOK]
  clear hb1 hg1 hu1 hu hf hL hg hsz1 hgl hOK
  by_cases h1 : r.rk < -2147483648
  · have HR : Hid (OK = false) := by
      show OK = false
      rw [HOk.out]
      have : okRk r.rk = false := decide_eq_false (by omega)
      rw [this]; rfl
    have d1 : decide (r.rk < -2147483648) = true := decide_eq_true h1
    clear HM HU HOk HC
    go_enter Tryz.func38, Tryz.ntmps38
    go_upto_region 1 with fail
    rw [HWe.out, ← HG.out]
    go_wp2
    go_ret
    exact ⟨by rw [HR.out]; rfl, HFin.out _ (Below.refl _ _)⟩
  have d1 : decide (r.rk < -2147483648) = false := decide_eq_false h1
  by_cases h2 : 2147483647 < r.rk
  · have HR : Hid (OK = false) := by
      show OK = false
      rw [HOk.out]
      have : okRk r.rk = false := decide_eq_false (by omega)
      rw [this]; rfl
    have d2 : decide (2147483647 < r.rk) = true := decide_eq_true h2
    clear HM HU HOk HC
    go_enter Tryz.func38, Tryz.ntmps38
    go_upto_region 1 with fail
    rw [HWe.out, ← HG.out]
    go_wp2
    go_ret
    exact ⟨by rw [HR.out]; rfl, HFin.out _ (Below.refl _ _)⟩
  have d2 : decide (2147483647 < r.rk) = false := decide_eq_false h2
  have hk : okRk r.rk = true := decide_eq_true (by omega)
  rw [hk, Bool.true_and] at HOk
  clear hk
  cases h3 : mOk r.mt with
  | false =>
    rw [chk_bad h3] at HM
    rw [h3] at HOk
    clear h3 HU HC
    go_enter Tryz.func38, Tryz.ntmps38
    go_upto_region 1 with fail
    rw [HWe.out, ← HG.out]
    go_wp2_with (first
      | (refine ldMid 28 (.tmp 15) rfl rfl _ 1 rfl (row 22 r.mt) _ Tryz.underlying28 rfl (sizeMt r.mt) Q3.out ?_)
      | (go_at_call 50; refine (HM.out).mono ?_; rintro e w2 ⟨rfl, hq⟩; have HQ := hid hq; clear hq HM))
    go_ret
    exact ⟨by rw [HOk.out]; rfl, HFin.out _ HQ.out⟩
  | true =>
    rw [chk_ok h3] at HM
    rw [h3, Bool.true_and] at HOk
    clear h3
    go_enter Tryz.func38, Tryz.ntmps38
    go_upto_region 1 with fail
    rw [HWe.out, ← HG.out]
    go_upto_region 4 with (first
      | (refine ldMid 28 (.tmp 15) rfl rfl _ 1 rfl (row 22 r.mt) _ Tryz.underlying28 rfl (sizeMt r.mt) Q3.out ?_)
      | (go_at_call 50; refine (HM.out).mono ?_; rintro e w2 ⟨rfl, hq⟩; have HQ := hid hq; clear hq HM))
    clear q0 q1 q2 Q3 d1 d2 h1 h2
    go_loopw [3] (fun i wr => ∃ p : Nat, p ≤ L.length ∧ i = .int .i64 p ∧ (L.take p).all okCp = true ∧ Below W.heap.size W wr) (fun i _ => L.length - (intOf i).toNat)
    case atStart => exact ⟨0, by omega, rfl, by simp, HQ.out⟩
    case round =>
      obtain ⟨p, hp, rfl, hall, hB⟩ := hrel
      generalize wr = wx at *
      have HALL := hid hall
      have HB := hid hB
      have p1 := HC.out _ hB
      clear hall hB HQ
      by_cases hlt : p < L.length
      · have d1 : decide ((p : Int) < (L.length : Int)) = true := decide_eq_true (by omega)
        have hw1 : IntKind.i64.wrap ((p : Int) + 1) = (p : Int) + 1 := by rw [IntKind.wrap_i64]; omega
        obtain ⟨b, o, hao, hTb, x, f0, hx⟩ := HU.out.cell7 p hlt
        subst hao
        simp only [Nat.add_zero, Nat.mul_one] at f0
        have hbb := cell_lt f0
        have HS : Hid ((L.take (p + 1)).all okCp = okCp L[p]) := by
          show _ = _
          rw [List.take_succ_eq_append_getElem hlt, List.all_append, HALL.out]; simp
        have HNo : Hid (okCp L[p] = false → OK = false) := fun hq => by
          rw [HOk.out]
          cases h : L.all okCp with
          | false => rfl
          | true => exact absurd (List.all_eq_true.1 h L[p] (List.getElem_mem hlt)) (by rw [hq]; simp)
        generalize L[p] = y at hx HS HNo
        obtain ⟨xa, xc, rfl, -⟩ := hx.form
        have hxl := hx.len
        have HX : Hid (∀ z, Below W.heap.size W z → z.cell? ⟨g, 23, none⟩ = some (.slice (some ⟨b, o, none⟩) L.length uc) ∧ z.cell? ⟨b, o + p, none⟩ = some (.slice xa y.length xc) ∧ Acs T z (.slice xa y.length xc) y) := fun z h => ⟨HC.out z h, by rw [h.cell (p := ⟨b, o + p, none⟩) hbb]; exact f0, Acs.carry (fun k hk ht => ⟨ht, h.block k hk⟩) hx⟩
        clear f0 hx p1 HALL
        obtain ⟨p1, p2, -⟩ := HX.out _ HB.out
        go_upto_region 7 with fail
        clear p1 p2
        go_loopw [4] (fun i wr => ∃ q : Nat, q ≤ y.length ∧ i = .int .i64 q ∧ (y.take q).all okAc = true ∧ Below W.heap.size W wr) (fun i _ => y.length - (intOf i).toNat)
        case atStart => exact ⟨0, by omega, rfl, by simp, HB.out⟩
        case round =>
          obtain ⟨q, hq, rfl, hall, hB⟩ := hrel
          generalize wr = wz at *
          obtain ⟨p1, p2, p3⟩ := HX.out _ hB
          have HALL := hid hall
          have HB2 := hid hB
          clear hall hB HB
          by_cases hlt2 : q < y.length
          · have d2 : decide ((q : Int) < (y.length : Int)) = true := decide_eq_true (by omega)
            have hw2 : IntKind.i64.wrap ((q : Int) + 1) = (q : Int) + 1 := by rw [IntKind.wrap_i64]; omega
            obtain ⟨b2, o2, hao, hT2, f0, f1, f2, hfit⟩ := p3.cell7 q hlt2
            subst hao
            simp only [Nat.add_zero] at f0
            have HS2 : Hid ((y.take (q + 1)).all okAc = okAc y[q]) := by
              show _ = _
              rw [List.take_succ_eq_append_getElem hlt2, List.all_append, HALL.out]; simp
            have HN2 : Hid (okAc y[q] = false → OK = false) := fun hq => HNo.out (by
              cases h : okCp y with
              | false => rfl
              | true => exact absurd (List.all_eq_true.1 h y[q] (List.getElem_mem hlt2)) (by rw [hq]; simp))
            generalize y[q] = a at f0 f1 f2 hfit HS2 HN2
            obtain ⟨ad, af, an⟩ := a
            simp only at f0 f1 f2
            clear p3 HALL hfit
            go_upto_region 10 with fail
            have hg3 : (wz.alloc (.cells #[.int .i8 ad, .int .i8 af, .int .u64 an] 93)).heap[wz.heap.size]? = some (.cells #[.int .i8 ad, .int .i8 af, .int .u64 an] 93 (0, 0)) := heap_alloc_new _ _
            have hE3 : Below W.heap.size W (wz.alloc (.cells #[.int .i8 ad, .int .i8 af, .int .u64 an] 93)) := HB2.out.alloc (by have := HB2.out.size; omega) _
            generalize wz.alloc (.cells #[.int .i8 ad, .int .i8 af, .int .u64 an] 93) = wa at hg3 hE3
            generalize wz.heap.size = ga at hg3
            obtain ⟨k0, k1, k2⟩ := three_cells hg3
            have HA := hid hE3
            clear hg3 hE3 HB2 f0 f1 f2
            by_cases c1 : ad < 0
            · have HR := hid (HN2.out (decide_eq_false (by simp only; omega)))
              have e1 : decide (ad < 0) = true := decide_eq_true c1
              go_wp2
              go_ret
              exact ⟨by rw [HR.out]; rfl, HFin.out _ HA.out⟩
            have e1 : decide (ad < 0) = false := decide_eq_false c1
            by_cases c2 : 2 < ad
            · have HR := hid (HN2.out (decide_eq_false (by simp only; omega)))
              have e2 : decide (2 < ad) = true := decide_eq_true c2
              go_wp2
              go_ret
              exact ⟨by rw [HR.out]; rfl, HFin.out _ HA.out⟩
            have e2 : decide (2 < ad) = false := decide_eq_false c2
            by_cases c3 : af < 0
            · have HR := hid (HN2.out (decide_eq_false (by simp only; omega)))
              have e3 : decide (af < 0) = true := decide_eq_true c3
              go_wp2
              go_ret
              exact ⟨by rw [HR.out]; rfl, HFin.out _ HA.out⟩
            have e3 : decide (af < 0) = false := decide_eq_false c3
            by_cases c4 : ad = 0
            · have HR : Hid (okAc ⟨ad, af, an⟩ = true) := decide_eq_true (by simp only; omega)
              subst c4
              go_wp2
              go_roundw
              case rel => exact ⟨q + 1, by omega, by go_num, by rw [HS2.out]; exact HR.out, HA.out⟩
              case measure => simp [intOf]; omega
            have e4 : (ad != 0) = true := by simp [c4]
            by_cases c5 : af = 0
            · have e5 : (af != 0) = false := by simp [c5]
              by_cases c6 : ad = 2
              · have e6 : (ad == 2) = true := by simp [c6]
                by_cases c7 : an = 0
                · have HR : Hid (okAc ⟨ad, af, an⟩ = true) := decide_eq_true (by simp only; omega)
                  have e7 : (an != 0) = false := by simp [c7]
                  clear c1 c2 c3 c4 c5 c6 c7
                  go_wp2
                  go_roundw
                  case rel => exact ⟨q + 1, by omega, by go_num, by rw [HS2.out]; exact HR.out, HA.out⟩
                  case measure => simp [intOf]; omega
                · have HR := hid (HN2.out (decide_eq_false (by simp only; omega)))
                  have e7 : (an != 0) = true := by simp [c7]
                  clear c1 c2 c3 c4 c5 c6 c7
                  go_wp2
                  go_ret
                  exact ⟨by rw [HR.out]; rfl, HFin.out _ HA.out⟩
              · have HR : Hid (okAc ⟨ad, af, an⟩ = true) := decide_eq_true (by simp only; omega)
                have e6 : (ad == 2) = false := by simp [c6]
                clear c1 c2 c3 c4 c5 c6
                go_wp2
                go_roundw
                case rel => exact ⟨q + 1, by omega, by go_num, by rw [HS2.out]; exact HR.out, HA.out⟩
                case measure => simp [intOf]; omega
            · have HR := hid (HN2.out (decide_eq_false (by simp only; omega)))
              have e5 : (af != 0) = true := by simp [c5]
              clear c1 c2 c3 c4 c5
              go_wp2
              go_ret
              exact ⟨by rw [HR.out]; rfl, HFin.out _ HA.out⟩
          · obtain rfl : q = y.length := by omega
            have d2 : decide ((y.length : Int) < (y.length : Int)) = false := by simp
            rw [List.take_length] at HALL
            clear p3
            go_wp2
            go_roundw
            case rel => exact ⟨p + 1, by omega, by go_num, by rw [HS.out]; exact HALL.out, HB2.out⟩
            case measure => simp [intOf]; omega
      · obtain rfl : p = L.length := by omega
        have d1 : decide ((L.length : Int) < (L.length : Int)) = false := by simp
        rw [List.take_length] at HALL
        go_wp2
        go_ret
        exact ⟨by rw [HOk.out, HALL.out]; rfl, HFin.out _ HB.out⟩
end Go.Proofs.YtllbbbfkdgjffaaGreatDoor
