/-
  Proved here: the document's action and Check tell what the plain functions say; no old memory turns. No condition.
-/
import Derived.Test.YtejmobkfanejbaaDoorB2
import Derived.Test.YtejmobkfanejbaaDoorM3
namespace Go.Proofs.YtejmobkfanejbaaDoor
open Go.RowKit

theorem fits9 {n : Int} (hn : InB n) : fits 9 n = decide (n ≤ 65535) := by
  obtain ⟨h0, h1⟩ := hn
  have e : (2 : Int) ^ (widV 9).toNat = 65536 := by decide +kernel
  unfold fits
  rw [e, Bool.eq_iff_iff, decide_eq_true_iff, beq_iff_eq]
  omega
set_option maxHeartbeats 3200000 in
set_option maxRecDepth 100000 in
theorem daction_any (a : Ac) (ha : a.Fit) (w : World) : Calls Tryd.prog 24 #[acv a] w fun e w' => e = .returned (.bool (isAc a)) ∧ Below w.heap.size w w' := by
  obtain ⟨d, f, n⟩ := a
  obtain ⟨-, -, hn⟩ := ha
  have hlow : Below w.heap.size w (w.alloc (.cells #[.int .i8 d, .int .i8 f, .int .u64 n] 48)) := (Below.refl _ _).alloc (Nat.le_refl _) _
  have HL := hid hlow
  have HW := hid (rwidth_any f (w.alloc (.cells #[.int .i8 d, .int .i8 f, .int .u64 n] 48)))
  have hf9 := fits9 hn
  obtain ⟨hn0, hn1⟩ := hn
  clear hlow
  by_cases h0 : d = 0
  · subst h0
    rw [isAc_0 rfl]
    have hbd := widV_bd f
    have HFi : Hid (fits f n = (n / 2 ^ (widV f).toNat == 0)) := rfl
    have HIs : Hid (isF f = (widV f != 0)) := rfl
    clear hf9
    by_cases h : f = 9 ∨ f = 10 ∨ f = 2 ∨ f = 6
    · have e : mayF f = false := by unfold mayF; rcases h with rfl | rfl | rfl | rfl <;> rfl
      rw [e, Bool.false_and]
      clear e HFi HIs
      rcases h with rfl | rfl | rfl | rfl
      · rw [show widV 9 = 16 from rfl] at HW
        go_enter Tryd.func24, Tryd.ntmps24
        go_wp2_with (go_at_call 31; refine (HW.out).mono ?_; rintro e w' ⟨rfl, rfl⟩)
        go_ret
        exact ⟨rfl, HL.out⟩
      · rw [show widV 10 = 16 from rfl] at HW
        go_enter Tryd.func24, Tryd.ntmps24
        go_wp2_with (go_at_call 31; refine (HW.out).mono ?_; rintro e w' ⟨rfl, rfl⟩)
        go_ret
        exact ⟨rfl, HL.out⟩
      · rw [show widV 2 = 16 from rfl] at HW
        go_enter Tryd.func24, Tryd.ntmps24
        go_wp2_with (go_at_call 31; refine (HW.out).mono ?_; rintro e w' ⟨rfl, rfl⟩)
        go_ret
        exact ⟨rfl, HL.out⟩
      · rw [show widV 6 = 8 from rfl] at HW
        go_enter Tryd.func24, Tryd.ntmps24
        go_wp2_with (go_at_call 31; refine (HW.out).mono ?_; rintro e w' ⟨rfl, rfl⟩)
        go_ret
        exact ⟨rfl, HL.out⟩
    · have t0 : (f == 9) = false := beq_eq_false_iff_ne.2 (by omega)
      have t1 : (f == 10) = false := beq_eq_false_iff_ne.2 (by omega)
      have t2 : (f == 2) = false := beq_eq_false_iff_ne.2 (by omega)
      have t3 : (f == 6) = false := beq_eq_false_iff_ne.2 (by omega)
      have e : mayF f = isF f := by unfold mayF; rw [t0, t1, t2, t3]; rfl
      rw [e, HIs.out, HFi.out]
      clear e HIs HFi h
      generalize widV f = x at HW hbd
      by_cases hx : x = 0
      · subst hx
        go_enter Tryd.func24, Tryd.ntmps24
        go_wp2_with (go_at_call 31; refine (HW.out).mono ?_; rintro e w' ⟨rfl, rfl⟩)
        go_ret
        exact ⟨rfl, HL.out⟩
      · have hd : decide (0 < x) = true := decide_eq_true (by omega)
        rw [show (x != 0) = true from by simpa using hx, Bool.true_and]
        go_enter Tryd.func24, Tryd.ntmps24
        go_wp2_with (go_at_call 31; refine (HW.out).mono ?_; rintro e w' ⟨rfl, rfl⟩)
        go_ret
        exact ⟨rfl, HL.out⟩
  · have t0 : (d == 0) = false := beq_eq_false_iff_ne.2 h0
    by_cases h1 : d = 1
    · subst h1
      rw [isAc_1 rfl, hf9]
      clear hf9
      by_cases hf : f = 0
      · subst hf
        go_enter Tryd.func24, Tryd.ntmps24
        go_wp2
        go_ret
        exact ⟨rfl, HL.out⟩
      · have tf : (f == 0) = false := beq_eq_false_iff_ne.2 hf
        go_enter Tryd.func24, Tryd.ntmps24
        go_wp2
        go_ret
        exact ⟨by simp, HL.out⟩
    · have t1 : (d == 1) = false := beq_eq_false_iff_ne.2 h1
      clear hf9
      by_cases h2 : d = 2
      · subst h2
        rw [isAc_2 rfl]
        by_cases hf : f = 0
        · subst hf
          go_enter Tryd.func24, Tryd.ntmps24
          go_wp2
          go_ret
          exact ⟨rfl, HL.out⟩
        · have tf : (f == 0) = false := beq_eq_false_iff_ne.2 hf
          go_enter Tryd.func24, Tryd.ntmps24
          go_wp2
          go_ret
          exact ⟨by simp, HL.out⟩
      · have t2 : (d == 2) = false := beq_eq_false_iff_ne.2 h2
        rw [isAc_no h0 h1 h2]
        go_enter Tryd.func24, Tryd.ntmps24
        go_wp2
        go_ret
        exact ⟨rfl, HL.out⟩
theorem ckR_2 {r : Rl} (h : mOk r.mt = true) (h2 : ¬ (few r.cp = true ∧ okC r.cp = true)) : ckR r = 2 := by
  cases h3 : few r.cp
  · exact ckR_few h h3
  · cases h4 : okC r.cp
    · exact ckR_ok h h3 h4
    · exact absurd ⟨h3, h4⟩ h2
set_option maxHeartbeats 6400000 in
set_option maxRecDepth 100000 in
theorem dcheck_any {T : Nat → Prop} {w : World} {u : Value} {r : Rl} (h : Cps T w u r.cp) : Calls Tryd.prog 12 #[.agg (rlc r u)] w fun e w' => e = .returned (.int .i64 (ckR r)) ∧ Below w.heap.size w w' := by
  obtain ⟨W0, hW0⟩ : ∃ W0, W0 = w.alloc (.cells (rlc r u) 29) := ⟨_, rfl⟩
  have hB0 : Below w.heap.size w W0 := by rw [hW0]; exact (Below.refl _ _).alloc (Nat.le_refl _) _
  have hG0 : W0.heap[w.heap.size]? = some (.cells (rlc r u) 29 (0, 0)) := by rw [hW0]; exact heap_alloc_new _ _
  have HRm : Hid (W0.rangeAt w.heap.size 1 (row 22 r.mt).toList) := range_of fun i hi => by
    rw [row_size] at hi
    rw [cell_of_row _ _ _ _ _ _ hG0, rc_mat _ _ _ _ _ hi, row_at 22 _ _ hi]
  have hgl : w.heap.size < W0.heap.size := (Array.getElem?_eq_some_iff.1 hG0).1
  have HC := hid (rcheck_any r.mt W0)
  have h0 := Cps.on h hB0
  obtain ⟨ao, cap, rfl, hcap⟩ := h.form
  have hlen := h.len
  have HK : Hid (∀ w1, Below W0.heap.size W0 w1 → w1.cell? ⟨w.heap.size, 23, none⟩ = some (.slice ao r.cp.length cap)) := fun w1 hb => by
    rw [cell_of_row _ _ _ _ _ _ ((hb.block _ hgl).trans hG0)]
    exact (rc_cp _ _ _ _).1
  have H := hid h0
  have HB0 := hid hB0
  have HW0 := hid hW0
  have HG := hid hgl
  clear hB0 hG0 hW0 h h0 hgl
  cases hm : mOk r.mt
  · rw [chk_bad hm] at HC
    rw [ckR_no hm]
    go_enter Tryd.func12, Tryd.ntmps12
    go_upto_region 1 with fail
    rw [← HW0.out]
    clear HW0
    go_wp2_with (first
      | (refine ldMid 26 (.tmp 8) rfl rfl w.heap.size 1 rfl (row 22 r.mt) _ Tryd.underlying26 rfl (size26 r.mt) HRm.out ?_)
      | (go_at_call 23; refine (HC.out).mono ?_; rintro e w1 ⟨rfl, hb1⟩; have HB1 := hid hb1; clear hb1))
    go_ret
    exact ⟨rfl, HB0.out.trans (HB1.out.mono HB0.out.size)⟩
  · rw [chk_ok hm] at HC
    have HNo : Hid (¬ (few r.cp = true ∧ okC r.cp = true) → ckR r = 2) := fun h' => ckR_2 hm h'
    have HYes : Hid (few r.cp = true → okC r.cp = true → ckR r = 0) := fun h1 h2 => ckR_yes hm h1 h2
    clear hm
    generalize ckR r = z at HNo HYes
    generalize r.cp = c at HK H hlen hcap HNo HYes HW0
    by_cases h64 : 64 < c.length
    · obtain rfl := HNo.out fun h' => by have := (few_iff.1 h'.1).1; omega
      have hd : decide ((64 : Int) < (c.length : Int)) = true := decide_eq_true (by omega)
      clear HNo HYes
      go_enter Tryd.func12, Tryd.ntmps12
      go_upto_region 1 with fail
      rw [← HW0.out]
      clear HW0
      go_wp2_with (first
        | (refine ldMid 26 (.tmp 8) rfl rfl w.heap.size 1 rfl (row 22 r.mt) _ Tryd.underlying26 rfl (size26 r.mt) HRm.out ?_)
        | (go_at_call 23; refine (HC.out).mono ?_; rintro e w1 ⟨rfl, hb1⟩; have k1 := HK.out w1 hb1; have HB1 := hid hb1; clear hb1 HC))
      go_ret
      exact ⟨rfl, HB0.out.trans (HB1.out.mono HB0.out.size)⟩
    · have hd : decide ((64 : Int) < (c.length : Int)) = false := by simp; omega
      go_enter Tryd.func12, Tryd.ntmps12
      go_upto_region 1 with fail
      rw [← HW0.out]
      clear HW0
      go_wp2_with (first
        | (refine ldMid 26 (.tmp 8) rfl rfl w.heap.size 1 rfl (row 22 r.mt) _ Tryd.underlying26 rfl (size26 r.mt) HRm.out ?_)
        | (go_at_call 23; refine (HC.out).mono ?_; rintro e w1 ⟨rfl, hb1⟩; have k1 := HK.out w1 hb1; have HB1 := hid hb1; clear hb1 HC))
      go_loopw [4, 5] (fun s i wr => ∃ k : Nat, k ≤ c.length ∧ i = .int .i64 k ∧ s = .int .i64 (cnt (c.take k) : Nat) ∧ (c.take k).all (fun l => decide (l.length ≤ 16)) = true ∧ cnt (c.take k) ≤ 640 ∧ okC (c.take k) = true ∧ Below W0.heap.size W0 wr) (fun _ i _ => c.length - (intOf i).toNat)
      case atStart => exact ⟨0, by omega, rfl, by simp [cnt], by simp, by simp [cnt], by simp [okC], HB1.out⟩
      case round =>
        clear k1 HB1
        obtain ⟨k, hk, rfl, rfl, hall, hcn, hok, hlow⟩ := hrel
        generalize wr = wx at *
        have k1 := HK.out wx hlow
        have HA := hid (And.intro hall hok)
        have HL := hid hlow
        clear hall hok hlow
        by_cases hlt : k < c.length
        · obtain ⟨b, o, a1, c1, rfl, f0, hc1, hl1, hu⟩ := H.out.at HL.out hlt
          have HU := hid hu
          have HTk := hid (take_one' c k hlt)
          obtain ⟨y, hy⟩ : ∃ y, y = c[k] := ⟨_, rfl⟩
          rw [← hy] at f0 hc1 hl1 HU HTk
          have HY := hid hy
          clear hu hy
          have HC1 : Hid (cnt (c.take (k + 1)) = cnt (c.take k) + y.length) := by show _ = _; rw [HTk.out, cnt_one]
          have HCl := hid (cnt_take c (k + 1))
          have hbig : Hid (16 < y.length ∨ 640 < cnt (c.take k) + y.length → ckR r = 2 ∨ z = 2) := fun h' => Or.inr (HNo.out fun hh => by
            obtain ⟨-, q2, q3⟩ := few_iff.1 hh.1
            rcases h' with h' | h'
            · rw [all_false hlt (by rw [← HY.out]; simp; omega)] at q2; cases q2
            · have := HCl.out; rw [HC1.out] at this; omega)
          have hbig' : Hid (16 < y.length ∨ 640 < cnt (c.take k) + y.length → z = 2) := fun h' => (HNo.out fun hh => by
            obtain ⟨-, q2, q3⟩ := few_iff.1 hh.1
            rcases h' with h' | h'
            · rw [all_false hlt (by rw [← HY.out]; simp; omega)] at q2; cases q2
            · have := HCl.out; rw [HC1.out] at this; omega)
          clear hbig HCl
          by_cases h16 : 16 < y.length
          · obtain rfl := hbig'.out (Or.inl h16)
            have hd16 : decide ((16 : Int) < (y.length : Int)) = true := decide_eq_true (by omega)
            generalize cnt (c.take k) = s at hcn HC1
            clear HC1 hbig' HNo HYes
            go_wp2
            go_ret
            exact ⟨rfl, HB0.out.trans (HL.out.mono HB0.out.size)⟩
          · have hd16 : decide ((16 : Int) < (y.length : Int)) = false := by simp; omega
            by_cases h640 : 640 < cnt (c.take k) + y.length
            · obtain rfl := hbig'.out (Or.inr h640)
              generalize cnt (c.take k) = s at hcn HC1 h640
              clear HC1 hbig' HNo HYes
              have hd640 : decide ((640 : Int) < (s : Int) + (y.length : Int)) = true := decide_eq_true (by omega)
              go_wp2
              go_ret
              exact ⟨rfl, HB0.out.trans (HL.out.mono HB0.out.size)⟩
            · have HAk : Hid ((c.take (k + 1)).all (fun l => decide (l.length ≤ 16)) = true ∧ cnt (c.take (k + 1)) ≤ 640 ∧ (y.all isAc = true → okC (c.take (k + 1)) = true)) := by
                refine And.intro (all_take hlt HA.out.1 (by rw [← HY.out]; simp; omega)) ⟨by rw [HC1.out]; omega, fun h' => ?_⟩
                exact all_take (p := fun l => l.all isAc) hlt (show (c.take k).all (fun l => l.all isAc) = true from HA.out.2) (by rw [← HY.out]; exact h')
              have HNj : Hid (∀ j, (hj : j < y.length) → isAc y[j] = false → z = 2) := fun j hj he => HNo.out fun hh => by
                have h1 := all_false (p := isAc) hj he
                rw [HY.out] at h1
                have h2 := all_false (p := fun l => l.all isAc) hlt h1
                rw [show okC c = c.all (fun l => l.all isAc) from rfl] at hh
                rw [h2] at hh; cases hh.2
              clear HA hbig'
              have HSc : Hid (((cnt (c.take k) : Nat) : Int) + (y.length : Int) = ((cnt (c.take (k + 1)) : Nat) : Int)) := by show _ = _; rw [HC1.out]; omega
              generalize cnt (c.take k) = s at hcn HC1 h640 HSc
              have hd640 : decide ((640 : Int) < (s : Int) + (y.length : Int)) = false := by simp; omega
              clear HC1
              go_wp2
              go_loopw [6] (fun i wr => ∃ j : Nat, j ≤ y.length ∧ i = .int .i64 j ∧ (y.take j).all isAc = true ∧ Below W0.heap.size W0 wr ∧ Below wx.heap.size wx wr) (fun i _ => y.length - (intOf i).toNat)
              case atStart => exact ⟨0, by omega, rfl, by simp, HL.out, Below.refl _ _⟩
              case round =>
                obtain ⟨j, hj, rfl, hall, hlow, hlx⟩ := hrel
                have f1 : wr.cell? ⟨b, o + k, none⟩ = some (.slice a1 y.length c1) := by rw [hlx.cell (p := ⟨b, o + k, none⟩) (cell_lt f0)]; exact f0
                have k2 := HK.out wr hlow
                have HA := hid hall
                have HL2 := hid hlow
                have HLx := hid hlx
                clear hall hlow hlx
                by_cases hjt : j < y.length
                · obtain ⟨p, q, rfl, g0, g1, g2, hfit⟩ := HU.out.at HLx.out hjt
                  have HAj := hid (all_take (p := isAc) hjt HA.out)
                  have HNq := hid (HNj.out j hjt)
                  clear HA
                  generalize y[j] = a at g0 g1 g2 hfit HAj HNq
                  obtain ⟨d, f, n⟩ := a
                  have HC := hid (daction_any ⟨d, f, n⟩ hfit wr)
                  have HB : Hid (∀ w', Below wr.heap.size wr w' → Below W0.heap.size W0 w' ∧ Below wx.heap.size wx w') := fun w' h' => ⟨HL2.out.trans (h'.mono HL2.out.size), HLx.out.trans (h'.mono HLx.out.size)⟩
                  clear hfit
                  cases hb : isAc ⟨d, f, n⟩
                  · rw [hb] at HC
                    obtain rfl := HNq.out hb
                    clear HNo HYes HNj HNq
                    go_wp2_with (go_at_call 24; refine (HC.out).mono ?_; rintro e w1 ⟨rfl, hb1⟩; have HB1 := hid (HB.out w1 hb1); clear hb1 HC)
                    go_ret
                    exact ⟨rfl, HB0.out.trans (HB1.out.1.mono HB0.out.size)⟩
                  · rw [hb] at HC
                    have HF := hid (HAj.out hb)
                    go_wp2_with (go_at_call 24; refine (HC.out).mono ?_; rintro e w1 ⟨rfl, hb1⟩; have HB1 := hid (HB.out w1 hb1); clear hb1 HC)
                    go_roundw
                    case rel => exact ⟨j + 1, by omega, by go_num, HF.out, HB1.out.1, HB1.out.2⟩
                    case measure => simp [intOf]; omega
                · obtain rfl : j = y.length := by omega
                  have HF : Hid (y.all isAc = true) := by have := HA.out; rw [List.take_length] at this; exact this
                  go_wp2
                  go_roundw
                  case rel => exact ⟨k + 1, by omega, by go_num, by rw [HSc.out], HAk.out.1, HAk.out.2.1, HAk.out.2.2 HF.out, HL2.out⟩
                  case measure => simp [intOf]; omega
        · obtain rfl : k = c.length := by omega
          have HA' := HA.out
          rw [List.take_length] at HA' hcn
          obtain rfl := HYes.out (few_iff.2 ⟨by omega, HA'.1, hcn⟩) HA'.2
          clear HA' HA HYes HNo
          go_wp2
          go_ret
          exact ⟨rfl, HB0.out.trans (HL.out.mono HB0.out.size)⟩
end Go.Proofs.YtejmobkfanejbaaDoor
