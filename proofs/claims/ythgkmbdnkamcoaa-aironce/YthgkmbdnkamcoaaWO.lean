/-
  Proved here: AirOnce's body says true. Conditions: the bytes and the acts are old memory.
-/
import Derived.Test.YthgkmbdnkamcoaaD8
namespace Go.Proofs.Ythgkmbdnkamcoaa
open Go.RowKit

/-- How many of the first j places differ. -/
def cnt (xs ys : List Int) : Nat → Nat
  | 0 => 0
  | j + 1 => cnt xs ys j + if xs.getD j 0 = ys.getD j 0 then 0 else 1
theorem cnt_le {xs ys : List Int} {p : Nat} (h : ∀ i, i ≠ p → xs.getD i 0 = ys.getD i 0) : ∀ j, cnt xs ys j ≤ if p < j then 1 else 0
  | 0 => by simp [cnt]
  | j + 1 => by
    have ih := cnt_le h j
    unfold cnt
    by_cases hj : j = p
    · subst hj
      rw [if_neg (Nat.lt_irrefl _)] at ih
      rw [if_pos (Nat.lt_succ_self _)]
      split <;> omega
    · rw [if_pos (h j hj)]
      by_cases hp : p < j
      · rw [if_pos hp] at ih
        rw [if_pos (by omega)]; omega
      · rw [if_neg hp] at ih
        rw [if_neg (by omega)]; omega
theorem cnt_bd (xs ys : List Int) : ∀ j, cnt xs ys j ≤ j
  | 0 => Nat.le_refl _
  | j + 1 => by
    have := cnt_bd xs ys j
    unfold cnt
    split <;> omega
theorem told_cnt (d : Dg) (j : Nat) : cnt (told d) d.b j ≤ 1 := by
  have := cnt_le (xs := told d) (ys := d.b) (p := d.pl) (fun i hi => by
    unfold told
    split
    · simp only [List.getD_eq_getElem?_getD, List.getElem?_set_ne (Ne.symm hi)]
    · rfl) j
  split at this <;> omega
set_option maxHeartbeats 3200000 in
set_option maxRecDepth 100000 in
theorem once_any (w : World) (v0 v1 : Value) (bs : List Int) (l : List Ac) (hb : SlC (fun k => k < w.heap.size) w v0 bs) (hl : Acts (fun k => k < w.heap.size) w v1 l) :
    Calls Try.prog 7 #[v0, v1] w fun e w' => e = .returned (.bool true) ∧ Below w.heap.size w w' := by
  have HG := hid (great_any w v1 l hl)
  obtain ⟨ao, cap, rfl, hcap⟩ := hl.form
  have HA := hid hl
  have HS := hid hb
  obtain ⟨ua, uc, rfl, -⟩ := id hb
  have HW : Hid (∀ W, Below w.heap.size w W → Calls Try.prog 9 #[] W fun e w' => e = .returned (.bool true) ∧ Below w.heap.size w w') := fun W hW => (wakes_any W).mono fun e w' ⟨h1, h2⟩ => ⟨h1, hW.trans (h2.mono hW.size)⟩
  clear hb hl
  by_cases hgr : l.length ≤ 300 ∧ sumB l ≤ 65536
  case neg =>
    rw [decide_eq_false hgr] at HG
    have HG' : Hid (Calls Try.prog 8 #[.slice ao l.length cap] w fun e w' => e = .returned (.bool true) ∧ Below w.heap.size w w') := HG
    go_enter Try.func7, Try.ntmps7
    go_wp2_with (first
      | (go_at_call 8; refine (HG'.out).mono ?_; rintro e w1 ⟨rfl, hb1⟩; have HB1 := hid hb1; clear hb1)
      | (go_at_call 9; refine (HW.out _ HB1.out).mono ?_; rintro e w2 ⟨rfl, hb2⟩; have HB2 := hid hb2; clear hb2))
    go_ret
    exact ⟨rfl, HB2.out⟩
  rw [decide_eq_true hgr] at HG
  have HG' : Hid (Calls Try.prog 8 #[.slice ao l.length cap] w fun e w' => e = .returned (.bool false) ∧ Below w.heap.size w w') := HG
  by_cases hbl : 4096 < bs.length
  case pos =>
    have hd : decide ((4096 : Int) < (bs.length : Int)) = true := decide_eq_true (by omega)
    go_enter Try.func7, Try.ntmps7
    go_wp2_with (first
      | (go_at_call 8; refine (HG'.out).mono ?_; rintro e w1 ⟨rfl, hb1⟩; have HB1 := hid hb1; clear hb1)
      | (go_at_call 9; refine (HW.out _ HB1.out).mono ?_; rintro e w2 ⟨rfl, hb2⟩; have HB2 := hid hb2; clear hb2))
    go_ret
    exact ⟨rfl, HB2.out⟩
  have hd : decide ((4096 : Int) < (bs.length : Int)) = false := decide_eq_false (by omega)
  have hl3 : l.length ≤ 300 := hgr.1
  go_enter Try.func7, Try.ntmps7
  go_upto_region 5 with (first
    | (go_at_call 8; refine (HG'.out).mono ?_; rintro e w1 ⟨rfl, hb1⟩; have HB1 := hid hb1; clear hb1)
    | (go_at_call 10; refine (new_any w1).mono ?_; rintro e w2 ⟨v, rfl, hb2, ha2⟩
       have HB2 := hid (HB1.out.trans (hb2.mono HB1.out.size))
       have HP := hid (put_any (S := fun k => w.heap.size ≤ k) (T := fun k => k < w.heap.size) w2 v ar0 (.slice ua bs.length uc) bs (ha2.carry fun k _ h => ⟨Nat.le_trans HB1.out.size h, rfl⟩) (fun k hk => Nat.le_trans HB2.out.size hk) (HS.out.carry fun k hk _ => ⟨hk, HB2.out.block k hk⟩) (by decide))
       clear hb2 ha2)
    | (go_at_call 11; refine (HP.out).mono ?_; rintro e w3 ⟨rfl, hO3, hA3⟩
       have HB3 := hid (HB2.out.trans (hO3.below fun k hk => hk))
       have HA3 := hid hA3
       clear hO3 hA3))
  clear HP HG HG' HB1 HB2
  go_upto_region 6 with fail
  go_loopw [6] (fun i wr => ∃ (k : Nat) (A : Ar), k ≤ l.length ∧ i = .int .i64 k ∧ Below w.heap.size w wr ∧ AR (fun k => w.heap.size ≤ k) wr v A ∧ (∀ d ∈ A.row, d.b = bs) ∧ (∀ d ∈ A.came, d.b = bs) ∧ A.row.length ≤ k + 1 ∧ A.came.length ≤ k) (fun i _ => l.length - (intOf i).toNat)
  case atStart => exact ⟨0, putS ar0 bs, by omega, rfl, HB3.out, HA3.out, by simp [putS, ar0], by simp [putS, ar0], by simp [putS, ar0], by simp [putS, ar0]⟩
  case round =>
    obtain ⟨k, A, hk, rfl, hlow, hAr, hr1, hr2, hr3, hr4⟩ := hrel
    have HB := hid hlow
    have HAr := hid hAr
    have HR := hid (And.intro hr1 hr2)
    clear hlow hAr hr1 hr2
    by_cases hlt : k < l.length
    · obtain ⟨b, o, xa, xc, rfl, t0, t1, -, -, hfit⟩ := act_at HA.out HB.out k hlt
      generalize hac : l[k] = ac at t0 t1 hfit
      obtain ⟨⟨f0, f1⟩, f2, f3⟩ := hfit
      have hbp : decide ((k : Int) < (l.length : Int)) = true := by simp; omega
      by_cases h4 : ac.dw ≤ 4
      · have hd4 : decide (ac.dw ≤ 4) = true := decide_eq_true h4
        have HN := hid (doS_all (P := fun d => d.b = bs) HR.out.1 HR.out.2 (fun d k' hk' hd => by
          have : (chg d k').b = d.b := by unfold chg; split <;> rfl
          rw [this]; exact hd) ac.dw ac.at')
        have HL := hid (doS_len A ac.dw ac.at')
        clear hac
        go_upto_region 9 with fail
        go_region_law (refine stepDo (S := fun k => w.heap.size ≤ k) (A := A) (.tmp 35) (.tmp 40) (.tmp 45) rfl rfl rfl rfl rfl (HAr.out.carry fun k _ h => ⟨h, rfl⟩) (fun k hk => Nat.le_trans HB.out.size hk) f0 f3 (by omega) (by omega) ?_
                       intro w4 hO4 hA4
                       have HB4 : Hid (Below w.heap.size w w4) := HB.out.trans ((show Below w.heap.size wr wr.drew from (Below.refl _ _).drew).trans (hO4.below fun k hk => hk))
                       have HA4 := hid hA4
                       clear hO4 hA4)
        all_goals (
          go_wp2
          go_roundw
          case rel => exact ⟨k + 1, _, by omega, by go_num, HB4.out, HA4.out, HN.out.1, HN.out.2, by have := HL.out.1; omega, by have := HL.out.2; omega⟩
          case measure => simp [intOf]; omega)
      · have hd4 : decide (ac.dw ≤ 4) = false := decide_eq_false h4
        clear hac
        go_wp2
        go_roundw
        case rel => exact ⟨k + 1, A, by omega, by go_num, HB.out, HAr.out, HR.out.1, HR.out.2, by omega, by omega⟩
        case measure => simp [intOf]; omega
    · obtain rfl : k = l.length := by omega
      have hbp : decide ((l.length : Int) < (l.length : Int)) = false := by simp
      have HC := hid (came_any wr v A HAr.out (fun k hk => Nat.le_trans HB.out.size hk) (by omega))
      have hcl : A.came.length ≤ 300 := by omega
      have HOk := hid HAr.out.ok
      clear HAr
      go_upto_region 12 with (go_at_call 13; refine (HC.out).mono ?_; rintro e wc ⟨rfl, hO, hG, -⟩
                              have HBc := hid (HB.out.trans (hO.below fun k hk => hk))
                              have HGv := hid hG
                              clear hO hG HC)
      have hwrs := HB.out.size
      clear HB
      generalize wr.heap.size = B0 at *
      go_loopw [8] (fun i wx => ∃ k : Nat, k ≤ A.came.length ∧ i = .int .i64 k ∧ Below wc.heap.size wc wx) (fun i _ => A.came.length - (intOf i).toNat)
      case atStart => exact ⟨0, by omega, rfl, Below.refl _ _⟩
      case round =>
        obtain ⟨k, hk, rfl, hlow⟩ := hrel
        generalize wr = wx at *
        have HX := hid hlow
        clear hlow
        by_cases hlt2 : k < A.came.length
        · obtain ⟨y0, e0, o0⟩ := HGv.out.cell k (by simpa using hlt2)
          simp only [List.getElem_map] at o0
          obtain ⟨d, hd⟩ : ∃ d, d = A.came[k] := ⟨_, rfl⟩
          rw [← hd] at o0
          have hdm : d ∈ A.came := hd ▸ List.getElem_mem hlt2
          have hdb : d.b = bs := HR.out.2 d hdm
          have hdo := HOk.out.2 d hdm
          have htl : (told d).length = bs.length := by rw [told_len, hdb]
          obtain ⟨a0, k0, rfl⟩ := o0.slice
          rw [htl] at e0 o0
          have e0x : wx.cell? ⟨B0, k, none⟩ = some (.slice a0 bs.length k0) := by rw [HX.out.cell (p := ⟨B0, k, none⟩) (cell_lt e0)]; exact e0
          have HO := hid (SlC.own (S := fun k => k < wc.heap.size) o0 (by rw [htl]; omega) (told_isB hdo) (fun _ _ h => h))
          have HCn : Hid (∀ j, cnt (told d) bs j ≤ 1) := fun j => by have := told_cnt d j; rw [hdb] at this; exact this
          have HTl := hid htl
          have hne : ((bs.length : Int) != (bs.length : Int)) = false := by simp
          have hbp2 : decide ((k : Int) < (A.came.length : Int)) = true := by simp; omega
          clear hd hdm hdb hdo htl e0 o0
          go_upto_region 18 with fail
          go_loopw [9, 10] (fun n j wy => ∃ q : Nat, q ≤ bs.length ∧ j = .int .i64 q ∧ n = .int .i64 (cnt (told d) bs q : Nat) ∧ Below wc.heap.size wc wy) (fun _ j _ => bs.length - (intOf j).toNat)
          case atStart => exact ⟨0, by omega, rfl, rfl, HX.out⟩
          case round =>
            obtain ⟨q, hq, rfl, rfl, hlow⟩ := hrel
            generalize wr = wy at *
            have HY := hid hlow
            by_cases hlt3 : q < bs.length
            · have hs0 := HS.out
              obtain ⟨_, _, he, -, -, -, -, h6⟩ := HS.out
              obtain ⟨b2, o2, hb2, hua, hc2⟩ := h6 (by rintro rfl; simp at hlt3)
              obtain ⟨hua', -⟩ : ua = some ⟨b2, o2, none⟩ ∧ True := by
                simp only [Value.slice.injEq] at he
                exact ⟨he.1.trans hua, trivial⟩
              subst hua'
              obtain ⟨_, _, he3, -, -, -, -, h63⟩ := HO.out
              obtain ⟨b3, o3, hb3, ha3, hc3⟩ := h63 (by intro e; have := HTl.out; rw [e] at this; simp at this; omega)
              obtain ⟨ha3', -⟩ : a0 = some ⟨b3, o3, none⟩ ∧ True := by
                simp only [Value.slice.injEq] at he3
                exact ⟨he3.1.trans ha3, trivial⟩
              subst ha3'
              have k2 : wy.cell? ⟨b2, o2 + q, none⟩ = some (.int .u8 (bs.getD q 0)) := by
                have h1 := hc2 q hlt3
                have h2 : b2 < wc.heap.size := Nat.lt_of_lt_of_le hb2 HBc.out.size
                rw [hlow.cell (p := ⟨b2, o2 + q, none⟩) h2, HBc.out.cell (p := ⟨b2, o2 + q, none⟩) hb2]; exact h1
              have k3 : wy.cell? ⟨b3, o3 + q, none⟩ = some (.int .u8 ((told d).getD q 0)) := by
                rw [hlow.cell (p := ⟨b3, o3 + q, none⟩) hb3]; exact hc3 q (by have := HTl.out; omega)
              have e1y : wy.cell? ⟨B0, k, none⟩ = some (.slice (some ⟨b3, o3, none⟩) bs.length k0) := by
                obtain ⟨y, ey, -⟩ := HGv.out.cell k (by simpa using hlt2)
                have hlc := cell_lt ey
                rw [hlow.cell (p := ⟨B0, k, none⟩) hlc, ← HX.out.cell (p := ⟨B0, k, none⟩) hlc]; exact e0x
              have hcb := cnt_bd (told d) bs q
              have HCt : Hid (cnt (told d) bs (q + 1) = cnt (told d) bs q + if (told d).getD q 0 = bs.getD q 0 then 0 else 1) := rfl
              have hbp3 : decide ((q : Int) < (bs.length : Int)) = true := by simp; omega
              clear hs0 he h6 hua hc2 he3 h63 ha3 hc3 hlow
              generalize (told d).getD q 0 = x1 at *
              generalize bs.getD q 0 = x2 at *
              by_cases hxx : x1 = x2
              · subst hxx
                have HCt' : Hid (cnt (told d) bs (q + 1) = cnt (told d) bs q) := by have := HCt.out; rw [if_pos rfl] at this; exact this
                generalize hz : cnt (told d) bs q = z at *
                go_upto_region 20 with fail
                go_quiet (fail)
                go_wp2
                go_roundw
                case rel => exact ⟨q + 1, by omega, by go_num, by rw [HCt'.out], ⟨HY.out.os, HY.out.tape, HY.out.output, HY.out.size, HY.out.block⟩⟩
                case measure => simp [intOf]; omega
              · have hnx : (x1 != x2) = true := by simp [hxx]
                have HCt' : Hid (cnt (told d) bs (q + 1) = cnt (told d) bs q + 1) := by have := HCt.out; rw [if_neg hxx] at this; exact this
                generalize hz : cnt (told d) bs q = z at *
                go_upto_region 20 with fail
                go_quiet (fail)
                go_wp2
                go_roundw
                case rel => exact ⟨q + 1, by omega, by go_num, by rw [HCt'.out]; first | go_num | rfl, ⟨HY.out.os, HY.out.tape, HY.out.output, HY.out.size, HY.out.block⟩⟩
                case measure => simp [intOf]; omega
            · obtain rfl : q = bs.length := by omega
              have hbp3 : decide ((bs.length : Int) < (bs.length : Int)) = false := by simp
              have hc1 := HCn.out bs.length
              generalize cnt (told d) bs bs.length = z at *
              have hz1 : decide ((1 : Int) < (z : Int)) = false := decide_eq_false (by omega)
              clear hlow
              go_wp2
              go_roundw
              case rel => exact ⟨k + 1, by omega, by go_num, HY.out⟩
              case measure => simp [intOf]; omega
        · obtain rfl : k = A.came.length := by omega
          have hbp2 : decide ((A.came.length : Int) < (A.came.length : Int)) = false := by simp
          go_wp2_with (go_at_call 9; refine (HW.out _ (HBc.out.trans (HX.out.mono HBc.out.size))).mono ?_; rintro e w9 ⟨rfl, hb9⟩; have HB9 := hid hb9; clear hb9)
          go_ret
          exact ⟨rfl, HB9.out⟩
end Go.Proofs.Ythgkmbdnkamcoaa
