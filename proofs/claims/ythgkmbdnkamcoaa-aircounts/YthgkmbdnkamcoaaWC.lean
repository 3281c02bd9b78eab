/-
  Proved here: AirCounts' body says true. Condition: the acts are old memory.
-/
import Derived.Test.YthgkmbdnkamcoaaD8
namespace Go.Proofs.Ythgkmbdnkamcoaa
open Go.RowKit

theorem doE_zero {A : Ar} {x y : Int} (h : doE A x y = 0) : 0 ≤ y ∧ A.row.length ≠ 0 := by
  unfold doE at h
  split at h
  · cases h
  · rename_i hb
    split at h
    · cases h
    · exact ⟨by unfold bad at hb; omega, by omega⟩
theorem doS_cnt {A : Ar} {x y : Int} (h : doE A x y = 0) : (doS A x y).row.length = (if x = 0 ∨ x = 1 then A.row.length - 1 else if x = 2 then A.row.length + 1 else A.row.length) ∧ (doS A x y).came.length = (if x = 0 then A.came.length + 1 else A.came.length) := by
  have h0 := doE_zero h
  have hp := plc_lt h0.1 h0.2
  have he := List.length_eraseIdx_of_lt hp
  unfold doS
  rw [if_pos h]
  unfold doG
  by_cases e0 : x = 0
  · subst e0
    simp [he]
  · by_cases e1 : x = 1
    · subst e1
      simp [he]
    · by_cases e2 : x = 2
      · subst e2
        simp
      · by_cases e3 : x = 3
        · subst e3
          simp
        · simp [e0, e1, e2, e3, he]
          omega
/-- What the loop over the acts keeps. -/
def CI (w : World) (v : Value) (k : Nat) (n m : Value) (wr : World) : Prop := ∃ A : Ar, n = .int .i64 (A.row.length : Nat) ∧ m = .int .i64 (A.came.length : Nat) ∧ Below w.heap.size w wr ∧ AR (fun k => w.heap.size ≤ k) wr v A ∧ A.row.length ≤ k ∧ A.came.length ≤ k
set_option maxHeartbeats 6400000 in
set_option maxRecDepth 100000 in
theorem counts_any (w : World) (v1 : Value) (l : List Ac) (hl : Acts (fun k => k < w.heap.size) w v1 l) :
    Calls Try.prog 6 #[v1] w fun e w' => e = .returned (.bool true) ∧ Below w.heap.size w w' := by
  have HG := hid (great_any w v1 l hl)
  obtain ⟨ao, cap, rfl, hcap⟩ := hl.form
  have HA := hid hl
  have HW : Hid (∀ W, Below w.heap.size w W → Calls Try.prog 9 #[] W fun e w' => e = .returned (.bool true) ∧ Below w.heap.size w w') := fun W hW => (wakes_any W).mono fun e w' ⟨h1, h2⟩ => ⟨h1, hW.trans (h2.mono hW.size)⟩
  have HDo : Hid (∀ (a : Ar) (x y : Int) (W : World) (v : Value), Below w.heap.size w W → AR (fun k => w.heap.size ≤ k) W v a → 0 ≤ x → y < 9223372036854775808 → a.row.length < 1000000 → a.came.length < 1000000 → Calls Try.prog 16 #[v, .int .u8 x, .int .i64 y] W fun e w' => e = .returned (.int .i64 (doE a x y)) ∧ Below w.heap.size w w' ∧ AR (fun k => w.heap.size ≤ k) w' v (doS a x y)) := by
    show ∀ _, _
    intro a x y W v hW hA h0 h1 h2 h3
    refine (do_any W v a x y hA (fun k hk => Nat.le_trans hW.size hk) h0 h1 h2 h3).mono ?_
    rintro e w' ⟨rfl, hO, hA'⟩
    exact ⟨rfl, hW.trans (hO.below fun k hk => hk), hA'⟩
  clear hl
  by_cases hgr : l.length ≤ 300 ∧ sumB l ≤ 65536
  case neg =>
    rw [decide_eq_false hgr] at HG
    have HG' : Hid (Calls Try.prog 8 #[.slice ao l.length cap] w fun e w' => e = .returned (.bool true) ∧ Below w.heap.size w w') := HG
    go_enter Try.func6, Try.ntmps6
    go_wp2_with (first
      | (go_at_call 8; refine (HG'.out).mono ?_; rintro e w1 ⟨rfl, hb1⟩; have HB1 := hid hb1; clear hb1)
      | (go_at_call 9; refine (HW.out _ HB1.out).mono ?_; rintro e w2 ⟨rfl, hb2⟩; have HB2 := hid hb2; clear hb2))
    go_ret
    exact ⟨rfl, HB2.out⟩
  rw [decide_eq_true hgr] at HG
  have HG' : Hid (Calls Try.prog 8 #[.slice ao l.length cap] w fun e w' => e = .returned (.bool false) ∧ Below w.heap.size w w') := HG
  have hl3 : l.length ≤ 300 := hgr.1
  go_enter Try.func6, Try.ntmps6
  go_upto_region 6 with (first
    | (go_at_call 8; refine (HG'.out).mono ?_; rintro e w1 ⟨rfl, hb1⟩; have HB1 := hid hb1; clear hb1)
    | (go_at_call 10; refine (new_any w1).mono ?_; rintro e w2 ⟨v, rfl, hb2, ha2⟩
       have HB2 := hid (HB1.out.trans (hb2.mono HB1.out.size))
       have HA2 : Hid (AR (fun k => w.heap.size ≤ k) w2 v ar0) := ha2.carry fun k _ h => ⟨Nat.le_trans HB1.out.size h, rfl⟩
       clear hb2 ha2))
  clear HG HG' HB1
  go_loopw [4, 5, 6] (fun n m i wr => ∃ k : Nat, k ≤ l.length ∧ i = .int .i64 k ∧ CI w v k n m wr) (fun _ _ i _ => l.length - (intOf i).toNat)
  case atStart => exact ⟨0, by omega, rfl, ar0, rfl, rfl, HB2.out, HA2.out, by decide, by decide⟩
  case round =>
    obtain ⟨k, hk, rfl, A, rfl, rfl, hlow, hAr, hr3, hr4⟩ := hrel
    have HB := hid hlow
    have HAr := hid hAr
    clear hlow hAr
    by_cases hlt : k < l.length
    · obtain ⟨b, o, xa, xc, rfl, t0, t1, t2, hsb, hfit⟩ := act_at HA.out HB.out k hlt
      generalize l[k] = ac at t0 t1 t2 hsb hfit
      obtain ⟨dw, at', bb⟩ := ac
      obtain ⟨⟨f0, f1⟩, f2, f3⟩ := hfit
      simp only at t0 t1 t2 hsb f0 f1 f2 f3
      have hbp : decide ((k : Int) < (l.length : Int)) = true := by simp; omega
      by_cases h10 : dw = 10
      · subst h10
        have HP := hid (put_any (S := fun k => w.heap.size ≤ k) wr v A _ bb HAr.out (fun k hk => Nat.le_trans HB.out.size hk) hsb (by omega))
        have HL : Hid ((putS A bb).row.length = A.row.length + 1 ∧ (putS A bb).came.length = A.came.length) := ⟨by simp [putS], rfl⟩
        clear hsb
        go_wp2_with (go_at_call 11; refine (HP.out).mono ?_; rintro e w4 ⟨rfl, hO4, hA4⟩
                     have HB4 := hid (HB.out.trans (hO4.below fun k hk => hk))
                     have HA4 := hid hA4
                     clear hO4 hA4)
        go_roundw
        case rel => exact ⟨k + 1, by omega, by go_num, putS A bb, by rw [HL.out.1]; go_num, by rw [HL.out.2], HB4.out, HA4.out, by have := HL.out.1; omega, by have := HL.out.2; omega⟩
        case measure => simp [intOf]; omega
      · clear hsb t2
        have h10' : (dw == 10) = false := beq_eq_false_iff_ne.2 h10
        have T4 : Hid (∀ w4, Below w.heap.size w w4 → ∀ i x, wr.cell? ⟨b, o + k * 3 + i, none⟩ = some x → w4.cell? ⟨b, o + k * 3 + i, none⟩ = some x) := by
          show ∀ _, _
          intro w4 h4 i x hx
          obtain ⟨b', o', -, -, hq, -⟩ := act_at HA.out HB.out k hlt
          have hbb : b < w.heap.size := by
            obtain ⟨b2, o2, hq2, hT2, -⟩ := HA.out.cell k hlt
            simp only [Option.some.injEq, Addr.mk.injEq] at hq2
            omega
          rw [h4.cell (p := ⟨b, o + k * 3 + i, none⟩) hbb, ← HB.out.cell (p := ⟨b, o + k * 3 + i, none⟩) hbb]; exact hx
        by_cases hbad : bad dw at'
        · have HE : Hid (doE A dw at' = 2) := by show doE A dw at' = 2; unfold doE; rw [if_pos hbad]
          have HL : Hid ((doS A dw at').row.length = A.row.length ∧ (doS A dw at').came.length = A.came.length) := by
            have : doS A dw at' = A := by unfold doS; rw [if_neg (by rw [HE.out]; decide)]
            rw [this]; exact ⟨rfl, rfl⟩
          by_cases h4 : 4 < dw
          · have hd4 : decide ((4 : Int) < dw) = true := decide_eq_true h4
            clear h10
            go_upto_region 11 with fail
            go_region_law (refine stepDo (S := fun k => w.heap.size ≤ k) (A := A) (.tmp 34) (.tmp 39) (.tmp 44) rfl rfl rfl rfl rfl (HAr.out.carry fun k _ h => ⟨h, rfl⟩) (fun k hk => Nat.le_trans HB.out.size hk) f0 f3 (by omega) (by omega) ?_
                           intro w4 hO4 hA4
                           rw [HE.out]
                           have HB4 : Hid (Below w.heap.size w w4) := HB.out.trans ((show Below w.heap.size wr wr.drew from (Below.refl _ _).drew).trans (hO4.below fun k hk => hk))
                           have HA4 := hid hA4
                           have z0 : w4.cell? ⟨b, o + k * 3, none⟩ = some (.int .u8 dw) := T4.out w4 HB4.out 0 _ t0
                           have z1 : w4.cell? ⟨b, o + k * 3 + 1, none⟩ = some (.int .i64 at') := T4.out w4 HB4.out 1 _ t1
                           clear hO4 hA4)
            all_goals (
              go_wp2
              go_roundw
              case rel => exact ⟨k + 1, by omega, by go_num, _, by first | (rw [HL.out.1]; done) | (rw [HL.out.1]; go_num) | (rw [HL.out.1]; rfl), by first | (rw [HL.out.2]; done) | (rw [HL.out.2]; go_num) | (rw [HL.out.2]; rfl), HB4.out, HA4.out, by have := HL.out.1; omega, by have := HL.out.2; omega⟩
              case measure => simp [intOf]; omega)
          · have hd4 : decide ((4 : Int) < dw) = false := decide_eq_false h4
            have hn : at' < 0 := by unfold bad at hbad; omega
            have hdn : decide (at' < 0) = true := decide_eq_true hn
            clear h10
            go_upto_region 11 with fail
            go_region_law (refine stepDo (S := fun k => w.heap.size ≤ k) (A := A) (.tmp 34) (.tmp 39) (.tmp 44) rfl rfl rfl rfl rfl (HAr.out.carry fun k _ h => ⟨h, rfl⟩) (fun k hk => Nat.le_trans HB.out.size hk) f0 f3 (by omega) (by omega) ?_
                           intro w4 hO4 hA4
                           rw [HE.out]
                           have HB4 : Hid (Below w.heap.size w w4) := HB.out.trans ((show Below w.heap.size wr wr.drew from (Below.refl _ _).drew).trans (hO4.below fun k hk => hk))
                           have HA4 := hid hA4
                           have z0 : w4.cell? ⟨b, o + k * 3, none⟩ = some (.int .u8 dw) := T4.out w4 HB4.out 0 _ t0
                           have z1 : w4.cell? ⟨b, o + k * 3 + 1, none⟩ = some (.int .i64 at') := T4.out w4 HB4.out 1 _ t1
                           clear hO4 hA4)
            all_goals (
              go_wp2
              go_roundw
              case rel => exact ⟨k + 1, by omega, by go_num, _, by first | (rw [HL.out.1]; done) | (rw [HL.out.1]; go_num) | (rw [HL.out.1]; rfl), by first | (rw [HL.out.2]; done) | (rw [HL.out.2]; go_num) | (rw [HL.out.2]; rfl), HB4.out, HA4.out, by have := HL.out.1; omega, by have := HL.out.2; omega⟩
              case measure => simp [intOf]; omega)
        · have h4 : ¬ 4 < dw := fun e => hbad (Or.inl e)
          have hn : ¬ at' < 0 := fun e => hbad (Or.inr e)
          have hd4 : decide ((4 : Int) < dw) = false := decide_eq_false h4
          have hdn : decide (at' < 0) = false := decide_eq_false hn
          by_cases hz : A.row.length = 0
          · have HE : Hid (doE A dw at' = 5) := by show doE A dw at' = 5; unfold doE; rw [if_neg hbad, if_pos hz]
            have HL : Hid ((doS A dw at').row.length = A.row.length ∧ (doS A dw at').came.length = A.came.length) := by
              have : doS A dw at' = A := by unfold doS; rw [if_neg (by rw [HE.out]; decide)]
              rw [this]; exact ⟨rfl, rfl⟩
            have hq : ((A.row.length : Int) == 0) = true := by rw [hz]; rfl
            have hq2 : decide ((0 : Int) < (A.row.length : Int)) = false := decide_eq_false (by omega)
            clear hbad
            clear h10
            go_upto_region 11 with fail
            go_region_law (refine stepDo (S := fun k => w.heap.size ≤ k) (A := A) (.tmp 34) (.tmp 39) (.tmp 44) rfl rfl rfl rfl rfl (HAr.out.carry fun k _ h => ⟨h, rfl⟩) (fun k hk => Nat.le_trans HB.out.size hk) f0 f3 (by omega) (by omega) ?_
                           intro w4 hO4 hA4
                           rw [HE.out]
                           have HB4 : Hid (Below w.heap.size w w4) := HB.out.trans ((show Below w.heap.size wr wr.drew from (Below.refl _ _).drew).trans (hO4.below fun k hk => hk))
                           have HA4 := hid hA4
                           have z0 : w4.cell? ⟨b, o + k * 3, none⟩ = some (.int .u8 dw) := T4.out w4 HB4.out 0 _ t0
                           have z1 : w4.cell? ⟨b, o + k * 3 + 1, none⟩ = some (.int .i64 at') := T4.out w4 HB4.out 1 _ t1
                           clear hO4 hA4)
            all_goals (
              go_wp2
              go_roundw
              case rel => exact ⟨k + 1, by omega, by go_num, _, by first | (rw [HL.out.1]; done) | (rw [HL.out.1]; go_num) | (rw [HL.out.1]; rfl), by first | (rw [HL.out.2]; done) | (rw [HL.out.2]; go_num) | (rw [HL.out.2]; rfl), HB4.out, HA4.out, by have := HL.out.1; omega, by have := HL.out.2; omega⟩
              case measure => simp [intOf]; omega)
          · have HE : Hid (doE A dw at' = 0) := by show doE A dw at' = 0; unfold doE; rw [if_neg hbad, if_neg hz]
            have HL := hid (doS_cnt HE.out)
            have hq : ((A.row.length : Int) == 0) = false := beq_eq_false_iff_ne.2 (by omega)
            have hq2 : decide ((0 : Int) < (A.row.length : Int)) = true := decide_eq_true (by omega)
            clear hbad
            have hx4 : dw = 0 ∨ dw = 1 ∨ dw = 2 ∨ dw = 3 ∨ dw = 4 := by omega
            rcases hx4 with rfl | rfl | rfl | rfl | rfl
            · have HL : Hid ((doS A 0 at').row.length = A.row.length - 1 ∧ (doS A 0 at').came.length = A.came.length + 1) := by show _ ∧ _; have := HL.out; simpa using this
              clear h10
              go_upto_region 11 with fail
              go_region_law (refine stepDo (S := fun k => w.heap.size ≤ k) (A := A) (.tmp 34) (.tmp 39) (.tmp 44) rfl rfl rfl rfl rfl (HAr.out.carry fun k _ h => ⟨h, rfl⟩) (fun k hk => Nat.le_trans HB.out.size hk) f0 f3 (by omega) (by omega) ?_
                             intro w4 hO4 hA4
                             rw [HE.out]
                             have HB4 : Hid (Below w.heap.size w w4) := HB.out.trans ((show Below w.heap.size wr wr.drew from (Below.refl _ _).drew).trans (hO4.below fun k hk => hk))
                             have HA4 := hid hA4
                             have z0 : w4.cell? ⟨b, o + k * 3, none⟩ = some (.int .u8 0) := T4.out w4 HB4.out 0 _ t0
                             have z1 : w4.cell? ⟨b, o + k * 3 + 1, none⟩ = some (.int .i64 at') := T4.out w4 HB4.out 1 _ t1
                             clear hO4 hA4)
              all_goals (
                go_wp2
                go_roundw
                case rel => exact ⟨k + 1, by omega, by go_num, _, by first | (rw [HL.out.1]; done) | (rw [HL.out.1]; go_num) | (rw [HL.out.1]; rfl), by first | (rw [HL.out.2]; done) | (rw [HL.out.2]; go_num) | (rw [HL.out.2]; rfl), HB4.out, HA4.out, by have := HL.out.1; omega, by have := HL.out.2; omega⟩
                case measure => simp [intOf]; omega)
            · have HL : Hid ((doS A 1 at').row.length = A.row.length - 1 ∧ (doS A 1 at').came.length = A.came.length) := by show _ ∧ _; have := HL.out; simpa using this
              clear h10
              go_upto_region 11 with fail
              go_region_law (refine stepDo (S := fun k => w.heap.size ≤ k) (A := A) (.tmp 34) (.tmp 39) (.tmp 44) rfl rfl rfl rfl rfl (HAr.out.carry fun k _ h => ⟨h, rfl⟩) (fun k hk => Nat.le_trans HB.out.size hk) f0 f3 (by omega) (by omega) ?_
                             intro w4 hO4 hA4
                             rw [HE.out]
                             have HB4 : Hid (Below w.heap.size w w4) := HB.out.trans ((show Below w.heap.size wr wr.drew from (Below.refl _ _).drew).trans (hO4.below fun k hk => hk))
                             have HA4 := hid hA4
                             have z0 : w4.cell? ⟨b, o + k * 3, none⟩ = some (.int .u8 1) := T4.out w4 HB4.out 0 _ t0
                             have z1 : w4.cell? ⟨b, o + k * 3 + 1, none⟩ = some (.int .i64 at') := T4.out w4 HB4.out 1 _ t1
                             clear hO4 hA4)
              all_goals (
                go_wp2
                go_roundw
                case rel => exact ⟨k + 1, by omega, by go_num, _, by first | (rw [HL.out.1]; done) | (rw [HL.out.1]; go_num) | (rw [HL.out.1]; rfl), by first | (rw [HL.out.2]; done) | (rw [HL.out.2]; go_num) | (rw [HL.out.2]; rfl), HB4.out, HA4.out, by have := HL.out.1; omega, by have := HL.out.2; omega⟩
                case measure => simp [intOf]; omega)
            · have HL : Hid ((doS A 2 at').row.length = A.row.length + 1 ∧ (doS A 2 at').came.length = A.came.length) := by show _ ∧ _; have := HL.out; simpa using this
              clear h10
              go_upto_region 11 with fail
              go_region_law (refine stepDo (S := fun k => w.heap.size ≤ k) (A := A) (.tmp 34) (.tmp 39) (.tmp 44) rfl rfl rfl rfl rfl (HAr.out.carry fun k _ h => ⟨h, rfl⟩) (fun k hk => Nat.le_trans HB.out.size hk) f0 f3 (by omega) (by omega) ?_
                             intro w4 hO4 hA4
                             rw [HE.out]
                             have HB4 : Hid (Below w.heap.size w w4) := HB.out.trans ((show Below w.heap.size wr wr.drew from (Below.refl _ _).drew).trans (hO4.below fun k hk => hk))
                             have HA4 := hid hA4
                             have z0 : w4.cell? ⟨b, o + k * 3, none⟩ = some (.int .u8 2) := T4.out w4 HB4.out 0 _ t0
                             have z1 : w4.cell? ⟨b, o + k * 3 + 1, none⟩ = some (.int .i64 at') := T4.out w4 HB4.out 1 _ t1
                             clear hO4 hA4)
              all_goals (
                go_wp2
                go_roundw
                case rel => exact ⟨k + 1, by omega, by go_num, _, by first | (rw [HL.out.1]; done) | (rw [HL.out.1]; go_num) | (rw [HL.out.1]; rfl), by first | (rw [HL.out.2]; done) | (rw [HL.out.2]; go_num) | (rw [HL.out.2]; rfl), HB4.out, HA4.out, by have := HL.out.1; omega, by have := HL.out.2; omega⟩
                case measure => simp [intOf]; omega)
            · have HL : Hid ((doS A 3 at').row.length = A.row.length ∧ (doS A 3 at').came.length = A.came.length) := by show _ ∧ _; have := HL.out; simpa using this
              clear h10
              go_upto_region 11 with fail
              go_region_law (refine stepDo (S := fun k => w.heap.size ≤ k) (A := A) (.tmp 34) (.tmp 39) (.tmp 44) rfl rfl rfl rfl rfl (HAr.out.carry fun k _ h => ⟨h, rfl⟩) (fun k hk => Nat.le_trans HB.out.size hk) f0 f3 (by omega) (by omega) ?_
                             intro w4 hO4 hA4
                             rw [HE.out]
                             have HB4 : Hid (Below w.heap.size w w4) := HB.out.trans ((show Below w.heap.size wr wr.drew from (Below.refl _ _).drew).trans (hO4.below fun k hk => hk))
                             have HA4 := hid hA4
                             have z0 : w4.cell? ⟨b, o + k * 3, none⟩ = some (.int .u8 3) := T4.out w4 HB4.out 0 _ t0
                             have z1 : w4.cell? ⟨b, o + k * 3 + 1, none⟩ = some (.int .i64 at') := T4.out w4 HB4.out 1 _ t1
                             clear hO4 hA4)
              all_goals (
                go_wp2
                go_roundw
                case rel => exact ⟨k + 1, by omega, by go_num, _, by first | (rw [HL.out.1]; done) | (rw [HL.out.1]; go_num) | (rw [HL.out.1]; rfl), by first | (rw [HL.out.2]; done) | (rw [HL.out.2]; go_num) | (rw [HL.out.2]; rfl), HB4.out, HA4.out, by have := HL.out.1; omega, by have := HL.out.2; omega⟩
                case measure => simp [intOf]; omega)
            · have HL : Hid ((doS A 4 at').row.length = A.row.length ∧ (doS A 4 at').came.length = A.came.length) := by show _ ∧ _; have := HL.out; simpa using this
              clear h10
              go_upto_region 11 with fail
              go_region_law (refine stepDo (S := fun k => w.heap.size ≤ k) (A := A) (.tmp 34) (.tmp 39) (.tmp 44) rfl rfl rfl rfl rfl (HAr.out.carry fun k _ h => ⟨h, rfl⟩) (fun k hk => Nat.le_trans HB.out.size hk) f0 f3 (by omega) (by omega) ?_
                             intro w4 hO4 hA4
                             rw [HE.out]
                             have HB4 : Hid (Below w.heap.size w w4) := HB.out.trans ((show Below w.heap.size wr wr.drew from (Below.refl _ _).drew).trans (hO4.below fun k hk => hk))
                             have HA4 := hid hA4
                             have z0 : w4.cell? ⟨b, o + k * 3, none⟩ = some (.int .u8 4) := T4.out w4 HB4.out 0 _ t0
                             have z1 : w4.cell? ⟨b, o + k * 3 + 1, none⟩ = some (.int .i64 at') := T4.out w4 HB4.out 1 _ t1
                             clear hO4 hA4)
              all_goals (
                go_wp2
                go_roundw
                case rel => exact ⟨k + 1, by omega, by go_num, _, by first | (rw [HL.out.1]; done) | (rw [HL.out.1]; go_num) | (rw [HL.out.1]; rfl), by first | (rw [HL.out.2]; done) | (rw [HL.out.2]; go_num) | (rw [HL.out.2]; rfl), HB4.out, HA4.out, by have := HL.out.1; omega, by have := HL.out.2; omega⟩
                case measure => simp [intOf]; omega)
    · obtain rfl : k = l.length := by omega
      have hbp : decide ((l.length : Int) < (l.length : Int)) = false := by simp
      go_upto_region 25 with fail
      go_loopw [4, 5] (fun n m wx => ∃ C : Ar, n = .int .i64 (C.row.length : Nat) ∧ m = .int .i64 (C.came.length : Nat) ∧ Below w.heap.size w wx ∧ AR (fun k => w.heap.size ≤ k) wx v C ∧ C.row.length + C.came.length ≤ 700) (fun n _ _ => (intOf n).toNat)
      case atStart => exact ⟨A, rfl, rfl, HB.out, HAr.out, by omega⟩
      case round =>
        obtain ⟨C, rfl, rfl, hlow, hC, hsum⟩ := hrel
        clear HB HAr
        generalize wr = wx at *
        by_cases hz : C.row.length = 0
        · have HE : Hid (doE C 0 0 = 5) := by show doE C 0 0 = 5; unfold doE; rw [if_neg (by unfold bad; omega), if_pos hz]
          have HS : Hid (doS C 0 0 = C) := by show doS C 0 0 = C; unfold doS; rw [if_neg (by rw [HE.out]; decide)]
          have HD := hid (HDo.out C 0 0 wx v hlow hC (by decide) (by decide) (by omega) (by omega))
          rw [HE.out, HS.out] at HD
          have hq2 : decide ((0 : Int) < (C.row.length : Int)) = false := decide_eq_false (by omega)
          have hcq : ((C.came.length : Int) == (C.came.length : Int)) = true := by simp
          have hcl : C.came.length < 1000000 := by omega
          clear hlow hC
          go_wp2_with (first
            | (go_at_call 16; refine (HD.out).mono ?_; rintro e w5 ⟨rfl, hb5, ha5⟩
               have HC := hid (came_any (S := fun k => w.heap.size ≤ k) w5 v C ha5 (fun k hk => Nat.le_trans hb5.size hk) hcl)
               have HB5 := hid hb5
               clear hb5 ha5)
            | (go_at_call 13; refine (HC.out).mono ?_; rintro e w6 ⟨rfl, hO6, -, -⟩
               have HB6 := hid (HB5.out.trans (hO6.below fun k hk => hk))
               clear hO6)
            | (go_at_call 9; refine (HW.out _ HB6.out).mono ?_; rintro e w7 ⟨rfl, hb7⟩; have HB7 := hid hb7; clear hb7))
          go_ret
          exact ⟨rfl, HB7.out⟩
        · have HE : Hid (doE C 0 (C.row.length : Nat) = 0) := by show doE C 0 (C.row.length : Nat) = 0; unfold doE; rw [if_neg (by unfold bad; omega), if_neg hz]
          have HL : Hid ((doS C 0 (C.row.length : Nat)).row.length = C.row.length - 1 ∧ (doS C 0 (C.row.length : Nat)).came.length = C.came.length + 1) := by show _ ∧ _; have := doS_cnt HE.out; simpa using this
          have HD := hid (HDo.out C 0 (C.row.length : Nat) wx v hlow hC (by decide) (by omega) (by omega) (by omega))
          rw [HE.out] at HD
          have hq2 : decide ((0 : Int) < (C.row.length : Int)) = true := decide_eq_true (by omega)
          clear hlow hC
          go_wp2_with (go_at_call 16; refine (HD.out).mono ?_; rintro e w5 ⟨rfl, hb5, ha5⟩; have HB5 := hid hb5; have HA5 := hid ha5; clear hb5 ha5)
          go_roundw
          case rel => exact ⟨_, by first | (rw [HL.out.1]; done) | (rw [HL.out.1]; go_num) | (rw [HL.out.1]; rfl), by first | (rw [HL.out.2]; done) | (rw [HL.out.2]; go_num) | (rw [HL.out.2]; rfl), HB5.out, HA5.out, by have := HL.out.1; have := HL.out.2; omega⟩
          case measure => simp [intOf]; omega
end Go.Proofs.Ythgkmbdnkamcoaa
