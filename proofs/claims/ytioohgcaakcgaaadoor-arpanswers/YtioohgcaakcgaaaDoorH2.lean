/-
  Proved here: the document's Check returns 0 or 10 as 'rchk' says for every header; no old memory turns. No condition.
-/
import Derived.Test.YtioohgcaakcgaaaDoorH1
namespace Go.Proofs.YtioohgcaakcgaaaDoor
open Go.RowKit


set_option maxHeartbeats 1600000 in
theorem rwidth_in (f : Int) (hf : f = 0 ∨ f = 1 ∨ f = 2 ∨ f = 3 ∨ f = 4 ∨ f = 5 ∨ f = 6 ∨ f = 7 ∨ f = 8 ∨ f = 9 ∨ f = 10) (w : World) :
    Calls Tryd.prog 36 #[.int .i8 f] w fun e w' => e = .returned (.int .i64 (widV f)) ∧ w' = w := by
  rcases hf with rfl | rfl | rfl | rfl | rfl | rfl | rfl | rfl | rfl | rfl | rfl
  all_goals
    go_enter Tryd.func36, Tryd.ntmps36
    go_wp2
    go_ret
    exact ⟨rfl, rfl⟩

set_option maxHeartbeats 1600000 in
theorem rwidth_out (f : Int) (hf : f < 0 ∨ 10 < f) (w : World) :
    Calls Tryd.prog 36 #[.int .i8 f] w fun e w' => e = .returned (.int .i64 (widV f)) ∧ w' = w := by
  have e0 : widV f = 0 := by unfold widV; rw [if_neg (by omega)]
  rw [e0]
  have t0 : (f == 0) = false := beq_eq_false_iff_ne.2 (by omega)
  have t1 : (f == 1) = false := beq_eq_false_iff_ne.2 (by omega)
  have t2 : (f == 2) = false := beq_eq_false_iff_ne.2 (by omega)
  have t3 : (f == 3) = false := beq_eq_false_iff_ne.2 (by omega)
  have t4 : (f == 4) = false := beq_eq_false_iff_ne.2 (by omega)
  have t5 : (f == 5) = false := beq_eq_false_iff_ne.2 (by omega)
  have t6 : (f == 6) = false := beq_eq_false_iff_ne.2 (by omega)
  have t7 : (f == 7) = false := beq_eq_false_iff_ne.2 (by omega)
  have t8 : (f == 8) = false := beq_eq_false_iff_ne.2 (by omega)
  have t9 : (f == 9) = false := beq_eq_false_iff_ne.2 (by omega)
  have t10 : (f == 10) = false := beq_eq_false_iff_ne.2 (by omega)
  clear hf e0
  go_enter Tryd.func36, Tryd.ntmps36
  go_wp2
  go_ret
  exact ⟨rfl, rfl⟩

/-- The document's Width. -/
theorem rwidth_any (f : Int) (w : World) : Calls Tryd.prog 36 #[.int .i8 f] w fun e w' => e = .returned (.int .i64 (widV f)) ∧ w' = w := by
  by_cases h : f < 0 ∨ 10 < f
  · exact rwidth_out f h w
  · exact rwidth_in f (by omega) w

theorem wid_pos (k : Nat) (hk : k < 11) : 0 < wid k := by
  have hk' : k = 0 ∨ k = 1 ∨ k = 2 ∨ k = 3 ∨ k = 4 ∨ k = 5 ∨ k = 6 ∨ k = 7 ∨ k = 8 ∨ k = 9 ∨ k = 10 := by omega
  rcases hk' with rfl | rfl | rfl | rfl | rfl | rfl | rfl | rfl | rfl | rfl | rfl <;> decide
def tooWide (h : Nat → Int) (k : Nat) : Bool := !(h k / 2 ^ (wid k).toNat == 0)

set_option maxHeartbeats 400000 in
theorem fits_any (k : Nat) (hk : k < 11) (n : Int) (w : World) :
    Calls Tryd.prog 25 #[.int .i8 (k : Int), .int .u64 n] w fun e w' => e = .returned (.bool (n / 2 ^ (wid k).toNat == 0)) ∧ w' = w := by
  have c := rwidth_any (k : Int) w
  rw [widV_nat k hk] at c
  have C : Hid (Calls Tryd.prog 36 #[.int .i8 (k : Int)] w fun e w' => e = .returned (.int .i64 (wid k)) ∧ w' = w) := c
  have h0 := wid_pos k hk
  have h1 := (wid_bd k).2
  clear c
  go_enter Tryd.func25, Tryd.ntmps25
  go_wp2_with (go_at_call 36; refine (C.out).mono ?_; rintro e w' ⟨rfl, rfl⟩)
  go_ret
  exact ⟨rfl, rfl⟩


def thinUpto (h : Nat → Int) : Nat → Bool
  | 0 => true
  | k + 1 => thinUpto h k && (h k / 2 ^ (wid k).toNat == 0)
def rOk (h : Nat → Int) : Bool :=
  thinUpto h 11 && !(decide (h 2 < 1536) || h 2 == 33024) && !(h 2 != 2048 && (h 6 != 0 || h 2 != 2054 && (h 4 != 0 || h 5 != 0))) && !(h 6 != 6 && h 6 != 17 && (h 7 != 0 || h 8 != 0))
def rchk (h : Nat → Int) : Int := if rOk h then 0 else 10
theorem thin_mono (h : Nat → Int) : ∀ n k, k < n → (h k / 2 ^ (wid k).toNat == 0) = false → thinUpto h n = false
  | 0, _, hk, _ => absurd hk (by omega)
  | n + 1, k, hk, hb => by
    by_cases e : k = n
    · subst e; simp [thinUpto, hb]
    · simp [thinUpto, thin_mono h n k (by omega) hb]

set_option maxHeartbeats 3200000 in
theorem rcheck_any (h : Nat → Int) (w : World) :
    Calls Tryd.prog 20 #[hv h] w fun e w' => e = .returned (.int .i64 (rchk h)) ∧ Below w.heap.size w w' := by
  have r2 := row_at 11 h 2 (by omega)
  have r4 := row_at 11 h 4 (by omega)
  have r5 := row_at 11 h 5 (by omega)
  have r6 := row_at 11 h 6 (by omega)
  have r7 := row_at 11 h 7 (by omega)
  have r8 := row_at 11 h 8 (by omega)
  have hfin : Below w.heap.size w (w.alloc (.cells (row 11 h) 30)) := (Below.refl _ _).alloc (Nat.le_refl _) _
  go_enter Tryd.func20, Tryd.ntmps20
  go_wp2_with fail
  go_loop [3] (fun i => ∃ k : Nat, k ≤ 11 ∧ i = .int .i8 k ∧ thinUpto h k = true) (fun i => 11 - (intOf i).toNat)
  case atStart => exact ⟨0, by omega, rfl, rfl⟩
  case round =>
    obtain ⟨k, hk, rfl, hall⟩ := hrel
    have HALL : Hid (thinUpto h k = true) := hall
    clear hall
    by_cases hlt : k < 11
    · have hc := (Blk.new w 11 30 h).cell k hlt
      cases t1 : (h k / 2 ^ (wid k).toNat == 0)
      · have HF : Hid (rchk h = 10) := by
          show rchk h = 10
          simp [rchk, rOk, thin_mono h 11 k hlt t1]
        go_wp2_with (go_at_call 25; refine (fits_any k hlt _ _).mono ?_; rintro e w' ⟨rfl, rfl⟩)
        go_ret
        exact ⟨by rw [HF.out]; rfl, hfin⟩
      · have HF : Hid (thinUpto h (k + 1) = true) := by show thinUpto h (k + 1) = true; simp [thinUpto, HALL.out, t1]
        go_wp2_with (go_at_call 25; refine (fits_any k hlt _ _).mono ?_; rintro e w' ⟨rfl, rfl⟩)
        go_round
        case rel => exact ⟨k + 1, by omega, by go_num, HF.out⟩
        case measure => simp [intOf]; omega
    · obtain rfl : k = 11 := by omega
      by_cases a1 : h 2 < 1536
      · have HF : Hid (rchk h = 10) := by show rchk h = 10; simp [rchk, rOk, a1]
        go_wp2
        go_ret
        exact ⟨by rw [HF.out]; rfl, hfin⟩
      · have d1 : decide (h 2 < 1536) = false := by simpa using a1
        cases a2 : (h 2 == 33024)
        · cases q1 : (h 2 != 2048)
          · cases r1 : (h 6 != 6)
            · have HF : Hid (rchk h = 0) := by show rchk h = 0; simp [rchk, rOk, HALL.out, a1, a2, q1, r1]
              go_wp2
              go_ret
              exact ⟨by rw [HF.out]; rfl, hfin⟩
            · cases r2 : (h 6 != 17)
              · have HF : Hid (rchk h = 0) := by show rchk h = 0; simp [rchk, rOk, HALL.out, a1, a2, q1, r1, r2]
                go_wp2
                go_ret
                exact ⟨by rw [HF.out]; rfl, hfin⟩
              · cases r3 : (h 7 != 0)
                · cases r4 : (h 8 != 0)
                  · have HF : Hid (rchk h = 0) := by show rchk h = 0; simp [rchk, rOk, HALL.out, a1, a2, q1, r1, r2, r3, r4]
                    go_wp2
                    go_ret
                    exact ⟨by rw [HF.out]; rfl, hfin⟩
                  · have HF : Hid (rchk h = 10) := by show rchk h = 10; simp [rchk, rOk, HALL.out, a1, a2, q1, r1, r2, r3, r4]
                    go_wp2
                    go_ret
                    exact ⟨by rw [HF.out]; rfl, hfin⟩
                · have HF : Hid (rchk h = 10) := by show rchk h = 10; simp [rchk, rOk, HALL.out, a1, a2, q1, r1, r2, r3]
                  go_wp2
                  go_ret
                  exact ⟨by rw [HF.out]; rfl, hfin⟩
          · cases q2 : (h 6 != 0)
            · cases q3 : (h 2 != 2054)
              · have z6 : h 6 = 0 := by simpa using q2
                have r1 : (h 6 != 6) = true := by rw [z6]; rfl
                have r2 : (h 6 != 17) = true := by rw [z6]; rfl
                clear z6
                cases r3 : (h 7 != 0)
                · cases r4 : (h 8 != 0)
                  · have HF : Hid (rchk h = 0) := by show rchk h = 0; simp [rchk, rOk, HALL.out, a1, a2, q1, q2, q3, r1, r2, r3, r4]
                    go_wp2
                    go_ret
                    exact ⟨by rw [HF.out]; rfl, hfin⟩
                  · have HF : Hid (rchk h = 10) := by show rchk h = 10; simp [rchk, rOk, HALL.out, a1, a2, q1, q2, q3, r1, r2, r3, r4]
                    go_wp2
                    go_ret
                    exact ⟨by rw [HF.out]; rfl, hfin⟩
                · have HF : Hid (rchk h = 10) := by show rchk h = 10; simp [rchk, rOk, HALL.out, a1, a2, q1, q2, q3, r1, r2, r3]
                  go_wp2
                  go_ret
                  exact ⟨by rw [HF.out]; rfl, hfin⟩
              · cases q4 : (h 4 != 0)
                · cases q5 : (h 5 != 0)
                  · have z6 : h 6 = 0 := by simpa using q2
                    have r1 : (h 6 != 6) = true := by rw [z6]; rfl
                    have r2 : (h 6 != 17) = true := by rw [z6]; rfl
                    clear z6
                    cases r3 : (h 7 != 0)
                    · cases r4 : (h 8 != 0)
                      · have HF : Hid (rchk h = 0) := by show rchk h = 0; simp [rchk, rOk, HALL.out, a1, a2, q1, q2, q3, q4, q5, r1, r2, r3, r4]
                        go_wp2
                        go_ret
                        exact ⟨by rw [HF.out]; rfl, hfin⟩
                      · have HF : Hid (rchk h = 10) := by show rchk h = 10; simp [rchk, rOk, HALL.out, a1, a2, q1, q2, q3, q4, q5, r1, r2, r3, r4]
                        go_wp2
                        go_ret
                        exact ⟨by rw [HF.out]; rfl, hfin⟩
                    · have HF : Hid (rchk h = 10) := by show rchk h = 10; simp [rchk, rOk, HALL.out, a1, a2, q1, q2, q3, q4, q5, r1, r2, r3]
                      go_wp2
                      go_ret
                      exact ⟨by rw [HF.out]; rfl, hfin⟩
                  · have HF : Hid (rchk h = 10) := by show rchk h = 10; simp [rchk, rOk, HALL.out, a1, a2, q1, q2, q3, q4, q5]
                    go_wp2
                    go_ret
                    exact ⟨by rw [HF.out]; rfl, hfin⟩
                · have HF : Hid (rchk h = 10) := by show rchk h = 10; simp [rchk, rOk, HALL.out, a1, a2, q1, q2, q3, q4]
                  go_wp2
                  go_ret
                  exact ⟨by rw [HF.out]; rfl, hfin⟩
            · have HF : Hid (rchk h = 10) := by show rchk h = 10; simp [rchk, rOk, HALL.out, a1, a2, q1, q2]
              go_wp2
              go_ret
              exact ⟨by rw [HF.out]; rfl, hfin⟩
        · have HF : Hid (rchk h = 10) := by show rchk h = 10; simp [rchk, rOk, a2]
          go_wp2
          go_ret
          exact ⟨by rw [HF.out]; rfl, hfin⟩


def barUpto (h : Nat → Int) : Nat → Bool
  | 0 => true
  | k + 1 => barUpto h k && !(bar h k && h k != 0)
theorem fldBad_not (h : Nat → Int) (k : Nat) : (!fldBad h k) = ((h k / 2 ^ (wid k).toNat == 0) && !(bar h k && h k != 0)) := by
  unfold fldBad
  generalize h k / 2 ^ (wid k).toNat = q
  cases hq : (q == 0) <;> simp [bne, hq]
theorem okUpto_eq (h : Nat → Int) : ∀ n, okUpto h n = (thinUpto h n && barUpto h n)
  | 0 => rfl
  | n + 1 => by
    simp only [okUpto, thinUpto, barUpto]
    rw [okUpto_eq h n, fldBad_not]
    generalize thinUpto h n = a
    generalize barUpto h n = b
    generalize (h n / 2 ^ (wid n).toNat == 0) = c
    generalize (bar h n && h n != 0) = d
    cases a <;> cases b <;> cases c <;> cases d <;> rfl
theorem barUpto_eq (h : Nat → Int) : barUpto h 11 = (!(b45 h && h 4 != 0) && !(b45 h && h 5 != 0) && !(b6 h && h 6 != 0) && !(b78 h && h 7 != 0) && !(b78 h && h 8 != 0)) := by
  simp [barUpto, bar]
theorem rOk_eq (h : Nat → Int) : rOk h = hOk h := by
  unfold rOk hOk
  rw [okUpto_eq, barUpto_eq]
  generalize thinUpto h 11 = t
  unfold b45 b6 b78 kindOk portsOk
  generalize h 2 = K
  generalize h 4 = F
  generalize h 5 = T
  generalize h 6 = P
  generalize h 7 = S
  generalize h 8 = D
  cases t
  · simp
  · rw [Bool.eq_iff_iff]
    simp
    omega
theorem rchk_eq (h : Nat → Int) : rchk h = chk h := by unfold rchk chk; rw [rOk_eq]
end Go.Proofs.YtioohgcaakcgaaaDoor
