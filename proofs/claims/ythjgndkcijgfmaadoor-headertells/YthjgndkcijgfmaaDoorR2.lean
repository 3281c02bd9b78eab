/-
  Proved here: the document's Check returns 0 or 10 as 'rchk' says, for every header; no old memory turns. No condition.
-/
import Derived.Test.YthjgndkcijgfmaaDoorR1
namespace Go.Proofs.YthjgndkcijgfmaaDoor
open Go.RowKit

def thinUpto (h : Nat → Int) : Nat → Bool
  | 0 => true
  | k + 1 => thinUpto h k && (h k / 2 ^ (wid k).toNat == 0)
def rOk (h : Nat → Int) : Bool :=
  thinUpto h 11 && !(decide (h 2 < 1536) || h 2 == 33024) && !(h 2 != 2048 && (h 6 != 0 || h 2 != 2054 && (h 4 != 0 || h 5 != 0))) && !(h 6 != 6 && h 6 != 17 && (h 7 != 0 || h 8 != 0))
def rchk (h : Nat → Int) : Int := if rOk h then 0 else 10
theorem thin_mono (h : Nat → Int) : ∀ n k, k < n → (h k / 2 ^ (wid k).toNat == 0) = false → thinUpto h n = false
  | 0, _, hk, _ => absurd hk (by omega)
  | n + 1, k, hk, hb => by
    by_cases e : k = n
    · subst e; simp [thinUpto, hb]
    · simp [thinUpto, thin_mono h n k (by omega) hb]

set_option maxHeartbeats 3200000 in
theorem rcheck_any (h : Nat → Int) (w : World) :
    Calls Tryd.prog 9 #[hv h] w fun e w' => e = .returned (.int .i64 (rchk h)) ∧ Below w.heap.size w w' := by
  have hfin : Below w.heap.size w (w.alloc (.cells (hcs h) 24)) := (Below.refl _ _).alloc (Nat.le_refl _) _
  go_enter Tryd.func9, Tryd.ntmps9
  go_wp2_with fail
  go_loop [3] (fun i => ∃ k : Nat, k ≤ 11 ∧ i = .int .i8 k ∧ thinUpto h k = true) (fun i => 11 - (intOf i).toNat)
  case atStart => exact ⟨0, by omega, rfl, rfl⟩
  case round =>
    obtain ⟨k, hk, rfl, hall⟩ := hrel
    have HALL : Hid (thinUpto h k = true) := hall
    clear hall
    by_cases hlt : k < 11
    · have hc := cell_h (heap_alloc_new w (.cells (hcs h) 24)) k hlt
      cases t1 : (h k / 2 ^ (wid k).toNat == 0)
      · have HF : Hid (rchk h = 10) := by
          show rchk h = 10
          simp [rchk, rOk, thin_mono h 11 k hlt t1]
        go_wp2_with (go_at_call 17; refine (fits_any k hlt _ _).mono ?_; rintro e w' ⟨rfl, rfl⟩)
        go_ret
        exact ⟨by rw [HF.out]; rfl, hfin⟩
      · have HF : Hid (thinUpto h (k + 1) = true) := by show thinUpto h (k + 1) = true; simp [thinUpto, HALL.out, t1]
        go_wp2_with (go_at_call 17; refine (fits_any k hlt _ _).mono ?_; rintro e w' ⟨rfl, rfl⟩)
        go_round
        case rel => exact ⟨k + 1, by omega, by go_num, HF.out⟩
        case measure => simp [intOf]; omega
    · obtain rfl : k = 11 := by omega
      by_cases a1 : h 2 < 1536
      · have HF : Hid (rchk h = 10) := by show rchk h = 10; simp [rchk, rOk, a1]
        go_wp2
        go_ret
        exact ⟨by rw [HF.out]; rfl, hfin⟩
      · have d1 : decide (h 2 < 1536) = false := by simpa using a1
        cases a2 : (h 2 == 33024)
        · cases q1 : (h 2 != 2048)
          · cases r1 : (h 6 != 6)
            · have HF : Hid (rchk h = 0) := by show rchk h = 0; simp [rchk, rOk, HALL.out, a1, a2, q1, r1]
              go_wp2
              go_ret
              exact ⟨by rw [HF.out]; rfl, hfin⟩
            · cases r2 : (h 6 != 17)
              · have HF : Hid (rchk h = 0) := by show rchk h = 0; simp [rchk, rOk, HALL.out, a1, a2, q1, r1, r2]
                go_wp2
                go_ret
                exact ⟨by rw [HF.out]; rfl, hfin⟩
              · cases r3 : (h 7 != 0)
                · cases r4 : (h 8 != 0)
                  · have HF : Hid (rchk h = 0) := by show rchk h = 0; simp [rchk, rOk, HALL.out, a1, a2, q1, r1, r2, r3, r4]
                    go_wp2
                    go_ret
                    exact ⟨by rw [HF.out]; rfl, hfin⟩
                  · have HF : Hid (rchk h = 10) := by show rchk h = 10; simp [rchk, rOk, HALL.out, a1, a2, q1, r1, r2, r3, r4]
                    go_wp2
                    go_ret
                    exact ⟨by rw [HF.out]; rfl, hfin⟩
                · have HF : Hid (rchk h = 10) := by show rchk h = 10; simp [rchk, rOk, HALL.out, a1, a2, q1, r1, r2, r3]
                  go_wp2
                  go_ret
                  exact ⟨by rw [HF.out]; rfl, hfin⟩
          · cases q2 : (h 6 != 0)
            · cases q3 : (h 2 != 2054)
              · have z6 : h 6 = 0 := by simpa using q2
                have r1 : (h 6 != 6) = true := by rw [z6]; rfl
                have r2 : (h 6 != 17) = true := by rw [z6]; rfl
                clear z6
                cases r3 : (h 7 != 0)
                · cases r4 : (h 8 != 0)
                  · have HF : Hid (rchk h = 0) := by show rchk h = 0; simp [rchk, rOk, HALL.out, a1, a2, q1, q2, q3, r1, r2, r3, r4]
                    go_wp2
                    go_ret
                    exact ⟨by rw [HF.out]; rfl, hfin⟩
                  · have HF : Hid (rchk h = 10) := by show rchk h = 10; simp [rchk, rOk, HALL.out, a1, a2, q1, q2, q3, r1, r2, r3, r4]
                    go_wp2
                    go_ret
                    exact ⟨by rw [HF.out]; rfl, hfin⟩
                · have HF : Hid (rchk h = 10) := by show rchk h = 10; simp [rchk, rOk, HALL.out, a1, a2, q1, q2, q3, r1, r2, r3]
                  go_wp2
                  go_ret
                  exact ⟨by rw [HF.out]; rfl, hfin⟩
              · cases q4 : (h 4 != 0)
                · cases q5 : (h 5 != 0)
                  · have z6 : h 6 = 0 := by simpa using q2
                    have r1 : (h 6 != 6) = true := by rw [z6]; rfl
                    have r2 : (h 6 != 17) = true := by rw [z6]; rfl
                    clear z6
                    cases r3 : (h 7 != 0)
                    · cases r4 : (h 8 != 0)
                      · have HF : Hid (rchk h = 0) := by show rchk h = 0; simp [rchk, rOk, HALL.out, a1, a2, q1, q2, q3, q4, q5, r1, r2, r3, r4]
                        go_wp2
                        go_ret
                        exact ⟨by rw [HF.out]; rfl, hfin⟩
                      · have HF : Hid (rchk h = 10) := by show rchk h = 10; simp [rchk, rOk, HALL.out, a1, a2, q1, q2, q3, q4, q5, r1, r2, r3, r4]
                        go_wp2
                        go_ret
                        exact ⟨by rw [HF.out]; rfl, hfin⟩
                    · have HF : Hid (rchk h = 10) := by show rchk h = 10; simp [rchk, rOk, HALL.out, a1, a2, q1, q2, q3, q4, q5, r1, r2, r3]
                      go_wp2
                      go_ret
                      exact ⟨by rw [HF.out]; rfl, hfin⟩
                  · have HF : Hid (rchk h = 10) := by show rchk h = 10; simp [rchk, rOk, HALL.out, a1, a2, q1, q2, q3, q4, q5]
                    go_wp2
                    go_ret
                    exact ⟨by rw [HF.out]; rfl, hfin⟩
                · have HF : Hid (rchk h = 10) := by show rchk h = 10; simp [rchk, rOk, HALL.out, a1, a2, q1, q2, q3, q4]
                  go_wp2
                  go_ret
                  exact ⟨by rw [HF.out]; rfl, hfin⟩
            · have HF : Hid (rchk h = 10) := by show rchk h = 10; simp [rchk, rOk, HALL.out, a1, a2, q1, q2]
              go_wp2
              go_ret
              exact ⟨by rw [HF.out]; rfl, hfin⟩
        · have HF : Hid (rchk h = 10) := by show rchk h = 10; simp [rchk, rOk, a2]
          go_wp2
          go_ret
          exact ⟨by rw [HF.out]; rfl, hfin⟩
end Go.Proofs.YthjgndkcijgfmaaDoor
