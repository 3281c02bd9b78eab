/-
  Proved here: choosePivotOrdered chooses what the plain one does. Conditions: the numbers lie as they say; the bounds lie within them, more than twelve apart.
-/
import Derived.Test.YtdehlnaoehjehaaGreatDoorzS3
namespace Go.Proofs.YtdehlnaoehjehaaGreatDoor
open Go.RowKit Go.Sort

def hN : Hint → Int
  | .unknown => 0
  | .increasing => 1
  | .decreasing => 2
set_option maxHeartbeats 6400000 in
set_option maxRecDepth 100000 in
theorem piv_any (w : World) (g o cap t : Nat) (d : Array Int) (a b : Nat) (h : Dt w g o cap t d) (hab : a + 12 < b) (hb : b ≤ d.size) (hs : d.size < 4611686018427387904) :
    Calls Tryz.prog 162 #[.slice (some ⟨g, o, none⟩) d.size cap, .int .i64 a, .int .i64 b] w fun e w' => e = .returned (.tuple #[.int .i64 ((choosePivot ltInt d a b).1 : Nat), .int .i64 (hN (choosePivot ltInt d a b).2)]) ∧ Only (fun k => w.heap.size ≤ k) w w' := by
  have hg := h.lt
  obtain ⟨q, hq⟩ : ∃ q, q = w.heap.size := ⟨_, rfl⟩
  obtain ⟨W1, hW1⟩ : ∃ W, W = w.alloc (.cells #[.int .i64 0] 3) := ⟨_, rfl⟩
  have hO1 : Only (fun k => w.heap.size ≤ k) w W1 := by rw [hW1]; exact (Only.refl _ w).alloc (fun k hk => hk) _
  have hC1 : Ctr W1 q 0 := by rw [hq, hW1]; exact heap_alloc_new _ _
  have hD1 : Dt W1 g o cap t d := h.same (hO1.block g (by omega))
  have hgq : g ≠ q := by omega
  have HF : Hid (∀ s w', Ct W1 q s w' → Only (fun k => w.heap.size ≤ k) w w') := fun s w' hk => hO1.trans (hk.only.mono fun k e => by omega)
  have HDt : Hid (∀ s w', Ct W1 q s w' → Dt w' g o cap t d ∧ Ctr w' q s) := fun s w' hk => ⟨hD1.same (hk.only.block g hgq), hk.ct⟩
  have HC0 : Hid (Ct W1 q 0 W1) := ⟨Only.refl _ _, hC1⟩
  have HW1 := hid hW1
  have HQ := hid hq
  obtain ⟨L, hL⟩ : ∃ L, L = b - a := ⟨_, rfl⟩
  obtain ⟨u, hu⟩ : ∃ u, u = L / 4 := ⟨_, rfl⟩
  have hbL : (b : Int) - (a : Int) = (L : Int) := by omega
  have hq4 : Int.tdiv (L : Int) 4 = (u : Int) := by rw [hu]; rfl
  have hL12 : 12 < L := by omega
  have haL : a + L ≤ d.size := by omega
  have hu4 : 4 * u ≤ L ∧ L < 4 * u + 4 := by omega
  have hge8 : decide ((8 : Int) ≤ (L : Int)) = true := decide_eq_true (by omega)
  have HMA : Hid (∀ s w' x, Ct W1 q s w' → 1 ≤ x → x + 1 < d.size → s < 900 → Calls Tryz.prog 200 #[.slice (some ⟨g, o, none⟩) d.size cap, .int .i64 (x : Nat), .pointer (some ⟨q, 0, none⟩)] w' fun e w'' => e = .returned (.int .i64 ((medianAdjacent ltInt d x s).1 : Nat)) ∧ Ct W1 q (medianAdjacent ltInt d x s).2 w'') := fun s w' x hk h1 h2 h3 => (medA_any w' g o cap t q d x s (HDt.out s w' hk).1 hk.ct hgq h1 h2 hs h3).mono fun e w'' ⟨he, hk2⟩ => ⟨he, hk.trans hk2⟩
  have HMD : Hid (∀ s w' x y z, Ct W1 q s w' → x < d.size → y < d.size → z < d.size → s < 900 → Calls Tryz.prog 201 #[.slice (some ⟨g, o, none⟩) d.size cap, .int .i64 (x : Nat), .int .i64 (y : Nat), .int .i64 (z : Nat), .pointer (some ⟨q, 0, none⟩)] w' fun e w'' => e = .returned (.int .i64 ((median ltInt d x y z s).1 : Nat)) ∧ Ct W1 q (median ltInt d x y z s).2 w'') := fun s w' x y z hk h1 h2 h3 h4 => (med_any w' g o cap t q d x y z s (HDt.out s w' hk).1 hk.ct hgq h1 h2 h3 hs h4).mono fun e w'' ⟨he, hk2⟩ => ⟨he, hk.trans hk2⟩
  by_cases h50 : 50 ≤ L
  · have hge : decide ((50 : Int) ≤ (L : Int)) = true := decide_eq_true (by omega)
    have b1 := median_bd (d := d) (a := a + u - 1) (b := a + u) (c := a + u + 1) (s := 0) (n := d.size) (by omega) (by omega) (by omega)
    have b2 := median_bd (d := d) (a := a + u * 2 - 1) (b := a + u * 2) (c := a + u * 2 + 1) (s := (medianAdjacent ltInt d (a + u) 0).2) (n := d.size) (by omega) (by omega) (by omega)
    have b3 := median_bd (d := d) (a := a + u * 3 - 1) (b := a + u * 3) (c := a + u * 3 + 1) (s := (medianAdjacent ltInt d (a + u * 2) (medianAdjacent ltInt d (a + u) 0).2).2) (n := d.size) (by omega) (by omega) (by omega)
    have HM1 : Hid (Calls Tryz.prog 200 #[.slice (some ⟨g, o, none⟩) d.size cap, .int .i64 ((a : Int) + (u : Int)), .pointer (some ⟨q, 0, none⟩)] W1 fun e w'' => e = .returned (.int .i64 ((medianAdjacent ltInt d (a + u) 0).1 : Nat)) ∧ Ct W1 q (medianAdjacent ltInt d (a + u) 0).2 w'') := HMA.out 0 W1 (a + u) HC0.out (by omega) (by omega) (by omega)
    have HP : Hid (choosePivot ltInt d a b = ((median ltInt d (medianAdjacent ltInt d (a + u) 0).1 (medianAdjacent ltInt d (a + u * 2) (medianAdjacent ltInt d (a + u) 0).2).1 (medianAdjacent ltInt d (a + u * 3) (medianAdjacent ltInt d (a + u * 2) (medianAdjacent ltInt d (a + u) 0).2).2).1 (medianAdjacent ltInt d (a + u * 3) (medianAdjacent ltInt d (a + u * 2) (medianAdjacent ltInt d (a + u) 0).2).2).2).1, if (median ltInt d (medianAdjacent ltInt d (a + u) 0).1 (medianAdjacent ltInt d (a + u * 2) (medianAdjacent ltInt d (a + u) 0).2).1 (medianAdjacent ltInt d (a + u * 3) (medianAdjacent ltInt d (a + u * 2) (medianAdjacent ltInt d (a + u) 0).2).2).1 (medianAdjacent ltInt d (a + u * 3) (medianAdjacent ltInt d (a + u * 2) (medianAdjacent ltInt d (a + u) 0).2).2).2).2 = 0 then Hint.increasing else if (median ltInt d (medianAdjacent ltInt d (a + u) 0).1 (medianAdjacent ltInt d (a + u * 2) (medianAdjacent ltInt d (a + u) 0).2).1 (medianAdjacent ltInt d (a + u * 3) (medianAdjacent ltInt d (a + u * 2) (medianAdjacent ltInt d (a + u) 0).2).2).1 (medianAdjacent ltInt d (a + u * 3) (medianAdjacent ltInt d (a + u * 2) (medianAdjacent ltInt d (a + u) 0).2).2).2).2 = 12 then Hint.decreasing else Hint.unknown)) := by
      show _ = _
      unfold choosePivot
      simp only [← hL, ← hu, Nat.mul_one, if_pos (show L ≥ 8 by omega), if_pos (show L ≥ 50 from h50)]
    rw [show median ltInt d (a + u - 1) (a + u) (a + u + 1) 0 = medianAdjacent ltInt d (a + u) 0 from rfl] at b1
    generalize medianAdjacent ltInt d (a + u) 0 = r1 at *
    have HM2 : Hid (∀ w', Ct W1 q r1.2 w' → Calls Tryz.prog 200 #[.slice (some ⟨g, o, none⟩) d.size cap, .int .i64 ((a : Int) + (u : Int) * 2), .pointer (some ⟨q, 0, none⟩)] w' fun e w'' => e = .returned (.int .i64 ((medianAdjacent ltInt d (a + u * 2) r1.2).1 : Nat)) ∧ Ct W1 q (medianAdjacent ltInt d (a + u * 2) r1.2).2 w'') := fun w' hk => HMA.out r1.2 w' (a + u * 2) hk (by omega) (by omega) (by omega)
    rw [show median ltInt d (a + u * 2 - 1) (a + u * 2) (a + u * 2 + 1) r1.2 = medianAdjacent ltInt d (a + u * 2) r1.2 from rfl] at b2
    generalize medianAdjacent ltInt d (a + u * 2) r1.2 = r2 at *
    have HM3 : Hid (∀ w', Ct W1 q r2.2 w' → Calls Tryz.prog 200 #[.slice (some ⟨g, o, none⟩) d.size cap, .int .i64 ((a : Int) + (u : Int) * 3), .pointer (some ⟨q, 0, none⟩)] w' fun e w'' => e = .returned (.int .i64 ((medianAdjacent ltInt d (a + u * 3) r2.2).1 : Nat)) ∧ Ct W1 q (medianAdjacent ltInt d (a + u * 3) r2.2).2 w'') := fun w' hk => HMA.out r2.2 w' (a + u * 3) hk (by omega) (by omega) (by omega)
    rw [show median ltInt d (a + u * 3 - 1) (a + u * 3) (a + u * 3 + 1) r2.2 = medianAdjacent ltInt d (a + u * 3) r2.2 from rfl] at b3
    generalize medianAdjacent ltInt d (a + u * 3) r2.2 = r3 at *
    have HM4 : Hid (∀ w', Ct W1 q r3.2 w' → Calls Tryz.prog 201 #[.slice (some ⟨g, o, none⟩) d.size cap, .int .i64 (r1.1 : Nat), .int .i64 (r2.1 : Nat), .int .i64 (r3.1 : Nat), .pointer (some ⟨q, 0, none⟩)] w' fun e w'' => e = .returned (.int .i64 ((median ltInt d r1.1 r2.1 r3.1 r3.2).1 : Nat)) ∧ Ct W1 q (median ltInt d r1.1 r2.1 r3.1 r3.2).2 w'') := fun w' hk => HMD.out r3.2 w' _ _ _ hk b1.1 b2.1 b3.1 (by omega)
    generalize median ltInt d r1.1 r2.1 r3.1 r3.2 = r4 at *
    obtain ⟨rj, rs⟩ := r4
    clear h hO1 hC1 hD1 HMA HMD HDt b1 b2 b3 hW1 hq hL hu
    generalize d.size = N at *
    go_enter Tryz.func162, Tryz.ntmps162
    go_upto_region 3 with fail
    rw [← HW1.out, ← HQ.out]
    go_upto_region 12 with (first
      | (
         go_at_call 201; refine (K4.out).mono ?_; rintro e x4 ⟨rfl, h1⟩
         have HZ := hid h1
         clear K4 h1)
      | (
         go_at_call 200; refine (K3.out).mono ?_; rintro e x3 ⟨rfl, h1⟩
         have K4 := hid (HM4.out x3 h1)
         clear K3 h1 HM4)
      | (
         go_at_call 200; refine (K2.out).mono ?_; rintro e x2 ⟨rfl, h1⟩
         have K3 := hid (HM3.out x2 h1)
         clear K2 h1 HM3)
      | (
         go_at_call 200; refine (HM1.out).mono ?_; rintro e x1 ⟨rfl, h1⟩
         have K2 := hid (HM2.out x1 h1)
         clear HM1 h1 HM2))
    have hsw := HZ.out.ct.cell
    by_cases h0 : rs = 0
    · subst h0
      have hE : choosePivot ltInt d a b = (rj, .increasing) := by rw [HP.out]; rfl
      have HE := hid hE
      clear hE
      go_wp2
      go_ret2
      exact ⟨by rw [HE.out]; rfl, HF.out _ _ HZ.out⟩
    · have n0 : ((rs : Int) == 0) = false := by simp; omega
      by_cases h12 : rs = 12
      · subst h12
        have hE : choosePivot ltInt d a b = (rj, .decreasing) := by rw [HP.out]; rfl
        have HE := hid hE
        clear hE n0
        go_wp2
        go_ret2
        exact ⟨by rw [HE.out]; rfl, HF.out _ _ HZ.out⟩
      · have n12 : ((rs : Int) == 12) = false := by simp; omega
        have hE : choosePivot ltInt d a b = (rj, .unknown) := by rw [HP.out, if_neg h0, if_neg h12]
        have HE := hid hE
        clear hE
        go_wp2
        go_ret2
        exact ⟨by rw [HE.out]; rfl, HF.out _ _ HZ.out⟩
  · have hge : decide ((50 : Int) ≤ (L : Int)) = false := decide_eq_false (by omega)
    have HM4 : Hid (Calls Tryz.prog 201 #[.slice (some ⟨g, o, none⟩) d.size cap, .int .i64 ((a : Int) + (u : Int)), .int .i64 ((a : Int) + (u : Int) * 2), .int .i64 ((a : Int) + (u : Int) * 3), .pointer (some ⟨q, 0, none⟩)] W1 fun e w'' => e = .returned (.int .i64 ((median ltInt d (a + u) (a + u * 2) (a + u * 3) 0).1 : Nat)) ∧ Ct W1 q (median ltInt d (a + u) (a + u * 2) (a + u * 3) 0).2 w'') := HMD.out 0 W1 (a + u) (a + u * 2) (a + u * 3) HC0.out (by omega) (by omega) (by omega) (by omega)
    have HP : Hid (choosePivot ltInt d a b = ((median ltInt d (a + u) (a + u * 2) (a + u * 3) 0).1, if (median ltInt d (a + u) (a + u * 2) (a + u * 3) 0).2 = 0 then Hint.increasing else if (median ltInt d (a + u) (a + u * 2) (a + u * 3) 0).2 = 12 then Hint.decreasing else Hint.unknown)) := by
      show _ = _
      unfold choosePivot
      simp only [← hL, ← hu, Nat.mul_one, if_pos (show L ≥ 8 by omega), if_neg (show ¬ L ≥ 50 from h50)]
    generalize median ltInt d (a + u) (a + u * 2) (a + u * 3) 0 = r4 at *
    obtain ⟨rj, rs⟩ := r4
    clear h hO1 hC1 hD1 HMA HMD HDt hW1 hq hL hu
    generalize d.size = N at *
    go_enter Tryz.func162, Tryz.ntmps162
    go_upto_region 3 with fail
    rw [← HW1.out, ← HQ.out]
    go_upto_region 12 with (
         go_at_call 201; refine (HM4.out).mono ?_; rintro e x4 ⟨rfl, h1⟩
         have HZ := hid h1
         clear HM4 h1)
    have hsw := HZ.out.ct.cell
    by_cases h0 : rs = 0
    · subst h0
      have hE : choosePivot ltInt d a b = (rj, .increasing) := by rw [HP.out]; rfl
      have HE := hid hE
      clear hE
      go_wp2
      go_ret2
      exact ⟨by rw [HE.out]; rfl, HF.out _ _ HZ.out⟩
    · have n0 : ((rs : Int) == 0) = false := by simp; omega
      by_cases h12 : rs = 12
      · subst h12
        have hE : choosePivot ltInt d a b = (rj, .decreasing) := by rw [HP.out]; rfl
        have HE := hid hE
        clear hE n0
        go_wp2
        go_ret2
        exact ⟨by rw [HE.out]; rfl, HF.out _ _ HZ.out⟩
      · have n12 : ((rs : Int) == 12) = false := by simp; omega
        have hE : choosePivot ltInt d a b = (rj, .unknown) := by rw [HP.out, if_neg h0, if_neg h12]
        have HE := hid hE
        clear hE
        go_wp2
        go_ret2
        exact ⟨by rw [HE.out]; rfl, HF.out _ _ HZ.out⟩
end Go.Proofs.YtdehlnaoehjehaaGreatDoor
