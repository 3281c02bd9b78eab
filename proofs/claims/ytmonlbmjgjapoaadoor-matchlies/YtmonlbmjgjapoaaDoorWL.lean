/-
  Proved here: MatchLies's body returns true for every two matches; no old memory turns. Condition: the widths' table holds its eleven numbers.
-/
import Derived.Test.YtmonlbmjgjapoaaDoorE3
import Derived.Test.YtmonlbmjgjapoaaDoorM9
import Derived.Test.YtmonlbmjgjapoaaDoorX1
namespace Go.Proofs.YtmonlbmjgjapoaaDoor
open Go.RowKit

/-- What a call leaves of the law's own world. -/
def LS (w : World) (B1 B2 : Nat) (a b M : Nat → Int) (w' : World) : Prop := Blk w' w.heap.size 22 26 a ∧ Blk w' (w.heap.size + 1) 22 26 b ∧ Blk w' B1 22 26 M ∧ Blk w' B2 22 26 M ∧ Inv w w'
theorem LS.on {w w' w2 : World} {B1 B2 : Nat} {a b M : Nat → Int} (hS : LS w B1 B2 a b M w') (hb : Below w'.heap.size w' w2) : LS w B1 B2 a b M w2 := ⟨hS.1.on hb, hS.2.1.on hb, hS.2.2.1.on hb, hS.2.2.2.1.on hb, hS.2.2.2.2.on hb⟩
theorem LS.drew {w w' : World} {B1 B2 : Nat} {a b M : Nat → Int} (hS : LS w B1 B2 a b M w') : LS w B1 B2 a b M w'.drew := ⟨hS.1.drew, hS.2.1.drew, hS.2.2.1.drew, hS.2.2.2.1.drew, hS.2.2.2.2.drew⟩
section
variable {w w' : World} {B1 B2 : Nat} {a b M : Nat → Int}
theorem ls16 (c : Bool) (hc : mtOk a b = c) (hS : LS w B1 B2 a b M w') : Calls Tryd.prog 16 #[mv a, mv b] w' fun e w2 => e = .returned (.bool c) ∧ LS w B1 B2 a b M w2 := by
  refine (touch_any a b w' hS.2.2.2.2.2).mono ?_
  rintro e w2 ⟨rfl, hb⟩
  exact ⟨by rw [hc], hS.on hb⟩
theorem ls17 (c : Bool) (hc : mtOk a b = c) (hS : LS w B1 B2 a b M w') : Calls Tryd.prog 17 #[mv a, mv b] w' fun e w2 => e = .returned (.bool c) ∧ LS w B1 B2 a b M w2 := by
  refine (rtouch_any a b w').mono ?_
  rintro e w2 ⟨rfl, hb⟩
  exact ⟨by rw [rmtOk_eq, hc], hS.on hb⟩
theorem ls18 (c : Bool) (hc : und a b = c) (hS : LS w B1 B2 a b M w') : Calls Tryd.prog 18 #[mv a, mv b] w' fun e w2 => e = .returned (.bool c) ∧ LS w B1 B2 a b M w2 := by
  refine (under_any a b w' hS.2.2.2.2.2).mono ?_
  rintro e w2 ⟨rfl, hb⟩
  exact ⟨by rw [hc], hS.on hb⟩
theorem ls19 (c : Bool) (hc : und a b = c) (hS : LS w B1 B2 a b M w') : Calls Tryd.prog 19 #[mv a, mv b] w' fun e w2 => e = .returned (.bool c) ∧ LS w B1 B2 a b M w2 := by
  refine (runder_any a b w').mono ?_
  rintro e w2 ⟨rfl, hb⟩
  exact ⟨by rw [hc], hS.on hb⟩
theorem ls13 (hS : LS w B1 B2 a b M w') : Calls Tryd.prog 13 #[] w' fun e w2 => e = .returned (.bool true) ∧ LS w B1 B2 a b M w2 := by
  refine (wakes_any w' hS.2.2.2.2.2).mono ?_
  rintro e w2 ⟨rfl, hb⟩
  exact ⟨rfl, hS.on hb⟩
end

set_option maxHeartbeats 6400000 in
theorem lies_any (a b : Nat → Int) (w : World) (hw : Tab w) :
    Calls Tryd.prog 4 #[mv a, mv b] w fun e w' => e = .returned (.bool true) ∧ Below w.heap.size w w' := by
  have hA0 := W2.a w a b
  have hB0 := W2.b w a b
  have I0 : Hid (Inv w (W2 w a b)) := ⟨W2.low w a b, hw.on (W2.low w a b)⟩
  obtain ⟨M, hM⟩ : ∃ M, mt a b = M := ⟨_, rfl⟩
  obtain ⟨c, hc⟩ : ∃ c, mtOk a b = c := ⟨_, rfl⟩
  obtain ⟨u, hu⟩ : ∃ u, und a b = u := ⟨_, rfl⟩
  have HM : Hid (mt a b = M) := hM
  have HC : Hid (mtOk a b = c) := hc
  have HU : Hid (und a b = u) := hu
  clear hw hM hc hu
  go_enter Tryd.func4, Tryd.ntmps4
  go_wp2_with (first | (refine ld26 (.tmp 2) rfl _ rfl rfl a hA0 ?_) | (refine ld26 (.tmp 3) rfl _ rfl rfl b hB0 ?_))
  go_fit (meet_any a b _ I0.out.2)
  rw [HM.out, HC.out]
  rintro e w1 ⟨rfl, hb1⟩
  have I1 : Hid (Inv w (w1.alloc (.cells (row 22 M) 26))) := (I0.out.on hb1).alloc _
  have hA1 := (hA0.on hb1).alloc (.cells (row 22 M) 26)
  have hB1 := (hB0.on hb1).alloc (.cells (row 22 M) 26)
  have hM1 : Hid (Blk (w1.alloc (.cells (row 22 M) 26)) w1.heap.size 22 26 M) := Blk.new w1 22 26 M
  clear hA0 hB0 I0 hb1
  go_wp2_with (first | (refine alc26 rfl rfl ?_) | (refine st26n (.tmp 5) (.tmp 13) rfl w1 zf (by with_reducible rfl) rfl M rfl rfl ?_) | (refine ld26 (.tmp 2) rfl _ rfl rfl a hA1 ?_) | (refine ld26 (.tmp 3) rfl _ rfl rfl b hB1 ?_))
  go_fit (rmeet_any a b _)
  rw [rmt_eq, rmtOk_eq, HM.out, HC.out]
  rintro e w2 ⟨rfl, hb2⟩
  have h0 : Hid (LS w w1.heap.size w2.heap.size a b M (w2.alloc (.cells (row 22 M) 26))) := ⟨(hA1.on hb2).alloc _, (hB1.on hb2).alloc _, (hM1.out.on hb2).alloc _, Blk.new w2 22 26 M, (I1.out.on hb2).alloc _⟩
  clear hA1 hB1 hM1 I1 hb2 HM
  go_wp2_with (first | (refine alc26 rfl rfl ?_) | (refine st26n (.tmp 7) (.tmp 19) rfl w2 zf (by with_reducible rfl) rfl M rfl rfl ?_))
  have hSA : ∀ w', LS w w1.heap.size w2.heap.size a b M w' → Blk w' w.heap.size 22 26 a := fun _ hh => hh.1
  have hSB : ∀ w', LS w w1.heap.size w2.heap.size a b M w' → Blk w' (w.heap.size + 1) 22 26 b := fun _ hh => hh.2.1
  have hSX : ∀ w', LS w w1.heap.size w2.heap.size a b M w' → Blk w' w1.heap.size 22 26 M := fun _ hh => hh.2.2.1
  have hSY : ∀ w', LS w w1.heap.size w2.heap.size a b M w' → Blk w' w2.heap.size 22 26 M := fun _ hh => hh.2.2.2.1
  refine wp_region_noPanic ?_
  refine wp_region_held_drew (S := fun w' => LS w w1.heap.size w2.heap.size a b M w') (by kernel_rfl) h0.out.drew (fun hHeld => ?_)
  refine wpAnyH_take (i := 0) (v := ?_) rfl (by kernel_rfl) (by kernel_rfl) (by kernel_rfl) (fun _ _ _ h => h) (Or.inl ⟨by rfl, ?_⟩) hHeld ?_
  rotate_left
  · intro w hSw
    go_simp
    first | done | with_reducible rfl
  simp only [Act.put, List.getElem_toArray, List.getElem_cons_zero, List.setIfInBounds_toArray, List.set_cons_zero, List.set_cons_succ]
  refine wpAnyH_take (i := 1) (v := ?_) rfl (by kernel_rfl) (by kernel_rfl) (by kernel_rfl) (fun _ _ _ h => h) (Or.inl ⟨by rfl, ?_⟩) hHeld ?_
  rotate_left
  · intro w hSw
    go_simp
    first | done | with_reducible rfl
  simp only [Act.put, List.getElem_toArray, List.getElem_cons_succ, List.getElem_cons_zero, List.setIfInBounds_toArray, List.set_cons_zero, List.set_cons_succ]
  refine wpAnyH_take (i := 2) (v := ?_) rfl (by kernel_rfl) (by kernel_rfl) (by kernel_rfl) (fun _ _ _ h => h) (Or.inl ⟨by rfl, ?_⟩) hHeld ?_
  rotate_left
  · intro w hSw
    go_simp
    first | done | with_reducible rfl
  simp only [Act.put, List.getElem_toArray, List.getElem_cons_succ, List.getElem_cons_zero, List.setIfInBounds_toArray, List.set_cons_zero, List.set_cons_succ]
  refine wpAnyH_take (i := 3) (v := ?_) rfl (by kernel_rfl) (by kernel_rfl) (by kernel_rfl) (fun _ _ _ h => h) (Or.inl ⟨by rfl, ?_⟩) hHeld ?_
  rotate_left
  · intro w hSw
    go_simp
    first | done | with_reducible rfl
  simp only [Act.put, List.getElem_toArray, List.getElem_cons_succ, List.getElem_cons_zero, List.setIfInBounds_toArray, List.set_cons_zero, List.set_cons_succ]
  refine wpAnyH_take (i := 4) rfl (by kernel_rfl) (by kernel_rfl) (by kernel_rfl) (fun _ _ _ h => h) (y26 (.tmp 5) rfl _ rfl rfl M hSX) hHeld ?_
  simp only [Act.put, List.getElem_toArray, List.getElem_cons_succ, List.getElem_cons_zero, List.setIfInBounds_toArray, List.set_cons_zero, List.set_cons_succ]
  refine wpAnyH_take (i := 5) rfl (by kernel_rfl) (by kernel_rfl) (by kernel_rfl) (fun _ _ _ h => h) (y26 (.tmp 7) rfl _ rfl rfl M hSY) hHeld ?_
  simp only [Act.put, List.getElem_toArray, List.getElem_cons_succ, List.getElem_cons_zero, List.setIfInBounds_toArray, List.set_cons_zero, List.set_cons_succ]
  refine wpAnyH_take (i := 6) rfl (by kernel_rfl) (by kernel_rfl) (by kernel_rfl) (fun _ _ _ h => h) (yEql (.tmp 25) (.tmp 26) rfl M M rfl rfl rfl true (eqM_refl M)) hHeld ?_
  simp only [Act.put, List.getElem_toArray, List.getElem_cons_succ, List.getElem_cons_zero, List.setIfInBounds_toArray, List.set_cons_zero, List.set_cons_succ]
  refine wpAnyH_take (i := 7) (v := ?_) rfl (by kernel_rfl) (by kernel_rfl) (by kernel_rfl) (fun _ _ _ h => h) (Or.inl ⟨by rfl, ?_⟩) hHeld ?_
  rotate_left
  · intro w hSw
    go_simp
    first | done | with_reducible rfl
  simp only [Act.put, List.getElem_toArray, List.getElem_cons_succ, List.getElem_cons_zero, List.setIfInBounds_toArray, List.set_cons_zero, List.set_cons_succ]
  refine wpAnyH_take (i := 8) (v := ?_) rfl (by kernel_rfl) (by kernel_rfl) (by kernel_rfl) (fun _ _ _ h => h) (Or.inl ⟨by rfl, ?_⟩) hHeld ?_
  rotate_left
  · intro w hSw
    go_simp
    first | done | with_reducible rfl
  simp only [Act.put, List.getElem_toArray, List.getElem_cons_succ, List.getElem_cons_zero, List.setIfInBounds_toArray, List.set_cons_zero, List.set_cons_succ]
  refine wpAnyH_take (i := 9) rfl (by kernel_rfl) (by kernel_rfl) (by kernel_rfl) (fun _ _ _ h => h) (y26 (.tmp 2) rfl _ rfl rfl a hSA) hHeld ?_
  simp only [Act.put, List.getElem_toArray, List.getElem_cons_succ, List.getElem_cons_zero, List.setIfInBounds_toArray, List.set_cons_zero, List.set_cons_succ]
  refine wpAnyH_take (i := 10) rfl (by kernel_rfl) (by kernel_rfl) (by kernel_rfl) (fun _ _ _ h => h) (y26 (.tmp 3) rfl _ rfl rfl b hSB) hHeld ?_
  simp only [Act.put, List.getElem_toArray, List.getElem_cons_succ, List.getElem_cons_zero, List.setIfInBounds_toArray, List.set_cons_zero, List.set_cons_succ]
  refine wpAnyH_take (i := 12) rfl (by kernel_rfl) (by kernel_rfl) (by kernel_rfl) (fun _ _ _ h => h) (y26 (.tmp 2) rfl _ rfl rfl a hSA) hHeld ?_
  simp only [Act.put, List.getElem_toArray, List.getElem_cons_succ, List.getElem_cons_zero, List.setIfInBounds_toArray, List.set_cons_zero, List.set_cons_succ]
  refine wpAnyH_take (i := 13) rfl (by kernel_rfl) (by kernel_rfl) (by kernel_rfl) (fun _ _ _ h => h) (y26 (.tmp 3) rfl _ rfl rfl b hSB) hHeld ?_
  simp only [Act.put, List.getElem_toArray, List.getElem_cons_succ, List.getElem_cons_zero, List.setIfInBounds_toArray, List.set_cons_zero, List.set_cons_succ]
  refine wpAnyH_ready (rs := [11]) (by kernel_rfl) (by simp) ?_
  refine AllReadyH.cons rfl (fun K hK => ?_) AllReadyH.nil
  go_simp
  refine (ls16 c HC.out hHeld).mono ?_
  rintro e w2 ⟨rfl, hS2⟩
  go_simp
  refine hK.out _ _ hS2 (fun hHeld => ?_)
  clear hK K
  refine wpAnyH_ready (rs := [14]) (by kernel_rfl) (by simp) ?_
  refine AllReadyH.cons rfl (fun K hK => ?_) AllReadyH.nil
  go_simp
  refine (ls17 c HC.out hHeld).mono ?_
  rintro e w2 ⟨rfl, hS2⟩
  go_simp
  refine hK.out _ _ hS2 (fun hHeld => ?_)
  clear hK K
  refine wpAnyH_take (i := 15) (v := ?_) rfl (by kernel_rfl) (by kernel_rfl) (by kernel_rfl) (fun _ _ _ h => h) (Or.inl ⟨by rfl, ?_⟩) hHeld ?_
  rotate_left
  · intro w hSw
    go_simp
    first | done | with_reducible rfl
  simp only [Act.put, List.getElem_toArray, List.getElem_cons_succ, List.getElem_cons_zero, List.setIfInBounds_toArray, List.set_cons_zero, List.set_cons_succ]
  refine wpAnyH_take (i := 16) (v := ?_) rfl (by kernel_rfl) (by kernel_rfl) (by kernel_rfl) (fun _ _ _ h => h) (Or.inl ⟨by rfl, ?_⟩) hHeld ?_
  rotate_left
  · intro w hSw
    go_simp
    first | done | with_reducible rfl
  simp only [Act.put, List.getElem_toArray, List.getElem_cons_succ, List.getElem_cons_zero, List.setIfInBounds_toArray, List.set_cons_zero, List.set_cons_succ]
  refine wpAnyH_take (i := 17) (v := ?_) rfl (by kernel_rfl) (by kernel_rfl) (by kernel_rfl) (fun _ _ _ h => h) (Or.inl ⟨by rfl, ?_⟩) hHeld ?_
  rotate_left
  · intro w hSw
    go_simp
    first | done | with_reducible rfl
  simp only [Act.put, List.getElem_toArray, List.getElem_cons_succ, List.getElem_cons_zero, List.setIfInBounds_toArray, List.set_cons_zero, List.set_cons_succ]
  refine wpAnyH_take (i := 18) rfl (by kernel_rfl) (by kernel_rfl) (by kernel_rfl) (fun _ _ _ h => h) (y26 (.tmp 2) rfl _ rfl rfl a hSA) hHeld ?_
  simp only [Act.put, List.getElem_toArray, List.getElem_cons_succ, List.getElem_cons_zero, List.setIfInBounds_toArray, List.set_cons_zero, List.set_cons_succ]
  refine wpAnyH_take (i := 19) rfl (by kernel_rfl) (by kernel_rfl) (by kernel_rfl) (fun _ _ _ h => h) (y26 (.tmp 3) rfl _ rfl rfl b hSB) hHeld ?_
  simp only [Act.put, List.getElem_toArray, List.getElem_cons_succ, List.getElem_cons_zero, List.setIfInBounds_toArray, List.set_cons_zero, List.set_cons_succ]
  refine wpAnyH_take (i := 21) rfl (by kernel_rfl) (by kernel_rfl) (by kernel_rfl) (fun _ _ _ h => h) (y26 (.tmp 2) rfl _ rfl rfl a hSA) hHeld ?_
  simp only [Act.put, List.getElem_toArray, List.getElem_cons_succ, List.getElem_cons_zero, List.setIfInBounds_toArray, List.set_cons_zero, List.set_cons_succ]
  refine wpAnyH_take (i := 22) rfl (by kernel_rfl) (by kernel_rfl) (by kernel_rfl) (fun _ _ _ h => h) (y26 (.tmp 3) rfl _ rfl rfl b hSB) hHeld ?_
  simp only [Act.put, List.getElem_toArray, List.getElem_cons_succ, List.getElem_cons_zero, List.setIfInBounds_toArray, List.set_cons_zero, List.set_cons_succ]
  refine wpAnyH_ready (rs := [20]) (by kernel_rfl) (by simp) ?_
  refine AllReadyH.cons rfl (fun K hK => ?_) AllReadyH.nil
  go_simp
  refine (ls18 u HU.out hHeld).mono ?_
  rintro e w2 ⟨rfl, hS2⟩
  go_simp
  refine hK.out _ _ hS2 (fun hHeld => ?_)
  clear hK K
  refine wpAnyH_ready (rs := [23]) (by kernel_rfl) (by simp) ?_
  refine AllReadyH.cons rfl (fun K hK => ?_) AllReadyH.nil
  go_simp
  refine (ls19 u HU.out hHeld).mono ?_
  rintro e w2 ⟨rfl, hS2⟩
  go_simp
  refine hK.out _ _ hS2 (fun hHeld => ?_)
  clear hK K
  refine wpAnyH_take (i := 24) (v := ?_) rfl (by kernel_rfl) (by kernel_rfl) (by kernel_rfl) (fun _ _ _ h => h) (Or.inl ⟨by rfl, ?_⟩) hHeld ?_
  rotate_left
  · intro w hSw
    go_simp
    first | done | with_reducible rfl
  simp only [Act.put, List.getElem_toArray, List.getElem_cons_succ, List.getElem_cons_zero, List.setIfInBounds_toArray, List.set_cons_zero, List.set_cons_succ]
  refine wpAnyH_take (i := 25) (v := ?_) rfl (by kernel_rfl) (by kernel_rfl) (by kernel_rfl) (fun _ _ _ h => h) (Or.inl ⟨by rfl, ?_⟩) hHeld ?_
  rotate_left
  · intro w hSw
    go_simp
    first | done | with_reducible rfl
  simp only [Act.put, List.getElem_toArray, List.getElem_cons_succ, List.getElem_cons_zero, List.setIfInBounds_toArray, List.set_cons_zero, List.set_cons_succ]
  refine wpAnyH_take (i := 26) (v := ?_) rfl (by kernel_rfl) (by kernel_rfl) (by kernel_rfl) (fun _ _ _ h => h) (Or.inl ⟨by rfl, ?_⟩) hHeld ?_
  rotate_left
  · intro w hSw
    go_simp
    first | done | with_reducible rfl
  simp only [Act.put, List.getElem_toArray, List.getElem_cons_succ, List.getElem_cons_zero, List.setIfInBounds_toArray, List.set_cons_zero, List.set_cons_succ]
  refine wpAnyH_ready (rs := [27]) (by kernel_rfl) (by simp) ?_
  refine AllReadyH.cons rfl (fun K hK => ?_) AllReadyH.nil
  go_simp
  refine (ls13 hHeld).mono ?_
  rintro e w2 ⟨rfl, hS2⟩
  go_simp
  refine hK.out _ _ hS2 (fun hHeld => ?_)
  clear hK K
  refine wpAnyH_take (i := 28) (v := ?_) rfl (by kernel_rfl) (by kernel_rfl) (by kernel_rfl) (fun _ _ _ h => h) (Or.inl ⟨by rfl, ?_⟩) hHeld ?_
  rotate_left
  · intro w hSw
    go_simp
    first | done | with_reducible rfl
  simp only [Act.put, List.getElem_toArray, List.getElem_cons_succ, List.getElem_cons_zero, List.setIfInBounds_toArray, List.set_cons_zero, List.set_cons_succ]
  refine wpAnyH_take (i := 29) (v := ?_) rfl (by kernel_rfl) (by kernel_rfl) (by kernel_rfl) (fun _ _ _ h => h) (Or.inl ⟨by rfl, ?_⟩) hHeld ?_
  rotate_left
  · intro w hSw
    go_simp
    first | done | with_reducible rfl
  simp only [Act.put, List.getElem_toArray, List.getElem_cons_succ, List.getElem_cons_zero, List.setIfInBounds_toArray, List.set_cons_zero, List.set_cons_succ]
  refine wpAnyH_done (by kernel_rfl) ?_ _
  refine NoPanic.normal ?_
  have hfin := hHeld.2.2.2.2.1
  go_wp2
  go_ret
  exact ⟨rfl, hfin⟩
end Go.Proofs.YtmonlbmjgjapoaaDoor
