/-
  Proved here: MatchTells's body returns true for every match and header; no old memory turns. Condition: the widths' table holds its eleven numbers.
-/
import Derived.Test.YtmonlbmjgjapoaaDoorE3
import Derived.Test.YtmonlbmjgjapoaaDoorM5
namespace Go.Proofs.YtmonlbmjgjapoaaDoor
open Go.RowKit

/-- What a call leaves of the law's own world. -/
def TS (w : World) (m h : Nat → Int) (w' : World) : Prop := Blk w' w.heap.size 22 26 m ∧ Blk w' (w.heap.size + 1) 11 24 h ∧ Inv w w'
theorem TS.on {w w' w2 : World} {m h : Nat → Int} (hS : TS w m h w') (hb : Below w'.heap.size w' w2) : TS w m h w2 := ⟨hS.1.on hb, hS.2.1.on hb, hS.2.2.on hb⟩
theorem TS.drew {w w' : World} {m h : Nat → Int} (hS : TS w m h w') : TS w m h w'.drew := ⟨hS.1.drew, hS.2.1.drew, hS.2.2.drew⟩
theorem TS.begin {w : World} (hw : Tab w) (m h : Nat → Int) : TS w m h (WH w m h) := ⟨WH.m w m h, WH.h w m h, WH.low w m h, hw.on (WH.low w m h)⟩
section
variable {w w' : World} {m h : Nat → Int}
theorem ts9 (hS : TS w m h w') : Calls Tryd.prog 9 #[mv m] w' fun e w2 => e = .returned (.int .i64 (chk m)) ∧ TS w m h w2 := by
  refine (check_any m w' hS.2.2.2).mono ?_
  rintro e w2 ⟨rfl, hb⟩
  exact ⟨rfl, hS.on hb⟩
theorem ts10 (hS : TS w m h w') : Calls Tryd.prog 10 #[mv m] w' fun e w2 => e = .returned (.int .i64 (chk m)) ∧ TS w m h w2 := by
  refine (rcheck_any m w').mono ?_
  rintro e w2 ⟨rfl, hb⟩
  exact ⟨rfl, hS.on hb⟩
theorem ts11 (hS : TS w m h w') : Calls Tryd.prog 11 #[mv m, hv h] w' fun e w2 => e = .returned (.bool (hit m h)) ∧ TS w m h w2 := by
  refine (hits_any m h w' hS.2.2.2).mono ?_
  rintro e w2 ⟨rfl, hb⟩
  exact ⟨rfl, hS.on hb⟩
theorem ts12 (hS : TS w m h w') : Calls Tryd.prog 12 #[mv m, hv h] w' fun e w2 => e = .returned (.bool (hit m h)) ∧ TS w m h w2 := by
  refine (rhits_any m h w').mono ?_
  rintro e w2 ⟨rfl, hb⟩
  exact ⟨rfl, hS.on hb⟩
theorem ts13 (hS : TS w m h w') : Calls Tryd.prog 13 #[] w' fun e w2 => e = .returned (.bool true) ∧ TS w m h w2 := by
  refine (wakes_any w' hS.2.2.2).mono ?_
  rintro e w2 ⟨rfl, hb⟩
  exact ⟨rfl, hS.on hb⟩
end

set_option maxHeartbeats 3200000 in
theorem tells_any (m h : Nat → Int) (w : World) (hw : Tab w) :
    Calls Tryd.prog 3 #[mv m, hv h] w fun e w' => e = .returned (.bool true) ∧ Below w.heap.size w w' := by
  have h0 : Hid (TS w m h (WH w m h)) := TS.begin hw m h
  clear hw
  go_enter Tryd.func3, Tryd.ntmps3
  go_wp2
  have hSM : ∀ w', TS w m h w' → Blk w' w.heap.size 22 26 m := fun _ hh => hh.1
  have hSH : ∀ w', TS w m h w' → Blk w' (w.heap.size + 1) 11 24 h := fun _ hh => hh.2.1
  refine wp_region_noPanic ?_
  refine wp_region_held_drew (S := fun w' => TS w m h w') (by kernel_rfl) h0.out.drew (fun hHeld => ?_)
  refine wpAnyH_take (i := 0) rfl (by kernel_rfl) (by kernel_rfl) (by kernel_rfl) (fun _ _ _ h => h) (y26 (.tmp 2) rfl _ rfl rfl m hSM) hHeld ?_
  simp only [Act.put, List.getElem_toArray, List.getElem_cons_zero, List.setIfInBounds_toArray, List.set_cons_zero, List.set_cons_succ]
  refine wpAnyH_take (i := 2) rfl (by kernel_rfl) (by kernel_rfl) (by kernel_rfl) (fun _ _ _ h => h) (y26 (.tmp 2) rfl _ rfl rfl m hSM) hHeld ?_
  simp only [Act.put, List.getElem_toArray, List.getElem_cons_succ, List.getElem_cons_zero, List.setIfInBounds_toArray, List.set_cons_zero, List.set_cons_succ]
  refine wpAnyH_ready (rs := [1]) (by kernel_rfl) (by simp) ?_
  refine AllReadyH.cons rfl (fun K hK => ?_) AllReadyH.nil
  go_simp
  refine (ts9 hHeld).mono ?_
  rintro e w2 ⟨rfl, hS2⟩
  go_simp
  refine hK.out _ _ hS2 (fun hHeld => ?_)
  clear hK K
  refine wpAnyH_ready (rs := [3]) (by kernel_rfl) (by simp) ?_
  refine AllReadyH.cons rfl (fun K hK => ?_) AllReadyH.nil
  go_simp
  refine (ts10 hHeld).mono ?_
  rintro e w2 ⟨rfl, hS2⟩
  go_simp
  refine hK.out _ _ hS2 (fun hHeld => ?_)
  clear hK K
  refine wpAnyH_take (i := 4) (v := ?_) rfl (by kernel_rfl) (by kernel_rfl) (by kernel_rfl) (fun _ _ _ h => h) (Or.inl ⟨by rfl, ?_⟩) hHeld ?_
  rotate_left
  · intro w hSw
    go_simp
    first | done | with_reducible rfl
  simp only [Act.put, List.getElem_toArray, List.getElem_cons_succ, List.getElem_cons_zero, List.setIfInBounds_toArray, List.set_cons_zero, List.set_cons_succ]
  refine wpAnyH_take (i := 5) (v := ?_) rfl (by kernel_rfl) (by kernel_rfl) (by kernel_rfl) (fun _ _ _ h => h) (Or.inl ⟨by rfl, ?_⟩) hHeld ?_
  rotate_left
  · intro w hSw
    go_simp
    first | done | with_reducible rfl
  simp only [Act.put, List.getElem_toArray, List.getElem_cons_succ, List.getElem_cons_zero, List.setIfInBounds_toArray, List.set_cons_zero, List.set_cons_succ]
  refine wpAnyH_take (i := 6) rfl (by kernel_rfl) (by kernel_rfl) (by kernel_rfl) (fun _ _ _ h => h) (y26 (.tmp 2) rfl _ rfl rfl m hSM) hHeld ?_
  simp only [Act.put, List.getElem_toArray, List.getElem_cons_succ, List.getElem_cons_zero, List.setIfInBounds_toArray, List.set_cons_zero, List.set_cons_succ]
  refine wpAnyH_take (i := 7) rfl (by kernel_rfl) (by kernel_rfl) (by kernel_rfl) (fun _ _ _ h => h) (y24 (.tmp 3) rfl _ rfl rfl h hSH) hHeld ?_
  simp only [Act.put, List.getElem_toArray, List.getElem_cons_succ, List.getElem_cons_zero, List.setIfInBounds_toArray, List.set_cons_zero, List.set_cons_succ]
  refine wpAnyH_take (i := 9) rfl (by kernel_rfl) (by kernel_rfl) (by kernel_rfl) (fun _ _ _ h => h) (y26 (.tmp 2) rfl _ rfl rfl m hSM) hHeld ?_
  simp only [Act.put, List.getElem_toArray, List.getElem_cons_succ, List.getElem_cons_zero, List.setIfInBounds_toArray, List.set_cons_zero, List.set_cons_succ]
  refine wpAnyH_take (i := 10) rfl (by kernel_rfl) (by kernel_rfl) (by kernel_rfl) (fun _ _ _ h => h) (y24 (.tmp 3) rfl _ rfl rfl h hSH) hHeld ?_
  simp only [Act.put, List.getElem_toArray, List.getElem_cons_succ, List.getElem_cons_zero, List.setIfInBounds_toArray, List.set_cons_zero, List.set_cons_succ]
  refine wpAnyH_ready (rs := [8]) (by kernel_rfl) (by simp) ?_
  refine AllReadyH.cons rfl (fun K hK => ?_) AllReadyH.nil
  go_simp
  refine (ts11 hHeld).mono ?_
  rintro e w2 ⟨rfl, hS2⟩
  go_simp
  refine hK.out _ _ hS2 (fun hHeld => ?_)
  clear hK K
  refine wpAnyH_ready (rs := [11]) (by kernel_rfl) (by simp) ?_
  refine AllReadyH.cons rfl (fun K hK => ?_) AllReadyH.nil
  go_simp
  refine (ts12 hHeld).mono ?_
  rintro e w2 ⟨rfl, hS2⟩
  go_simp
  refine hK.out _ _ hS2 (fun hHeld => ?_)
  clear hK K
  refine wpAnyH_take (i := 12) (v := ?_) rfl (by kernel_rfl) (by kernel_rfl) (by kernel_rfl) (fun _ _ _ h => h) (Or.inl ⟨by rfl, ?_⟩) hHeld ?_
  rotate_left
  · intro w hSw
    go_simp
    first | done | with_reducible rfl
  simp only [Act.put, List.getElem_toArray, List.getElem_cons_succ, List.getElem_cons_zero, List.setIfInBounds_toArray, List.set_cons_zero, List.set_cons_succ]
  refine wpAnyH_take (i := 13) (v := ?_) rfl (by kernel_rfl) (by kernel_rfl) (by kernel_rfl) (fun _ _ _ h => h) (Or.inl ⟨by rfl, ?_⟩) hHeld ?_
  rotate_left
  · intro w hSw
    go_simp
    first | done | with_reducible rfl
  simp only [Act.put, List.getElem_toArray, List.getElem_cons_succ, List.getElem_cons_zero, List.setIfInBounds_toArray, List.set_cons_zero, List.set_cons_succ]
  refine wpAnyH_take (i := 14) (v := ?_) rfl (by kernel_rfl) (by kernel_rfl) (by kernel_rfl) (fun _ _ _ h => h) (Or.inl ⟨by rfl, ?_⟩) hHeld ?_
  rotate_left
  · intro w hSw
    go_simp
    first | done | with_reducible rfl
  simp only [Act.put, List.getElem_toArray, List.getElem_cons_succ, List.getElem_cons_zero, List.setIfInBounds_toArray, List.set_cons_zero, List.set_cons_succ]
  refine wpAnyH_ready (rs := [15]) (by kernel_rfl) (by simp) ?_
  refine AllReadyH.cons rfl (fun K hK => ?_) AllReadyH.nil
  go_simp
  refine (ts13 hHeld).mono ?_
  rintro e w2 ⟨rfl, hS2⟩
  go_simp
  refine hK.out _ _ hS2 (fun hHeld => ?_)
  clear hK K
  refine wpAnyH_take (i := 16) (v := ?_) rfl (by kernel_rfl) (by kernel_rfl) (by kernel_rfl) (fun _ _ _ h => h) (Or.inl ⟨by rfl, ?_⟩) hHeld ?_
  rotate_left
  · intro w hSw
    go_simp
    first | done | with_reducible rfl
  simp only [Act.put, List.getElem_toArray, List.getElem_cons_succ, List.getElem_cons_zero, List.setIfInBounds_toArray, List.set_cons_zero, List.set_cons_succ]
  refine wpAnyH_take (i := 17) (v := ?_) rfl (by kernel_rfl) (by kernel_rfl) (by kernel_rfl) (fun _ _ _ h => h) (Or.inl ⟨by rfl, ?_⟩) hHeld ?_
  rotate_left
  · intro w hSw
    go_simp
    first | done | with_reducible rfl
  simp only [Act.put, List.getElem_toArray, List.getElem_cons_succ, List.getElem_cons_zero, List.setIfInBounds_toArray, List.set_cons_zero, List.set_cons_succ]
  refine wpAnyH_done (by kernel_rfl) ?_ _
  refine NoPanic.normal ?_
  have hfin := hHeld.2.2.1
  go_wp2
  go_ret
  exact ⟨rfl, hfin⟩
end Go.Proofs.YtmonlbmjgjapoaaDoor
