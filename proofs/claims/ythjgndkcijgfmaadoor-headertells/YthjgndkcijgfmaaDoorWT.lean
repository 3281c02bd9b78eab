/-
  Proved here: HeaderTells's body returns true for every header of numbers below 2 to 64 and every field number; no old memory turns. Condition: the three tables hold what they should.
-/
import Derived.Test.YthjgndkcijgfmaaDoorR7
import Derived.Deep.RegionHeld3
import Derived.Deep.MidRow
namespace Go.Proofs.YthjgndkcijgfmaaDoor
open Go.RowKit

abbrev hL (h : Nat → Int) : List Value := [.int .u64 (h 0), .int .u64 (h 1), .int .u64 (h 2), .int .u64 (h 3), .int .u64 (h 4), .int .u64 (h 5), .int .u64 (h 6), .int .u64 (h 7), .int .u64 (h 8), .int .u64 (h 9), .int .u64 (h 10)]
/-- The call's own world w' over w: nothing old has turned, and the tables hold. -/
def Inv (w w' : World) : Prop := Below w.heap.size w w' ∧ Tabs w'
theorem Inv.drew {w w' : World} (h : Inv w w') : Inv w w'.drew := ⟨h.1.drew, h.2.on (Below.refl _ _).drew⟩
theorem Inv.on {w w' w2 : World} (h : Inv w w') (hb : Below w'.heap.size w' w2) : Inv w w2 := ⟨h.1.trans (hb.mono h.1.size), h.2.on hb⟩
theorem range_on {w' w2 : World} {b : Nat} {cs : List Value} (h : w'.rangeAt b 0 cs) (hb : Below w'.heap.size w' w2) : w2.rangeAt b 0 cs := fun j v hj => by
  have := h j v hj
  rw [hb.cell (p := ⟨b, 0 + j, none⟩) (lt_of_cell this)]; exact this

section
variable {h : Nat → Int} {w w' : World} {b : Nat} {cs : List Value}
theorem keep8 (hS : w'.rangeAt b 0 cs ∧ Inv w w') : Calls Tryd.prog 8 #[hv h] w' fun e w2 => e = .returned (.int .i64 (chk h)) ∧ w2.rangeAt b 0 cs ∧ Inv w w2 := by
  refine (check_any h w' hS.2.2.wid).mono ?_
  rintro e w2 ⟨rfl, hb⟩
  exact ⟨rfl, range_on hS.1 hb, hS.2.on hb⟩
theorem keep9 (hS : w'.rangeAt b 0 cs ∧ Inv w w') : Calls Tryd.prog 9 #[hv h] w' fun e w2 => e = .returned (.int .i64 (chk h)) ∧ w2.rangeAt b 0 cs ∧ Inv w w2 := by
  refine (rcheck_any h w').mono ?_
  rintro e w2 ⟨rfl, hb⟩
  exact ⟨by unfold rchk chk; rw [rOk_eq], range_on hS.1 hb, hS.2.on hb⟩
theorem keep10 (T : ByteArray) (hT : (⟨(txtOf h).toArray⟩ : ByteArray) = T) (hbd : ∀ k, 0 ≤ h k ∧ h k < 18446744073709551616) (hS : w'.rangeAt b 0 cs ∧ Inv w w') : Calls Tryd.prog 10 #[hv h] w' fun e w2 => e = .returned (.string T) ∧ w2.rangeAt b 0 cs ∧ Inv w w2 := by
  refine (text_any h hbd w' hS.2.2).mono ?_
  rintro e w2 ⟨rfl, hb⟩
  exact ⟨by rw [hT], range_on hS.1 hb, hS.2.on hb⟩
theorem keep11 (T : ByteArray) (hT : (⟨(txtOf h).toArray⟩ : ByteArray) = T) (hbd : ∀ k, 0 ≤ h k ∧ h k < 18446744073709551616) (hS : w'.rangeAt b 0 cs ∧ Inv w w') : Calls Tryd.prog 11 #[hv h] w' fun e w2 => e = .returned (.string T) ∧ w2.rangeAt b 0 cs ∧ Inv w w2 := by
  have c : Calls Tryd.prog 11 #[hv h] w' fun e w2 => e = .returned (.string ⟨(txtOf h).toArray⟩) ∧ Below w'.heap.size w' w2 := by
    unfold txtOf
    cases hk : hOk h
    · exact rtext_bad h w' (by rw [rOk_eq]; exact hk)
    · exact rtext_ok h hbd w' (by rw [rOk_eq]; exact hk)
  refine c.mono ?_
  rintro e w2 ⟨rfl, hb⟩
  exact ⟨by rw [hT], range_on hS.1 hb, hS.2.on hb⟩
theorem keep12 (f : Int) (hS : w'.rangeAt b 0 cs ∧ Inv w w') : Calls Tryd.prog 12 #[.int .i8 f] w' fun e w2 => e = .returned (.int .i64 (widV f)) ∧ w2.rangeAt b 0 cs ∧ Inv w w2 := by
  refine (width_any f w' hS.2.2.wid).mono ?_
  rintro e w2 ⟨rfl, rfl⟩
  exact ⟨rfl, hS.1, hS.2⟩
theorem keep13 (f : Int) (hS : w'.rangeAt b 0 cs ∧ Inv w w') : Calls Tryd.prog 13 #[.int .i8 f] w' fun e w2 => e = .returned (.int .i64 (widV f)) ∧ w2.rangeAt b 0 cs ∧ Inv w w2 := by
  refine (rwidth_any f w').mono ?_
  rintro e w2 ⟨rfl, rfl⟩
  exact ⟨rfl, hS.1, hS.2⟩
theorem keep14 (hS : w'.rangeAt b 0 cs ∧ Inv w w') : Calls Tryd.prog 14 #[] w' fun e w2 => e = .returned (.bool true) ∧ w2.rangeAt b 0 cs ∧ Inv w w2 := by
  refine (wakes_any w' hS.2.2).mono ?_
  rintro e w2 ⟨rfl, hb⟩
  exact ⟨rfl, range_on hS.1 hb, hS.2.on hb⟩
end

set_option maxHeartbeats 3200000 in
theorem tells_any (h : Nat → Int) (hbd : ∀ k, 0 ≤ h k ∧ h k < 18446744073709551616) (f : Int) (w : World) (hT : Tabs w) :
    Calls Tryd.prog 3 #[hv h, .int .i8 f] w fun e w' => e = .returned (.bool true) ∧ Below w.heap.size w w' := by
  have hl : Below w.heap.size w (w.alloc (.cells (hcs h) 24)) := (Below.refl _ _).alloc (Nat.le_refl _) _
  have hI : Inv w (w.alloc (.cells (hcs h) 24)) := ⟨hl, hT.on hl⟩
  have hR : (w.alloc (.cells (hcs h) 24)).rangeAt w.heap.size 0 (hL h) := by
    have := World.rangeAt_of_block (heap_alloc_new w (.cells (hcs h) 24)) 0 11
    exact this
  obtain ⟨T, HTX⟩ : ∃ T : ByteArray, Hid ((⟨(txtOf h).toArray⟩ : ByteArray) = T) := ⟨_, rfl⟩
  have HBD : Hid (∀ k, 0 ≤ h k ∧ h k < 18446744073709551616) := hbd
  clear hl hbd
  go_enter Tryd.func3, Tryd.ntmps3
  go_wp2
  have hSR : ∀ w', (w'.rangeAt w.heap.size 0 (hL h) ∧ Inv w w') → w'.rangeAt w.heap.size 0 (hL h) := fun _ hh => hh.1
  refine wp_region_noPanic ?_
  refine wp_region_held_drew (S := fun w' => w'.rangeAt w.heap.size 0 (hL h) ∧ Inv w w') (by kernel_rfl) ⟨(World.rangeAt_drew _ _ _ _).2 hR, hI.drew⟩ (fun hHeld => ?_)
  refine wpAnyH_take (i := 0) rfl (by kernel_rfl) (by kernel_rfl) (by kernel_rfl) (fun _ _ _ h => h) (yieldsIf_load_mid (by rfl) _ _ rfl _ _ rfl _ _ hSR Tryd.underlying24 rfl (size24 h)) hHeld ?_
  refine wpAnyH_take (i := 2) rfl (by kernel_rfl) (by kernel_rfl) (by kernel_rfl) (fun _ _ _ h => h) (yieldsIf_load_mid (by rfl) _ _ rfl _ _ rfl _ _ hSR Tryd.underlying24 rfl (size24 h)) hHeld ?_
  refine wpAnyH_ready (rs := [1]) (by kernel_rfl) (by simp) ?_
  refine AllReadyH.cons rfl (fun K hK => ?_) AllReadyH.nil
  go_simp
  refine (keep8 (h := h) hHeld).mono ?_
  rintro e w2 ⟨rfl, hS2⟩
  go_simp
  refine hK.out _ _ hS2 (fun hHeld => ?_)
  clear hK K
  refine wpAnyH_ready (rs := [3]) (by kernel_rfl) (by simp) ?_
  refine AllReadyH.cons rfl (fun K hK => ?_) AllReadyH.nil
  go_simp
  refine (keep9 (h := h) hHeld).mono ?_
  rintro e w2 ⟨rfl, hS2⟩
  go_simp
  refine hK.out _ _ hS2 (fun hHeld => ?_)
  clear hK K
  refine wpAnyH_take (i := 4) (v := ?_) rfl (by kernel_rfl) (by kernel_rfl) (by kernel_rfl) (fun _ _ _ h => h) (Or.inl ⟨by rfl, ?_⟩) hHeld ?_
  rotate_left
  · intro w hSw
    go_simp
    first | done | with_reducible rfl
  refine wpAnyH_take (i := 5) (v := ?_) rfl (by kernel_rfl) (by kernel_rfl) (by kernel_rfl) (fun _ _ _ h => h) (Or.inl ⟨by rfl, ?_⟩) hHeld ?_
  rotate_left
  · intro w hSw
    go_simp
    first | done | with_reducible rfl
  refine wpAnyH_take (i := 6) rfl (by kernel_rfl) (by kernel_rfl) (by kernel_rfl) (fun _ _ _ h => h) (yieldsIf_load_mid (by rfl) _ _ rfl _ _ rfl _ _ hSR Tryd.underlying24 rfl (size24 h)) hHeld ?_
  refine wpAnyH_take (i := 8) rfl (by kernel_rfl) (by kernel_rfl) (by kernel_rfl) (fun _ _ _ h => h) (yieldsIf_load_mid (by rfl) _ _ rfl _ _ rfl _ _ hSR Tryd.underlying24 rfl (size24 h)) hHeld ?_
  refine wpAnyH_ready (rs := [7]) (by kernel_rfl) (by simp) ?_
  refine AllReadyH.cons rfl (fun K hK => ?_) AllReadyH.nil
  go_simp
  refine (keep10 (h := h) T HTX.out HBD.out hHeld).mono ?_
  rintro e w2 ⟨rfl, hS2⟩
  go_simp
  refine hK.out _ _ hS2 (fun hHeld => ?_)
  clear hK K
  refine wpAnyH_ready (rs := [9]) (by kernel_rfl) (by simp) ?_
  refine AllReadyH.cons rfl (fun K hK => ?_) AllReadyH.nil
  go_simp
  refine (keep11 (h := h) T HTX.out HBD.out hHeld).mono ?_
  rintro e w2 ⟨rfl, hS2⟩
  go_simp
  refine hK.out _ _ hS2 (fun hHeld => ?_)
  clear hK K
  refine wpAnyH_take (i := 10) (v := ?_) rfl (by kernel_rfl) (by kernel_rfl) (by kernel_rfl) (fun _ _ _ h => h) (Or.inl ⟨by rfl, ?_⟩) hHeld ?_
  rotate_left
  · intro w hSw
    go_simp
    first | done | with_reducible rfl
  refine wpAnyH_take (i := 11) (v := ?_) rfl (by kernel_rfl) (by kernel_rfl) (by kernel_rfl) (fun _ _ _ h => h) (Or.inl ⟨by rfl, ?_⟩) hHeld ?_
  rotate_left
  · intro w hSw
    go_simp
    first | done | with_reducible rfl
  refine wpAnyH_take (i := 12) (v := ?_) rfl (by kernel_rfl) (by kernel_rfl) (by kernel_rfl) (fun _ _ _ h => h) (Or.inl ⟨by rfl, ?_⟩) hHeld ?_
  rotate_left
  · intro w hSw
    go_simp
    first | done | with_reducible rfl
  refine wpAnyH_take (i := 13) (v := ?_) rfl (by kernel_rfl) (by kernel_rfl) (by kernel_rfl) (fun _ _ _ h => h) (Or.inl ⟨by rfl, ?_⟩) hHeld ?_
  rotate_left
  · intro w hSw
    go_simp
    first | done | with_reducible rfl
  refine wpAnyH_take (i := 15) (v := ?_) rfl (by kernel_rfl) (by kernel_rfl) (by kernel_rfl) (fun _ _ _ h => h) (Or.inl ⟨by rfl, ?_⟩) hHeld ?_
  rotate_left
  · intro w hSw
    go_simp
    first | done | with_reducible rfl
  refine wpAnyH_ready (rs := [14]) (by kernel_rfl) (by simp) ?_
  refine AllReadyH.cons rfl (fun K hK => ?_) AllReadyH.nil
  go_simp
  refine (keep12 f hHeld).mono ?_
  rintro e w2 ⟨rfl, hS2⟩
  go_simp
  refine hK.out _ _ hS2 (fun hHeld => ?_)
  clear hK K
  refine wpAnyH_ready (rs := [16]) (by kernel_rfl) (by simp) ?_
  refine AllReadyH.cons rfl (fun K hK => ?_) AllReadyH.nil
  go_simp
  refine (keep13 f hHeld).mono ?_
  rintro e w2 ⟨rfl, hS2⟩
  go_simp
  refine hK.out _ _ hS2 (fun hHeld => ?_)
  clear hK K
  refine wpAnyH_take (i := 17) (v := ?_) rfl (by kernel_rfl) (by kernel_rfl) (by kernel_rfl) (fun _ _ _ h => h) (Or.inl ⟨by rfl, ?_⟩) hHeld ?_
  rotate_left
  · intro w hSw
    go_simp
    first | done | with_reducible rfl
  refine wpAnyH_take (i := 18) (v := ?_) rfl (by kernel_rfl) (by kernel_rfl) (by kernel_rfl) (fun _ _ _ h => h) (Or.inl ⟨by rfl, ?_⟩) hHeld ?_
  rotate_left
  · intro w hSw
    go_simp
    first | done | with_reducible rfl
  refine wpAnyH_take (i := 19) (v := ?_) rfl (by kernel_rfl) (by kernel_rfl) (by kernel_rfl) (fun _ _ _ h => h) (Or.inl ⟨by rfl, ?_⟩) hHeld ?_
  rotate_left
  · intro w hSw
    go_simp
    first | done | with_reducible rfl
  refine wpAnyH_ready (rs := [20]) (by kernel_rfl) (by simp) ?_
  refine AllReadyH.cons rfl (fun K hK => ?_) AllReadyH.nil
  go_simp
  refine (keep14 hHeld).mono ?_
  rintro e w2 ⟨rfl, hS2⟩
  go_simp
  refine hK.out _ _ hS2 (fun hHeld => ?_)
  clear hK K
  refine wpAnyH_take (i := 21) (v := ?_) rfl (by kernel_rfl) (by kernel_rfl) (by kernel_rfl) (fun _ _ _ h => h) (Or.inl ⟨by rfl, ?_⟩) hHeld ?_
  rotate_left
  · intro w hSw
    go_simp
    first | done | with_reducible rfl
  simp only [Act.put, List.getElem_toArray, List.getElem_cons_succ, List.getElem_cons_zero, List.setIfInBounds_toArray, List.set_cons_zero, List.set_cons_succ]
  refine wpAnyH_take (i := 22) (v := ?_) rfl (by kernel_rfl) (by kernel_rfl) (by kernel_rfl) (fun _ _ _ h => h) (Or.inl ⟨by rfl, ?_⟩) hHeld ?_
  rotate_left
  · intro w hSw
    go_simp
    first | done | with_reducible rfl
  simp only [Act.put, List.getElem_toArray, List.getElem_cons_succ, List.getElem_cons_zero, List.setIfInBounds_toArray, List.set_cons_zero, List.set_cons_succ]
  refine wpAnyH_done (by kernel_rfl) ?_ _
  refine NoPanic.normal ?_
  have hfin := hHeld.2.1
  go_wp2
  go_ret
  exact ⟨rfl, hfin⟩
end Go.Proofs.YthjgndkcijgfmaaDoor
