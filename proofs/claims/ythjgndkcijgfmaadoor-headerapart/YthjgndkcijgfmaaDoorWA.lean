/-
  Proved here: HeaderApart's body returns true for every two headers of numbers below 2 to 64; no old memory turns. Condition: the three tables hold what they should.
-/
import Derived.Test.YthjgndkcijgfmaaDoorA2
namespace Go.Proofs.YthjgndkcijgfmaaDoor
open Go.RowKit

/-- The call's own world w' over w: nothing old has turned, and the tables hold. -/
def Inv (w w' : World) : Prop := Below w.heap.size w w' ∧ Tabs w'
theorem Inv.drew {w w' : World} (h : Inv w w') : Inv w w'.drew := ⟨h.1.drew, h.2.on (Below.refl _ _).drew⟩
theorem Inv.on {w w' w2 : World} (h : Inv w w') (hb : Below w'.heap.size w' w2) : Inv w w2 := ⟨h.1.trans (hb.mono h.1.size), h.2.on hb⟩
theorem range_on {w' w2 : World} {b : Nat} {cs : List Value} (h : w'.rangeAt b 0 cs) (hb : Below w'.heap.size w' w2) : w2.rangeAt b 0 cs := fun j v hj => by
  have := h j v hj
  rw [hb.cell (p := ⟨b, 0 + j, none⟩) (lt_of_cell this)]; exact this
def Two (w : World) (a b : Nat → Int) (w' : World) : Prop := w'.rangeAt w.heap.size 0 (hL a) ∧ w'.rangeAt (w.heap.size + 1) 0 (hL b) ∧ Inv w w'
theorem Two.on {w w' w2 : World} {a b : Nat → Int} (h : Two w a b w') (hb : Below w'.heap.size w' w2) : Two w a b w2 := ⟨range_on h.1 hb, range_on h.2.1 hb, h.2.2.on hb⟩
theorem Two.drew {w w' : World} {a b : Nat → Int} (h : Two w a b w') : Two w a b w'.drew := ⟨(World.rangeAt_drew _ _ _ _).2 h.1, (World.rangeAt_drew _ _ _ _).2 h.2.1, h.2.2.drew⟩
theorem Two.begin (w : World) (hT : Tabs w) (a b : Nat → Int) : Two w a b ((w.alloc (.cells (hcs a) 24)).alloc (.cells (hcs b) 24)) := by
  have hl : Below w.heap.size w ((w.alloc (.cells (hcs a) 24)).alloc (.cells (hcs b) 24)) := ((Below.refl _ _).alloc (Nat.le_refl _) _).alloc (by simp) _
  have h1 : ((w.alloc (.cells (hcs a) 24)).alloc (.cells (hcs b) 24)).heap[w.heap.size]? = some (Obj.cells (hcs a) 24 (0, 0)) := by
    rw [Below.heap_alloc _ _ _ (by simp)]; exact heap_alloc_new _ _
  have h2 : ((w.alloc (.cells (hcs a) 24)).alloc (.cells (hcs b) 24)).heap[w.heap.size + 1]? = some (Obj.cells (hcs b) 24 (0, 0)) := by
    have := heap_alloc_new (w.alloc (.cells (hcs a) 24)) (.cells (hcs b) 24)
    simpa using this
  exact ⟨World.rangeAt_of_block h1 0 11, World.rangeAt_of_block h2 0 11, hl, hT.on hl⟩
theorem Two.cellA {w w' : World} {a b : Nat → Int} (h : Two w a b w') (k : Nat) (hk : k < 11) : w'.cell? ⟨w.heap.size, k, none⟩ = some (.int .u64 (a k)) := by
  have := h.1 k (.int .u64 (a k)) (by have := hL_at a k hk; simpa using this)
  simpa using this
theorem Two.cellB {w w' : World} {a b : Nat → Int} (h : Two w a b w') (k : Nat) (hk : k < 11) : w'.cell? ⟨w.heap.size + 1, k, none⟩ = some (.int .u64 (b k)) := by
  have := h.2.1 k (.int .u64 (b k)) (by have := hL_at b k hk; simpa using this)
  simpa using this

section
variable {a b h : Nat → Int} {w w' : World}
theorem two8 (c : Int) (hc : chk h = c) (hS : Two w a b w') : Calls Tryd.prog 8 #[hv h] w' fun e w2 => e = .returned (.int .i64 c) ∧ Two w a b w2 := by
  refine (check_any h w' hS.2.2.2.wid).mono ?_
  rintro e w2 ⟨rfl, hb⟩
  exact ⟨by rw [hc], hS.on hb⟩
theorem two10 (T : ByteArray) (hT : (⟨(txtOf h).toArray⟩ : ByteArray) = T) (hbd : ∀ k, 0 ≤ h k ∧ h k < 18446744073709551616) (hS : Two w a b w') : Calls Tryd.prog 10 #[hv h] w' fun e w2 => e = .returned (.string T) ∧ Two w a b w2 := by
  refine (text_any h hbd w' hS.2.2.2).mono ?_
  rintro e w2 ⟨rfl, hb⟩
  exact ⟨by rw [hT], hS.on hb⟩
theorem two14 (hS : Two w a b w') : Calls Tryd.prog 14 #[] w' fun e w2 => e = .returned (.bool true) ∧ Two w a b w2 := by
  refine (wakes_any w' hS.2.2.2).mono ?_
  rintro e w2 ⟨rfl, hb⟩
  exact ⟨rfl, hS.on hb⟩
end

set_option maxHeartbeats 1600000 in
theorem apart_none1 (a b : Nat → Int) (w : World) (hT : Tabs w) (hno : hOk a = false) :
    Calls Tryd.prog 4 #[hv a, hv b] w fun e w' => e = .returned (.bool true) ∧ Below w.heap.size w w' := by
  have h0 := Lib.hid (Two.begin w hT a b)
  go_enter Tryd.func4, Tryd.ntmps4
  go_wp2_with fail
  go_fit (two8 (h := a) 10 (chk_bad hno) h0.out)
  rintro e w1 ⟨rfl, h1⟩
  have H1 := Lib.hid h1
  clear h1
  go_wp2_with fail
  go_fit (two14 H1.out)
  rintro e w2 ⟨rfl, h2⟩
  have H2 := Lib.hid h2
  clear h2
  go_wp2
  go_ret
  exact ⟨rfl, H2.out.2.2.1⟩

set_option maxHeartbeats 1600000 in
theorem apart_none2 (a b : Nat → Int) (w : World) (hT : Tabs w) (hyes : hOk a = true) (hno : hOk b = false) :
    Calls Tryd.prog 4 #[hv a, hv b] w fun e w' => e = .returned (.bool true) ∧ Below w.heap.size w w' := by
  have h0 := Lib.hid (Two.begin w hT a b)
  go_enter Tryd.func4, Tryd.ntmps4
  go_wp2_with fail
  go_fit (two8 (h := a) 0 (chk_ok hyes) h0.out)
  rintro e w1 ⟨rfl, h1⟩
  have hc := fun k hk => h1.cellB k hk
  have H1 := Lib.hid h1
  clear h1
  go_wp2_with fail
  go_fit (two8 (h := b) 10 (chk_bad hno) H1.out)
  rintro e w2 ⟨rfl, h2⟩
  have H2 := Lib.hid h2
  clear h2 hc
  go_wp2_with fail
  go_fit (two14 H2.out)
  rintro e w3 ⟨rfl, h3⟩
  have H3 := Lib.hid h3
  clear h3
  go_wp2
  go_ret
  exact ⟨rfl, H3.out.2.2.1⟩

set_option maxHeartbeats 3200000 in
theorem apart_both (a b : Nat → Int) (hba : ∀ k, 0 ≤ a k ∧ a k < 18446744073709551616) (hbb : ∀ k, 0 ≤ b k ∧ b k < 18446744073709551616) (w : World) (hT : Tabs w) (hya : hOk a = true) (hyb : hOk b = true)
    (TA TB : ByteArray) (c : Bool) (HTA : Hid ((⟨(txtOf a).toArray⟩ : ByteArray) = TA)) (HTB : Hid ((⟨(txtOf b).toArray⟩ : ByteArray) = TB)) (hab : (TA.toList == TB.toList) = c) (heq : eqB a b = c) (hne : TA.toList.isEmpty = false) :
    Calls Tryd.prog 4 #[hv a, hv b] w fun e w' => e = .returned (.bool true) ∧ Below w.heap.size w w' := by
  have h0 := Lib.hid (Two.begin w hT a b)
  have hg := guard24
  have hE : ∀ W, (binOp .eql 24 (.agg (hL a).toArray) (.agg (hL b).toArray)).run Tryd.prog W = .ok (.bool c) W := fun W => by rw [eql_run, heq]
  have HA := Lib.hid hba
  have HB := Lib.hid hbb
  clear hba hbb heq
  go_enter Tryd.func4, Tryd.ntmps4
  go_wp2_with fail
  go_fit (two8 (h := a) 0 (chk_ok hya) h0.out)
  rintro e w1 ⟨rfl, h1⟩
  have hc := fun k hk => h1.cellB k hk
  have H1 := Lib.hid h1
  clear h1
  go_wp2_with fail
  go_fit (two8 (h := b) 0 (chk_ok hyb) H1.out)
  rintro e w2 ⟨rfl, h2⟩
  have H2 := Lib.hid h2
  clear h2 hc
  go_wp2
  have hSA : ∀ w', Two w a b w' → w'.rangeAt w.heap.size 0 (hL a) := fun _ hh => hh.1
  have hSB : ∀ w', Two w a b w' → w'.rangeAt (w.heap.size + 1) 0 (hL b) := fun _ hh => hh.2.1
  refine wp_region_noPanic ?_
  refine wp_region_held_drew (S := fun w' => Two w a b w') (by kernel_rfl) H2.out.drew (fun hHeld => ?_)
  refine wpAnyH_take (i := 0) rfl (by kernel_rfl) (by kernel_rfl) (by kernel_rfl) (fun _ _ _ h => h) (yieldsIf_load_mid (by rfl) _ _ rfl _ _ rfl _ _ hSA Tryd.underlying24 rfl (size24 a)) hHeld ?_
  refine wpAnyH_take (i := 2) rfl (by kernel_rfl) (by kernel_rfl) (by kernel_rfl) (fun _ _ _ h => h) (yieldsIf_load_mid (by rfl) _ _ rfl _ _ rfl _ _ hSB Tryd.underlying24 rfl (size24 b)) hHeld ?_
  refine wpAnyH_take (i := 5) rfl (by kernel_rfl) (by kernel_rfl) (by kernel_rfl) (fun _ _ _ h => h) (yieldsIf_load_mid (by rfl) _ _ rfl _ _ rfl _ _ hSA Tryd.underlying24 rfl (size24 a)) hHeld ?_
  refine wpAnyH_take (i := 6) rfl (by kernel_rfl) (by kernel_rfl) (by kernel_rfl) (fun _ _ _ h => h) (yieldsIf_load_mid (by rfl) _ _ rfl _ _ rfl _ _ hSB Tryd.underlying24 rfl (size24 b)) hHeld ?_
  refine wpAnyH_take (i := 7) (v := ?_) rfl (by kernel_rfl) (by kernel_rfl) (by kernel_rfl) (fun _ _ _ h => h) (Or.inl ⟨by rfl, ?_⟩) hHeld ?_
  rotate_left
  · intro w hSw
    go_simp
    first | done | with_reducible rfl
  refine wpAnyH_ready (rs := [1]) (by kernel_rfl) (by simp) ?_
  refine AllReadyH.cons rfl (fun K hK => ?_) AllReadyH.nil
  go_simp
  refine (two10 (h := a) TA HTA.out HA.out hHeld).mono ?_
  rintro e w2 ⟨rfl, hS2⟩
  go_simp
  refine hK.out _ _ hS2 (fun hHeld => ?_)
  clear hK K
  refine wpAnyH_ready (rs := [3]) (by kernel_rfl) (by simp) ?_
  refine AllReadyH.cons rfl (fun K hK => ?_) AllReadyH.nil
  go_simp
  refine (two10 (h := b) TB HTB.out HB.out hHeld).mono ?_
  rintro e w2 ⟨rfl, hS2⟩
  go_simp
  refine hK.out _ _ hS2 (fun hHeld => ?_)
  clear hK K
  refine wpAnyH_take (i := 4) (v := ?_) rfl (by kernel_rfl) (by kernel_rfl) (by kernel_rfl) (fun _ _ _ h => h) (Or.inl ⟨by rfl, ?_⟩) hHeld ?_
  rotate_left
  · intro w hSw
    go_simp
    first | done | with_reducible rfl
  refine wpAnyH_take (i := 8) (v := ?_) rfl (by kernel_rfl) (by kernel_rfl) (by kernel_rfl) (fun _ _ _ h => h) (Or.inl ⟨by rfl, ?_⟩) hHeld ?_
  rotate_left
  · intro w hSw
    go_simp
    first | done | with_reducible rfl
  refine wpAnyH_take (i := 9) (v := ?_) rfl (by kernel_rfl) (by kernel_rfl) (by kernel_rfl) (fun _ _ _ h => h) (Or.inl ⟨by rfl, ?_⟩) hHeld ?_
  rotate_left
  · intro w hSw
    go_simp
    first | done | with_reducible rfl
  refine wpAnyH_take (i := 10) rfl (by kernel_rfl) (by kernel_rfl) (by kernel_rfl) (fun _ _ _ h => h) (yieldsIf_load_mid (by rfl) _ _ rfl _ _ rfl _ _ hSA Tryd.underlying24 rfl (size24 a)) hHeld ?_
  refine wpAnyH_ready (rs := [11]) (by kernel_rfl) (by simp) ?_
  refine AllReadyH.cons rfl (fun K hK => ?_) AllReadyH.nil
  go_simp
  refine (two10 (h := a) TA HTA.out HA.out hHeld).mono ?_
  rintro e w2 ⟨rfl, hS2⟩
  go_simp
  refine hK.out _ _ hS2 (fun hHeld => ?_)
  clear hK K
  refine wpAnyH_take (i := 12) (v := ?_) rfl (by kernel_rfl) (by kernel_rfl) (by kernel_rfl) (fun _ _ _ h => h) (Or.inl ⟨by rfl, ?_⟩) hHeld ?_
  rotate_left
  · intro w hSw
    go_simp
    first | done | with_reducible rfl
  refine wpAnyH_take (i := 13) (v := ?_) rfl (by kernel_rfl) (by kernel_rfl) (by kernel_rfl) (fun _ _ _ h => h) (Or.inl ⟨by rfl, ?_⟩) hHeld ?_
  rotate_left
  · intro w hSw
    go_simp
    first | done | with_reducible rfl
  refine wpAnyH_take (i := 14) (v := ?_) rfl (by kernel_rfl) (by kernel_rfl) (by kernel_rfl) (fun _ _ _ h => h) (Or.inl ⟨by rfl, ?_⟩) hHeld ?_
  rotate_left
  · intro w hSw
    go_simp
    first | done | with_reducible rfl
  refine wpAnyH_ready (rs := [15]) (by kernel_rfl) (by simp) ?_
  refine AllReadyH.cons rfl (fun K hK => ?_) AllReadyH.nil
  go_simp
  refine (two14 hHeld).mono ?_
  rintro e w2 ⟨rfl, hS2⟩
  go_simp
  refine hK.out _ _ hS2 (fun hHeld => ?_)
  clear hK K
  refine wpAnyH_take (i := 16) (v := ?_) rfl (by kernel_rfl) (by kernel_rfl) (by kernel_rfl) (fun _ _ _ h => h) (Or.inl ⟨by rfl, ?_⟩) hHeld ?_
  rotate_left
  · intro w hSw
    go_simp
    first | done | with_reducible rfl
  simp only [Act.put, List.getElem_toArray, List.getElem_cons_succ, List.getElem_cons_zero, List.setIfInBounds_toArray, List.set_cons_zero, List.set_cons_succ]
  refine wpAnyH_take (i := 17) (v := ?_) rfl (by kernel_rfl) (by kernel_rfl) (by kernel_rfl) (fun _ _ _ h => h) (Or.inl ⟨by rfl, ?_⟩) hHeld ?_
  rotate_left
  · intro w hSw
    go_simp
    first | done | with_reducible rfl
  simp only [Act.put, List.getElem_toArray, List.getElem_cons_succ, List.getElem_cons_zero, List.setIfInBounds_toArray, List.set_cons_zero, List.set_cons_succ]
  refine wpAnyH_done (by kernel_rfl) ?_ _
  refine NoPanic.normal ?_
  have hfin := hHeld.2.2.1
  go_wp2
  go_ret
  exact ⟨rfl, hfin⟩

/-- HeaderApart: whatever the two headers. -/
theorem apart_any (a b : Nat → Int) (hba : ∀ k, 0 ≤ a k ∧ a k < 18446744073709551616) (hbb : ∀ k, 0 ≤ b k ∧ b k < 18446744073709551616) (w : World) (hT : Tabs w) :
    Calls Tryd.prog 4 #[hv a, hv b] w fun e w' => e = .returned (.bool true) ∧ Below w.heap.size w w' := by
  cases ha : hOk a
  · exact apart_none1 a b w hT ha
  · cases hb : hOk b
    · exact apart_none2 a b w hT ha hb
    · have ta : txtOf a = txtL a := by simp [txtOf, ha]
      have tb : txtOf b = txtL b := by simp [txtOf, hb]
      refine apart_both a b hba hbb w hT ha hb ⟨(txtOf a).toArray⟩ ⟨(txtOf b).toArray⟩ (eqB a b) rfl rfl ?_ rfl ?_
      · rw [ByteArray.toList_mk, ByteArray.toList_mk, ta, tb]
        cases he : eqB a b
        · rw [beq_eq_false_iff_ne]
          intro e
          exact eqB_false he (apart_inj a b (fun k => (hba k).1) (fun k => (hbb k).1) ha hb e)
        · rw [beq_iff_eq]
          exact txt_congr a b 11 (eqB_true he)
      · rw [ByteArray.toList_mk, ta]
        cases hq : txtL a with
        | nil => exact absurd hq (txt_some a ha)
        | cons x xs => rfl
end Go.Proofs.YthjgndkcijgfmaaDoor
