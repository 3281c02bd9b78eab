/-
  Proved here: FrameBuilds's body returns true for every packet; no old memory turns. Conditions: the widths' table holds its eleven numbers; no number of the header is negative.
-/
import Derived.Test.YtgjglbailgeneaaDoorX3
import Derived.Test.YtgjglbailgeneaaDoorL2
import Derived.Test.YtgjglbailgeneaaDoorF2
namespace Go.Proofs.YtgjglbailgeneaaDoor
open Go.RowKit

theorem out_isB {h : Nat → Int} {bs : List Int} (h0 : ∀ k, 0 ≤ h k) (hB : IsB bs) : IsB (bOut h bs) := by
  by_cases e : bErr h bs = 0
  · have c := can_of h0 hB e
    rw [can_out c]; exact can_isB c
  · unfold bOut; rw [if_neg e]; exact IsB.nil
theorem out_len {h : Nat → Int} {bs : List Int} (h0 : ∀ k, 0 ≤ h k) (hB : IsB bs) : (bOut h bs).length ≤ 2000 := by
  by_cases e : bErr h bs = 0
  · have c := can_of h0 hB e
    rw [can_out c]
    have h1 := ethL_len h
    have h2 := c.short
    have h3 := ipL_len h (ahead h + bs.length)
    have h4 := ahead_bd h
    unfold pktL
    rw [List.length_append]
    split
    · rw [arpL_len]; omega
    · split
      · rw [List.length_append]; omega
      · omega
  · unfold bOut; rw [if_neg e]; simp

set_option maxHeartbeats 800000 in
/-- FrameBuilds. -/
theorem builds_any (B : Nat) (h : Nat → Int) (vb : Value) (bs : List Int) (w : World) (hs : Sl B w vb bs) (hB : B ≤ w.heap.size) (hw : Tab w) (h0 : ∀ k, 0 ≤ h k ∧ h k < 18446744073709551616) :
    Calls Tryd.prog 4 #[pv h vb] w fun e w' => e = .returned (.bool true) ∧ Below w.heap.size w w' := by
  have h0' : ∀ k, 0 ≤ h k := fun k => (h0 k).1
  have hiB := hs.isB
  have hol := out_len h0' hiB
  have hoB := out_isB h0' hiB
  have hl0 : Below w.heap.size w (w.alloc (.cells (prow h vb) 27)) := (Below.refl _ _).alloc (Nat.le_refl _) _
  have hP0 : Hid (PBlk (w.alloc (.cells (prow h vb) 27)) w.heap.size h vb) := PBlk.new _ _ _
  have hS0 : Hid (Sl B (w.alloc (.cells (prow h vb) 27)) vb bs) := hs.on (hl0.mono hB)
  have hT0 : Hid (Tab (w.alloc (.cells (prow h vb) 27))) := hw.on hl0
  clear hs hw h0
  go_enter Tryd.func4, Tryd.ntmps4
  go_wp2_with (refine ld27 (.tmp 1) rfl _ rfl rfl h vb hP0.out ?_)
  go_fit (build_any B h vb bs _ hT0.out (Nat.le_trans hB hl0.size) hS0.out)
  rintro e w1 ⟨v1, rfl, hb1, hO1⟩
  have hl1 : Hid (Below w.heap.size w w1) := hl0.trans (hb1.mono hl0.size)
  have hT1 : Hid (Tab w1) := hT0.out.on hb1
  have hS1 : Hid (Sl B w1 vb bs) := hS0.out.on (hb1.mono (Nat.le_trans hB hl0.size))
  have hP1 : Hid (PBlk w1 w.heap.size h vb) := hP0.out.on hb1
  have HO1 : Hid (Owns w1.heap.size w1 nilS []) := Owns.isNil
  clear hP0 hS0 hT0 hb1 HO1
  go_wp2_with (refine ld27 (.tmp 1) rfl _ rfl rfl h vb hP1.out ?_)
  go_fit (rbuild_any B h vb bs w1 (Nat.le_trans hB hl1.out.size) hS1.out)
  rintro e w2 ⟨v2, rfl, hb2, hO2⟩
  have hl2 : Hid (Below w.heap.size w w2) := hl1.out.trans (hb2.mono hl1.out.size)
  have hT2 : Hid (Tab w2) := hT1.out.on hb2
  have HY : Hid (Calls Tryd.prog 16 #[v1, v2] w2 fun e w' => e = .returned (.bool true) ∧ w' = w2) := by
    have := bytes_any _ _ v1 v2 (bOut h bs) (bOut h bs) w2 (Sl.own (hO1.on hb2) (by omega) hoB) (Sl.own hO2 (by omega) hoB)
    rwa [show (bOut h bs == bOut h bs) = true by simp] at this
  clear hl0 hl1 hT1 hS1 hP1 hO1 hO2 hb2 hol hoB
  go_wp2_with (go_at_call 16; refine (HY.out).mono ?_; rintro e w2 ⟨rfl, rfl⟩)
  go_fit (wakes_any _ hT2.out)
  rintro e w8 ⟨rfl, hb8⟩
  have hl8 := hl2.out.trans (hb8.mono hl2.out.size)
  clear HY hb8 hT2
  go_wp2
  go_ret
  exact ⟨rfl, hl8⟩
end Go.Proofs.YtgjglbailgeneaaDoor
