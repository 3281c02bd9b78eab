/-
  Proved here: Hits of package match and the document's Hits tell what 'hit' says, for every match and header; no old memory turns. Condition: the widths' table holds its eleven numbers (Hits of package match alone).
-/
import Derived.Test.YtimenbkfkdpdcaaDoorM3
namespace Go.Proofs.YtimenbkfkdpdcaaDoor
open Go.RowKit

def miss (m h : Nat → Int) (k : Nat) : Bool := bits .and .u64 (h k) (m (11 + k)) != m k
def hit (m h : Nat → Int) : Bool := mOk m && allU (fun k => !miss m h k) 11
abbrev WH (w : World) (m h : Nat → Int) : World := (w.alloc (.cells (row 22 m) 33)).alloc (.cells (row 11 h) 31)
theorem WH.m (w : World) (m h : Nat → Int) : Blk (WH w m h) w.heap.size 22 33 m := (Blk.new w 22 33 m).alloc _
theorem WH.h (w : World) (m h : Nat → Int) : Blk (WH w m h) (w.heap.size + 1) 11 31 h := Blk.new1 w _ 11 31 h
theorem WH.low (w : World) (m h : Nat → Int) : Below w.heap.size w (WH w m h) := ((Below.refl _ _).alloc (Nat.le_refl _) _).alloc (by simp) _

set_option maxHeartbeats 1600000 in
theorem hits_any (m h : Nat → Int) (w : World) (hw : Tab w) :
    Calls Tryd.prog 17 #[mv m, hv h] w fun e w' => e = .returned (.bool (hit m h)) ∧ Below w.heap.size w w' := by
  have hA0 := WH.m w m h
  have hB0 := WH.h w m h
  have hlow := WH.low w m h
  have hT : Hid (Tab (WH w m h)) := hw.on hlow
  clear hw
  cases hm : mOk m
  · rw [show hit m h = false by simp [hit, hm]]
    go_enter Tryd.func17, Tryd.ntmps17
    go_wp2_with (refine ld26 (.tmp 2) rfl _ rfl rfl m hA0 ?_)
    go_fit (check_any m _ hT.out)
    rw [chk_bad hm]
    rintro e w1 ⟨rfl, hb1⟩
    have hl1 := hlow.trans (hb1.mono hlow.size)
    go_wp2
    go_ret
    exact ⟨rfl, hl1⟩
  · have hh : hit m h = allU (fun k => !miss m h k) 11 := by simp [hit, hm]
    rw [hh]
    clear hh
    go_enter Tryd.func17, Tryd.ntmps17
    go_wp2_with (refine ld26 (.tmp 2) rfl _ rfl rfl m hA0 ?_)
    go_fit (check_any m _ hT.out)
    rw [chk_ok hm]
    rintro e w1 ⟨rfl, hb1⟩
    have hl1 := hlow.trans (hb1.mono hlow.size)
    have hA1 := hA0.on hb1
    have hB1 := hB0.on hb1
    clear hb1 hA0 hB0 hlow hT
    go_wp2_with (refine ldMask (.tmp 10) rfl _ rfl rfl m hA1 ?_)
    go_loopw [12] (fun i wr => ∃ k : Nat, k ≤ 11 ∧ i = .int .i64 k ∧ allU (fun k => !miss m h k) k = true ∧ Blk wr w.heap.size 22 33 m ∧ Blk wr (w.heap.size + 1) 11 31 h ∧ Below w.heap.size w wr) (fun i _ => 11 - (intOf i).toNat)
    case atStart => exact ⟨0, by omega, rfl, rfl, hA1, hB1, hl1⟩
    case round =>
      clear hA1 hB1 hl1
      obtain ⟨k, hk, rfl, hall, hA, hB, hlow⟩ := hrel
      have HALL : Hid (allU (fun k => !miss m h k) k = true) := hall
      clear hall
      by_cases hlt : k < 11
      · have hc1 : wr.cell? ⟨w.heap.size, k, none⟩ = some (.int .u64 (m k)) := hA.cell k (by omega)
        have hc3 : wr.cell? ⟨w.heap.size + 1, k, none⟩ = some (.int .u64 (h k)) := hB.cell k (by omega)
        have hidx : ∀ W, (Instr.index 31 (hv fun k => m (11 + k)) (.int .i64 (k : Int))).run Tryd.prog W = .ok (.int .u64 (m (11 + k))) W := fun W => idx_hv (fun k => m (11 + k)) k hlt W
        cases t1 : (bits .and .u64 (h k) (m (11 + k)) != m k)
        · have HF : Hid (miss m h k = false) := t1
          go_wp2_with fail
          go_quiet (fail)
          go_wp2
          go_roundw
          case rel => exact ⟨k + 1, by omega, by go_num, by simp [allU, HALL.out, HF.out], hA.drewN _, hB.drewN _, bel_drewN hlow _⟩
          case measure => simp [intOf]; omega
        · have HF : Hid (allU (fun k => !miss m h k) 11 = false) := allU_false hlt (by simp [miss, t1])
          go_wp2_with fail
          go_quiet (fail)
          go_wp2
          go_ret
          exact ⟨by rw [HF.out]; rfl, bel_drewN hlow _⟩
      · obtain rfl : k = 11 := by omega
        go_wp2
        go_ret
        exact ⟨by rw [HALL.out]; rfl, hlow⟩

set_option maxHeartbeats 1600000 in
theorem rhits_any (m h : Nat → Int) (w : World) :
    Calls Tryd.prog 26 #[mv m, hv h] w fun e w' => e = .returned (.bool (hit m h)) ∧ Below w.heap.size w w' := by
  have hA0 := WH.m w m h
  have hB0 := WH.h w m h
  have hlow := WH.low w m h
  cases hm : mOk m
  · rw [show hit m h = false by simp [hit, hm]]
    go_enter Tryd.func26, Tryd.ntmps26
    go_wp2_with (refine ld26 (.tmp 2) rfl _ rfl rfl m hA0 ?_)
    go_fit (rcheck_any m _)
    rw [chk_bad hm]
    rintro e w1 ⟨rfl, hb1⟩
    have hl1 := hlow.trans (hb1.mono hlow.size)
    go_wp2
    go_ret
    exact ⟨rfl, hl1⟩
  · have hh : hit m h = allU (fun k => !miss m h k) 11 := by simp [hit, hm]
    rw [hh]
    clear hh
    go_enter Tryd.func26, Tryd.ntmps26
    go_wp2_with (refine ld26 (.tmp 2) rfl _ rfl rfl m hA0 ?_)
    go_fit (rcheck_any m _)
    rw [chk_ok hm]
    rintro e w1 ⟨rfl, hb1⟩
    have hl1 := hlow.trans (hb1.mono hlow.size)
    have hA1 := hA0.on hb1
    have hB1 := hB0.on hb1
    clear hb1 hA0 hB0 hlow
    go_wp2
    go_loopw [5] (fun i wr => ∃ k : Nat, k ≤ 11 ∧ i = .int .i64 k ∧ allU (fun k => !miss m h k) k = true ∧ Blk wr w.heap.size 22 33 m ∧ Blk wr (w.heap.size + 1) 11 31 h ∧ Below w.heap.size w wr) (fun i _ => 11 - (intOf i).toNat)
    case atStart => exact ⟨0, by omega, rfl, rfl, hA1, hB1, hl1⟩
    case round =>
      clear hA1 hB1 hl1
      obtain ⟨k, hk, rfl, hall, hA, hB, hlow⟩ := hrel
      have HALL : Hid (allU (fun k => !miss m h k) k = true) := hall
      clear hall
      by_cases hlt : k < 11
      · have hc1 : wr.cell? ⟨w.heap.size, k, none⟩ = some (.int .u64 (m k)) := hA.cell k (by omega)
        have hc3 : wr.cell? ⟨w.heap.size + 1, k, none⟩ = some (.int .u64 (h k)) := hB.cell k (by omega)
        have hc2 : wr.cell? ⟨w.heap.size, 11 + k, none⟩ = some (.int .u64 (m (11 + k))) := hA.cell (11 + k) (by omega)
        cases t1 : (bits .and .u64 (h k) (m (11 + k)) != m k)
        · have HF : Hid (miss m h k = false) := t1
          go_wp2_with fail
          go_quiet (fail)
          go_wp2
          go_roundw
          case rel => exact ⟨k + 1, by omega, by go_num, by simp [allU, HALL.out, HF.out], hA.drewN _, hB.drewN _, bel_drewN hlow _⟩
          case measure => simp [intOf]; omega
        · have HF : Hid (allU (fun k => !miss m h k) 11 = false) := allU_false hlt (by simp [miss, t1])
          go_wp2_with fail
          go_quiet (fail)
          go_wp2
          go_ret
          exact ⟨by rw [HF.out]; rfl, bel_drewN hlow _⟩
      · obtain rfl : k = 11 := by omega
        go_wp2
        go_ret
        exact ⟨by rw [HALL.out]; rfl, hlow⟩
end Go.Proofs.YtimenbkfkdpdcaaDoor
