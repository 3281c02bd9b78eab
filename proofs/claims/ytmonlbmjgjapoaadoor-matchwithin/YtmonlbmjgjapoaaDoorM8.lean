/-
  Proved here: Meet and Touch of package match tell what 'mtOk' and 'mt' say, for every two matches; no old memory turns. Condition: the widths' table holds its eleven numbers.
-/
import Derived.Test.YtmonlbmjgjapoaaDoorM7
namespace Go.Proofs.YtmonlbmjgjapoaaDoor
open Go.RowKit
set_option maxHeartbeats 1600000 in
theorem meet_none (a b : Nat → Int) (w : World) (hw : Tab w) (hm : (mOk a && mOk b) = false) :
    Calls Tryd.prog 14 #[mv a, mv b] w fun e w' => e = .returned (.tuple #[mv zf, .bool false]) ∧ Below w.heap.size w w' := by
  have hA0 := W3.a w a b
  have hB0 := W3.b w a b
  have hR0 := W3.r w a b
  have hlow := W3.low w a b
  have hC : Hid (Calls Tryd.prog 23 #[mv a, mv b] (W3 w a b) fun e w' => e = .returned (.bool false) ∧ Below (W3 w a b).heap.size (W3 w a b) w') := by
    have := are_any a b _ (hw.on hlow)
    rwa [hm] at this
  clear hw hm
  go_enter Tryd.func14, Tryd.ntmps14
  go_wp2_with (first | (refine alc26 rfl rfl ?_) | (refine ld26 (.tmp 2) rfl _ rfl rfl a hA0 ?_) | (refine ld26 (.tmp 3) rfl _ rfl rfl b hB0 ?_))
  go_fit hC.out
  rintro e w1 ⟨rfl, hb1⟩
  have hl1 := hlow.trans (hb1.mono hlow.size)
  have hR1 := hR0.on hb1
  clear hA0 hB0 hR0 hlow hC hb1
  go_wp2_with (first | (refine bld26 rfl rfl ?_) | (refine st26 (.tmp 4) (.tmp 14) rfl _ rfl zf rfl rfl zf hR1 ?_))
  refine bodyPost_ret (v := .tuple #[mv zf, .bool false]) (res14 _ _ (w.heap.size + 1 + 1) zf false rfl rfl (hR1.setRow zf)) rfl ⟨rfl, ?_⟩
  exact below_setRow hl1 (by omega) _

set_option maxHeartbeats 3200000 in
theorem meet_some (a b : Nat → Int) (w : World) (hw : Tab w) (hm : (mOk a && mOk b) = true) :
    Calls Tryd.prog 14 #[mv a, mv b] w fun e w' => e = .returned (.tuple #[mv (bif allU (fun k => !clash a b k) 11 then orF a b else zf), .bool (allU (fun k => !clash a b k) 11)]) ∧ Below w.heap.size w w' := by
  have hA0 := W3.a w a b
  have hB0 := W3.b w a b
  have hR0 := W3.r w a b
  have hlow := W3.low w a b
  have hC : Hid (Calls Tryd.prog 23 #[mv a, mv b] (W3 w a b) fun e w' => e = .returned (.bool true) ∧ Below (W3 w a b).heap.size (W3 w a b) w') := by
    have := are_any a b _ (hw.on hlow)
    rwa [hm] at this
  clear hw hm
  obtain ⟨ok, hok⟩ : ∃ ok, allU (fun k => !clash a b k) 11 = ok := ⟨_, rfl⟩
  rw [hok]
  have HOK : Hid (allU (fun k => !clash a b k) 11 = ok) := hok
  clear hok
  go_enter Tryd.func14, Tryd.ntmps14
  go_wp2_with (first | (refine alc26 rfl rfl ?_) | (refine ld26 (.tmp 2) rfl _ rfl rfl a hA0 ?_) | (refine ld26 (.tmp 3) rfl _ rfl rfl b hB0 ?_))
  go_fit hC.out
  rintro e w1 ⟨rfl, hb1⟩
  have hl1 := hlow.trans (hb1.mono hlow.size)
  have hA1 := (hA0.on hb1).alloc (.cells (row 22 zf) 26)
  have hB1 := (hB0.on hb1).alloc (.cells (row 22 zf) 26)
  have hR1 := (hR0.on hb1).alloc (.cells (row 22 zf) 26)
  have hO1 := Blk.new w1 22 26 zf
  have hl1' := hl1.alloc hl1.size (.cells (row 22 zf) 26)
  have hlt1 : w.heap.size + 1 + 1 < w1.heap.size := by have := (hR0.on hb1).lt; exact this
  clear hA0 hB0 hR0 hlow hC hb1 hl1
  go_wp2_with (first | (refine alc26 rfl rfl ?_) | (refine ldMask (.tmp 15) rfl _ rfl rfl a hA1 ?_))
  go_loopw [17] (fun i wr => ∃ k : Nat, k ≤ 11 ∧ i = .int .i64 k ∧ allU (fun k => !clash a b k) k = true ∧ Blk wr w.heap.size 22 26 a ∧ Blk wr (w.heap.size + 1) 22 26 b ∧ Blk wr (w.heap.size + 1 + 1) 22 26 zf ∧ Blk wr w1.heap.size 22 26 (part a b k) ∧ Below w.heap.size w wr) (fun i _ => 11 - (intOf i).toNat)
  case atStart => exact ⟨0, by omega, rfl, rfl, hA1, hB1, hR1, by rw [part_zero]; exact hO1, hl1'⟩
  case round =>
    clear hA1 hB1 hR1 hO1 hl1'
    obtain ⟨k, hk, rfl, hall, hA, hB, hR, hO, hlow⟩ := hrel
    have HALL : Hid (allU (fun k => !clash a b k) k = true) := hall
    clear hall
    by_cases hlt : k < 11
    · have hc1 : wr.cell? ⟨w.heap.size, k, none⟩ = some (.int .u64 (a k)) := hA.cell k (by omega)
      have hc3 : wr.cell? ⟨w.heap.size + 1, k, none⟩ = some (.int .u64 (b k)) := hB.cell k (by omega)
      have hc4 : wr.cell? ⟨w.heap.size + 1, 11 + k, none⟩ = some (.int .u64 (b (11 + k))) := hB.cell (11 + k) (by omega)
      have hidx : ∀ W, (Instr.index 24 (hv fun k => a (11 + k)) (.int .i64 (k : Int))).run Tryd.prog W = .ok (.int .u64 (a (11 + k))) W := fun W => idx_hv (fun k => a (11 + k)) k hlt W
      cases t1 : (bits .and .u64 (bits .and .u64 (bits .xor .u64 (a k) (b k)) (a (11 + k))) (b (11 + k)) != 0)
      · have HF : Hid (clash a b k = false) := t1
        have hc5 : wr.cell? ⟨w1.heap.size, 11 + k, none⟩ = some (.int .u64 (part a b k (11 + k))) := hO.cell (11 + k) (by omega)
        have hf5 : wr.frozen? ⟨w1.heap.size, 11 + k, none⟩ = false := hO.frozen _
        go_wp2_with fail
        go_quiet (fail)
        go_wp2_with fail
        have hA4 := (hA.drewN nq).setOther w1.heap.size (11 + k) (.int .u64 (bits .or .u64 (a (11 + k)) (b (11 + k)))) (by omega)
        have hB4 := (hB.drewN nq).setOther w1.heap.size (11 + k) (.int .u64 (bits .or .u64 (a (11 + k)) (b (11 + k)))) (by omega)
        have hR4 := (hR.drewN nq).setOther w1.heap.size (11 + k) (.int .u64 (bits .or .u64 (a (11 + k)) (b (11 + k)))) (by omega)
        have hO4 := (hO.drewN nq).set (11 + k) (bits .or .u64 (a (11 + k)) (b (11 + k)))
        have hl4 := (bel_drewN hlow nq).setCell (p := ⟨w1.heap.size, 11 + k, none⟩) (by show w.heap.size ≤ w1.heap.size; omega) (.int .u64 (bits .or .u64 (a (11 + k)) (b (11 + k))))
        clear hA hB hR hO hlow hc1 hc3 hc4 hc5 hf5 hidx
        generalize ((wr.drewN nq).setCell ⟨w1.heap.size, 11 + k, none⟩ (.int .u64 (bits .or .u64 (a (11 + k)) (b (11 + k))))) = W4 at hA4 hB4 hR4 hO4 hl4 ⊢
        have hc1 : W4.cell? ⟨w.heap.size, k, none⟩ = some (.int .u64 (a k)) := hA4.cell k (by omega)
        have hc3 : W4.cell? ⟨w.heap.size + 1, k, none⟩ = some (.int .u64 (b k)) := hB4.cell k (by omega)
        have hc5 : W4.cell? ⟨w1.heap.size, k, none⟩ = _ := hO4.cell k (by omega)
        have hf5 : W4.frozen? ⟨w1.heap.size, k, none⟩ = false := hO4.frozen _
        go_region
        go_wp2
        go_roundw
        case rel =>
          refine ⟨k + 1, by omega, by go_num, by simp [allU, HALL.out, HF.out], (hA4.setOther _ _ _ (by omega)).drew, (hB4.setOther _ _ _ (by omega)).drew, (hR4.setOther _ _ _ (by omega)).drew, ?_, (hl4.setCell (p := ⟨w1.heap.size, k, none⟩) (by show w.heap.size ≤ w1.heap.size; omega) _).drew⟩
          have := hO4.set k (orF a b k)
          rw [show bits .or .u64 (a (11 + k)) (b (11 + k)) = orF a b (11 + k) from rfl, part_step a b k hlt] at this
          exact this.drew
        case measure => simp [intOf]; omega
      · have HF : Hid (allU (fun k => !clash a b k) 11 = false) := allU_false hlt (by simp [clash, t1])
        go_wp2_with fail
        go_quiet (fail)
        go_wp2_with (first | (refine bld26 rfl rfl ?_) | (refine st26 (.tmp 4) (.tmp 39) rfl _ rfl zf rfl rfl zf (hR.drewN _) ?_))
        obtain rfl : ok = false := by rw [← HOK.out]; exact HF.out
        refine bodyPost_ret (v := .tuple #[mv zf, .bool false]) (res14 _ _ (w.heap.size + 1 + 1) zf false rfl rfl ((hR.drewN _).setRow zf)) rfl ⟨rfl, ?_⟩
        exact below_setRow (bel_drewN hlow _) (by omega) _
    · obtain rfl : k = 11 := by omega
      have hO' : Blk wr w1.heap.size 22 26 (orF a b) := by
        have : Blk wr w1.heap.size 22 26 (part a b 11) := hO
        unfold Blk at this ⊢
        rw [part_all] at this
        exact this
      clear hO
      go_wp2_with (first | (refine ld26 (.tmp 6) rfl _ rfl rfl (orF a b) hO' ?_) | (refine st26 (.tmp 4) (.tmp 62) rfl _ rfl (orF a b) rfl rfl zf hR ?_))
      obtain rfl : ok = true := by rw [← HOK.out]; exact HALL.out
      refine bodyPost_ret (v := .tuple #[mv (orF a b), .bool true]) (res14 _ _ (w.heap.size + 1 + 1) (orF a b) true rfl rfl (hR.setRow _)) rfl ⟨rfl, ?_⟩
      exact below_setRow hlow (by omega) _

/-- WHAT Meet ANSWERS. -/
theorem meet_any (a b : Nat → Int) (w : World) (hw : Tab w) :
    Calls Tryd.prog 14 #[mv a, mv b] w fun e w' => e = .returned (.tuple #[mv (mt a b), .bool (mtOk a b)]) ∧ Below w.heap.size w w' := by
  unfold mt mtOk
  cases hm : mOk a && mOk b
  · exact meet_none a b w hw hm
  · exact meet_some a b w hw hm

set_option maxHeartbeats 800000 in
/-- WHAT Touch ANSWERS. -/
theorem touch_any (a b : Nat → Int) (w : World) (hw : Tab w) :
    Calls Tryd.prog 16 #[mv a, mv b] w fun e w' => e = .returned (.bool (mtOk a b)) ∧ Below w.heap.size w w' := by
  have hA0 := W2.a w a b
  have hB0 := W2.b w a b
  have hlow := W2.low w a b
  have hT : Hid (Tab (W2 w a b)) := hw.on hlow
  obtain ⟨m, hm⟩ : ∃ m, mt a b = m := ⟨_, rfl⟩
  have HM : Hid (mt a b = m) := hm
  clear hw hm
  go_enter Tryd.func16, Tryd.ntmps16
  go_wp2_with (first | (refine ld26 (.tmp 2) rfl _ rfl rfl a hA0 ?_) | (refine ld26 (.tmp 3) rfl _ rfl rfl b hB0 ?_))
  go_fit (meet_any a b _ hT.out)
  rw [HM.out]
  rintro e w1 ⟨rfl, hb1⟩
  have hl1 := hlow.trans (hb1.mono hlow.size)
  have hl2 := hl1.alloc hl1.size (.cells (row 22 m) 26)
  clear hA0 hB0 hlow hT hb1 hl1
  go_wp2_with (first | (refine alc26 rfl rfl ?_) | (refine st26new (.tmp 5) (.tmp 11) rfl rfl m rfl zf rfl ?_))
  go_ret
  exact ⟨rfl, hl2⟩
end Go.Proofs.YtmonlbmjgjapoaaDoor
