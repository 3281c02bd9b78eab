/-
  Proved here: the document's Meet and Touch tell what 'rmtOk' and 'rmt' say, for every two matches; no old memory turns. No condition.
-/
import Derived.Test.YtmonlbmjgjapoaaDoorM7
namespace Go.Proofs.YtmonlbmjgjapoaaDoor
open Go.RowKit

theorem res15 (tmps : Array Value) (w : World) (g : Nat) (m : Nat → Int) (c : Bool) (hp : tmps.getD 4 undef = .pointer (some ⟨g, 0, none⟩)) (h5 : tmps.getD 5 undef = .bool c) (hg : Blk w g 22 26 m) :
    (results Tryd.f15 tmps).run Tryd.prog w = .ok (.tuple #[mv m, .bool c]) w := by
  have hp' : tmps[4]?.getD undef = .pointer (some ⟨g, 0, none⟩) := by simpa using hp
  have h5' : tmps[5]?.getD undef = .bool c := by simpa using h5
  simp [results, Tryd.results15, hp', h5', asAddr, run_loadVar_row w g 26 26 _ (0, 0) _ hg Tryd.underlying26 rfl (size26 m)]

set_option maxHeartbeats 1600000 in
theorem rmeet_none1 (a b : Nat → Int) (w : World) (ha : mOk a = false) :
    Calls Tryd.prog 15 #[mv a, mv b] w fun e w' => e = .returned (.tuple #[mv zf, .bool false]) ∧ Below w.heap.size w w' := by
  have hA0 := W3.a w a b
  have hR0 := W3.r w a b
  have hlow := W3.low w a b
  go_enter Tryd.func15, Tryd.ntmps15
  go_wp2_with (first | (refine alc26 rfl rfl ?_) | (refine ld26 (.tmp 2) rfl _ rfl rfl a hA0 ?_))
  go_fit (rcheck_any a _)
  rw [chk_bad ha]
  rintro e w1 ⟨rfl, hb1⟩
  have hl1 := hlow.trans (hb1.mono hlow.size)
  have hR1 := hR0.on hb1
  clear hA0 hR0 hlow hb1
  go_wp2_with (first | (refine bld26 rfl rfl ?_) | (refine st26 (.tmp 4) (.tmp 17) rfl _ rfl zf rfl rfl zf hR1 ?_))
  refine bodyPost_ret (v := .tuple #[mv zf, .bool false]) (res15 _ _ (w.heap.size + 1 + 1) zf false rfl rfl (hR1.setRow zf)) rfl ⟨rfl, ?_⟩
  exact below_setRow hl1 (by omega) _

set_option maxHeartbeats 1600000 in
theorem rmeet_none2 (a b : Nat → Int) (w : World) (ha : mOk a = true) (hb : mOk b = false) :
    Calls Tryd.prog 15 #[mv a, mv b] w fun e w' => e = .returned (.tuple #[mv zf, .bool false]) ∧ Below w.heap.size w w' := by
  have hA0 := W3.a w a b
  have hB0 := W3.b w a b
  have hR0 := W3.r w a b
  have hlow := W3.low w a b
  go_enter Tryd.func15, Tryd.ntmps15
  go_wp2_with (first | (refine alc26 rfl rfl ?_) | (refine ld26 (.tmp 2) rfl _ rfl rfl a hA0 ?_))
  go_fit (rcheck_any a _)
  rw [chk_ok ha]
  rintro e w1 ⟨rfl, hb1⟩
  have hl1 := hlow.trans (hb1.mono hlow.size)
  have hR1 := hR0.on hb1
  have hB1 := hB0.on hb1
  clear hA0 hB0 hR0 hlow hb1
  go_wp2_with (refine ld26 (.tmp 3) rfl _ rfl rfl b hB1 ?_)
  go_fit (rcheck_any b _)
  rw [chk_bad hb]
  rintro e w2 ⟨rfl, hb2⟩
  have hl2 := hl1.trans (hb2.mono hl1.size)
  have hR2 := hR1.on hb2
  clear hB1 hR1 hl1 hb2
  go_wp2_with (first | (refine bld26 rfl rfl ?_) | (refine st26 (.tmp 4) (.tmp 17) rfl _ rfl zf rfl rfl zf hR2 ?_))
  refine bodyPost_ret (v := .tuple #[mv zf, .bool false]) (res15 _ _ (w.heap.size + 1 + 1) zf false rfl rfl (hR2.setRow zf)) rfl ⟨rfl, ?_⟩
  exact below_setRow hl2 (by omega) _

set_option maxHeartbeats 3200000 in
theorem rmeet_some (a b : Nat → Int) (w : World) (ha : mOk a = true) (hb : mOk b = true) :
    Calls Tryd.prog 15 #[mv a, mv b] w fun e w' => e = .returned (.tuple #[mv (bif allU (fun k => !rclash a b k) 11 then orF a b else zf), .bool (allU (fun k => !rclash a b k) 11)]) ∧ Below w.heap.size w w' := by
  have hA0 := W3.a w a b
  have hB0 := W3.b w a b
  have hR0 := W3.r w a b
  have hlow := W3.low w a b
  obtain ⟨ok, hok⟩ : ∃ ok, allU (fun k => !rclash a b k) 11 = ok := ⟨_, rfl⟩
  rw [hok]
  have HOK : Hid (allU (fun k => !rclash a b k) 11 = ok) := hok
  clear hok
  go_enter Tryd.func15, Tryd.ntmps15
  go_wp2_with (first | (refine alc26 rfl rfl ?_) | (refine ld26 (.tmp 2) rfl _ rfl rfl a hA0 ?_))
  go_fit (rcheck_any a _)
  rw [chk_ok ha]
  rintro e w0 ⟨rfl, hb0⟩
  have hl0 := hlow.trans (hb0.mono hlow.size)
  have hA00 := hA0.on hb0
  have hR00 := hR0.on hb0
  have hB00 := hB0.on hb0
  clear hA0 hB0 hR0 hlow hb0
  go_wp2_with (refine ld26 (.tmp 3) rfl _ rfl rfl b hB00 ?_)
  go_fit (rcheck_any b _)
  rw [chk_ok hb]
  rintro e w1 ⟨rfl, hb1⟩
  have hl1 := hl0.trans (hb1.mono hl0.size)
  have hA1 := (hA00.on hb1).alloc (.cells (row 22 zf) 26)
  have hB1 := (hB00.on hb1).alloc (.cells (row 22 zf) 26)
  have hR1 := (hR00.on hb1).alloc (.cells (row 22 zf) 26)
  have hO1 := Blk.new w1 22 26 zf
  have hl1' := hl1.alloc hl1.size (.cells (row 22 zf) 26)
  have hlt1 : w.heap.size + 1 + 1 < w1.heap.size := by have := (hR00.on hb1).lt; exact this
  clear hA00 hB00 hR00 hl0 hb1 hl1
  go_wp2_with (refine alc26 rfl rfl ?_)
  go_loopw [7] (fun i wr => ∃ k : Nat, k ≤ 11 ∧ i = .int .i64 k ∧ allU (fun k => !rclash a b k) k = true ∧ Blk wr w.heap.size 22 26 a ∧ Blk wr (w.heap.size + 1) 22 26 b ∧ Blk wr (w.heap.size + 1 + 1) 22 26 zf ∧ Blk wr w1.heap.size 22 26 (part a b k) ∧ Below w.heap.size w wr) (fun i _ => 11 - (intOf i).toNat)
  case atStart => exact ⟨0, by omega, rfl, rfl, hA1, hB1, hR1, by rw [part_zero]; exact hO1, hl1'⟩
  case round =>
    clear hA1 hB1 hR1 hO1 hl1'
    obtain ⟨k, hk, rfl, hall, hA, hB, hR, hO, hlow⟩ := hrel
    have HALL : Hid (allU (fun k => !rclash a b k) k = true) := hall
    clear hall
    by_cases hlt : k < 11
    · have hc1 : wr.cell? ⟨w.heap.size, k, none⟩ = some (.int .u64 (a k)) := hA.cell k (by omega)
      have hc2 : wr.cell? ⟨w.heap.size, 11 + k, none⟩ = some (.int .u64 (a (11 + k))) := hA.cell (11 + k) (by omega)
      have hc3 : wr.cell? ⟨w.heap.size + 1, k, none⟩ = some (.int .u64 (b k)) := hB.cell k (by omega)
      have hc4 : wr.cell? ⟨w.heap.size + 1, 11 + k, none⟩ = some (.int .u64 (b (11 + k))) := hB.cell (11 + k) (by omega)
      cases t1 : (bits .and .u64 (a k) (bits .and .u64 (a (11 + k)) (b (11 + k))) != bits .and .u64 (b k) (bits .and .u64 (a (11 + k)) (b (11 + k))))
      · have HF : Hid (rclash a b k = false) := t1
        go_wp2_with fail
        go_quiet (fail)
        go_wp2_with fail
        have hA2 := hA.drewN nq
        have hB2 := hB.drewN nq
        have hR2 := hR.drewN nq
        have hO2 := hO.drewN nq
        have hl2 := bel_drewN hlow nq
        clear hA hB hR hO hlow hc1 hc2 hc3 hc4
        generalize wr.drewN nq = V at hA2 hB2 hR2 hO2 hl2 ⊢
        have hc1 : V.cell? ⟨w.heap.size, k, none⟩ = some (.int .u64 (a k)) := hA2.cell k (by omega)
        have hc3 : V.cell? ⟨w.heap.size + 1, k, none⟩ = some (.int .u64 (b k)) := hB2.cell k (by omega)
        go_quiet (fail)
        go_wp2_with fail
        have hA3 := hA2.drewN nq
        have hB3 := hB2.drewN nq
        have hR3 := hR2.drewN nq
        have hO3 := hO2.drewN nq
        have hl3 := bel_drewN hl2 nq
        clear hA2 hB2 hR2 hO2 hl2 hc1 hc3
        generalize V.drewN nq = W3 at hA3 hB3 hR3 hO3 hl3 ⊢
        have hc2 : W3.cell? ⟨w.heap.size, 11 + k, none⟩ = some (.int .u64 (a (11 + k))) := hA3.cell (11 + k) (by omega)
        have hc4 : W3.cell? ⟨w.heap.size + 1, 11 + k, none⟩ = some (.int .u64 (b (11 + k))) := hB3.cell (11 + k) (by omega)
        have hc5 : W3.cell? ⟨w1.heap.size, 11 + k, none⟩ = some (.int .u64 (part a b k (11 + k))) := hO3.cell (11 + k) (by omega)
        have hf5 : W3.frozen? ⟨w1.heap.size, 11 + k, none⟩ = false := hO3.frozen _
        go_region
        go_wp2_with fail
        have hA4 := (hA3.setOther w1.heap.size (11 + k) (.int .u64 (bits .or .u64 (a (11 + k)) (b (11 + k)))) (by omega)).drew
        have hB4 := (hB3.setOther w1.heap.size (11 + k) (.int .u64 (bits .or .u64 (a (11 + k)) (b (11 + k)))) (by omega)).drew
        have hR4 := (hR3.setOther w1.heap.size (11 + k) (.int .u64 (bits .or .u64 (a (11 + k)) (b (11 + k)))) (by omega)).drew
        have hO4 := (hO3.set (11 + k) (bits .or .u64 (a (11 + k)) (b (11 + k)))).drew
        have hl4 := (hl3.setCell (p := ⟨w1.heap.size, 11 + k, none⟩) (by show w.heap.size ≤ w1.heap.size; omega) (.int .u64 (bits .or .u64 (a (11 + k)) (b (11 + k))))).drew
        clear hA3 hB3 hR3 hO3 hl3 hc2 hc4 hc5 hf5
        generalize (W3.setCell ⟨w1.heap.size, 11 + k, none⟩ (.int .u64 (bits .or .u64 (a (11 + k)) (b (11 + k))))).drew = W4 at hA4 hB4 hR4 hO4 hl4 ⊢
        have hc1 : W4.cell? ⟨w.heap.size, k, none⟩ = some (.int .u64 (a k)) := hA4.cell k (by omega)
        have hc3 : W4.cell? ⟨w.heap.size + 1, k, none⟩ = some (.int .u64 (b k)) := hB4.cell k (by omega)
        have hc5 : W4.cell? ⟨w1.heap.size, k, none⟩ = _ := hO4.cell k (by omega)
        have hf5 : W4.frozen? ⟨w1.heap.size, k, none⟩ = false := hO4.frozen _
        go_region
        go_wp2
        go_roundw
        case rel =>
          refine ⟨k + 1, by omega, by go_num, by simp [allU, HALL.out, HF.out], (hA4.setOther _ _ _ (by omega)).drew, (hB4.setOther _ _ _ (by omega)).drew, (hR4.setOther _ _ _ (by omega)).drew, ?_, (hl4.setCell (p := ⟨w1.heap.size, k, none⟩) (by show w.heap.size ≤ w1.heap.size; omega) _).drew⟩
          have := hO4.set k (orF a b k)
          rw [show bits .or .u64 (a (11 + k)) (b (11 + k)) = orF a b (11 + k) from rfl, part_step a b k hlt] at this
          exact this.drew
        case measure => simp [intOf]; omega
      · have HF : Hid (allU (fun k => !rclash a b k) 11 = false) := allU_false hlt (by simp [rclash, t1])
        go_wp2_with fail
        go_quiet (fail)
        go_wp2_with fail
        have hA2 := hA.drewN nq
        have hB2 := hB.drewN nq
        have hR2 := hR.drewN nq
        have hO2 := hO.drewN nq
        have hl2 := bel_drewN hlow nq
        clear hA hB hR hO hlow hc1 hc2 hc3 hc4
        generalize wr.drewN nq = V at hA2 hB2 hR2 hO2 hl2 ⊢
        have hc1 : V.cell? ⟨w.heap.size, k, none⟩ = some (.int .u64 (a k)) := hA2.cell k (by omega)
        have hc3 : V.cell? ⟨w.heap.size + 1, k, none⟩ = some (.int .u64 (b k)) := hB2.cell k (by omega)
        go_quiet (fail)
        go_wp2_with (first | (refine bld26 rfl rfl ?_) | (refine st26 (.tmp 4) (.tmp 44) rfl _ rfl zf rfl rfl zf (hR2.drewN _) ?_))
        obtain rfl : ok = false := by rw [← HOK.out]; exact HF.out
        refine bodyPost_ret (v := .tuple #[mv zf, .bool false]) (res15 _ _ (w.heap.size + 1 + 1) zf false rfl rfl ((hR2.drewN _).setRow zf)) rfl ⟨rfl, ?_⟩
        exact below_setRow (bel_drewN hl2 _) (by omega) _
    · obtain rfl : k = 11 := by omega
      have hO' : Blk wr w1.heap.size 22 26 (orF a b) := by
        have : Blk wr w1.heap.size 22 26 (part a b 11) := hO
        unfold Blk at this ⊢
        rw [part_all] at this
        exact this
      clear hO
      go_wp2_with (first | (refine ld26 (.tmp 6) rfl _ rfl rfl (orF a b) hO' ?_) | (refine st26 (.tmp 4) (.tmp 69) rfl _ rfl (orF a b) rfl rfl zf hR ?_))
      obtain rfl : ok = true := by rw [← HOK.out]; exact HALL.out
      refine bodyPost_ret (v := .tuple #[mv (orF a b), .bool true]) (res15 _ _ (w.heap.size + 1 + 1) (orF a b) true rfl rfl (hR.setRow _)) rfl ⟨rfl, ?_⟩
      exact below_setRow hlow (by omega) _

/-- WHAT THE DOCUMENT's Meet ANSWERS. -/
theorem rmeet_any (a b : Nat → Int) (w : World) :
    Calls Tryd.prog 15 #[mv a, mv b] w fun e w' => e = .returned (.tuple #[mv (rmt a b), .bool (rmtOk a b)]) ∧ Below w.heap.size w w' := by
  unfold rmt rmtOk
  cases ha : mOk a
  · exact rmeet_none1 a b w ha
  · cases hb : mOk b
    · exact rmeet_none2 a b w ha hb
    · exact rmeet_some a b w ha hb

set_option maxHeartbeats 800000 in
/-- WHAT THE DOCUMENT's Touch ANSWERS. -/
theorem rtouch_any (a b : Nat → Int) (w : World) :
    Calls Tryd.prog 17 #[mv a, mv b] w fun e w' => e = .returned (.bool (rmtOk a b)) ∧ Below w.heap.size w w' := by
  have hA0 := W2.a w a b
  have hB0 := W2.b w a b
  have hlow := W2.low w a b
  obtain ⟨m, hm⟩ : ∃ m, rmt a b = m := ⟨_, rfl⟩
  have HM : Hid (rmt a b = m) := hm
  clear hm
  go_enter Tryd.func17, Tryd.ntmps17
  go_wp2_with (first | (refine ld26 (.tmp 2) rfl _ rfl rfl a hA0 ?_) | (refine ld26 (.tmp 3) rfl _ rfl rfl b hB0 ?_))
  go_fit (rmeet_any a b _)
  rw [HM.out]
  rintro e w1 ⟨rfl, hb1⟩
  have hl1 := hlow.trans (hb1.mono hlow.size)
  have hl2 := hl1.alloc hl1.size (.cells (row 22 m) 26)
  clear hA0 hB0 hlow hb1 hl1
  go_wp2_with (first | (refine alc26 rfl rfl ?_) | (refine st26new (.tmp 5) (.tmp 11) rfl rfl m rfl zf rfl ?_))
  go_ret
  exact ⟨rfl, hl2⟩
end Go.Proofs.YtmonlbmjgjapoaaDoor
