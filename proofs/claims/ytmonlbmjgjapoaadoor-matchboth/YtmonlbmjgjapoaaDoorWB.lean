/-
  Proved here: MatchBoth's body returns true for every two matches and every header; no old memory turns. Conditions: all numbers are of 64 bits; the widths' table holds its eleven numbers.
-/
import Derived.Test.YtmonlbmjgjapoaaDoorE3
import Derived.Test.YtmonlbmjgjapoaaDoorM5
import Derived.Test.YtmonlbmjgjapoaaDoorX2
namespace Go.Proofs.YtmonlbmjgjapoaaDoor
open Go.RowKit

/-- What lies in the law's own blocks: two matches and a header. -/
structure BS (w : World) (a b h : Nat → Int) (w' : World) : Prop where
  a : Blk w' w.heap.size 22 26 a
  b : Blk w' (w.heap.size + 1) 22 26 b
  h : Blk w' (w.heap.size + 1 + 1) 11 24 h
  inv : Inv w w'
theorem BS.on {w w' w2 : World} {a b h : Nat → Int} (hS : BS w a b h w') (hb : Below w'.heap.size w' w2) : BS w a b h w2 := ⟨hS.a.on hb, hS.b.on hb, hS.h.on hb, hS.inv.on hb⟩
theorem BS.alloc {w w' : World} {a b h : Nat → Int} (hS : BS w a b h w') (o : Obj) : BS w a b h (w'.alloc o) := hS.on ((Below.refl _ _).alloc (Nat.le_refl _) _)
abbrev W3h (w : World) (a b h : Nat → Int) : World := (W2 w a b).alloc (.cells (row 11 h) 24)
theorem BS.begin {w : World} (hw : Tab w) (a b h : Nat → Int) : BS w a b h (W3h w a b h) := by
  have hl : Below w.heap.size w (W3h w a b h) := (W2.low w a b).alloc (by simp; omega) _
  refine ⟨(W2.a w a b).alloc _, (W2.b w a b).alloc _, ?_, hl, hw.on hl⟩
  have := Blk.new (W2 w a b) 11 24 h
  simpa using this

set_option maxHeartbeats 3200000 in
theorem both_none1 (a b h M : Nat → Int) (w : World) (hw : Tab w) (HM : mt a b = M) (HC : mtOk a b = false) (HE : eqM M zf = true) (HA : hit a h = false) :
    Calls Tryd.prog 5 #[mv a, mv b, hv h] w fun e w' => e = .returned (.bool true) ∧ Below w.heap.size w w' := by
  have S0 := BS.begin hw a b h
  have HW : Hid (Tab w) := hw
  clear hw
  go_enter Tryd.func5, Tryd.ntmps5
  go_wp2_with (first | (refine alc26 rfl rfl ?_) | (refine ld26 (.tmp 3) rfl _ rfl rfl a (by exact S0.a) ?_) | (refine ld26 (.tmp 4) rfl _ rfl rfl b (by exact S0.b) ?_) | (refine ld24 (.tmp 5) rfl _ rfl rfl h (by exact S0.h) ?_))
  go_fit (hits_any a h _ S0.inv.2)
  rw [HA]
  rintro e w1 ⟨rfl, hb1⟩
  have S1 := S0.on hb1
  clear S0 hb1
  go_wp2_with (first | (refine alc26 rfl rfl ?_) | (refine ld26 (.tmp 3) rfl _ rfl rfl a (by exact S1.a) ?_) | (refine ld26 (.tmp 4) rfl _ rfl rfl b (by exact S1.b) ?_) | (refine ld24 (.tmp 5) rfl _ rfl rfl h (by exact S1.h) ?_))
  go_fit (meet_any a b _ S1.inv.2)
  rw [HM, HC]
  rintro e w3 ⟨rfl, hb3⟩
  have hlt : w.heap.size + 1 + 1 < w3.heap.size := (S1.on hb3).h.lt
  have S3 := (S1.on hb3).alloc (.cells (row 22 M) 26)
  have M3 := Blk.new w3 22 26 M
  clear S1 hb3
  go_wp2_with (first | (refine alc26 rfl rfl ?_) | (refine st26n (.tmp 8) (.tmp 23) rfl w3 zf (by with_reducible rfl) rfl M rfl rfl ?_) | (refine ld26 (.tmp 3) rfl _ rfl rfl a (by exact S3.a) ?_) | (refine ld26 (.tmp 4) rfl _ rfl rfl b (by exact S3.b) ?_) | (refine ld24 (.tmp 5) rfl _ rfl rfl h (by exact S3.h) ?_))
  go_fit (touch_any a b _ S3.inv.2)
  rw [HC]
  rintro e w4 ⟨rfl, hb4⟩
  have S4 := S3.on hb4
  have M4 := M3.on hb4
  clear S3 M3 hb4
  go_wp2_with (first | (refine ld26 (.tmp 8) rfl _ rfl rfl M (by exact M4) ?_) | (refine bld26 rfl rfl ?_) | (refine eql26 (.tmp 35) (.tmp 36) rfl M zf rfl rfl rfl ?_; rw [HE]))
  go_fit (wakes_any _ S4.inv.2)
  rintro e w5 ⟨rfl, hb5⟩
  have hfin := (S4.inv.on hb5).1
  clear S4 M4 hb5
  go_wp2
  go_ret
  exact ⟨rfl, hfin⟩

set_option maxHeartbeats 3200000 in
theorem both_none2 (a b h M : Nat → Int) (w : World) (hw : Tab w) (HM : mt a b = M) (HC : mtOk a b = false) (HE : eqM M zf = true) (HA : hit a h = true) (HB : hit b h = false) :
    Calls Tryd.prog 5 #[mv a, mv b, hv h] w fun e w' => e = .returned (.bool true) ∧ Below w.heap.size w w' := by
  have S0 := BS.begin hw a b h
  have HW : Hid (Tab w) := hw
  clear hw
  go_enter Tryd.func5, Tryd.ntmps5
  go_wp2_with (first | (refine alc26 rfl rfl ?_) | (refine ld26 (.tmp 3) rfl _ rfl rfl a (by exact S0.a) ?_) | (refine ld26 (.tmp 4) rfl _ rfl rfl b (by exact S0.b) ?_) | (refine ld24 (.tmp 5) rfl _ rfl rfl h (by exact S0.h) ?_))
  go_fit (hits_any a h _ S0.inv.2)
  rw [HA]
  rintro e w1 ⟨rfl, hb1⟩
  have S1 := S0.on hb1
  clear S0 hb1
  go_wp2_with (first | (refine alc26 rfl rfl ?_) | (refine ld26 (.tmp 3) rfl _ rfl rfl a (by exact S1.a) ?_) | (refine ld26 (.tmp 4) rfl _ rfl rfl b (by exact S1.b) ?_) | (refine ld24 (.tmp 5) rfl _ rfl rfl h (by exact S1.h) ?_))
  go_fit (hits_any b h _ S1.inv.2)
  rw [HB]
  rintro e w2 ⟨rfl, hb2⟩
  have S2 := S1.on hb2
  clear S1 hb2
  go_wp2_with (first | (refine alc26 rfl rfl ?_) | (refine ld26 (.tmp 3) rfl _ rfl rfl a (by exact S2.a) ?_) | (refine ld26 (.tmp 4) rfl _ rfl rfl b (by exact S2.b) ?_) | (refine ld24 (.tmp 5) rfl _ rfl rfl h (by exact S2.h) ?_))
  go_fit (meet_any a b _ S2.inv.2)
  rw [HM, HC]
  rintro e w3 ⟨rfl, hb3⟩
  have hlt : w.heap.size + 1 + 1 < w3.heap.size := (S2.on hb3).h.lt
  have S3 := (S2.on hb3).alloc (.cells (row 22 M) 26)
  have M3 := Blk.new w3 22 26 M
  clear S2 hb3
  go_wp2_with (first | (refine alc26 rfl rfl ?_) | (refine st26n (.tmp 8) (.tmp 23) rfl w3 zf (by with_reducible rfl) rfl M rfl rfl ?_) | (refine ld26 (.tmp 3) rfl _ rfl rfl a (by exact S3.a) ?_) | (refine ld26 (.tmp 4) rfl _ rfl rfl b (by exact S3.b) ?_) | (refine ld24 (.tmp 5) rfl _ rfl rfl h (by exact S3.h) ?_))
  go_fit (touch_any a b _ S3.inv.2)
  rw [HC]
  rintro e w4 ⟨rfl, hb4⟩
  have S4 := S3.on hb4
  have M4 := M3.on hb4
  clear S3 M3 hb4
  go_wp2_with (first | (refine ld26 (.tmp 8) rfl _ rfl rfl M (by exact M4) ?_) | (refine bld26 rfl rfl ?_) | (refine eql26 (.tmp 35) (.tmp 36) rfl M zf rfl rfl rfl ?_; rw [HE]))
  go_fit (wakes_any _ S4.inv.2)
  rintro e w5 ⟨rfl, hb5⟩
  have hfin := (S4.inv.on hb5).1
  clear S4 M4 hb5
  go_wp2
  go_ret
  exact ⟨rfl, hfin⟩

set_option maxHeartbeats 6400000 in
theorem both_some1 (a b h M : Nat → Int) (w : World) (hw : Tab w) (HM : mt a b = M) (HC : mtOk a b = true) (HK : chk M = 0) (HA : hit a h = false) (HH : hit M h = false) (TA : hit a (turned h M 11) = true) (TB : hit b (turned h M 11) = true) :
    Calls Tryd.prog 5 #[mv a, mv b, hv h] w fun e w' => e = .returned (.bool true) ∧ Below w.heap.size w w' := by
  have S0 := BS.begin hw a b h
  have HW : Hid (Tab w) := hw
  clear hw
  go_enter Tryd.func5, Tryd.ntmps5
  go_wp2_with (first | (refine alc26 rfl rfl ?_) | (refine ld26 (.tmp 3) rfl _ rfl rfl a (by exact S0.a) ?_) | (refine ld26 (.tmp 4) rfl _ rfl rfl b (by exact S0.b) ?_) | (refine ld24 (.tmp 5) rfl _ rfl rfl h (by exact S0.h) ?_))
  go_fit (hits_any a h _ S0.inv.2)
  rw [HA]
  rintro e w1 ⟨rfl, hb1⟩
  have S1 := S0.on hb1
  clear S0 hb1
  go_wp2_with (first | (refine alc26 rfl rfl ?_) | (refine ld26 (.tmp 3) rfl _ rfl rfl a (by exact S1.a) ?_) | (refine ld26 (.tmp 4) rfl _ rfl rfl b (by exact S1.b) ?_) | (refine ld24 (.tmp 5) rfl _ rfl rfl h (by exact S1.h) ?_))
  go_fit (meet_any a b _ S1.inv.2)
  rw [HM, HC]
  rintro e w3 ⟨rfl, hb3⟩
  have hlt : w.heap.size + 1 + 1 < w3.heap.size := (S1.on hb3).h.lt
  have S3 := (S1.on hb3).alloc (.cells (row 22 M) 26)
  have M3 := Blk.new w3 22 26 M
  clear S1 hb3
  go_wp2_with (first | (refine alc26 rfl rfl ?_) | (refine st26n (.tmp 8) (.tmp 23) rfl w3 zf (by with_reducible rfl) rfl M rfl rfl ?_) | (refine ld26 (.tmp 3) rfl _ rfl rfl a (by exact S3.a) ?_) | (refine ld26 (.tmp 4) rfl _ rfl rfl b (by exact S3.b) ?_) | (refine ld24 (.tmp 5) rfl _ rfl rfl h (by exact S3.h) ?_))
  go_fit (touch_any a b _ S3.inv.2)
  rw [HC]
  rintro e w4 ⟨rfl, hb4⟩
  have S4 := S3.on hb4
  have M4 := M3.on hb4
  clear S3 M3 hb4
  go_wp2_with (first | (refine alc26 rfl rfl ?_) | (refine ld26 (.tmp 8) rfl _ rfl rfl M (by exact M4) ?_) | (refine ld26 (.tmp 3) rfl _ rfl rfl a (by exact S4.a) ?_) | (refine ld26 (.tmp 4) rfl _ rfl rfl b (by exact S4.b) ?_) | (refine ld24 (.tmp 5) rfl _ rfl rfl h (by exact S4.h) ?_))
  go_fit (hits_any M h _ S4.inv.2)
  rw [HH]
  rintro e w5 ⟨rfl, hb5⟩
  have S5 := S4.on hb5
  have M5 := M4.on hb5
  clear S4 M4 hb5
  go_wp2_with (refine ld26 (.tmp 8) rfl _ rfl rfl M (by exact M5) ?_)
  go_fit (check_any M _ S5.inv.2)
  rw [HK]
  rintro e w6 ⟨rfl, hb6⟩
  have S6 := S5.on hb6
  have M6 := M5.on hb6
  clear S5 M5 hb6
  go_wp2_with fail
  go_loopw [10] (fun i wr => ∃ k : Nat, k ≤ 11 ∧ i = .int .i64 k ∧ BS w a b (turned h M k) wr ∧ Blk wr w3.heap.size 22 26 M) (fun i _ => 11 - (intOf i).toNat)
  case atStart => exact ⟨0, by omega, rfl, by rw [turned_zero]; exact S6, M6⟩
  case round =>
    clear S6 M6
    obtain ⟨k, hk, rfl, S, hM⟩ := hrel
    by_cases hk11 : k < 11
    · have hc1 : wr.cell? ⟨w.heap.size + 1 + 1, k, none⟩ = some (.int .u64 (h k)) := by rw [S.h.cell k hk11, turned_at]
      have hc2 : wr.cell? ⟨w3.heap.size, 11 + k, none⟩ = some (.int .u64 (M (11 + k))) := hM.cell (11 + k) (by omega)
      have hc3 : wr.cell? ⟨w3.heap.size, k, none⟩ = some (.int .u64 (M k)) := hM.cell k (by omega)
      have hf1 : wr.frozen? ⟨w.heap.size + 1 + 1, k, none⟩ = false := S.h.frozen _
      have HS : Hid (BS w a b (turned h M k) wr) := S
      have HM2 : Hid (Blk wr w3.heap.size 22 26 M) := hM
      clear S hM
      go_wp2_with fail
      go_region
      go_wp2
      go_roundw
      case rel =>
        have S := HS.out
        have hl := (S.inv.1.setCell (p := ⟨w.heap.size + 1 + 1, k, none⟩) (by show w.heap.size ≤ w.heap.size + 1 + 1; omega) (.int .u64 (bits .or .u64 (bits .andNot .u64 (h k) (M (11 + k))) (M k)))).drew
        have hh := S.h.set k (bits .or .u64 (bits .andNot .u64 (h k) (M (11 + k))) (M k))
        rw [turned_step] at hh
        exact ⟨k + 1, by omega, by go_num, ⟨(S.a.setOther _ _ _ (by omega)).drew, (S.b.setOther _ _ _ (by omega)).drew, hh.drew, hl, HW.out.on hl⟩, (HM2.out.setOther _ _ _ (by omega)).drew⟩
      case measure => simp [intOf]; omega
    · obtain rfl : k = 11 := by omega
      clear hM
      go_wp2_with (first | (refine ld26 (.tmp 3) rfl _ rfl rfl a (by exact S.a) ?_) | (refine ld24 (.tmp 5) rfl _ rfl rfl (turned h M 11) (by exact S.h) ?_))
      go_fit (hits_any a (turned h M 11) _ S.inv.2)
      rw [TA]
      rintro e w7 ⟨rfl, hb7⟩
      have S7 := S.on hb7
      clear S hb7
      go_wp2_with (first | (refine ld26 (.tmp 4) rfl _ rfl rfl b (by exact S7.b) ?_) | (refine ld24 (.tmp 5) rfl _ rfl rfl (turned h M 11) (by exact S7.h) ?_))
      go_fit (hits_any b (turned h M 11) _ S7.inv.2)
      rw [TB]
      rintro e w8 ⟨rfl, hb8⟩
      have S8 := S7.on hb8
      clear S7 hb8
      go_wp2_with fail
      go_fit (wakes_any _ S8.inv.2)
      rintro e w9 ⟨rfl, hb9⟩
      have hfin := (S8.inv.on hb9).1
      clear S8 hb9
      go_wp2
      go_ret
      exact ⟨rfl, hfin⟩

set_option maxHeartbeats 6400000 in
theorem both_some2 (a b h M : Nat → Int) (w : World) (hw : Tab w) (HM : mt a b = M) (HC : mtOk a b = true) (HK : chk M = 0) (HA : hit a h = true) (pb : Bool) (HB : hit b h = pb) (HH : hit M h = pb) (TA : hit a (turned h M 11) = true) (TB : hit b (turned h M 11) = true) :
    Calls Tryd.prog 5 #[mv a, mv b, hv h] w fun e w' => e = .returned (.bool true) ∧ Below w.heap.size w w' := by
  have S0 := BS.begin hw a b h
  have HW : Hid (Tab w) := hw
  clear hw
  go_enter Tryd.func5, Tryd.ntmps5
  go_wp2_with (first | (refine alc26 rfl rfl ?_) | (refine ld26 (.tmp 3) rfl _ rfl rfl a (by exact S0.a) ?_) | (refine ld26 (.tmp 4) rfl _ rfl rfl b (by exact S0.b) ?_) | (refine ld24 (.tmp 5) rfl _ rfl rfl h (by exact S0.h) ?_))
  go_fit (hits_any a h _ S0.inv.2)
  rw [HA]
  rintro e w1 ⟨rfl, hb1⟩
  have S1 := S0.on hb1
  clear S0 hb1
  go_wp2_with (first | (refine alc26 rfl rfl ?_) | (refine ld26 (.tmp 3) rfl _ rfl rfl a (by exact S1.a) ?_) | (refine ld26 (.tmp 4) rfl _ rfl rfl b (by exact S1.b) ?_) | (refine ld24 (.tmp 5) rfl _ rfl rfl h (by exact S1.h) ?_))
  go_fit (hits_any b h _ S1.inv.2)
  rw [HB]
  rintro e w2 ⟨rfl, hb2⟩
  have S2 := S1.on hb2
  clear S1 hb2
  go_wp2_with (first | (refine alc26 rfl rfl ?_) | (refine ld26 (.tmp 3) rfl _ rfl rfl a (by exact S2.a) ?_) | (refine ld26 (.tmp 4) rfl _ rfl rfl b (by exact S2.b) ?_) | (refine ld24 (.tmp 5) rfl _ rfl rfl h (by exact S2.h) ?_))
  go_fit (meet_any a b _ S2.inv.2)
  rw [HM, HC]
  rintro e w3 ⟨rfl, hb3⟩
  have hlt : w.heap.size + 1 + 1 < w3.heap.size := (S2.on hb3).h.lt
  have S3 := (S2.on hb3).alloc (.cells (row 22 M) 26)
  have M3 := Blk.new w3 22 26 M
  clear S2 hb3
  go_wp2_with (first | (refine alc26 rfl rfl ?_) | (refine st26n (.tmp 8) (.tmp 23) rfl w3 zf (by with_reducible rfl) rfl M rfl rfl ?_) | (refine ld26 (.tmp 3) rfl _ rfl rfl a (by exact S3.a) ?_) | (refine ld26 (.tmp 4) rfl _ rfl rfl b (by exact S3.b) ?_) | (refine ld24 (.tmp 5) rfl _ rfl rfl h (by exact S3.h) ?_))
  go_fit (touch_any a b _ S3.inv.2)
  rw [HC]
  rintro e w4 ⟨rfl, hb4⟩
  have S4 := S3.on hb4
  have M4 := M3.on hb4
  clear S3 M3 hb4
  go_wp2_with (first | (refine alc26 rfl rfl ?_) | (refine ld26 (.tmp 8) rfl _ rfl rfl M (by exact M4) ?_) | (refine ld26 (.tmp 3) rfl _ rfl rfl a (by exact S4.a) ?_) | (refine ld26 (.tmp 4) rfl _ rfl rfl b (by exact S4.b) ?_) | (refine ld24 (.tmp 5) rfl _ rfl rfl h (by exact S4.h) ?_))
  go_fit (hits_any M h _ S4.inv.2)
  rw [HH]
  rintro e w5 ⟨rfl, hb5⟩
  have S5 := S4.on hb5
  have M5 := M4.on hb5
  clear S4 M4 hb5
  go_wp2_with (refine ld26 (.tmp 8) rfl _ rfl rfl M (by exact M5) ?_)
  go_fit (check_any M _ S5.inv.2)
  rw [HK]
  rintro e w6 ⟨rfl, hb6⟩
  have S6 := S5.on hb6
  have M6 := M5.on hb6
  clear S5 M5 hb6
  go_wp2_with fail
  go_loopw [10] (fun i wr => ∃ k : Nat, k ≤ 11 ∧ i = .int .i64 k ∧ BS w a b (turned h M k) wr ∧ Blk wr w3.heap.size 22 26 M) (fun i _ => 11 - (intOf i).toNat)
  case atStart => exact ⟨0, by omega, rfl, by rw [turned_zero]; exact S6, M6⟩
  case round =>
    clear S6 M6
    obtain ⟨k, hk, rfl, S, hM⟩ := hrel
    by_cases hk11 : k < 11
    · have hc1 : wr.cell? ⟨w.heap.size + 1 + 1, k, none⟩ = some (.int .u64 (h k)) := by rw [S.h.cell k hk11, turned_at]
      have hc2 : wr.cell? ⟨w3.heap.size, 11 + k, none⟩ = some (.int .u64 (M (11 + k))) := hM.cell (11 + k) (by omega)
      have hc3 : wr.cell? ⟨w3.heap.size, k, none⟩ = some (.int .u64 (M k)) := hM.cell k (by omega)
      have hf1 : wr.frozen? ⟨w.heap.size + 1 + 1, k, none⟩ = false := S.h.frozen _
      have HS : Hid (BS w a b (turned h M k) wr) := S
      have HM2 : Hid (Blk wr w3.heap.size 22 26 M) := hM
      clear S hM
      go_wp2_with fail
      go_region
      go_wp2
      go_roundw
      case rel =>
        have S := HS.out
        have hl := (S.inv.1.setCell (p := ⟨w.heap.size + 1 + 1, k, none⟩) (by show w.heap.size ≤ w.heap.size + 1 + 1; omega) (.int .u64 (bits .or .u64 (bits .andNot .u64 (h k) (M (11 + k))) (M k)))).drew
        have hh := S.h.set k (bits .or .u64 (bits .andNot .u64 (h k) (M (11 + k))) (M k))
        rw [turned_step] at hh
        exact ⟨k + 1, by omega, by go_num, ⟨(S.a.setOther _ _ _ (by omega)).drew, (S.b.setOther _ _ _ (by omega)).drew, hh.drew, hl, HW.out.on hl⟩, (HM2.out.setOther _ _ _ (by omega)).drew⟩
      case measure => simp [intOf]; omega
    · obtain rfl : k = 11 := by omega
      clear hM
      go_wp2_with (first | (refine ld26 (.tmp 3) rfl _ rfl rfl a (by exact S.a) ?_) | (refine ld24 (.tmp 5) rfl _ rfl rfl (turned h M 11) (by exact S.h) ?_))
      go_fit (hits_any a (turned h M 11) _ S.inv.2)
      rw [TA]
      rintro e w7 ⟨rfl, hb7⟩
      have S7 := S.on hb7
      clear S hb7
      go_wp2_with (first | (refine ld26 (.tmp 4) rfl _ rfl rfl b (by exact S7.b) ?_) | (refine ld24 (.tmp 5) rfl _ rfl rfl (turned h M 11) (by exact S7.h) ?_))
      go_fit (hits_any b (turned h M 11) _ S7.inv.2)
      rw [TB]
      rintro e w8 ⟨rfl, hb8⟩
      have S8 := S7.on hb8
      clear S7 hb8
      go_wp2_with fail
      go_fit (wakes_any _ S8.inv.2)
      rintro e w9 ⟨rfl, hb9⟩
      have hfin := (S8.inv.on hb9).1
      clear S8 hb9
      go_wp2
      go_ret
      exact ⟨rfl, hfin⟩

/-- MatchBoth: whatever the two matches and the header. -/
theorem both_any (a b h : Nat → Int) (ha : Bd a) (hb : Bd b) (w : World) (hw : Tab w) :
    Calls Tryd.prog 5 #[mv a, mv b, hv h] w fun e w' => e = .returned (.bool true) ∧ Below w.heap.size w w' := by
  cases hc : mtOk a b
  · have hn := none_hit (h := h) ha hb hc
    have he : eqM (mt a b) zf = true := by rw [mt_false hc]; exact eqM_refl zf
    cases h1 : hit a h
    · exact both_none1 a b h (mt a b) w hw rfl hc he h1
    · rw [h1, Bool.true_and] at hn
      exact both_none2 a b h (mt a b) w hw rfl hc he h1 hn
  · obtain ⟨oa, ob, _⟩ := (mtOk_iff a b).1 hc
    have e := mt_true hc
    have hk : chk (mt a b) = 0 := by rw [e]; exact chk_ok (or_ok ha hb oa ob)
    have hh : hit (mt a b) h = (hit a h && hit b h) := by rw [e]; exact or_hit ha hb hc
    have ht := both_hit (h := h) ha hb hc
    rw [← e] at ht
    cases h1 : hit a h
    · rw [h1, Bool.false_and] at hh
      exact both_some1 a b h (mt a b) w hw rfl hc hk h1 hh ht.1 ht.2
    · rw [h1, Bool.true_and] at hh
      exact both_some2 a b h (mt a b) w hw rfl hc hk h1 (hit b h) rfl hh ht.1 ht.2
end Go.Proofs.YtmonlbmjgjapoaaDoor
