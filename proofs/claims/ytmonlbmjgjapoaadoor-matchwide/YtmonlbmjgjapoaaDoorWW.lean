/-
  Proved here: MatchWide's body returns true for every match, field number, bit number and header; no old memory turns. Conditions: the match's numbers are of 64 bits; the widths' table holds its eleven numbers.
-/
import Derived.Test.YtmonlbmjgjapoaaDoorE3
import Derived.Test.YtmonlbmjgjapoaaDoorM5
import Derived.Test.YtmonlbmjgjapoaaDoorX2
namespace Go.Proofs.YtmonlbmjgjapoaaDoor
open Go.RowKit

/-- A match that no longer asks for some bits of one field. -/
def lessF (m : Nat → Int) (k : Nat) (y : Int) : Nat → Int := upd (upd m (11 + k) (bits .andNot .u64 (m (11 + k)) y)) k (bits .andNot .u64 (m k) y)
section
variable {m : Nat → Int}
theorem Bd.lessF (hm : Bd m) (k : Nat) (y : Int) : Bd (lessF m k y) := fun j => by
  unfold YtmonlbmjgjapoaaDoor.lessF
  by_cases e : j = k
  · subst e; rw [upd_same]; exact inB_andNot _ _
  · rw [upd_other _ _ _ _ e]
    by_cases e2 : j = 11 + k
    · subst e2; rw [upd_same]; exact inB_andNot _ _
    · rw [upd_other _ _ _ _ e2]; exact hm j
theorem less_val (k j : Nat) (y : Int) (hj : j < 11) : lessF m k y j = (if j = k then bits .andNot .u64 (m k) y else m j) := by
  unfold lessF
  by_cases e : j = k
  · subst e; rw [upd_same, if_pos rfl]
  · rw [upd_other _ _ _ _ e, upd_other _ _ _ _ (by omega), if_neg e]
theorem less_msk (k j : Nat) (y : Int) (hk : k < 11) : lessF m k y (11 + j) = (if j = k then bits .andNot .u64 (m (11 + k)) y else m (11 + j)) := by
  unfold lessF
  rw [upd_other _ _ _ _ (by omega)]
  by_cases e : j = k
  · subst e; rw [upd_same, if_pos rfl]
  · rw [upd_other _ _ _ _ (by omega), if_neg e]
theorem less_ok (hm : Bd m) (k : Nat) (hk : k < 11) (y : Int) (om : mOk m = true) : mOk (lessF m k y) = true := by
  rw [ok_iff (Bd.lessF hm k y)]
  intro j hj
  have h := (ok_iff hm).1 om j hj
  rw [less_val k j y hj, less_msk k j y hk]
  by_cases e : j = k
  · subst e
    rw [if_pos rfl, if_pos rfl]
    simp only [bt_andNot]
    have key : ∀ v z x : Bool, (v && !z) = false → ((v && !x) && !(z && !x)) = false := by decide
    exact ⟨fun i hi => by rw [h.1 i hi]; rfl, fun i => key _ _ _ (h.2 i)⟩
  · rw [if_neg e, if_neg e]; exact h
theorem less_und (hm : Bd m) (k : Nat) (hk : k < 11) (y : Int) (om : mOk m = true) : und m (lessF m k y) = true := by
  rw [und_iff (Bd.lessF hm k y)]
  refine ⟨om, less_ok hm k hk y om, fun j hj => ?_⟩
  have h := (ok_iff hm).1 om j hj
  rw [less_val k j y hj, less_msk k j y hk]
  by_cases e : j = k
  · subst e
    rw [if_pos rfl, if_pos rfl]
    simp only [bt_andNot]
    have k1 : ∀ z x : Bool, ((z && !x) && !z) = false := by decide
    have k2 : ∀ v z x : Bool, (v && !z) = false → (v && (z && !x)) = (v && !x) := by decide
    exact ⟨fun i => k1 _ _, fun i => k2 _ _ _ (h.2 i)⟩
  · rw [if_neg e, if_neg e]
    have k1 : ∀ z : Bool, (z && !z) = false := by decide
    have k2 : ∀ v z : Bool, (v && !z) = false → (v && z) = v := by decide
    exact ⟨fun i => k1 _, fun i => k2 _ _ (h.2 i)⟩
end

/-- What lies in the law's own blocks: a match and a header. -/
structure WS (w : World) (m h : Nat → Int) (w' : World) : Prop where
  m : Blk w' w.heap.size 22 26 m
  h : Blk w' (w.heap.size + 1) 11 24 h
  inv : Inv w w'
theorem WS.on {w w' w2 : World} {m h : Nat → Int} (hS : WS w m h w') (hb : Below w'.heap.size w' w2) : WS w m h w2 := ⟨hS.m.on hb, hS.h.on hb, hS.inv.on hb⟩
theorem WS.alloc {w w' : World} {m h : Nat → Int} (hS : WS w m h w') (o : Obj) : WS w m h (w'.alloc o) := hS.on ((Below.refl _ _).alloc (Nat.le_refl _) _)
theorem WS.begin {w : World} (hw : Tab w) (m h : Nat → Int) : WS w m h (WH w m h) := ⟨WH.m w m h, WH.h w m h, WH.low w m h, hw.on (WH.low w m h)⟩

set_option maxHeartbeats 1600000 in
theorem wide_none (m h : Nat → Int) (f j : Int) (w : World) (hw : Tab w) (HK : chk m = 20) :
    Calls Tryd.prog 8 #[mv m, .int .i64 f, .int .i64 j, hv h] w fun e w' => e = .returned (.bool true) ∧ Below w.heap.size w w' := by
  have S0 := WS.begin hw m h
  clear hw
  go_enter Tryd.func8, Tryd.ntmps8
  go_wp2_with (refine ld26 (.tmp 4) rfl _ rfl rfl m (by exact S0.m) ?_)
  go_fit (check_any m _ S0.inv.2)
  rw [HK]
  rintro e w1 ⟨rfl, hb1⟩
  have S1 := S0.on hb1
  clear S0 hb1
  go_wp2_with fail
  go_fit (wakes_any _ S1.inv.2)
  rintro e w2 ⟨rfl, hb2⟩
  have hfin := (S1.inv.on hb2).1
  clear S1 hb2
  go_wp2
  go_ret
  exact ⟨rfl, hfin⟩

set_option maxHeartbeats 1600000 in
theorem wide_off (m h : Nat → Int) (f j : Int) (w : World) (hw : Tab w) (HK : chk m = 0) (hf : f < 0 ∨ 11 ≤ f ∨ j < 0) :
    Calls Tryd.prog 8 #[mv m, .int .i64 f, .int .i64 j, hv h] w fun e w' => e = .returned (.bool true) ∧ Below w.heap.size w w' := by
  have S0 := WS.begin hw m h
  clear hw
  by_cases h1 : f < 0
  · have d1 : decide (f < 0) = true := by simpa using h1
    clear hf
    go_enter Tryd.func8, Tryd.ntmps8
    go_wp2_with (refine ld26 (.tmp 4) rfl _ rfl rfl m (by exact S0.m) ?_)
    go_fit (check_any m _ S0.inv.2)
    rw [HK]
    rintro e w1 ⟨rfl, hb1⟩
    have S1 := S0.on hb1
    clear S0 hb1
    go_wp2_with fail
    go_fit (wakes_any _ S1.inv.2)
    rintro e w2 ⟨rfl, hb2⟩
    have hfin := (S1.inv.on hb2).1
    clear S1 hb2
    go_wp2
    go_ret
    exact ⟨rfl, hfin⟩
  · have d1 : decide (f < 0) = false := by simpa using h1
    by_cases h2 : 11 ≤ f
    · have d2 : decide (11 ≤ f) = true := by simpa using h2
      clear hf
      go_enter Tryd.func8, Tryd.ntmps8
      go_wp2_with (refine ld26 (.tmp 4) rfl _ rfl rfl m (by exact S0.m) ?_)
      go_fit (check_any m _ S0.inv.2)
      rw [HK]
      rintro e w1 ⟨rfl, hb1⟩
      have S1 := S0.on hb1
      clear S0 hb1
      go_wp2_with fail
      go_fit (wakes_any _ S1.inv.2)
      rintro e w2 ⟨rfl, hb2⟩
      have hfin := (S1.inv.on hb2).1
      clear S1 hb2
      go_wp2
      go_ret
      exact ⟨rfl, hfin⟩
    · have d2 : decide (11 ≤ f) = false := by simpa using h2
      have h3 : j < 0 := by omega
      have d3 : decide (j < 0) = true := by simpa using h3
      clear hf
      go_enter Tryd.func8, Tryd.ntmps8
      go_wp2_with (refine ld26 (.tmp 4) rfl _ rfl rfl m (by exact S0.m) ?_)
      go_fit (check_any m _ S0.inv.2)
      rw [HK]
      rintro e w1 ⟨rfl, hb1⟩
      have S1 := S0.on hb1
      clear S0 hb1
      go_wp2_with fail
      go_fit (wakes_any _ S1.inv.2)
      rintro e w2 ⟨rfl, hb2⟩
      have hfin := (S1.inv.on hb2).1
      clear S1 hb2
      go_wp2
      go_ret
      exact ⟨rfl, hfin⟩

set_option maxHeartbeats 1600000 in
theorem wide_far (m h : Nat → Int) (k j : Nat) (hk : k < 11) (w : World) (hw : Tab w) (HK : chk m = 0) (hj : wid k ≤ (j : Int)) :
    Calls Tryd.prog 8 #[mv m, .int .i64 (k : Int), .int .i64 (j : Int), hv h] w fun e w' => e = .returned (.bool true) ∧ Below w.heap.size w w' := by
  have S0 := WS.begin hw m h
  have HC : ∀ W, Hid (Calls Tryd.prog 20 #[.int .i8 (k : Int)] W fun e w' => e = .returned (.int .i64 (wid k)) ∧ w' = W) := fun W => by
    have hC := rwidth_any (k : Int) W
    rw [widV_nat k hk] at hC
    exact hC
  clear hw
  go_enter Tryd.func8, Tryd.ntmps8
  go_wp2_with (refine ld26 (.tmp 4) rfl _ rfl rfl m (by exact S0.m) ?_)
  go_fit (check_any m _ S0.inv.2)
  rw [HK]
  rintro e w1 ⟨rfl, hb1⟩
  have S1 := S0.on hb1
  clear S0 hb1
  go_wp2_with fail
  go_fit (HC _).out
  rintro e w2 ⟨rfl, rfl⟩
  go_wp2_with fail
  go_fit (wakes_any _ S1.inv.2)
  rintro e w2 ⟨rfl, hb2⟩
  have hfin := (S1.inv.on hb2).1
  clear S1 hb2
  go_wp2
  go_ret
  exact ⟨rfl, hfin⟩

set_option maxHeartbeats 3200000 in
theorem wide_in (m h : Nat → Int) (k j : Nat) (hk : k < 11) (w : World) (hw : Tab w) (HK : chk m = 0) (hj : (j : Int) < wid k)
    (y : Int) (hy : IntKind.u64.wrap (2 ^ j) = y) (L : Nat → Int) (HL : lessF m k y = L) (H1 : chk L = 0) (H2 : und m L = true) (p q : Bool) (H3 : hit m h = p) (H4 : hit L h = q) (H5 : p = true → q = true) :
    Calls Tryd.prog 8 #[mv m, .int .i64 (k : Int), .int .i64 (j : Int), hv h] w fun e w' => e = .returned (.bool true) ∧ Below w.heap.size w w' := by
  have S0 := WS.begin hw m h
  have HW : Hid (Tab w) := hw
  have hj2 : j < 64 := by have := (wid_bd k).2; omega
  have HC : ∀ W, Hid (Calls Tryd.prog 20 #[.int .i8 (k : Int)] W fun e w' => e = .returned (.int .i64 (wid k)) ∧ w' = W) := fun W => by
    have hC := rwidth_any (k : Int) W
    rw [widV_nat k hk] at hC
    exact hC
  have GL : Hid (lessF m k y = L) := HL
  have G5 : Hid (p = true → q = true) := H5
  clear hw HL H5
  go_enter Tryd.func8, Tryd.ntmps8
  go_wp2_with (refine ld26 (.tmp 4) rfl _ rfl rfl m (by exact S0.m) ?_)
  go_fit (check_any m _ S0.inv.2)
  rw [HK]
  rintro e w1 ⟨rfl, hb1⟩
  have S1 := S0.on hb1
  clear S0 hb1
  go_wp2_with fail
  go_fit (HC _).out
  rintro e w2 ⟨rfl, rfl⟩
  clear HC
  have S2 := S1.alloc (.cells (row 22 m) 26)
  have L2 := Blk.new w2 22 26 m
  have hlt : w.heap.size + 1 < w2.heap.size := S1.h.lt
  go_wp2_with (first | (refine alc26 rfl rfl ?_) | (refine st26n (.tmp 9) (.tmp 33) rfl w2 zf (by with_reducible rfl) rfl m rfl rfl ?_) | (refine ld26 (.tmp 4) rfl _ rfl rfl m (by exact S1.m) ?_))
  simp only [Act.put, List.setIfInBounds_toArray, List.set_cons_zero, List.set_cons_succ]
  clear S1
  generalize w2.alloc (.cells (row 22 m) 26) = V at S2 L2 ⊢
  have hc1 : V.cell? ⟨w2.heap.size, 11 + k, none⟩ = some (.int .u64 (m (11 + k))) := L2.cell (11 + k) (by omega)
  have hf1 : V.frozen? ⟨w2.heap.size, 11 + k, none⟩ = false := L2.frozen _
  go_region
  go_wp2_with fail
  have hl3 := (S2.inv.1.setCell (p := ⟨w2.heap.size, 11 + k, none⟩) (by show w.heap.size ≤ w2.heap.size; omega) (.int .u64 (bits .andNot .u64 (m (11 + k)) y))).drew
  have S3 : WS w m h (V.setCell ⟨w2.heap.size, 11 + k, none⟩ (.int .u64 (bits .andNot .u64 (m (11 + k)) y))).drew := ⟨(S2.m.setOther _ _ _ (by omega)).drew, (S2.h.setOther _ _ _ (by omega)).drew, hl3, HW.out.on hl3⟩
  have L3 := (L2.set (11 + k) (bits .andNot .u64 (m (11 + k)) y)).drew
  clear S2 L2 hl3 hc1 hf1
  generalize (V.setCell ⟨w2.heap.size, 11 + k, none⟩ (.int .u64 (bits .andNot .u64 (m (11 + k)) y))).drew = V2 at S3 L3 ⊢
  have hc2 : V2.cell? ⟨w2.heap.size, k, none⟩ = some (.int .u64 (m k)) := by rw [L3.cell k (by omega), upd_other _ _ _ _ (by omega)]
  have hf2 : V2.frozen? ⟨w2.heap.size, k, none⟩ = false := L3.frozen _
  go_region
  have hl4 := (S3.inv.1.setCell (p := ⟨w2.heap.size, k, none⟩) (by show w.heap.size ≤ w2.heap.size; omega) (.int .u64 (bits .andNot .u64 (m k) y))).drew
  have S4 : WS w m h (V2.setCell ⟨w2.heap.size, k, none⟩ (.int .u64 (bits .andNot .u64 (m k) y))).drew := ⟨(S3.m.setOther _ _ _ (by omega)).drew, (S3.h.setOther _ _ _ (by omega)).drew, hl4, HW.out.on hl4⟩
  have L4 : Blk (V2.setCell ⟨w2.heap.size, k, none⟩ (.int .u64 (bits .andNot .u64 (m k) y))).drew w2.heap.size 22 26 L := by
    have := (L3.set k (bits .andNot .u64 (m k) y)).drew
    rw [show upd (upd m (11 + k) (bits .andNot .u64 (m (11 + k)) y)) k (bits .andNot .u64 (m k) y) = L from GL.out] at this
    exact this
  clear S3 L3 hl4 hc2 hf2 hy GL
  generalize (V2.setCell ⟨w2.heap.size, k, none⟩ (.int .u64 (bits .andNot .u64 (m k) y))).drew = V3 at S4 L4 ⊢
  go_wp2_with (refine ld26 (.tmp 9) rfl _ rfl rfl L (by exact L4) ?_)
  go_fit (check_any L _ S4.inv.2)
  rw [H1]
  rintro e w5 ⟨rfl, hb5⟩
  have S5 := S4.on hb5
  have L5 := L4.on hb5
  clear S4 L4 hb5
  go_wp2_with (first | (refine ld26 (.tmp 4) rfl _ rfl rfl m (by exact S5.m) ?_) | (refine ld26 (.tmp 9) rfl _ rfl rfl L (by exact L5) ?_))
  go_fit (under_any m L _ S5.inv.2)
  rw [H2]
  rintro e w6 ⟨rfl, hb6⟩
  have S6 := S5.on hb6
  have L6 := L5.on hb6
  clear S5 L5 hb6
  go_wp2_with (first | (refine ld26 (.tmp 4) rfl _ rfl rfl m (by exact S6.m) ?_) | (refine ld24 (.tmp 7) rfl _ rfl rfl h (by exact S6.h) ?_))
  go_fit (hits_any m h _ S6.inv.2)
  rw [H3]
  rintro e w7 ⟨rfl, hb7⟩
  have S7 := S6.on hb7
  have L7 := L6.on hb7
  clear S6 L6 hb7
  cases p
  · clear G5 L7 H3 H4
    go_wp2_with fail
    go_fit (wakes_any _ S7.inv.2)
    rintro e w8 ⟨rfl, hb8⟩
    have hfin := (S7.inv.on hb8).1
    clear S7 hb8
    go_wp2
    go_ret
    exact ⟨rfl, hfin⟩
  · obtain rfl : q = true := G5.out rfl
    clear G5
    go_wp2_with (first | (refine ld26 (.tmp 9) rfl _ rfl rfl L (by exact L7) ?_) | (refine ld24 (.tmp 7) rfl _ rfl rfl h (by exact S7.h) ?_))
    go_fit (hits_any L h _ S7.inv.2)
    rw [H4]
    rintro e w8 ⟨rfl, hb8⟩
    have S8 := S7.on hb8
    clear S7 L7 hb8
    go_wp2_with fail
    go_fit (wakes_any _ S8.inv.2)
    rintro e w9 ⟨rfl, hb9⟩
    have hfin := (S8.inv.on hb9).1
    clear S8 hb9
    go_wp2
    go_ret
    exact ⟨rfl, hfin⟩

/-- MatchWide: whatever the match, the field, the bit and the header. -/
theorem wide_any (m : Nat → Int) (f j : Int) (h : Nat → Int) (hm : Bd m) (w : World) (hw : Tab w) :
    Calls Tryd.prog 8 #[mv m, .int .i64 f, .int .i64 j, hv h] w fun e w' => e = .returned (.bool true) ∧ Below w.heap.size w w' := by
  cases om : mOk m
  · exact wide_none m h f j w hw (chk_bad om)
  · by_cases hf : f < 0 ∨ 11 ≤ f ∨ j < 0
    · exact wide_off m h f j w hw (chk_ok om) hf
    · obtain ⟨k, rfl⟩ := Int.eq_ofNat_of_zero_le (show 0 ≤ f by omega)
      obtain ⟨i, rfl⟩ := Int.eq_ofNat_of_zero_le (show 0 ≤ j by omega)
      have hk : k < 11 := by omega
      by_cases hj : wid k ≤ (i : Int)
      · exact wide_far m h k i hk w hw (chk_ok om) hj
      · refine wide_in m h k i hk w hw (chk_ok om) (by omega) _ rfl _ rfl (chk_ok (less_ok hm k hk _ om)) (less_und hm k hk _ om) _ _ rfl rfl fun hp => ?_
        exact und_hit hm (Bd.lessF hm k _) (less_und hm k hk _ om) hp
end Go.Proofs.YtmonlbmjgjapoaaDoor
