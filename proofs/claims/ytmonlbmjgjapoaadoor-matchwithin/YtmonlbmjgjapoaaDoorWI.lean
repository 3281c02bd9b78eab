/-
  Proved here: MatchWithin's body returns true for every three matches and every header; no old memory turns. Conditions: all numbers of the matches are of 64 bits; the widths' table holds its eleven numbers.
-/
import Derived.Test.YtmonlbmjgjapoaaDoorE3
import Derived.Test.YtmonlbmjgjapoaaDoorM5
import Derived.Test.YtmonlbmjgjapoaaDoorX2
namespace Go.Proofs.YtmonlbmjgjapoaaDoor
open Go.RowKit

/-- What lies in the law's own blocks: three matches and a header. -/
structure IS (w : World) (a b c h : Nat → Int) (w' : World) : Prop where
  a : Blk w' w.heap.size 22 26 a
  b : Blk w' (w.heap.size + 1) 22 26 b
  c : Blk w' (w.heap.size + 1 + 1) 22 26 c
  h : Blk w' (w.heap.size + 1 + 1 + 1) 11 24 h
  inv : Inv w w'
theorem IS.on {w w' w2 : World} {a b c h : Nat → Int} (hS : IS w a b c h w') (hb : Below w'.heap.size w' w2) : IS w a b c h w2 := ⟨hS.a.on hb, hS.b.on hb, hS.c.on hb, hS.h.on hb, hS.inv.on hb⟩
theorem IS.alloc {w w' : World} {a b c h : Nat → Int} (hS : IS w a b c h w') (o : Obj) : IS w a b c h (w'.alloc o) := hS.on ((Below.refl _ _).alloc (Nat.le_refl _) _)
theorem IS.set {w w' : World} {a b c h : Nat → Int} (hS : IS w a b c h w') (hw : Tab w) (k : Nat) (x : Int) : IS w a b c (upd h k x) (w'.setCell ⟨w.heap.size + 1 + 1 + 1, k, none⟩ (.int .u64 x)) := by
  have hl := hS.inv.1.setCell (p := ⟨w.heap.size + 1 + 1 + 1, k, none⟩) (by show w.heap.size ≤ w.heap.size + 1 + 1 + 1; omega) (.int .u64 x)
  exact ⟨hS.a.setOther _ _ _ (by omega), hS.b.setOther _ _ _ (by omega), hS.c.setOther _ _ _ (by omega), hS.h.set k x, hl, hw.on hl⟩
theorem IS.drew {w w' : World} {a b c h : Nat → Int} (hS : IS w a b c h w') : IS w a b c h w'.drew := ⟨hS.a.drew, hS.b.drew, hS.c.drew, hS.h.drew, hS.inv.drew⟩
abbrev W4 (w : World) (a b c h : Nat → Int) : World := ((W2 w a b).alloc (.cells (row 22 c) 26)).alloc (.cells (row 11 h) 24)
theorem IS.begin {w : World} (hw : Tab w) (a b c h : Nat → Int) : IS w a b c h (W4 w a b c h) := by
  have hl3 : Below w.heap.size w ((W2 w a b).alloc (.cells (row 22 c) 26)) := (W2.low w a b).alloc (by simp; omega) _
  have hl : Below w.heap.size w (W4 w a b c h) := hl3.alloc hl3.size _
  refine ⟨((W2.a w a b).alloc _).alloc _, ((W2.b w a b).alloc _).alloc _, Blk.alloc ?_ _, ?_, hl, hw.on hl⟩
  · have := Blk.new (W2 w a b) 22 26 c
    simpa using this
  · have := Blk.new ((W2 w a b).alloc (.cells (row 22 c) 26)) 11 24 h
    simpa using this


/-- Every bit the other way. -/
def notV (x : Int) : Int := bits .xor .u64 (if IntKind.u64.signed = true then -1 else IntKind.u64.max) x
theorem bt_notAnd (x y : Int) (i : Nat) : bt (bits .and .u64 (notV x) y) i = (!bt x i && bt y i) := by
  rw [bt_and]
  by_cases h : 64 ≤ i
  · rw [bt_past y i h, Bool.and_false, Bool.and_false]
  · have e : bt (if IntKind.u64.signed = true then -1 else IntKind.u64.max) i = true := by
      rw [show (if IntKind.u64.signed = true then -1 else IntKind.u64.max) = (18446744073709551615 : Int) from rfl]
      unfold bt
      rw [show BitVec.ofInt 64 18446744073709551615 = BitVec.allOnes 64 from rfl, BitVec.getLsbD_allOnes]
      simp; omega
    unfold notV
    rw [bt_xor, e, Bool.true_xor]
/-- A header that no longer is hit where the other match asks for more. -/
def spoilt (g a b : Nat → Int) (n : Nat) : Nat → Int := fun k => if k < n then bits .or .u64 (bits .andNot .u64 (g k) (bits .andNot .u64 (b (11 + k)) (a (11 + k)))) (bits .and .u64 (notV (b k)) (bits .andNot .u64 (b (11 + k)) (a (11 + k)))) else g k
theorem spoilt_zero (g a b : Nat → Int) : spoilt g a b 0 = g := by
  funext k
  unfold spoilt
  rw [if_neg (by omega)]
theorem spoilt_at (g a b : Nat → Int) (k : Nat) : spoilt g a b k k = g k := by
  unfold spoilt; rw [if_neg (by omega)]
theorem spoilt_step (g a b : Nat → Int) (k : Nat) : upd (spoilt g a b k) k (bits .or .u64 (bits .andNot .u64 (g k) (bits .andNot .u64 (b (11 + k)) (a (11 + k)))) (bits .and .u64 (notV (b k)) (bits .andNot .u64 (b (11 + k)) (a (11 + k))))) = spoilt g a b (k + 1) := by
  funext j
  by_cases e : j = k
  · subst e
    rw [upd_same]; unfold spoilt; rw [if_pos (by omega)]
  · rw [upd_other _ _ _ _ e]
    unfold spoilt
    by_cases h1 : j < k
    · rw [if_pos h1, if_pos (by omega)]
    · rw [if_neg h1, if_neg (by omega)]
section
variable {a b h : Nat → Int}
theorem bt_spoilt (k i : Nat) (hk : k < 11) : bt (spoilt (turned h a 11) a b 11 k) i = ((bt (h k) i && !bt (a (11 + k)) i || bt (a k) i) && !(bt (b (11 + k)) i && !bt (a (11 + k)) i) || !bt (b k) i && (bt (b (11 + k)) i && !bt (a (11 + k)) i)) := by
  unfold spoilt
  rw [if_pos hk, bt_or, bt_andNot, bt_notAnd, bt_andNot, bt_turned _ _ _ _ hk]
theorem spoilt_hit (ha : Bd a) (oa : mOk a = true) : hit a (spoilt (turned h a 11) a b 11) = true := by
  rw [hit_iff ha]
  refine ⟨oa, fun k hk i => ?_⟩
  rw [bt_spoilt k i hk]
  have key : ∀ x va vb ma mb : Bool, (va && !ma) = false → (((x && !ma || va) && !(mb && !ma) || !vb && (mb && !ma)) && ma) = va := by decide
  exact key _ _ _ _ _ (((ok_iff ha).1 oa k hk).2 i)
theorem spoilt_miss (ha : Bd a) (hb : Bd b) (oa : mOk a = true) (ob : mOk b = true) (hu : und a b = false) : hit b (spoilt (turned h a 11) a b 11) = false := by
  rw [Bool.eq_false_iff]
  intro hh
  obtain ⟨_, x⟩ := (hit_iff hb).1 hh
  have k1 : ∀ x va vb ma mb : Bool, (((x && !ma || va) && !(mb && !ma) || !vb && (mb && !ma)) && mb) = vb → (mb && !ma) = false := by decide
  have k2 : ∀ x va vb ma mb : Bool, (va && !ma) = false → (vb && !mb) = false → (((x && !ma || va) && !(mb && !ma) || !vb && (mb && !ma)) && mb) = vb → (va && mb) = vb := by decide
  have : und a b = true := (und_iff hb).2 ⟨oa, ob, fun k hk => ⟨fun i => by
    have e := x k hk i
    rw [bt_spoilt k i hk] at e
    exact k1 _ _ _ _ _ e, fun i => by
    have e := x k hk i
    rw [bt_spoilt k i hk] at e
    exact k2 _ _ _ _ _ (((ok_iff ha).1 oa k hk).2 i) (((ok_iff hb).1 ob k hk).2 i) e⟩⟩
  rw [this] at hu
  cases hu
end

set_option maxRecDepth 100000 in
set_option maxHeartbeats 3200000 in
theorem within_none1 (a b c h M : Nat → Int) (w : World) (hw : Tab w) (HM : mt a b = M) (x : Bool) (HC : mtOk a b = x) (HU : und a b = false) (HKA : chk a = 20) :
    Calls Tryd.prog 7 #[mv a, mv b, mv c, hv h] w fun e w' => e = .returned (.bool true) ∧ Below w.heap.size w w' := by
  have S0 := IS.begin hw a b c h
  have HW : Hid (Tab w) := hw
  clear hw
  go_enter Tryd.func7, Tryd.ntmps7
  go_wp2_with (first | (refine alc26 rfl rfl ?_) | (refine ld26 (.tmp 4) rfl _ rfl rfl a (by exact S0.a) ?_) | (refine ld26 (.tmp 5) rfl _ rfl rfl b (by exact S0.b) ?_))
  go_fit (under_any a b _ S0.inv.2)
  rw [HU]
  rintro e w1 ⟨rfl, hb1⟩
  have S1 := S0.on hb1
  clear S0 hb1
  go_wp2_with (first | (refine alc26 rfl rfl ?_) | (refine ld26 (.tmp 4) rfl _ rfl rfl a (by exact S1.a) ?_) | (refine ld26 (.tmp 5) rfl _ rfl rfl b (by exact S1.b) ?_))
  go_fit (meet_any a b _ S1.inv.2)
  rw [HM, HC]
  rintro e w2 ⟨rfl, hb2⟩
  have S2 := (S1.on hb2).alloc (.cells (row 22 M) 26)
  have M2 := Blk.new w2 22 26 M
  clear S1 hb2
  go_wp2_with (first | (refine alc26 rfl rfl ?_) | (refine st26n (.tmp 10) (.tmp 23) rfl w2 zf (by with_reducible rfl) rfl M rfl rfl ?_) | (refine ld26 (.tmp 4) rfl _ rfl rfl a (by exact S2.a) ?_))
  go_fit (check_any a _ S2.inv.2)
  rw [HKA]
  rintro e w3 ⟨rfl, hb3⟩
  have S3 := S2.on hb3
  have M3 := M2.on hb3
  clear S2 M2 hb3
  go_wp2_with fail
  go_fit (wakes_any _ S3.inv.2)
  rintro e w9 ⟨rfl, hb9⟩
  have hfin := (S3.inv.on hb9).1
  clear S3 hb9
  go_wp2
  go_ret
  exact ⟨rfl, hfin⟩

set_option maxRecDepth 100000 in
set_option maxHeartbeats 3200000 in
theorem within_none2 (a b c h M : Nat → Int) (w : World) (hw : Tab w) (HM : mt a b = M) (x : Bool) (HC : mtOk a b = x) (HU : und a b = false) (HKA : chk a = 0) (HKB : chk b = 20) :
    Calls Tryd.prog 7 #[mv a, mv b, mv c, hv h] w fun e w' => e = .returned (.bool true) ∧ Below w.heap.size w w' := by
  have S0 := IS.begin hw a b c h
  have HW : Hid (Tab w) := hw
  clear hw
  go_enter Tryd.func7, Tryd.ntmps7
  go_wp2_with (first | (refine alc26 rfl rfl ?_) | (refine ld26 (.tmp 4) rfl _ rfl rfl a (by exact S0.a) ?_) | (refine ld26 (.tmp 5) rfl _ rfl rfl b (by exact S0.b) ?_))
  go_fit (under_any a b _ S0.inv.2)
  rw [HU]
  rintro e w1 ⟨rfl, hb1⟩
  have S1 := S0.on hb1
  clear S0 hb1
  go_wp2_with (first | (refine alc26 rfl rfl ?_) | (refine ld26 (.tmp 4) rfl _ rfl rfl a (by exact S1.a) ?_) | (refine ld26 (.tmp 5) rfl _ rfl rfl b (by exact S1.b) ?_))
  go_fit (meet_any a b _ S1.inv.2)
  rw [HM, HC]
  rintro e w2 ⟨rfl, hb2⟩
  have S2 := (S1.on hb2).alloc (.cells (row 22 M) 26)
  have M2 := Blk.new w2 22 26 M
  clear S1 hb2
  go_wp2_with (first | (refine alc26 rfl rfl ?_) | (refine st26n (.tmp 10) (.tmp 23) rfl w2 zf (by with_reducible rfl) rfl M rfl rfl ?_) | (refine ld26 (.tmp 4) rfl _ rfl rfl a (by exact S2.a) ?_))
  go_fit (check_any a _ S2.inv.2)
  rw [HKA]
  rintro e w3 ⟨rfl, hb3⟩
  have S3 := S2.on hb3
  have M3 := M2.on hb3
  clear S2 M2 hb3
  go_wp2_with (first | (refine alc26 rfl rfl ?_) | (refine ld26 (.tmp 5) rfl _ rfl rfl b (by exact S3.b) ?_))
  go_fit (check_any b _ S3.inv.2)
  rw [HKB]
  rintro e w4 ⟨rfl, hb4⟩
  have S4 := S3.on hb4
  have M4 := M3.on hb4
  clear S3 M3 hb4
  go_wp2_with fail
  go_fit (wakes_any _ S4.inv.2)
  rintro e w9 ⟨rfl, hb9⟩
  have hfin := (S4.inv.on hb9).1
  clear S4 hb9
  go_wp2
  go_ret
  exact ⟨rfl, hfin⟩

set_option maxRecDepth 100000 in
set_option maxHeartbeats 6400000 in
theorem within_no (a b c h M : Nat → Int) (w : World) (hw : Tab w) (HM : mt a b = M) (x : Bool) (HC : mtOk a b = x) (HE : x = true → eqM M a = false) (HU : und a b = false) (HKA : chk a = 0) (HKB : chk b = 0) (FA : hit a (spoilt (turned h a 11) a b 11) = true) (FB : hit b (spoilt (turned h a 11) a b 11) = false) :
    Calls Tryd.prog 7 #[mv a, mv b, mv c, hv h] w fun e w' => e = .returned (.bool true) ∧ Below w.heap.size w w' := by
  have GFA : Hid (hit a (spoilt (turned h a 11) a b 11) = true) := FA
  have GFB : Hid (hit b (spoilt (turned h a 11) a b 11) = false) := FB
  clear FA FB
  have GE : Hid (x = true → eqM M a = false) := HE
  clear HE
  have S0 := IS.begin hw a b c h
  have HW : Hid (Tab w) := hw
  clear hw
  go_enter Tryd.func7, Tryd.ntmps7
  go_wp2_with (first | (refine alc26 rfl rfl ?_) | (refine ld26 (.tmp 4) rfl _ rfl rfl a (by exact S0.a) ?_) | (refine ld26 (.tmp 5) rfl _ rfl rfl b (by exact S0.b) ?_))
  go_fit (under_any a b _ S0.inv.2)
  rw [HU]
  rintro e w1 ⟨rfl, hb1⟩
  have S1 := S0.on hb1
  clear S0 hb1
  go_wp2_with (first | (refine alc26 rfl rfl ?_) | (refine ld26 (.tmp 4) rfl _ rfl rfl a (by exact S1.a) ?_) | (refine ld26 (.tmp 5) rfl _ rfl rfl b (by exact S1.b) ?_))
  go_fit (meet_any a b _ S1.inv.2)
  rw [HM, HC]
  rintro e w2 ⟨rfl, hb2⟩
  have S2 := (S1.on hb2).alloc (.cells (row 22 M) 26)
  have M2 := Blk.new w2 22 26 M
  clear S1 hb2
  go_wp2_with (first | (refine alc26 rfl rfl ?_) | (refine st26n (.tmp 10) (.tmp 23) rfl w2 zf (by with_reducible rfl) rfl M rfl rfl ?_) | (refine ld26 (.tmp 4) rfl _ rfl rfl a (by exact S2.a) ?_))
  go_fit (check_any a _ S2.inv.2)
  rw [HKA]
  rintro e w3 ⟨rfl, hb3⟩
  have S3 := S2.on hb3
  have M3 := M2.on hb3
  clear S2 M2 hb3
  go_wp2_with (first | (refine alc26 rfl rfl ?_) | (refine ld26 (.tmp 5) rfl _ rfl rfl b (by exact S3.b) ?_))
  go_fit (check_any b _ S3.inv.2)
  rw [HKB]
  rintro e w4 ⟨rfl, hb4⟩
  have S4 := S3.on hb4
  have M4 := M3.on hb4
  clear S3 M3 hb4
  cases x
  · clear GE M4
    go_wp2_with fail
    go_loopw [13] (fun i wr => ∃ k : Nat, k ≤ 11 ∧ i = .int .i64 k ∧ IS w a b c (turned h a k) wr) (fun i _ => 11 - (intOf i).toNat)
    case atStart => exact ⟨0, by omega, rfl, by rw [turned_zero]; exact S4⟩
    case round =>
      clear S4
      obtain ⟨k, hk, rfl, S⟩ := hrel
      by_cases hk11 : k < 11
      · have hc1 : wr.cell? ⟨w.heap.size + 1 + 1 + 1, k, none⟩ = some (.int .u64 (h k)) := by rw [S.h.cell k hk11, turned_at]
        have hc2 : wr.cell? ⟨w.heap.size, 11 + k, none⟩ = some (.int .u64 (a (11 + k))) := S.a.cell (11 + k) (by omega)
        have hc3 : wr.cell? ⟨w.heap.size, k, none⟩ = some (.int .u64 (a k)) := S.a.cell k (by omega)
        have hf1 : wr.frozen? ⟨w.heap.size + 1 + 1 + 1, k, none⟩ = false := S.h.frozen _
        have HS : Hid (IS w a b c (turned h a k) wr) := S
        clear S
        go_wp2_with fail
        go_region
        go_wp2
        go_roundw
        case rel =>
          have hh := (HS.out.set HW.out k (bits .or .u64 (bits .andNot .u64 (h k) (a (11 + k))) (a k))).drew
          rw [turned_step] at hh
          exact ⟨k + 1, by omega, by go_num, hh⟩
        case measure => simp [intOf]; omega
      · obtain rfl : k = 11 := by omega
        generalize hg : turned h a 11 = g at S
        have HG : Hid (turned h a 11 = g) := hg
        clear hg
        go_wp2_with fail
        go_loopw [14] (fun i wr => ∃ k : Nat, k ≤ 11 ∧ i = .int .i64 k ∧ IS w a b c (spoilt g a b k) wr) (fun i _ => 11 - (intOf i).toNat)
        case atStart => exact ⟨0, by omega, rfl, by rw [spoilt_zero]; exact S⟩
        case round =>
          clear S
          obtain ⟨k, hk, rfl, S⟩ := hrel
          by_cases hk11 : k < 11
          · have hc1 : wr.cell? ⟨w.heap.size + 1 + 1 + 1, k, none⟩ = some (.int .u64 (g k)) := by rw [S.h.cell k hk11, spoilt_at]
            have hc2 : wr.cell? ⟨w.heap.size, 11 + k, none⟩ = some (.int .u64 (a (11 + k))) := S.a.cell (11 + k) (by omega)
            have hc3 : wr.cell? ⟨w.heap.size + 1, 11 + k, none⟩ = some (.int .u64 (b (11 + k))) := S.b.cell (11 + k) (by omega)
            have hc4 : wr.cell? ⟨w.heap.size + 1, k, none⟩ = some (.int .u64 (b k)) := S.b.cell k (by omega)
            have hf1 : wr.frozen? ⟨w.heap.size + 1 + 1 + 1, k, none⟩ = false := S.h.frozen _
            have HS : Hid (IS w a b c (spoilt g a b k) wr) := S
            clear S
            go_wp2_with fail
            go_region
            go_wp2_with fail
            go_region
            go_wp2
            go_roundw
            case rel =>
              have hh := ((HS.out.set HW.out k (bits .or .u64 (bits .andNot .u64 (g k) (bits .andNot .u64 (b (11 + k)) (a (11 + k)))) (bits .and .u64 (notV (b k)) (bits .andNot .u64 (b (11 + k)) (a (11 + k)))))).drew).drew
              rw [spoilt_step] at hh
              exact ⟨k + 1, by omega, by go_num, hh⟩
            case measure => simp [intOf]; omega
          · obtain rfl : k = 11 := by omega
            generalize hg2 : spoilt g a b 11 = g2 at S
            have TA : hit a g2 = true := by rw [← hg2, ← HG.out]; exact GFA.out
            have TB : hit b g2 = false := by rw [← hg2, ← HG.out]; exact GFB.out
            clear hg2 HG
            go_wp2_with (first | (refine ld26 (.tmp 4) rfl _ rfl rfl a (by exact S.a) ?_) | (refine ld24 (.tmp 7) rfl _ rfl rfl g2 (by exact S.h) ?_))
            go_fit (hits_any a g2 _ S.inv.2)
            rw [TA]
            rintro e w7 ⟨rfl, hb7⟩
            have S7 := S.on hb7
            clear S hb7
            go_wp2_with (first | (refine ld26 (.tmp 5) rfl _ rfl rfl b (by exact S7.b) ?_) | (refine ld24 (.tmp 7) rfl _ rfl rfl g2 (by exact S7.h) ?_))
            go_fit (hits_any b g2 _ S7.inv.2)
            rw [TB]
            rintro e w8 ⟨rfl, hb8⟩
            have S8 := S7.on hb8
            clear S7 hb8
            go_wp2_with fail
            go_fit (wakes_any _ S8.inv.2)
            rintro e w9 ⟨rfl, hb9⟩
            have hfin := (S8.inv.on hb9).1
            clear S8 hb9
            go_wp2
            go_ret
            exact ⟨rfl, hfin⟩
  · have HE : eqM M a = false := GE.out rfl
    clear GE
    go_wp2_with (first | (refine alc26 rfl rfl ?_) | (refine ld26 (.tmp 10) rfl _ rfl rfl M (by exact M4) ?_) | (refine ld26 (.tmp 4) rfl _ rfl rfl a (by exact S4.a) ?_) | (refine eql26 (.tmp 39) (.tmp 40) rfl M a rfl rfl rfl ?_; rw [HE]))
    clear M4 HE
    go_loopw [13] (fun i wr => ∃ k : Nat, k ≤ 11 ∧ i = .int .i64 k ∧ IS w a b c (turned h a k) wr) (fun i _ => 11 - (intOf i).toNat)
    case atStart => exact ⟨0, by omega, rfl, by rw [turned_zero]; exact S4⟩
    case round =>
      clear S4
      obtain ⟨k, hk, rfl, S⟩ := hrel
      by_cases hk11 : k < 11
      · have hc1 : wr.cell? ⟨w.heap.size + 1 + 1 + 1, k, none⟩ = some (.int .u64 (h k)) := by rw [S.h.cell k hk11, turned_at]
        have hc2 : wr.cell? ⟨w.heap.size, 11 + k, none⟩ = some (.int .u64 (a (11 + k))) := S.a.cell (11 + k) (by omega)
        have hc3 : wr.cell? ⟨w.heap.size, k, none⟩ = some (.int .u64 (a k)) := S.a.cell k (by omega)
        have hf1 : wr.frozen? ⟨w.heap.size + 1 + 1 + 1, k, none⟩ = false := S.h.frozen _
        have HS : Hid (IS w a b c (turned h a k) wr) := S
        clear S
        go_wp2_with fail
        go_region
        go_wp2
        go_roundw
        case rel =>
          have hh := (HS.out.set HW.out k (bits .or .u64 (bits .andNot .u64 (h k) (a (11 + k))) (a k))).drew
          rw [turned_step] at hh
          exact ⟨k + 1, by omega, by go_num, hh⟩
        case measure => simp [intOf]; omega
      · obtain rfl : k = 11 := by omega
        generalize hg : turned h a 11 = g at S
        have HG : Hid (turned h a 11 = g) := hg
        clear hg
        go_wp2_with fail
        go_loopw [14] (fun i wr => ∃ k : Nat, k ≤ 11 ∧ i = .int .i64 k ∧ IS w a b c (spoilt g a b k) wr) (fun i _ => 11 - (intOf i).toNat)
        case atStart => exact ⟨0, by omega, rfl, by rw [spoilt_zero]; exact S⟩
        case round =>
          clear S
          obtain ⟨k, hk, rfl, S⟩ := hrel
          by_cases hk11 : k < 11
          · have hc1 : wr.cell? ⟨w.heap.size + 1 + 1 + 1, k, none⟩ = some (.int .u64 (g k)) := by rw [S.h.cell k hk11, spoilt_at]
            have hc2 : wr.cell? ⟨w.heap.size, 11 + k, none⟩ = some (.int .u64 (a (11 + k))) := S.a.cell (11 + k) (by omega)
            have hc3 : wr.cell? ⟨w.heap.size + 1, 11 + k, none⟩ = some (.int .u64 (b (11 + k))) := S.b.cell (11 + k) (by omega)
            have hc4 : wr.cell? ⟨w.heap.size + 1, k, none⟩ = some (.int .u64 (b k)) := S.b.cell k (by omega)
            have hf1 : wr.frozen? ⟨w.heap.size + 1 + 1 + 1, k, none⟩ = false := S.h.frozen _
            have HS : Hid (IS w a b c (spoilt g a b k) wr) := S
            clear S
            go_wp2_with fail
            go_region
            go_wp2_with fail
            go_region
            go_wp2
            go_roundw
            case rel =>
              have hh := ((HS.out.set HW.out k (bits .or .u64 (bits .andNot .u64 (g k) (bits .andNot .u64 (b (11 + k)) (a (11 + k)))) (bits .and .u64 (notV (b k)) (bits .andNot .u64 (b (11 + k)) (a (11 + k)))))).drew).drew
              rw [spoilt_step] at hh
              exact ⟨k + 1, by omega, by go_num, hh⟩
            case measure => simp [intOf]; omega
          · obtain rfl : k = 11 := by omega
            generalize hg2 : spoilt g a b 11 = g2 at S
            have TA : hit a g2 = true := by rw [← hg2, ← HG.out]; exact GFA.out
            have TB : hit b g2 = false := by rw [← hg2, ← HG.out]; exact GFB.out
            clear hg2 HG
            go_wp2_with (first | (refine ld26 (.tmp 4) rfl _ rfl rfl a (by exact S.a) ?_) | (refine ld24 (.tmp 7) rfl _ rfl rfl g2 (by exact S.h) ?_))
            go_fit (hits_any a g2 _ S.inv.2)
            rw [TA]
            rintro e w7 ⟨rfl, hb7⟩
            have S7 := S.on hb7
            clear S hb7
            go_wp2_with (first | (refine ld26 (.tmp 5) rfl _ rfl rfl b (by exact S7.b) ?_) | (refine ld24 (.tmp 7) rfl _ rfl rfl g2 (by exact S7.h) ?_))
            go_fit (hits_any b g2 _ S7.inv.2)
            rw [TB]
            rintro e w8 ⟨rfl, hb8⟩
            have S8 := S7.on hb8
            clear S7 hb8
            go_wp2_with fail
            go_fit (wakes_any _ S8.inv.2)
            rintro e w9 ⟨rfl, hb9⟩
            have hfin := (S8.inv.on hb9).1
            clear S8 hb9
            go_wp2
            go_ret
            exact ⟨rfl, hfin⟩

set_option maxRecDepth 100000 in
set_option maxHeartbeats 12800000 in
theorem within_yes (a b c h M : Nat → Int) (w : World) (hw : Tab w) (HM : mt a b = M) (HC : mtOk a b = true) (HE : eqM M a = true) (HU : und a b = true) (HKA : chk a = 0) (HKB : chk b = 0) (p x y : Bool) (HP : hit a h = p) (HB : p = true → hit b h = true) (HX : und b c = x) (HAC : x = true → und a c = true) (HY : und b a = y) (HAB : y = true → eqM a b = true) :
    Calls Tryd.prog 7 #[mv a, mv b, mv c, hv h] w fun e w' => e = .returned (.bool true) ∧ Below w.heap.size w w' := by
  have GB : Hid (p = true → hit b h = true) := HB
  have GX : Hid (x = true → und a c = true) := HAC
  have GY : Hid (y = true → eqM a b = true) := HAB
  clear HB HAC HAB
  have S0 := IS.begin hw a b c h
  have HW : Hid (Tab w) := hw
  clear hw
  go_enter Tryd.func7, Tryd.ntmps7
  go_wp2_with (first | (refine alc26 rfl rfl ?_) | (refine ld26 (.tmp 4) rfl _ rfl rfl a (by exact S0.a) ?_) | (refine ld26 (.tmp 5) rfl _ rfl rfl b (by exact S0.b) ?_))
  go_fit (under_any a b _ S0.inv.2)
  rw [HU]
  rintro e w1 ⟨rfl, hb1⟩
  have S1 := S0.on hb1
  clear S0 hb1
  go_wp2_with (first | (refine alc26 rfl rfl ?_) | (refine ld26 (.tmp 4) rfl _ rfl rfl a (by exact S1.a) ?_) | (refine ld26 (.tmp 5) rfl _ rfl rfl b (by exact S1.b) ?_))
  go_fit (meet_any a b _ S1.inv.2)
  rw [HM, HC]
  rintro e w2 ⟨rfl, hb2⟩
  have S2 := (S1.on hb2).alloc (.cells (row 22 M) 26)
  have M2 := Blk.new w2 22 26 M
  clear S1 hb2
  go_wp2_with (first | (refine alc26 rfl rfl ?_) | (refine st26n (.tmp 10) (.tmp 23) rfl w2 zf (by with_reducible rfl) rfl M rfl rfl ?_) | (refine ld26 (.tmp 4) rfl _ rfl rfl a (by exact S2.a) ?_))
  go_fit (check_any a _ S2.inv.2)
  rw [HKA]
  rintro e w3 ⟨rfl, hb3⟩
  have S3 := S2.on hb3
  have M3 := M2.on hb3
  clear S2 M2 hb3
  go_wp2_with (first | (refine alc26 rfl rfl ?_) | (refine ld26 (.tmp 5) rfl _ rfl rfl b (by exact S3.b) ?_))
  go_fit (check_any b _ S3.inv.2)
  rw [HKB]
  rintro e w4 ⟨rfl, hb4⟩
  have S4 := S3.on hb4
  have M4 := M3.on hb4
  clear S3 M3 hb4
  go_wp2_with (first | (refine alc26 rfl rfl ?_) | (refine ld26 (.tmp 10) rfl _ rfl rfl M (by exact M4) ?_) | (refine ld26 (.tmp 4) rfl _ rfl rfl a (by exact S4.a) ?_) | (refine eql26 (.tmp 39) (.tmp 40) rfl M a rfl rfl rfl ?_; rw [HE]) | (refine ld24 (.tmp 7) rfl _ rfl rfl h (by exact S4.h) ?_))
  go_fit (hits_any a h _ S4.inv.2)
  rw [HP]
  rintro e w5 ⟨rfl, hb5⟩
  have S5 := S4.on hb5
  clear S4 M4 hb5
  cases p
  · go_wp2_with (first | (refine alc26 rfl rfl ?_) | (refine ld26 (.tmp 5) rfl _ rfl rfl b (by exact S5.b) ?_) | (refine ld26 (.tmp 6) rfl _ rfl rfl c (by exact S5.c) ?_))
    go_fit (under_any b c _ S5.inv.2)
    rw [HX]
    rintro e w6 ⟨rfl, hb6⟩
    have S6 := S5.on hb6
    clear S5 hb6
    cases x
    · go_wp2_with (first | (refine alc26 rfl rfl ?_) | (refine ld26 (.tmp 5) rfl _ rfl rfl b (by exact S6.b) ?_) | (refine ld26 (.tmp 4) rfl _ rfl rfl a (by exact S6.a) ?_))
      go_fit (under_any b a _ S6.inv.2)
      rw [HY]
      rintro e w8 ⟨rfl, hb8⟩
      have S8 := S6.on hb8
      clear S6 hb8
      cases y
      · go_wp2_with fail
        go_fit (wakes_any _ S8.inv.2)
        rintro e w9 ⟨rfl, hb9⟩
        have hfin := (S8.inv.on hb9).1
        clear S8 hb9
        go_wp2
        go_ret
        exact ⟨rfl, hfin⟩
      · have HE2 : eqM a b = true := GY.out rfl
        go_wp2_with (first | (refine alc26 rfl rfl ?_) | (refine ld26 (.tmp 4) rfl _ rfl rfl a (by exact S8.a) ?_) | (refine ld26 (.tmp 5) rfl _ rfl rfl b (by exact S8.b) ?_) | (refine neq26 (.tmp 78) (.tmp 79) rfl a b rfl rfl rfl ?_; rw [HE2]))
        go_fit (wakes_any _ S8.inv.2)
        rintro e w9 ⟨rfl, hb9⟩
        have hfin := (S8.inv.on hb9).1
        clear S8 hb9
        go_wp2
        go_ret
        exact ⟨rfl, hfin⟩
    · have HAC : und a c = true := GX.out rfl
      go_wp2_with (first | (refine alc26 rfl rfl ?_) | (refine ld26 (.tmp 4) rfl _ rfl rfl a (by exact S6.a) ?_) | (refine ld26 (.tmp 6) rfl _ rfl rfl c (by exact S6.c) ?_))
      go_fit (under_any a c _ S6.inv.2)
      rw [HAC]
      rintro e w7 ⟨rfl, hb7⟩
      have S7 := S6.on hb7
      clear S6 hb7
      go_wp2_with (first | (refine alc26 rfl rfl ?_) | (refine ld26 (.tmp 5) rfl _ rfl rfl b (by exact S7.b) ?_) | (refine ld26 (.tmp 4) rfl _ rfl rfl a (by exact S7.a) ?_))
      go_fit (under_any b a _ S7.inv.2)
      rw [HY]
      rintro e w8 ⟨rfl, hb8⟩
      have S8 := S7.on hb8
      clear S7 hb8
      cases y
      · go_wp2_with fail
        go_fit (wakes_any _ S8.inv.2)
        rintro e w9 ⟨rfl, hb9⟩
        have hfin := (S8.inv.on hb9).1
        clear S8 hb9
        go_wp2
        go_ret
        exact ⟨rfl, hfin⟩
      · have HE2 : eqM a b = true := GY.out rfl
        go_wp2_with (first | (refine alc26 rfl rfl ?_) | (refine ld26 (.tmp 4) rfl _ rfl rfl a (by exact S8.a) ?_) | (refine ld26 (.tmp 5) rfl _ rfl rfl b (by exact S8.b) ?_) | (refine neq26 (.tmp 78) (.tmp 79) rfl a b rfl rfl rfl ?_; rw [HE2]))
        go_fit (wakes_any _ S8.inv.2)
        rintro e w9 ⟨rfl, hb9⟩
        have hfin := (S8.inv.on hb9).1
        clear S8 hb9
        go_wp2
        go_ret
        exact ⟨rfl, hfin⟩
  · have HB2 : hit b h = true := GB.out rfl
    go_wp2_with (first | (refine alc26 rfl rfl ?_) | (refine ld26 (.tmp 5) rfl _ rfl rfl b (by exact S5.b) ?_) | (refine ld24 (.tmp 7) rfl _ rfl rfl h (by exact S5.h) ?_))
    go_fit (hits_any b h _ S5.inv.2)
    rw [HB2]
    rintro e w10 ⟨rfl, hb10⟩
    have S10 := S5.on hb10
    clear S5 hb10
    go_wp2_with (first | (refine alc26 rfl rfl ?_) | (refine ld26 (.tmp 5) rfl _ rfl rfl b (by exact S10.b) ?_) | (refine ld26 (.tmp 6) rfl _ rfl rfl c (by exact S10.c) ?_))
    go_fit (under_any b c _ S10.inv.2)
    rw [HX]
    rintro e w6 ⟨rfl, hb6⟩
    have S6 := S10.on hb6
    clear S10 hb6
    cases x
    · go_wp2_with (first | (refine alc26 rfl rfl ?_) | (refine ld26 (.tmp 5) rfl _ rfl rfl b (by exact S6.b) ?_) | (refine ld26 (.tmp 4) rfl _ rfl rfl a (by exact S6.a) ?_))
      go_fit (under_any b a _ S6.inv.2)
      rw [HY]
      rintro e w8 ⟨rfl, hb8⟩
      have S8 := S6.on hb8
      clear S6 hb8
      cases y
      · go_wp2_with fail
        go_fit (wakes_any _ S8.inv.2)
        rintro e w9 ⟨rfl, hb9⟩
        have hfin := (S8.inv.on hb9).1
        clear S8 hb9
        go_wp2
        go_ret
        exact ⟨rfl, hfin⟩
      · have HE2 : eqM a b = true := GY.out rfl
        go_wp2_with (first | (refine alc26 rfl rfl ?_) | (refine ld26 (.tmp 4) rfl _ rfl rfl a (by exact S8.a) ?_) | (refine ld26 (.tmp 5) rfl _ rfl rfl b (by exact S8.b) ?_) | (refine neq26 (.tmp 78) (.tmp 79) rfl a b rfl rfl rfl ?_; rw [HE2]))
        go_fit (wakes_any _ S8.inv.2)
        rintro e w9 ⟨rfl, hb9⟩
        have hfin := (S8.inv.on hb9).1
        clear S8 hb9
        go_wp2
        go_ret
        exact ⟨rfl, hfin⟩
    · have HAC : und a c = true := GX.out rfl
      go_wp2_with (first | (refine alc26 rfl rfl ?_) | (refine ld26 (.tmp 4) rfl _ rfl rfl a (by exact S6.a) ?_) | (refine ld26 (.tmp 6) rfl _ rfl rfl c (by exact S6.c) ?_))
      go_fit (under_any a c _ S6.inv.2)
      rw [HAC]
      rintro e w7 ⟨rfl, hb7⟩
      have S7 := S6.on hb7
      clear S6 hb7
      go_wp2_with (first | (refine alc26 rfl rfl ?_) | (refine ld26 (.tmp 5) rfl _ rfl rfl b (by exact S7.b) ?_) | (refine ld26 (.tmp 4) rfl _ rfl rfl a (by exact S7.a) ?_))
      go_fit (under_any b a _ S7.inv.2)
      rw [HY]
      rintro e w8 ⟨rfl, hb8⟩
      have S8 := S7.on hb8
      clear S7 hb8
      cases y
      · go_wp2_with fail
        go_fit (wakes_any _ S8.inv.2)
        rintro e w9 ⟨rfl, hb9⟩
        have hfin := (S8.inv.on hb9).1
        clear S8 hb9
        go_wp2
        go_ret
        exact ⟨rfl, hfin⟩
      · have HE2 : eqM a b = true := GY.out rfl
        go_wp2_with (first | (refine alc26 rfl rfl ?_) | (refine ld26 (.tmp 4) rfl _ rfl rfl a (by exact S8.a) ?_) | (refine ld26 (.tmp 5) rfl _ rfl rfl b (by exact S8.b) ?_) | (refine neq26 (.tmp 78) (.tmp 79) rfl a b rfl rfl rfl ?_; rw [HE2]))
        go_fit (wakes_any _ S8.inv.2)
        rintro e w9 ⟨rfl, hb9⟩
        have hfin := (S8.inv.on hb9).1
        clear S8 hb9
        go_wp2
        go_ret
        exact ⟨rfl, hfin⟩

/-- MatchWithin: whatever the three matches and the header. -/
theorem within_any (a b c h : Nat → Int) (ha : Bd a) (hb : Bd b) (hc : Bd c) (w : World) (hw : Tab w) :
    Calls Tryd.prog 7 #[mv a, mv b, mv c, hv h] w fun e w' => e = .returned (.bool true) ∧ Below w.heap.size w w' := by
  have e := und_mt ha hb
  cases oa : mOk a
  · have hu : und a b = false := by rw [e, oa]; rfl
    exact within_none1 a b c h _ w hw rfl _ rfl hu (chk_bad oa)
  · cases ob : mOk b
    · have hu : und a b = false := by rw [e, oa, ob]; rfl
      exact within_none2 a b c h _ w hw rfl _ rfl hu (chk_ok oa) (chk_bad ob)
    · rw [oa, ob, Bool.true_and, Bool.true_and] at e
      cases hu : und a b
      · refine within_no a b c h _ w hw rfl _ rfl (fun hx => ?_) hu (chk_ok oa) (chk_ok ob) (spoilt_hit ha oa) (spoilt_miss ha hb oa ob hu)
        rw [hu, hx, Bool.true_and] at e
        exact e.symm
      · rw [hu] at e
        obtain ⟨h1, h2⟩ := Bool.and_eq_true_iff.1 e.symm
        exact within_yes a b c h _ w hw rfl h1 h2 hu (chk_ok oa) (chk_ok ob) _ _ _ rfl (fun hp => und_hit ha hb hu hp) rfl (fun hx => und_trans hb hc hu hx) rfl (fun hy => und_anti ha hb hu hy)
end Go.Proofs.YtmonlbmjgjapoaaDoor
