/-
  Proved here: MatchOrder's body returns true for every three matches; no old memory turns. Conditions: all numbers are of 64 bits; the widths' table holds its eleven numbers.
-/
import Derived.Test.YtmonlbmjgjapoaaDoorE3
import Derived.Test.YtmonlbmjgjapoaaDoorX2
namespace Go.Proofs.YtmonlbmjgjapoaaDoor
open Go.RowKit

/-- What lies in the law's own blocks: three matches. -/
structure OS (w : World) (a b c : Nat → Int) (w' : World) : Prop where
  a : Blk w' w.heap.size 22 26 a
  b : Blk w' (w.heap.size + 1) 22 26 b
  c : Blk w' (w.heap.size + 1 + 1) 22 26 c
  inv : Inv w w'
theorem OS.on {w w' w2 : World} {a b c : Nat → Int} (hS : OS w a b c w') (hb : Below w'.heap.size w' w2) : OS w a b c w2 := ⟨hS.a.on hb, hS.b.on hb, hS.c.on hb, hS.inv.on hb⟩
theorem OS.alloc {w w' : World} {a b c : Nat → Int} (hS : OS w a b c w') (o : Obj) : OS w a b c (w'.alloc o) := hS.on ((Below.refl _ _).alloc (Nat.le_refl _) _)
abbrev W3m (w : World) (a b c : Nat → Int) : World := (W2 w a b).alloc (.cells (row 22 c) 26)
theorem OS.begin {w : World} (hw : Tab w) (a b c : Nat → Int) : OS w a b c (W3m w a b c) := by
  have hl : Below w.heap.size w (W3m w a b c) := (W2.low w a b).alloc (by simp; omega) _
  refine ⟨(W2.a w a b).alloc _, (W2.b w a b).alloc _, ?_, hl, hw.on hl⟩
  have := Blk.new (W2 w a b) 22 26 c
  simpa using this

set_option maxRecDepth 100000 in
set_option maxHeartbeats 6400000 in
theorem order_in (a b c AB BA AA AZ BC Lf Rt : Nat → Int) (x z p q : Bool) (w : World) (hw : Tab w)
    (H1 : mt a b = AB) (H2 : mtOk a b = x) (H3 : mt b a = BA) (H4 : mtOk b a = x) (H5 : eqM AB BA = true) (HK : chk a = 0) (HF : mt a a = AA) (HF2 : mtOk a a = true) (HF3 : eqM AA a = true) (HG : mt a zf = AZ) (HG2 : mtOk a zf = true) (HG3 : eqM AZ a = true)
    (H6 : mt b c = BC) (H7 : mtOk b c = z) (H8 : mt AB c = Lf) (H9 : mtOk AB c = p) (H10 : mt a BC = Rt) (H11 : mtOk a BC = q)
    (H12 : (x && p) = (z && q)) (H13 : (x && p) = true → eqM Lf Rt = true) :
    Calls Tryd.prog 6 #[mv a, mv b, mv c] w fun e w' => e = .returned (.bool true) ∧ Below w.heap.size w w' := by
  have S0 := OS.begin hw a b c
  have G12 : Hid ((x && p) = (z && q)) := H12
  have G13 : Hid ((x && p) = true → eqM Lf Rt = true) := H13
  clear hw H12 H13
  go_enter Tryd.func6, Tryd.ntmps6
  go_wp2_with (first | (refine alc26 rfl rfl ?_) | (refine ld26 (.tmp 3) rfl _ rfl rfl a (by exact S0.a) ?_) | (refine ld26 (.tmp 4) rfl _ rfl rfl b (by exact S0.b) ?_))
  go_fit (meet_any a b _ S0.inv.2)
  rw [H1, H2]
  rintro e w1 ⟨rfl, hb1⟩
  have S1 := (S0.on hb1).alloc (.cells (row 22 AB) 26)
  clear S0 hb1
  have X1 := Blk.new w1 22 26 AB
  go_wp2_with (first | (refine alc26 rfl rfl ?_) | (refine st26n (.tmp 7) (.tmp 27) rfl w1 zf (by with_reducible rfl) rfl AB rfl rfl ?_) | (refine ld26 (.tmp 4) rfl _ rfl rfl b (by exact S1.b) ?_) | (refine ld26 (.tmp 3) rfl _ rfl rfl a (by exact S1.a) ?_))
  go_fit (meet_any b a _ S1.inv.2)
  rw [H3, H4]
  rintro e w2 ⟨rfl, hb2⟩
  have S2 := (S1.on hb2).alloc (.cells (row 22 BA) 26)
  have X2 := (X1.on hb2).alloc (.cells (row 22 BA) 26)
  clear S1 hb2 X1
  have Y2 := Blk.new w2 22 26 BA
  go_wp2_with (first | (refine alc26 rfl rfl ?_) | (refine st26n (.tmp 9) (.tmp 33) rfl w2 zf (by with_reducible rfl) rfl BA rfl rfl ?_) | (refine ld26 (.tmp 7) rfl _ rfl rfl AB (by exact X2) ?_) | (refine ld26 (.tmp 9) rfl _ rfl rfl BA (by exact Y2) ?_) | (refine neq26 (.tmp 39) (.tmp 40) rfl AB BA rfl rfl rfl ?_; rw [H5]) | (refine ld26 (.tmp 3) rfl _ rfl rfl a (by exact S2.a) ?_))
  go_fit (check_any a _ S2.inv.2)
  rw [HK]
  rintro e w3 ⟨rfl, hb3⟩
  have S3 := S2.on hb3
  have X3 := X2.on hb3
  clear S2 X2 Y2 hb3
  go_wp2_with (first | (refine alc26 rfl rfl ?_) | (refine ld26 (.tmp 3) rfl _ rfl rfl a (by exact S3.a) ?_))
  go_fit (meet_any a a _ S3.inv.2)
  rw [HF, HF2]
  rintro e w4 ⟨rfl, hb4⟩
  have S4 := (S3.on hb4).alloc (.cells (row 22 AA) 26)
  have X4 := (X3.on hb4).alloc (.cells (row 22 AA) 26)
  clear S3 hb4 X3
  have Z4 := Blk.new w4 22 26 AA
  go_wp2_with (first | (refine alc26 rfl rfl ?_) | (refine st26n (.tmp 11) (.tmp 50) rfl w4 zf (by with_reducible rfl) rfl AA rfl rfl ?_) | (refine bld26 rfl rfl ?_) | (refine ld26 (.tmp 3) rfl _ rfl rfl a (by exact S4.a) ?_))
  go_fit (meet_any a zf _ S4.inv.2)
  rw [HG, HG2]
  rintro e w5 ⟨rfl, hb5⟩
  have S5 := (S4.on hb5).alloc (.cells (row 22 AZ) 26)
  have X5 := (X4.on hb5).alloc (.cells (row 22 AZ) 26)
  have Z5 := (Z4.on hb5).alloc (.cells (row 22 AZ) 26)
  clear S4 hb5 X4 Z4
  have U5 := Blk.new w5 22 26 AZ
  go_wp2_with (first | (refine alc26 rfl rfl ?_) | (refine st26n (.tmp 13) (.tmp 56) rfl w5 zf (by with_reducible rfl) rfl AZ rfl rfl ?_) | (refine ld26 (.tmp 11) rfl _ rfl rfl AA (by exact Z5) ?_) | (refine ld26 (.tmp 13) rfl _ rfl rfl AZ (by exact U5) ?_) | (refine ld26 (.tmp 3) rfl _ rfl rfl a (by exact S5.a) ?_) | (refine neq26 (.tmp 61) (.tmp 62) rfl AA a rfl rfl rfl ?_; rw [HF3]) | (refine neq26 (.tmp 70) (.tmp 71) rfl AZ a rfl rfl rfl ?_; rw [HG3]) | (refine ld26 (.tmp 4) rfl _ rfl rfl b (by exact S5.b) ?_) | (refine ld26 (.tmp 5) rfl _ rfl rfl c (by exact S5.c) ?_))
  clear Z5 U5
  go_fit (meet_any b c _ S5.inv.2)
  rw [H6, H7]
  rintro e w6 ⟨rfl, hb6⟩
  have S6 := (S5.on hb6).alloc (.cells (row 22 BC) 26)
  have X6 := (X5.on hb6).alloc (.cells (row 22 BC) 26)
  clear S5 hb6 X5
  have V6 := Blk.new w6 22 26 BC
  go_wp2_with (first | (refine alc26 rfl rfl ?_) | (refine st26n (.tmp 15) (.tmp 78) rfl w6 zf (by with_reducible rfl) rfl BC rfl rfl ?_) | (refine ld26 (.tmp 7) rfl _ rfl rfl AB (by exact X6) ?_) | (refine ld26 (.tmp 5) rfl _ rfl rfl c (by exact S6.c) ?_))
  go_fit (meet_any AB c _ S6.inv.2)
  rw [H8, H9]
  rintro e w7 ⟨rfl, hb7⟩
  have S7 := (S6.on hb7).alloc (.cells (row 22 Lf) 26)
  have X7 := (X6.on hb7).alloc (.cells (row 22 Lf) 26)
  have V7 := (V6.on hb7).alloc (.cells (row 22 Lf) 26)
  clear S6 hb7 X6 V6
  have P7 := Blk.new w7 22 26 Lf
  go_wp2_with (first | (refine alc26 rfl rfl ?_) | (refine st26n (.tmp 17) (.tmp 84) rfl w7 zf (by with_reducible rfl) rfl Lf rfl rfl ?_) | (refine ld26 (.tmp 3) rfl _ rfl rfl a (by exact S7.a) ?_) | (refine ld26 (.tmp 15) rfl _ rfl rfl BC (by exact V7) ?_))
  go_fit (meet_any a BC _ S7.inv.2)
  rw [H10, H11]
  rintro e w8 ⟨rfl, hb8⟩
  have S8 := (S7.on hb8).alloc (.cells (row 22 Rt) 26)
  have P8 := (P7.on hb8).alloc (.cells (row 22 Rt) 26)
  clear S7 hb8 P7
  have Q8 := Blk.new w8 22 26 Rt
  clear X7 V7
  have I12 := G12.out
  cases x
  · cases z
    · clear I12 G12 G13
      go_wp2_with (first | (refine alc26 rfl rfl ?_) | (refine st26n (.tmp 19) (.tmp 90) rfl w8 zf (by with_reducible rfl) rfl Rt rfl rfl ?_) | (refine ld26 (.tmp 17) rfl _ rfl rfl Lf (by exact P8) ?_) | (refine ld26 (.tmp 19) rfl _ rfl rfl Rt (by exact Q8) ?_) | (refine eql26 (.tmp 107) (.tmp 108) rfl Lf Rt rfl rfl rfl ?_; try rw [HE]))
      go_fit (wakes_any _ S8.inv.2)
      rintro e w9 ⟨rfl, hb9⟩
      have hfin := (S8.inv.on hb9).1
      clear S8 P8 Q8 hb9
      go_wp2
      go_ret
      exact ⟨rfl, hfin⟩
    · cases q
      · clear I12 G12 G13
        go_wp2_with (first | (refine alc26 rfl rfl ?_) | (refine st26n (.tmp 19) (.tmp 90) rfl w8 zf (by with_reducible rfl) rfl Rt rfl rfl ?_) | (refine ld26 (.tmp 17) rfl _ rfl rfl Lf (by exact P8) ?_) | (refine ld26 (.tmp 19) rfl _ rfl rfl Rt (by exact Q8) ?_) | (refine eql26 (.tmp 107) (.tmp 108) rfl Lf Rt rfl rfl rfl ?_; try rw [HE]))
        go_fit (wakes_any _ S8.inv.2)
        rintro e w9 ⟨rfl, hb9⟩
        have hfin := (S8.inv.on hb9).1
        clear S8 P8 Q8 hb9
        go_wp2
        go_ret
        exact ⟨rfl, hfin⟩
      · cases I12
  · cases p
    · cases z
      · clear I12 G12 G13
        go_wp2_with (first | (refine alc26 rfl rfl ?_) | (refine st26n (.tmp 19) (.tmp 90) rfl w8 zf (by with_reducible rfl) rfl Rt rfl rfl ?_) | (refine ld26 (.tmp 17) rfl _ rfl rfl Lf (by exact P8) ?_) | (refine ld26 (.tmp 19) rfl _ rfl rfl Rt (by exact Q8) ?_) | (refine eql26 (.tmp 107) (.tmp 108) rfl Lf Rt rfl rfl rfl ?_; try rw [HE]))
        go_fit (wakes_any _ S8.inv.2)
        rintro e w9 ⟨rfl, hb9⟩
        have hfin := (S8.inv.on hb9).1
        clear S8 P8 Q8 hb9
        go_wp2
        go_ret
        exact ⟨rfl, hfin⟩
      · cases q
        · clear I12 G12 G13
          go_wp2_with (first | (refine alc26 rfl rfl ?_) | (refine st26n (.tmp 19) (.tmp 90) rfl w8 zf (by with_reducible rfl) rfl Rt rfl rfl ?_) | (refine ld26 (.tmp 17) rfl _ rfl rfl Lf (by exact P8) ?_) | (refine ld26 (.tmp 19) rfl _ rfl rfl Rt (by exact Q8) ?_) | (refine eql26 (.tmp 107) (.tmp 108) rfl Lf Rt rfl rfl rfl ?_; try rw [HE]))
          go_fit (wakes_any _ S8.inv.2)
          rintro e w9 ⟨rfl, hb9⟩
          have hfin := (S8.inv.on hb9).1
          clear S8 P8 Q8 hb9
          go_wp2
          go_ret
          exact ⟨rfl, hfin⟩
        · cases I12
    · have HE : eqM Lf Rt = true := G13.out rfl
      cases z
      · cases I12
      · cases q
        · cases I12
        · clear I12 G12 G13
          go_wp2_with (first | (refine alc26 rfl rfl ?_) | (refine st26n (.tmp 19) (.tmp 90) rfl w8 zf (by with_reducible rfl) rfl Rt rfl rfl ?_) | (refine ld26 (.tmp 17) rfl _ rfl rfl Lf (by exact P8) ?_) | (refine ld26 (.tmp 19) rfl _ rfl rfl Rt (by exact Q8) ?_) | (refine eql26 (.tmp 107) (.tmp 108) rfl Lf Rt rfl rfl rfl ?_; try rw [HE]))
          go_fit (wakes_any _ S8.inv.2)
          rintro e w9 ⟨rfl, hb9⟩
          have hfin := (S8.inv.on hb9).1
          clear S8 P8 Q8 hb9
          go_wp2
          go_ret
          exact ⟨rfl, hfin⟩

set_option maxRecDepth 100000 in
set_option maxHeartbeats 6400000 in
theorem order_out (a b c AB BA BC Lf Rt : Nat → Int) (x z p q : Bool) (w : World) (hw : Tab w)
    (H1 : mt a b = AB) (H2 : mtOk a b = x) (H3 : mt b a = BA) (H4 : mtOk b a = x) (H5 : eqM AB BA = true) (HK : chk a = 20)
    (H6 : mt b c = BC) (H7 : mtOk b c = z) (H8 : mt AB c = Lf) (H9 : mtOk AB c = p) (H10 : mt a BC = Rt) (H11 : mtOk a BC = q)
    (H12 : (x && p) = (z && q)) (H13 : (x && p) = true → eqM Lf Rt = true) :
    Calls Tryd.prog 6 #[mv a, mv b, mv c] w fun e w' => e = .returned (.bool true) ∧ Below w.heap.size w w' := by
  have S0 := OS.begin hw a b c
  have G12 : Hid ((x && p) = (z && q)) := H12
  have G13 : Hid ((x && p) = true → eqM Lf Rt = true) := H13
  clear hw H12 H13
  go_enter Tryd.func6, Tryd.ntmps6
  go_wp2_with (first | (refine alc26 rfl rfl ?_) | (refine ld26 (.tmp 3) rfl _ rfl rfl a (by exact S0.a) ?_) | (refine ld26 (.tmp 4) rfl _ rfl rfl b (by exact S0.b) ?_))
  go_fit (meet_any a b _ S0.inv.2)
  rw [H1, H2]
  rintro e w1 ⟨rfl, hb1⟩
  have S1 := (S0.on hb1).alloc (.cells (row 22 AB) 26)
  clear S0 hb1
  have X1 := Blk.new w1 22 26 AB
  go_wp2_with (first | (refine alc26 rfl rfl ?_) | (refine st26n (.tmp 7) (.tmp 27) rfl w1 zf (by with_reducible rfl) rfl AB rfl rfl ?_) | (refine ld26 (.tmp 4) rfl _ rfl rfl b (by exact S1.b) ?_) | (refine ld26 (.tmp 3) rfl _ rfl rfl a (by exact S1.a) ?_))
  go_fit (meet_any b a _ S1.inv.2)
  rw [H3, H4]
  rintro e w2 ⟨rfl, hb2⟩
  have S2 := (S1.on hb2).alloc (.cells (row 22 BA) 26)
  have X2 := (X1.on hb2).alloc (.cells (row 22 BA) 26)
  clear S1 hb2 X1
  have Y2 := Blk.new w2 22 26 BA
  go_wp2_with (first | (refine alc26 rfl rfl ?_) | (refine st26n (.tmp 9) (.tmp 33) rfl w2 zf (by with_reducible rfl) rfl BA rfl rfl ?_) | (refine ld26 (.tmp 7) rfl _ rfl rfl AB (by exact X2) ?_) | (refine ld26 (.tmp 9) rfl _ rfl rfl BA (by exact Y2) ?_) | (refine neq26 (.tmp 39) (.tmp 40) rfl AB BA rfl rfl rfl ?_; rw [H5]) | (refine ld26 (.tmp 3) rfl _ rfl rfl a (by exact S2.a) ?_))
  go_fit (check_any a _ S2.inv.2)
  rw [HK]
  rintro e w3 ⟨rfl, hb3⟩
  have S3 := S2.on hb3
  have X3 := X2.on hb3
  clear S2 X2 Y2 hb3
  go_wp2_with (first | (refine alc26 rfl rfl ?_) | (refine ld26 (.tmp 4) rfl _ rfl rfl b (by exact S3.b) ?_) | (refine ld26 (.tmp 5) rfl _ rfl rfl c (by exact S3.c) ?_))
  go_fit (meet_any b c _ S3.inv.2)
  rw [H6, H7]
  rintro e w6 ⟨rfl, hb6⟩
  have S6 := (S3.on hb6).alloc (.cells (row 22 BC) 26)
  have X6 := (X3.on hb6).alloc (.cells (row 22 BC) 26)
  clear S3 hb6 X3
  have V6 := Blk.new w6 22 26 BC
  go_wp2_with (first | (refine alc26 rfl rfl ?_) | (refine st26n (.tmp 15) (.tmp 78) rfl w6 zf (by with_reducible rfl) rfl BC rfl rfl ?_) | (refine ld26 (.tmp 7) rfl _ rfl rfl AB (by exact X6) ?_) | (refine ld26 (.tmp 5) rfl _ rfl rfl c (by exact S6.c) ?_))
  go_fit (meet_any AB c _ S6.inv.2)
  rw [H8, H9]
  rintro e w7 ⟨rfl, hb7⟩
  have S7 := (S6.on hb7).alloc (.cells (row 22 Lf) 26)
  have X7 := (X6.on hb7).alloc (.cells (row 22 Lf) 26)
  have V7 := (V6.on hb7).alloc (.cells (row 22 Lf) 26)
  clear S6 hb7 X6 V6
  have P7 := Blk.new w7 22 26 Lf
  go_wp2_with (first | (refine alc26 rfl rfl ?_) | (refine st26n (.tmp 17) (.tmp 84) rfl w7 zf (by with_reducible rfl) rfl Lf rfl rfl ?_) | (refine ld26 (.tmp 3) rfl _ rfl rfl a (by exact S7.a) ?_) | (refine ld26 (.tmp 15) rfl _ rfl rfl BC (by exact V7) ?_))
  go_fit (meet_any a BC _ S7.inv.2)
  rw [H10, H11]
  rintro e w8 ⟨rfl, hb8⟩
  have S8 := (S7.on hb8).alloc (.cells (row 22 Rt) 26)
  have P8 := (P7.on hb8).alloc (.cells (row 22 Rt) 26)
  clear S7 hb8 P7
  have Q8 := Blk.new w8 22 26 Rt
  clear X7 V7
  have I12 := G12.out
  cases x
  · cases z
    · clear I12 G12 G13
      go_wp2_with (first | (refine alc26 rfl rfl ?_) | (refine st26n (.tmp 19) (.tmp 90) rfl w8 zf (by with_reducible rfl) rfl Rt rfl rfl ?_) | (refine ld26 (.tmp 17) rfl _ rfl rfl Lf (by exact P8) ?_) | (refine ld26 (.tmp 19) rfl _ rfl rfl Rt (by exact Q8) ?_) | (refine eql26 (.tmp 107) (.tmp 108) rfl Lf Rt rfl rfl rfl ?_; try rw [HE]))
      go_fit (wakes_any _ S8.inv.2)
      rintro e w9 ⟨rfl, hb9⟩
      have hfin := (S8.inv.on hb9).1
      clear S8 P8 Q8 hb9
      go_wp2
      go_ret
      exact ⟨rfl, hfin⟩
    · cases q
      · clear I12 G12 G13
        go_wp2_with (first | (refine alc26 rfl rfl ?_) | (refine st26n (.tmp 19) (.tmp 90) rfl w8 zf (by with_reducible rfl) rfl Rt rfl rfl ?_) | (refine ld26 (.tmp 17) rfl _ rfl rfl Lf (by exact P8) ?_) | (refine ld26 (.tmp 19) rfl _ rfl rfl Rt (by exact Q8) ?_) | (refine eql26 (.tmp 107) (.tmp 108) rfl Lf Rt rfl rfl rfl ?_; try rw [HE]))
        go_fit (wakes_any _ S8.inv.2)
        rintro e w9 ⟨rfl, hb9⟩
        have hfin := (S8.inv.on hb9).1
        clear S8 P8 Q8 hb9
        go_wp2
        go_ret
        exact ⟨rfl, hfin⟩
      · cases I12
  · cases p
    · cases z
      · clear I12 G12 G13
        go_wp2_with (first | (refine alc26 rfl rfl ?_) | (refine st26n (.tmp 19) (.tmp 90) rfl w8 zf (by with_reducible rfl) rfl Rt rfl rfl ?_) | (refine ld26 (.tmp 17) rfl _ rfl rfl Lf (by exact P8) ?_) | (refine ld26 (.tmp 19) rfl _ rfl rfl Rt (by exact Q8) ?_) | (refine eql26 (.tmp 107) (.tmp 108) rfl Lf Rt rfl rfl rfl ?_; try rw [HE]))
        go_fit (wakes_any _ S8.inv.2)
        rintro e w9 ⟨rfl, hb9⟩
        have hfin := (S8.inv.on hb9).1
        clear S8 P8 Q8 hb9
        go_wp2
        go_ret
        exact ⟨rfl, hfin⟩
      · cases q
        · clear I12 G12 G13
          go_wp2_with (first | (refine alc26 rfl rfl ?_) | (refine st26n (.tmp 19) (.tmp 90) rfl w8 zf (by with_reducible rfl) rfl Rt rfl rfl ?_) | (refine ld26 (.tmp 17) rfl _ rfl rfl Lf (by exact P8) ?_) | (refine ld26 (.tmp 19) rfl _ rfl rfl Rt (by exact Q8) ?_) | (refine eql26 (.tmp 107) (.tmp 108) rfl Lf Rt rfl rfl rfl ?_; try rw [HE]))
          go_fit (wakes_any _ S8.inv.2)
          rintro e w9 ⟨rfl, hb9⟩
          have hfin := (S8.inv.on hb9).1
          clear S8 P8 Q8 hb9
          go_wp2
          go_ret
          exact ⟨rfl, hfin⟩
        · cases I12
    · have HE : eqM Lf Rt = true := G13.out rfl
      cases z
      · cases I12
      · cases q
        · cases I12
        · clear I12 G12 G13
          go_wp2_with (first | (refine alc26 rfl rfl ?_) | (refine st26n (.tmp 19) (.tmp 90) rfl w8 zf (by with_reducible rfl) rfl Rt rfl rfl ?_) | (refine ld26 (.tmp 17) rfl _ rfl rfl Lf (by exact P8) ?_) | (refine ld26 (.tmp 19) rfl _ rfl rfl Rt (by exact Q8) ?_) | (refine eql26 (.tmp 107) (.tmp 108) rfl Lf Rt rfl rfl rfl ?_; try rw [HE]))
          go_fit (wakes_any _ S8.inv.2)
          rintro e w9 ⟨rfl, hb9⟩
          have hfin := (S8.inv.on hb9).1
          clear S8 P8 Q8 hb9
          go_wp2
          go_ret
          exact ⟨rfl, hfin⟩

/-- MatchOrder: whatever the three matches. -/
theorem order_any (a b c : Nat → Int) (ha : Bd a) (hb : Bd b) (hc : Bd c) (w : World) (hw : Tab w) :
    Calls Tryd.prog 6 #[mv a, mv b, mv c] w fun e w' => e = .returned (.bool true) ∧ Below w.heap.size w w' := by
  have h4 : mtOk b a = mtOk a b := mtOk_comm b a
  cases hk : mOk a
  · exact order_out a b c _ _ _ _ _ _ _ _ _ w hw rfl rfl rfl h4 (mt_comm a b) (chk_bad hk) rfl rfl rfl rfl rfl rfl (mt_assoc_ok ha hb hc) (mt_assoc ha hb hc)
  · exact order_in a b c _ _ _ _ _ _ _ _ _ _ _ w hw rfl rfl rfl h4 (mt_comm a b) (chk_ok hk) rfl (mt_self ha hk).1 (mt_self ha hk).2 rfl (mt_zero ha hk).1 (mt_zero ha hk).2 rfl rfl rfl rfl rfl rfl (mt_assoc_ok ha hb hc) (mt_assoc ha hb hc)
end Go.Proofs.YtmonlbmjgjapoaaDoor
