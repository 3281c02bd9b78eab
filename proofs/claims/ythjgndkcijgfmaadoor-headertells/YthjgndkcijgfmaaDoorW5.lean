/-
  Proved here: strconv.AppendUint at base 10, appendMAC and appendIP append what 'decDigits', 'macL' and 'ipL' say to a slice that the call owns. Conditions: the number is below 2 to 64, the slice is short, the table of powers of ten holds its numbers.
-/
import Derived.Test.YthjgndkcijgfmaaDoorW4
import Derived.Test.YthjgndkcijgfmaaDoorShelf
namespace Go.Proofs.YthjgndkcijgfmaaDoor
open Go.RowKit

abbrev Pow (B : Nat) (w : World) : Prop := Lib.TabBelow Tryd.prog B w "internal/strconv.uint64pow10" .u64 Lib.pow10Tab

theorem au28 (B u : Nat) (hu : u < 18446744073709551616) (sv : Value) (l : List UInt8) (w : World) (hown : Own w B sv l) (hB : B ≤ w.heap.size) (hlim : l.length ≤ 1000000) (htab : Pow B w) :
    Calls Tryd.prog 28 #[sv, .int .u64 (u : Int), .int .i64 10] w fun e w' => ∃ v', e = .returned v' ∧ Own w' B v' (l ++ Lib.decDigits u) ∧ Below B w w' := by
  by_cases h : u < 100
  · refine (Tryd.internal_strconv_AppendUint_10_small B l.length u h sv _ w hown hB (by omega)).mono ?_
    rintro e w' ⟨v', he, ho, hb, _⟩
    exact ⟨v', he, own_str ho, hb⟩
  · refine (Tryd.internal_strconv_AppendUint_10_big B l.length u (by omega) hu sv _ w hown hB (by omega) htab.here).mono ?_
    rintro e w' ⟨v', he, ho, hb, _⟩
    exact ⟨v', he, own_str ho, hb⟩

set_option maxHeartbeats 400000 in
theorem au_any (B u : Nat) (hu : u < 18446744073709551616) (sv : Value) (l : List UInt8) (w : World) (hown : Own w B sv l) (hB : B ≤ w.heap.size) (hlim : l.length ≤ 1000000) (htab : Pow B w) :
    Calls Tryd.prog 26 #[sv, .int .u64 (u : Int), .int .i64 10] w fun e w' => ∃ v', e = .returned v' ∧ Own w' B v' (l ++ Lib.decDigits u) ∧ Below B w w' := by
  go_enter Tryd.func26, Tryd.ntmps26
  go_wp2_with (go_at_call 28; refine (au28 B u hu sv l w hown hB hlim htab).mono ?_; rintro e w' ⟨v', rfl, ho, hb⟩)
  go_ret
  exact ⟨v', rfl, ho, hb⟩

def macL (n : Nat) : Nat → List UInt8
  | 0 => hexL n 2
  | c + 1 => hexL (n / 256 ^ (c + 1)) 2 ++ 58 :: macL n c

set_option maxHeartbeats 800000 in
/-- appendMAC. -/
theorem mac_any (B n : Nat) (hn : n < 18446744073709551616) (sv : Value) (l : List UInt8) (w : World) (hown : Own w B sv l) (hB : B ≤ w.heap.size) (hlim : l.length ≤ 900000) :
    Calls Tryd.prog 23 #[sv, .int .u64 (n : Int)] w fun e w' => ∃ v', e = .returned v' ∧ Own w' B v' (l ++ macL n 5) ∧ Below B w w' := by
  obtain ⟨i0, hi, hz0, hz1, hz2⟩ := info5'
  go_enter Tryd.func23, Tryd.ntmps23
  go_wp2
  go_loopw [0, 5] (fun b i wr => ∃ (c : Nat) (l' : List UInt8) (s : Int), c ≤ 5 ∧ i = .int .i64 s ∧ s = 8 * (c : Int) ∧ Own wr B b l' ∧ l' ++ macL n c = l ++ macL n 5 ∧ l'.length + 3 * c = l.length + 15 ∧ Below B w wr) (fun _ i _ => (intOf i).toNat)
  case atStart => exact ⟨5, l, _, Nat.le_refl _, rfl, by omega, hown, rfl, rfl, Below.refl _ _⟩
  case round =>
    obtain ⟨c, l', s, hc, rfl, hs, ho, heq, hlen, hbl⟩ := hrel
    have hBr : B ≤ wr.heap.size := Nat.le_trans hB hbl.size
    cases c with
    | zero =>
      have s0 : s = 0 := by omega
      subst s0
      have HEQ : Hid (l' ++ hexL n 2 = l ++ macL n 5) := heq
      have HLEN : Hid (l'.length + 3 * 0 = l.length + 15) := hlen
      clear heq hlen hown hs
      go_wp2_with (go_at_call 24; refine (hex_any B n 2 hn (by decide) (by decide) _ l' _ ho hBr (by have := HLEN.out; omega)).mono ?_; rintro e w' ⟨v', rfl, ho', hb'⟩)
      go_ret
      exact ⟨v', rfl, by rw [← HEQ.out]; exact ho', hbl.trans hb'⟩
    | succ c =>
      obtain rfl : s = 8 * (c : Int) + 8 := by omega
      have hq : n / 256 ^ (c + 1) < 18446744073709551616 := Nat.lt_of_le_of_lt (Nat.div_le_self _ _) hn
      have HEQ : Hid (((l' ++ hexL (n / 256 ^ (c + 1)) 2) ++ [58]) ++ macL n c = l ++ macL n 5) := by
        show ((l' ++ hexL (n / 256 ^ (c + 1)) 2) ++ [58]) ++ macL n c = l ++ macL n 5
        rw [← heq]; simp [macL]
      have hdiv : (n : Int) / 2 ^ (8 * c + 8) = ((n / 256 ^ (c + 1) : Nat) : Int) := by
        rw [show 8 * c + 8 = 8 * (c + 1) by omega, show (2 : Int) ^ (8 * (c + 1)) = ((2 ^ (8 * (c + 1)) : Nat) : Int) by norm_cast, Nat.pow_mul]; norm_cast
      generalize n / 256 ^ (c + 1) = q at *
      have HLEN : Hid (l'.length + 3 * (c + 1) = l.length + 15) := hlen
      have hg0 : (0 : Int) ≤ 8 * (c : Int) + 8 := by omega
      have hg1 : 8 * (c : Int) + 8 ≤ 40 := by omega
      clear heq hlen hown hs
      go_wp2_with fail
      go_fit (hex_any B q 2 hq (by decide) (by decide) _ l' _ ho hBr (by have := HLEN.out; omega))
      rintro e w1 ⟨v1, rfl, ho1, hb1⟩
      have hl1 : (l' ++ hexL q 2).length ≤ 1000000 := by have := HLEN.out; simp [hexL_length]; omega
      have hB1 : B ≤ w1.heap.size := Nat.le_trans hBr hb1.size
      go_wp2_with (at_builtin; refine wpList_append_own _ rfl _ _ 42 rfl B 5 i0 (.int .u8 0) 1 1 Tryd.underlying42 hi hz0 hz1 hz2 rfl (by decide) _ _ _ rfl (ho1.alloc _) ⟨w1.heap.size, 0, none⟩ 1 1 [.int .u8 58] rfl rfl (cell_one_new _ _ _) (fun x hx => by simp at hx; subst hx; rfl) (by unfold maxLen; omega) (by omega) (by simp; omega) ?_)
      intro v' w' hown' hgrow _
      have hb' : Below B w w' := (((hbl.trans hb1).alloc hB1 _).grown hgrow (by simp; omega) (fun k hk => (ho1.lt k hk).1))
      go_wp2
      go_roundw
      case rel => exact ⟨c, (l' ++ hexL q 2) ++ [58], _, by omega, rfl, by omega, own_snoc (x := 58) (by rw [List.length_append]; exact hown'), HEQ.out, by have := HLEN.out; simp [hexL_length]; omega, hb'⟩
      case measure => simp [intOf]; omega

def ipL (n : Nat) : Nat → List UInt8
  | 0 => Lib.decDigits (n % 256)
  | c + 1 => Lib.decDigits (n / 256 ^ (c + 1) % 256) ++ 46 :: ipL n c
theorem dec_len (u : Nat) (h : u < 256) : (Lib.decDigits u).length ≤ 3 := by
  rw [Lib.decDigits]
  split
  · simp
  · rw [Lib.decDigits]
    split
    · simp
    · rw [Lib.decDigits, dif_pos (by omega)]; simp

set_option maxHeartbeats 800000 in
/-- appendIP. -/
theorem ip_any (B n : Nat) (hn : n < 18446744073709551616) (sv : Value) (l : List UInt8) (w : World) (hown : Own w B sv l) (hB : B ≤ w.heap.size) (hlim : l.length ≤ 900000) (htab : Pow B w) :
    Calls Tryd.prog 25 #[sv, .int .u64 (n : Int)] w fun e w' => ∃ v', e = .returned v' ∧ Own w' B v' (l ++ ipL n 3) ∧ Below B w w' := by
  obtain ⟨i0, hi, hz0, hz1, hz2⟩ := info5'
  have HTAB : Hid (Pow B w) := htab
  clear htab
  go_enter Tryd.func25, Tryd.ntmps25
  go_wp2
  go_loopw [0, 5] (fun b i wr => ∃ (c : Nat) (l' : List UInt8) (s : Int), c ≤ 3 ∧ i = .int .i64 s ∧ s = 8 * (c : Int) ∧ Own wr B b l' ∧ l' ++ ipL n c = l ++ ipL n 3 ∧ l'.length + 4 * c ≤ l.length + 12 ∧ Below B w wr) (fun _ i _ => (intOf i).toNat)
  case atStart => exact ⟨3, l, _, Nat.le_refl _, rfl, by omega, hown, rfl, by omega, Below.refl _ _⟩
  case round =>
    obtain ⟨c, l', s, hc, rfl, hs, ho, heq, hlen, hbl⟩ := hrel
    have hBr : B ≤ wr.heap.size := Nat.le_trans hB hbl.size
    cases c with
    | zero =>
      have s0 : s = 0 := by omega
      subst s0
      have HEQ : Hid (l' ++ Lib.decDigits (n % 256) = l ++ ipL n 3) := heq
      have hbits := and255 n hn
      have hq : n % 256 < 18446744073709551616 := by omega
      generalize n % 256 = q at *
      clear heq hown hs
      go_wp2_with (go_at_call 26; refine (au_any B q hq _ l' _ ho hBr (by omega) (HTAB.out.on hbl)).mono ?_; rintro e w' ⟨v', rfl, ho', hb'⟩)
      go_ret
      exact ⟨v', rfl, by rw [← HEQ.out]; exact ho', hbl.trans hb'⟩
    | succ c =>
      obtain rfl : s = 8 * (c : Int) + 8 := by omega
      have hq : n / 256 ^ (c + 1) < 18446744073709551616 := Nat.lt_of_le_of_lt (Nat.div_le_self _ _) hn
      have HEQ : Hid (((l' ++ Lib.decDigits (n / 256 ^ (c + 1) % 256)) ++ [46]) ++ ipL n c = l ++ ipL n 3) := by
        show ((l' ++ Lib.decDigits (n / 256 ^ (c + 1) % 256)) ++ [46]) ++ ipL n c = l ++ ipL n 3
        rw [← heq]; simp [ipL]
      have hdiv : (n : Int) / 2 ^ (8 * c + 8) = ((n / 256 ^ (c + 1) : Nat) : Int) := by
        rw [show 8 * c + 8 = 8 * (c + 1) by omega, show (2 : Int) ^ (8 * (c + 1)) = ((2 ^ (8 * (c + 1)) : Nat) : Int) by norm_cast, Nat.pow_mul]; norm_cast
      have hbits := and255 _ hq
      rw [← hdiv] at hbits
      clear hdiv
      have hq2 : n / 256 ^ (c + 1) % 256 < 256 := Nat.mod_lt _ (by decide)
      have hdl := dec_len _ hq2
      generalize n / 256 ^ (c + 1) % 256 = q at *
      have hg0 : (0 : Int) ≤ 8 * (c : Int) + 8 := by omega
      have hg1 : 8 * (c : Int) + 8 ≤ 24 := by omega
      clear heq hown hs
      go_wp2_with fail
      go_fit (au_any B q (by omega) _ l' _ ho hBr (by omega) (HTAB.out.on hbl))
      rintro e w1 ⟨v1, rfl, ho1, hb1⟩
      have hl1 : (l' ++ Lib.decDigits q).length ≤ 1000000 := by simp; omega
      have hB1 : B ≤ w1.heap.size := Nat.le_trans hBr hb1.size
      go_wp2_with (at_builtin; refine wpList_append_own _ rfl _ _ 42 rfl B 5 i0 (.int .u8 0) 1 1 Tryd.underlying42 hi hz0 hz1 hz2 rfl (by decide) _ _ _ rfl (ho1.alloc _) ⟨w1.heap.size, 0, none⟩ 1 1 [.int .u8 46] rfl rfl (cell_one_new _ _ _) (fun x hx => by simp at hx; subst hx; rfl) (by unfold maxLen; omega) (by omega) (by simp; omega) ?_)
      intro v' w' hown' hgrow _
      have hb' : Below B w w' := (((hbl.trans hb1).alloc hB1 _).grown hgrow (by simp; omega) (fun k hk => (ho1.lt k hk).1))
      go_wp2
      go_roundw
      case rel => exact ⟨c, (l' ++ Lib.decDigits q) ++ [46], _, by omega, rfl, by omega, own_snoc (x := 46) (by rw [List.length_append]; exact hown'), HEQ.out, by simp; omega, hb'⟩
      case measure => simp [intOf]; omega
end Go.Proofs.YthjgndkcijgfmaaDoor
