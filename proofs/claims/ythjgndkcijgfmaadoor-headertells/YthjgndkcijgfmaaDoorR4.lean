/-
  Proved here: the document's Number answers 'numL' for every field but Kind, and for every number below 2 to 64; no world turns. No further condition.
-/
import Derived.Test.YthjgndkcijgfmaaDoorR3
namespace Go.Proofs.YthjgndkcijgfmaaDoor
open Go.RowKit

theorem hexL_mod (x : Nat) : hexL (x % 256) 2 = hexL x 2 := by
  simp only [hexL, Nat.pow_one, Nat.pow_zero, Nat.div_one]
  rw [show x % 256 / 16 % 16 = x / 16 % 16 by omega, show x % 256 % 16 = x % 16 by omega]

set_option maxHeartbeats 800000 in
theorem rnum_dec (k n : Nat) (hk : k = 3 ∨ k = 6 ∨ k = 7 ∨ k = 8 ∨ k = 9 ∨ k = 10) (hn : n < 18446744073709551616) (w : World) :
    Calls Tryd.prog 21 #[.int .i8 (k : Int), .int .u64 (n : Int)] w fun e w' => e = .returned (.string ⟨(numL k n).toArray⟩) ∧ w' = w := by
  rcases hk with rfl | rfl | rfl | rfl | rfl | rfl
  all_goals
    simp only [numL]
    go_enter Tryd.func21, Tryd.ntmps21
    go_wp2_with (go_at_call 27; refine (rdigits_any n hn _).mono ?_; rintro e w' ⟨rfl, rfl⟩)
    go_ret
    exact ⟨rfl, rfl⟩

theorem ip_eq (n : Nat) : ipL n 3 = Lib.decDigits (n / 16777216 % 256) ++ [46] ++ Lib.decDigits (n / 65536 % 256) ++ [46] ++ Lib.decDigits (n / 256 % 256) ++ [46] ++ Lib.decDigits (n % 256) := by
  simp [ipL]
theorem dec_size (u : Nat) (h : u < 256) : (⟨(Lib.decDigits u).toArray⟩ : ByteArray).size ≤ 3 := by
  have := dec_len u h
  simpa [ByteArray.size] using this

set_option maxHeartbeats 1600000 in
theorem rnum_ip (k n : Nat) (hk : k = 4 ∨ k = 5) (hn : n < 18446744073709551616) (w : World) :
    Calls Tryd.prog 21 #[.int .i8 (k : Int), .int .u64 (n : Int)] w fun e w' => e = .returned (.string ⟨(numL k n).toArray⟩) ∧ w' = w := by
  have b1 : bits .and .u64 ((n : Int) / 16777216) 255 = ((n / 16777216 % 256 : Nat) : Int) := by
    rw [show (n : Int) / 16777216 = ((n / 16777216 : Nat) : Int) by omega]; exact and255 _ (by omega)
  have b2 : bits .and .u64 ((n : Int) / 65536) 255 = ((n / 65536 % 256 : Nat) : Int) := by
    rw [show (n : Int) / 65536 = ((n / 65536 : Nat) : Int) by omega]; exact and255 _ (by omega)
  have b3 : bits .and .u64 ((n : Int) / 256) 255 = ((n / 256 % 256 : Nat) : Int) := by
    rw [show (n : Int) / 256 = ((n / 256 : Nat) : Int) by omega]; exact and255 _ (by omega)
  have b4 : bits .and .u64 (n : Int) 255 = ((n % 256 : Nat) : Int) := and255 _ hn
  have HIP : Hid (ipL n 3 = Lib.decDigits (n / 16777216 % 256) ++ [46] ++ Lib.decDigits (n / 65536 % 256) ++ [46] ++ Lib.decDigits (n / 256 % 256) ++ [46] ++ Lib.decDigits (n % 256)) := ip_eq n
  have l1 : n / 16777216 % 256 < 256 := Nat.mod_lt _ (by decide)
  have l2 : n / 65536 % 256 < 256 := Nat.mod_lt _ (by decide)
  have l3 : n / 256 % 256 < 256 := Nat.mod_lt _ (by decide)
  have l4 : n % 256 < 256 := Nat.mod_lt _ (by decide)
  generalize n / 16777216 % 256 = x1 at *
  generalize n / 65536 % 256 = x2 at *
  generalize n / 256 % 256 = x3 at *
  generalize n % 256 = x4 at *
  have s1 := dec_size x1 l1
  have s2 := dec_size x2 l2
  have s3 := dec_size x3 l3
  have s4 := dec_size x4 l4
  have C1 := Lib.hid (rdigits_any x1 (by omega) w)
  have C2 := Lib.hid (rdigits_any x2 (by omega) w)
  have C3 := Lib.hid (rdigits_any x3 (by omega) w)
  have C4 := Lib.hid (rdigits_any x4 (by omega) w)
  obtain ⟨A1, HA1⟩ : ∃ A1 : ByteArray, Hid ((⟨(Lib.decDigits x1).toArray⟩ : ByteArray) = A1) := ⟨_, rfl⟩
  obtain ⟨A2, HA2⟩ : ∃ A2 : ByteArray, Hid ((⟨(Lib.decDigits x2).toArray⟩ : ByteArray) = A2) := ⟨_, rfl⟩
  obtain ⟨A3, HA3⟩ : ∃ A3 : ByteArray, Hid ((⟨(Lib.decDigits x3).toArray⟩ : ByteArray) = A3) := ⟨_, rfl⟩
  obtain ⟨A4, HA4⟩ : ∃ A4 : ByteArray, Hid ((⟨(Lib.decDigits x4).toArray⟩ : ByteArray) = A4) := ⟨_, rfl⟩
  rw [HA1.out] at s1
  rw [HA2.out] at s2
  rw [HA3.out] at s3
  rw [HA4.out] at s4
  have HFIN : Hid (A1 ++ ⟨#[46]⟩ ++ A2 ++ ⟨#[46]⟩ ++ A3 ++ ⟨#[46]⟩ ++ A4 = ⟨(ipL n 3).toArray⟩) := by
    show A1 ++ ⟨#[46]⟩ ++ A2 ++ ⟨#[46]⟩ ++ A3 ++ ⟨#[46]⟩ ++ A4 = ⟨(ipL n 3).toArray⟩
    rw [HIP.out, ← HA1.out, ← HA2.out, ← HA3.out, ← HA4.out, show (⟨#[46]⟩ : ByteArray) = ⟨[46].toArray⟩ from rfl, str_app, str_app, str_app, str_app, str_app, str_app]
  rcases hk with rfl | rfl
  all_goals
    simp only [numL]
    go_enter Tryd.func21, Tryd.ntmps21
    go_wp2_with fail
    refine (C1.out).mono ?_
    rw [HA1.out]
    rintro e w' ⟨rfl, rfl⟩
    go_wp2_with fail
    refine (C2.out).mono ?_
    rw [HA2.out]
    rintro e w' ⟨rfl, rfl⟩
    go_wp2_with fail
    refine (C3.out).mono ?_
    rw [HA3.out]
    rintro e w' ⟨rfl, rfl⟩
    go_wp2_with fail
    refine (C4.out).mono ?_
    rw [HA4.out]
    rintro e w' ⟨rfl, rfl⟩
    go_wp2
    go_ret
    exact ⟨by rw [← HFIN.out]; rfl, rfl⟩
end Go.Proofs.YthjgndkcijgfmaaDoor
