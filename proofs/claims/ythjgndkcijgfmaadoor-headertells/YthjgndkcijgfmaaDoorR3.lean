/-
  Proved here: the document's Digits, Hex and Name answer 'decDigits', 'hexL' and 'nameL', for every number below 2 to 64; no old memory turns. No further condition.
-/
import Derived.Test.YthjgndkcijgfmaaDoorR2
import Derived.Test.YthjgndkcijgfmaaDoorW7
namespace Go.Proofs.YthjgndkcijgfmaaDoor
open Go.RowKit

theorem str_app (a b : List UInt8) : (⟨a.toArray⟩ : ByteArray) ++ ⟨b.toArray⟩ = ⟨(a ++ b).toArray⟩ := by
  apply ByteArray.ext
  simp
def dgB (m : Nat) : UInt8 := UInt8.ofNat (48 + m % 10)
theorem enc_digit (m : Nat) : Utf8.encode (48 + (m : Int) % 10) = ⟨#[dgB m]⟩ := by
  have e : (m : Int) % 10 = ((m % 10 : Nat) : Int) := by omega
  have hd : m % 10 < 10 := Nat.mod_lt _ (by decide)
  unfold dgB
  rw [e]
  generalize m % 10 = d at hd
  have hd' : d = 0 ∨ d = 1 ∨ d = 2 ∨ d = 3 ∨ d = 4 ∨ d = 5 ∨ d = 6 ∨ d = 7 ∨ d = 8 ∨ d = 9 := by omega
  rcases hd' with rfl | rfl | rfl | rfl | rfl | rfl | rfl | rfl | rfl | rfl
  all_goals (show _ = _; kernel_rfl)
theorem dec_big (m : Nat) (h : 9 < m) : Lib.decDigits m = Lib.decDigits (m / 10) ++ [dgB m] := by
  rw [Lib.decDigits, dif_neg (by omega)]; rfl
theorem dec_small (m : Nat) (h : m ≤ 9) : Lib.decDigits m = [dgB m] := by
  rw [Lib.decDigits_one (by omega)]; unfold dgB; rw [Nat.mod_eq_of_lt (by omega)]

theorem cons_str (x : UInt8) (t : List UInt8) : (⟨#[x]⟩ : ByteArray) ++ ⟨t.toArray⟩ = ⟨(x :: t).toArray⟩ := str_app [x] t

set_option maxHeartbeats 800000 in
theorem rdigits_any (n : Nat) (hn : n < 18446744073709551616) (w : World) :
    Calls Tryd.prog 27 #[.int .u64 (n : Int)] w fun e w' => e = .returned (.string ⟨(Lib.decDigits n).toArray⟩) ∧ w' = w := by
  go_enter Tryd.func27, Tryd.ntmps27
  go_wp2
  go_loop [0, 3] (fun i s => ∃ (m : Nat) (t : List UInt8), m ≤ n ∧ i = .int .u64 m ∧ s = .string ⟨(dgB m :: t).toArray⟩ ∧ Lib.decDigits n = Lib.decDigits m ++ t) (fun i _ => (intOf i).toNat)
  case atStart => exact ⟨n, [], Nat.le_refl _, rfl, by rw [enc_digit], by simp⟩
  case round =>
    obtain ⟨m, t, hm, rfl, hs3, heq⟩ := hrel
    obtain ⟨s3, HS3⟩ : ∃ s3 : ByteArray, Hid (s3 = ⟨(dgB m :: t).toArray⟩) := ⟨_, rfl⟩
    rw [← HS3.out] at hs3
    subst hs3
    have HEQ : Hid (Lib.decDigits n = Lib.decDigits m ++ t) := heq
    clear heq
    by_cases h9 : 9 < m
    · have HN : Hid (Lib.decDigits n = Lib.decDigits (m / 10) ++ (dgB m :: t)) := by
        show Lib.decDigits n = Lib.decDigits (m / 10) ++ (dgB m :: t)
        rw [HEQ.out, dec_big m h9]; simp
      have g9 : (9 : Int) < (m : Int) := by omega
      have he : Utf8.encode (48 + (m : Int) / 10 % 10) = ⟨#[dgB (m / 10)]⟩ := by
        have := enc_digit (m / 10)
        rwa [show ((m / 10 : Nat) : Int) = (m : Int) / 10 by omega] at this
      have hov : ¬ 9223372036854775807 < (Utf8.encode (48 + (m : Int) / 10 % 10)).size + s3.size := by
        have e1 : (Utf8.encode (48 + (m : Int) / 10 % 10)).size = 1 := by rw [he]; rfl
        have e2 : s3.size = t.length + 1 := by rw [HS3.out]; simp [ByteArray.size]
        have e3 := dec_len20 n hn
        rw [HEQ.out, List.length_append] at e3
        rw [e1, e2]; omega
      have HE : Hid (Utf8.encode (48 + (m : Int) / 10 % 10) = ⟨#[dgB (m / 10)]⟩) := he
      clear he
      go_wp2
      go_round
      case rel =>
        refine ⟨m / 10, dgB m :: t, by omega, by go_num, ?_, HN.out⟩
        rw [HE.out, HS3.out, cons_str]
      case measure => simp [intOf]; omega
    · have g9 : ¬ (9 : Int) < (m : Int) := by omega
      have HN : Hid (Lib.decDigits n = dgB m :: t) := by
        show Lib.decDigits n = dgB m :: t
        rw [HEQ.out, dec_small m (by omega)]; rfl
      go_wp2
      go_ret
      exact ⟨by rw [HN.out, ← HS3.out]; rfl, rfl⟩

theorem slice_hex (d : Nat) (hd : d < 16) (w : World) : (Instr.slice 9 (.string ⟨#[48, 49, 50, 51, 52, 53, 54, 55, 56, 57, 97, 98, 99, 100, 101, 102]⟩) (some (.int .u64 (d : Int))) (some (.int .u64 ((d : Int) + 1))) none).run Tryd.prog w = .ok (.string ⟨#[hexd d]⟩) w := by
  have hd' : d = 0 ∨ d = 1 ∨ d = 2 ∨ d = 3 ∨ d = 4 ∨ d = 5 ∨ d = 6 ∨ d = 7 ∨ d = 8 ∨ d = 9 ∨ d = 10 ∨ d = 11 ∨ d = 12 ∨ d = 13 ∨ d = 14 ∨ d = 15 := by omega
  rcases hd' with rfl | rfl | rfl | rfl | rfl | rfl | rfl | rfl | rfl | rfl | rfl | rfl | rfl | rfl | rfl | rfl
  all_goals (show _ = _; kernel_rfl)

set_option maxHeartbeats 800000 in
theorem rhex_any (n c : Nat) (hn : n < 18446744073709551616) (hcc : c ≤ 16) (w : World) :
    Calls Tryd.prog 19 #[.int .u64 (n : Int), .int .i64 (c : Int)] w fun e w' => e = .returned (.string ⟨(hexL n c).toArray⟩) ∧ w' = w := by
  go_enter Tryd.func19, Tryd.ntmps19
  go_wp2
  go_loop [0, 5, 6] (fun a s i => ∃ (k m : Nat), k ≤ c ∧ i = .int .i64 k ∧ a = .int .u64 m ∧ m = n / 16 ^ k ∧ s = .string ⟨(hexL n k).toArray⟩) (fun _ _ i => c - (intOf i).toNat)
  case atStart => exact ⟨0, n, by omega, rfl, rfl, by simp, rfl⟩
  case round =>
    obtain ⟨k, m, hk, rfl, rfl, hm, hs5⟩ := hrel
    obtain ⟨s5, HS⟩ : ∃ s5 : ByteArray, Hid (s5 = ⟨(hexL n k).toArray⟩) := ⟨_, rfl⟩
    rw [← HS.out] at hs5
    subst hs5
    by_cases hlt : k < c
    · have g1 : (k : Int) < (c : Int) := by omega
      have hm64 : m < 18446744073709551616 := by rw [hm]; exact Nat.lt_of_le_of_lt (Nat.div_le_self _ _) hn
      have hbits := and15 m hm64
      have hd : m % 16 < 16 := Nat.mod_lt _ (by decide)
      have HN : Hid (hexL n (k + 1) = hexd (m % 16) :: hexL n k) := by show hexL n (k + 1) = _; rw [hm]; rfl
      have HM : Hid (m / 16 = n / 16 ^ (k + 1)) := by show m / 16 = _; rw [hm, Nat.div_div_eq_div_mul, Nat.pow_succ]
      have hsl := fun W => slice_hex (m % 16) hd W
      have hov : ¬ 9223372036854775807 < (⟨#[hexd (m % 16)]⟩ : ByteArray).size + s5.size := by
        have e2 : s5.size = k := by rw [HS.out]; simp [ByteArray.size, hexL_length]
        have e1 : (⟨#[hexd (m % 16)]⟩ : ByteArray).size = 1 := rfl
        rw [e1, e2]; omega
      clear hm
      generalize m % 16 = d at *
      go_wp2
      go_round
      case rel =>
        refine ⟨k + 1, m / 16, by omega, by go_num, by go_num, HM.out, ?_⟩
        rw [HN.out, HS.out, cons_str]
      case measure => simp [intOf]; omega
    · obtain rfl : k = c := by omega
      have g1 : ¬ (k : Int) < (k : Int) := by omega
      go_wp2
      go_ret
      exact ⟨by rw [← HS.out]; rfl, rfl⟩

set_option maxHeartbeats 800000 in
theorem rname_any (k : Nat) (hk : k < 11) (w : World) :
    Calls Tryd.prog 20 #[.int .i8 (k : Int)] w fun e w' => e = .returned (.string ⟨(nameL k).toArray⟩) ∧ Below w.heap.size w w' := by
  have hk' : k = 0 ∨ k = 1 ∨ k = 2 ∨ k = 3 ∨ k = 4 ∨ k = 5 ∨ k = 6 ∨ k = 7 ∨ k = 8 ∨ k = 9 ∨ k = 10 := by omega
  rcases hk' with rfl | rfl | rfl | rfl | rfl | rfl | rfl | rfl | rfl | rfl | rfl
  all_goals
    go_enter Tryd.func20, Tryd.ntmps20
    go_wp2
    go_ret
    exact ⟨rfl, (Below.refl _ _).alloc (Nat.le_refl _) _⟩
end Go.Proofs.YthjgndkcijgfmaaDoor
