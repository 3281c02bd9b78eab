/-
  Proved here: the document's Number answers 'numL' for every field but Kind (Src and Dst among them), and for every number below 2 to 64; no world turns. No further condition.
-/
import Derived.Test.YthjgndkcijgfmaaDoorR4
namespace Go.Proofs.YthjgndkcijgfmaaDoor
open Go.RowKit

def mt1 (n : Nat) : List UInt8 := hexL (n / 1099511627776 % 256) 2
def mt2 (n : Nat) : List UInt8 := mt1 n ++ [58] ++ hexL (n / 4294967296 % 256) 2
def mt3 (n : Nat) : List UInt8 := mt2 n ++ [58] ++ hexL (n / 16777216 % 256) 2
def mt4 (n : Nat) : List UInt8 := mt3 n ++ [58] ++ hexL (n / 65536 % 256) 2
def mt5 (n : Nat) : List UInt8 := mt4 n ++ [58] ++ hexL (n / 256 % 256) 2
def mt6 (n : Nat) : List UInt8 := mt5 n ++ [58] ++ hexL (n % 256) 2
def macT (n : Nat) : Nat → List UInt8
  | 0 => [] | 1 => mt1 n | 2 => mt2 n | 3 => mt3 n | 4 => mt4 n | 5 => mt5 n | _ => mt6 n
theorem not_empty {s : ByteArray} {n : Nat} (h : s.size = n + 1) : s.toList.isEmpty = false := by
  rw [ByteArray.toList_eq]
  have h' : s.data.toList.length = n + 1 := by rw [Array.length_toList]; exact h
  cases hq : s.data.toList with
  | nil => rw [hq] at h'; simp at h'
  | cons a b => rfl
theorem macT_end (n : Nat) : macT n 6 = macL n 5 := by
  show mt6 n = macL n 5
  simp only [mt1, mt2, mt3, mt4, mt5, mt6, macL, hexL_mod, Nat.reduceAdd, Nat.reducePow, List.append_assoc, List.cons_append, List.nil_append]
theorem macT_len (n : Nat) : (macT n 0).length = 0 ∧ (macT n 1).length = 2 ∧ (macT n 2).length = 5 ∧ (macT n 3).length = 8 ∧ (macT n 4).length = 11 ∧ (macT n 5).length = 14 ∧ (macT n 6).length = 17 := by
  simp [macT, mt1, mt2, mt3, mt4, mt5, mt6, hexL_length]

set_option maxHeartbeats 3200000 in
theorem rnum_mac0 (f : Int) (n : Nat) (hk : f = 0 ∨ f = 1) (hn : n < 18446744073709551616) (w : World) :
    Calls Tryd.prog 21 #[.int .i8 f, .int .u64 (n : Int)] w fun e w' => e = .returned (.string ⟨(macL n 5).toArray⟩) ∧ w' = w := by
  have hlen := Lib.hid (macT_len n)
  have HEND : Hid (macT n 6 = macL n 5) := macT_end n
  have b0 : bits .and .u64 ((n : Int) / 1099511627776) 255 = ((n / 1099511627776 % 256 : Nat) : Int) := by
    rw [show (n : Int) / 1099511627776 = ((n / 1099511627776 : Nat) : Int) by omega]; exact and255 _ (by omega)
  have b1 : bits .and .u64 ((n : Int) / 4294967296) 255 = ((n / 4294967296 % 256 : Nat) : Int) := by
    rw [show (n : Int) / 4294967296 = ((n / 4294967296 : Nat) : Int) by omega]; exact and255 _ (by omega)
  have b2 : bits .and .u64 ((n : Int) / 16777216) 255 = ((n / 16777216 % 256 : Nat) : Int) := by
    rw [show (n : Int) / 16777216 = ((n / 16777216 : Nat) : Int) by omega]; exact and255 _ (by omega)
  have b3 : bits .and .u64 ((n : Int) / 65536) 255 = ((n / 65536 % 256 : Nat) : Int) := by
    rw [show (n : Int) / 65536 = ((n / 65536 : Nat) : Int) by omega]; exact and255 _ (by omega)
  have b4 : bits .and .u64 ((n : Int) / 256) 255 = ((n / 256 % 256 : Nat) : Int) := by
    rw [show (n : Int) / 256 = ((n / 256 : Nat) : Int) by omega]; exact and255 _ (by omega)
  have b5 : bits .and .u64 (n : Int) 255 = ((n % 256 : Nat) : Int) := and255 _ hn
  rcases hk with rfl | rfl
  all_goals
    go_enter Tryd.func21, Tryd.ntmps21
    go_wp2
    go_loop [5, 6] (fun s i => ∃ (j : Nat), j ≤ 6 ∧ i = .int .i64 (40 - 8 * (j : Int)) ∧ s = .string ⟨(macT n j).toArray⟩) (fun _ i => (intOf i + 8).toNat)
    case atStart => exact ⟨0, by omega, rfl, rfl⟩
    case round =>
      obtain ⟨j, hj, rfl, hs5⟩ := hrel
      obtain ⟨s5, HS⟩ : ∃ s5 : ByteArray, Hid (s5 = ⟨(macT n j).toArray⟩) := ⟨_, rfl⟩
      rw [← HS.out] at hs5
      subst hs5
      have hj' : j = 0 ∨ j = 1 ∨ j = 2 ∨ j = 3 ∨ j = 4 ∨ j = 5 ∨ j = 6 := by omega
      rcases hj' with rfl | rfl | rfl | rfl | rfl | rfl | rfl
      · have hs0 : s5 = ⟨#[]⟩ := HS.out
        subst hs0
        have hx : n / 1099511627776 % 256 < 18446744073709551616 := by omega
        have HX : Hid (macT n 1 = hexL (n / 1099511627776 % 256) 2) := rfl
        generalize n / 1099511627776 % 256 = x at *
        obtain ⟨X, HXX⟩ : ∃ X : ByteArray, Hid ((⟨(hexL x 2).toArray⟩ : ByteArray) = X) := ⟨_, rfl⟩
        have hX : X.size = 2 := by rw [← HXX.out]; simp [ByteArray.size, hexL_length]
        clear b1 b2 b3 b4 b5
        go_wp2_with (go_at_call 19; refine (rhex_any x 2 hx (by decide) _).mono ?_; rw [HXX.out]; rintro e w' ⟨rfl, rfl⟩)
        go_round
        case rel =>
          refine ⟨1, by omega, rfl, ?_⟩
          rw [HX.out, HXX.out]; first | rfl | simp
        case measure => simp [intOf]
      · have hsz : s5.size = 2 := by rw [HS.out]; have := hlen.out.2.1; simpa [ByteArray.size] using this
        have hne := not_empty hsz
        have hx : n / 4294967296 % 256 < 18446744073709551616 := by omega
        have HX : Hid (macT n 2 = macT n 1 ++ [58] ++ hexL (n / 4294967296 % 256) 2) := rfl
        generalize n / 4294967296 % 256 = x at *
        obtain ⟨X, HXX⟩ : ∃ X : ByteArray, Hid ((⟨(hexL x 2).toArray⟩ : ByteArray) = X) := ⟨_, rfl⟩
        have hX : X.size = 2 := by rw [← HXX.out]; simp [ByteArray.size, hexL_length]
        clear b0 b2 b3 b4 b5
        go_wp2_with (go_at_call 19; refine (rhex_any x 2 hx (by decide) _).mono ?_; rw [HXX.out]; rintro e w' ⟨rfl, rfl⟩)
        go_round
        case rel =>
          refine ⟨2, by omega, rfl, ?_⟩
          rw [HX.out, ← HXX.out, HS.out, ← str_app, ← str_app]
        case measure => simp [intOf]
      · have hsz : s5.size = 5 := by rw [HS.out]; have := hlen.out.2.2.1; simpa [ByteArray.size] using this
        have hne := not_empty hsz
        have hx : n / 16777216 % 256 < 18446744073709551616 := by omega
        have HX : Hid (macT n 3 = macT n 2 ++ [58] ++ hexL (n / 16777216 % 256) 2) := rfl
        generalize n / 16777216 % 256 = x at *
        obtain ⟨X, HXX⟩ : ∃ X : ByteArray, Hid ((⟨(hexL x 2).toArray⟩ : ByteArray) = X) := ⟨_, rfl⟩
        have hX : X.size = 2 := by rw [← HXX.out]; simp [ByteArray.size, hexL_length]
        clear b0 b1 b3 b4 b5
        go_wp2_with (go_at_call 19; refine (rhex_any x 2 hx (by decide) _).mono ?_; rw [HXX.out]; rintro e w' ⟨rfl, rfl⟩)
        go_round
        case rel =>
          refine ⟨3, by omega, rfl, ?_⟩
          rw [HX.out, ← HXX.out, HS.out, ← str_app, ← str_app]
        case measure => simp [intOf]
      · have hsz : s5.size = 8 := by rw [HS.out]; have := hlen.out.2.2.2.1; simpa [ByteArray.size] using this
        have hne := not_empty hsz
        have hx : n / 65536 % 256 < 18446744073709551616 := by omega
        have HX : Hid (macT n 4 = macT n 3 ++ [58] ++ hexL (n / 65536 % 256) 2) := rfl
        generalize n / 65536 % 256 = x at *
        obtain ⟨X, HXX⟩ : ∃ X : ByteArray, Hid ((⟨(hexL x 2).toArray⟩ : ByteArray) = X) := ⟨_, rfl⟩
        have hX : X.size = 2 := by rw [← HXX.out]; simp [ByteArray.size, hexL_length]
        clear b0 b1 b2 b4 b5
        go_wp2_with (go_at_call 19; refine (rhex_any x 2 hx (by decide) _).mono ?_; rw [HXX.out]; rintro e w' ⟨rfl, rfl⟩)
        go_round
        case rel =>
          refine ⟨4, by omega, rfl, ?_⟩
          rw [HX.out, ← HXX.out, HS.out, ← str_app, ← str_app]
        case measure => simp [intOf]
      · have hsz : s5.size = 11 := by rw [HS.out]; have := hlen.out.2.2.2.2.1; simpa [ByteArray.size] using this
        have hne := not_empty hsz
        have hx : n / 256 % 256 < 18446744073709551616 := by omega
        have HX : Hid (macT n 5 = macT n 4 ++ [58] ++ hexL (n / 256 % 256) 2) := rfl
        generalize n / 256 % 256 = x at *
        obtain ⟨X, HXX⟩ : ∃ X : ByteArray, Hid ((⟨(hexL x 2).toArray⟩ : ByteArray) = X) := ⟨_, rfl⟩
        have hX : X.size = 2 := by rw [← HXX.out]; simp [ByteArray.size, hexL_length]
        clear b0 b1 b2 b3 b5
        go_wp2_with (go_at_call 19; refine (rhex_any x 2 hx (by decide) _).mono ?_; rw [HXX.out]; rintro e w' ⟨rfl, rfl⟩)
        go_round
        case rel =>
          refine ⟨5, by omega, rfl, ?_⟩
          rw [HX.out, ← HXX.out, HS.out, ← str_app, ← str_app]
        case measure => simp [intOf]
      · have hsz : s5.size = 14 := by rw [HS.out]; have := hlen.out.2.2.2.2.2.1; simpa [ByteArray.size] using this
        have hne := not_empty hsz
        have hx : n % 256 < 18446744073709551616 := by omega
        have HX : Hid (macT n 6 = macT n 5 ++ [58] ++ hexL (n % 256) 2) := rfl
        generalize n % 256 = x at *
        obtain ⟨X, HXX⟩ : ∃ X : ByteArray, Hid ((⟨(hexL x 2).toArray⟩ : ByteArray) = X) := ⟨_, rfl⟩
        have hX : X.size = 2 := by rw [← HXX.out]; simp [ByteArray.size, hexL_length]
        clear b0 b1 b2 b3 b4
        go_wp2_with (go_at_call 19; refine (rhex_any x 2 hx (by decide) _).mono ?_; rw [HXX.out]; rintro e w' ⟨rfl, rfl⟩)
        go_round
        case rel =>
          refine ⟨6, by omega, rfl, ?_⟩
          rw [HX.out, ← HXX.out, HS.out, ← str_app, ← str_app]
        case measure => simp [intOf]
      · go_wp2
        go_ret
        exact ⟨by rw [← HEND.out, ← HS.out]; rfl, rfl⟩

theorem rnum_mac (k n : Nat) (hk : k = 0 ∨ k = 1) (hn : n < 18446744073709551616) (w : World) :
    Calls Tryd.prog 21 #[.int .i8 (k : Int), .int .u64 (n : Int)] w fun e w' => e = .returned (.string ⟨(numL k n).toArray⟩) ∧ w' = w := by
  have e : numL k n = macL n 5 := by rcases hk with rfl | rfl <;> rfl
  rw [e]
  exact rnum_mac0 (k : Int) n (by omega) hn w

theorem rnum_any (k n : Nat) (hk : k < 11) (h2 : k ≠ 2) (hn : n < 18446744073709551616) (w : World) :
    Calls Tryd.prog 21 #[.int .i8 (k : Int), .int .u64 (n : Int)] w fun e w' => e = .returned (.string ⟨(numL k n).toArray⟩) ∧ w' = w := by
  by_cases h1 : k = 0 ∨ k = 1
  · exact rnum_mac k n h1 hn w
  · by_cases h3 : k = 4 ∨ k = 5
    · exact rnum_ip k n h3 hn w
    · exact rnum_dec k n (by omega) hn w
end Go.Proofs.YthjgndkcijgfmaaDoor
