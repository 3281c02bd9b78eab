/-
  Proved here: the document's Sum answers 'crc' of the bytes, for every bytes that a slice holds; no world turns. No condition.
-/
import Derived.Test.YtijjcopglbcoiaaK1
import Derived.Test.YtijjcopglbcoiaaC2
import Derived.Laws.BitsAllLaws
namespace Go.Proofs.Ytijjcopglbcoiaa
open Go.RowKit Seal

theorem Ts_next (j z : Nat) : Ts (j + 1) z = T (Ts j z) := Ts_add j 1 z
theorem T_odd {m : Nat} (h : m % 2 = 1) : T m = m / 2 ^^^ 3988292384 := by unfold T; rw [if_pos h]; rfl
theorem T_eve {m : Nat} (h : ¬ m % 2 = 1) : T m = m / 2 := by unfold T; rw [if_neg h, Nat.xor_zero]
theorem and1 {m : Nat} (h : m < 4294967296) : bits .and .u32 (m : Int) 1 = ((m % 2 : Nat) : Int) := by
  have := u32_and_nat m 1 h (by omega)
  rw [nat_mask1] at this
  exact this
theorem xorQ {m : Nat} (h : m < 4294967296) : bits .xor .u32 ((m : Int) / 2) 3988292384 = ((m / 2 ^^^ 3988292384 : Nat) : Int) := by
  have := u32_xor_nat (m / 2) 3988292384 (by omega) (by omega)
  exact this
theorem xorB {m : Nat} {x : Int} (h : m < 4294967296) (h0 : 0 ≤ x) (h1 : x < 256) : bits .xor .u32 (m : Int) x = ((m ^^^ x.toNat : Nat) : Int) := by
  have := u32_xor (m : Int) x (by omega) (by omega) h0 (by omega)
  simpa using this
theorem notQ {m : Nat} (h : m < 4294967296) : bits .xor .u32 IntKind.u32.max (m : Int) = ((m ^^^ ones : Nat) : Int) := by
  have := u32_xor_nat 4294967295 m (by omega) h
  rw [Nat.xor_comm] at this
  exact this
theorem fd_take (s : Nat) (bs : List Int) (k : Nat) (h : k < bs.length) : fd s (bs.take (k + 1)) = Ts 8 (fd s (bs.take k) ^^^ (bs.getD k 0).toNat) := by
  rw [List.take_add_one, fd_app, List.getElem?_eq_getElem h, List.getD_eq_getElem?_getD, List.getElem?_eq_getElem h]; rfl
theorem take_lt {bs : List Int} (h : IsB bs) (k : Nat) : fd ones (bs.take k) < 4294967296 := fd_lt ones_lt fun x hx => (h x (List.mem_of_mem_take hx)).2

set_option maxHeartbeats 800000 in
/-- WHAT THE DOCUMENT's Sum ANSWERS. -/
theorem rsum_any (B : Nat) (v : Value) (bs : List Int) (w : World) (hs : Sl B w v bs) :
    Calls Try.prog 51 #[v] w fun e w' => e = .returned (.int .u32 (crc bs)) ∧ w' = w := by
  have hB := hs.isB
  have hlen := hs.len
  obtain ⟨ao, cap, rfl, _, _, _, _, hcells⟩ := hs
  have HC : Hid (bs ≠ [] → ∃ b o, b < B ∧ ao = some ⟨b, o, none⟩ ∧ ∀ j, j < bs.length → w.cell? ⟨b, o + j, none⟩ = some (.int .u8 (bs.getD j 0))) := hcells
  have HI : Hid (IsB bs) := hB
  clear hcells hB
  go_enter Try.func51, Try.ntmps51
  go_wp2
  go_loop [3, 4] (fun n i => ∃ k : Nat, k ≤ bs.length ∧ i = .int .i64 k ∧ n = .int .u32 (fd ones (bs.take k) : Nat)) (fun _ i => bs.length - (intOf i).toNat)
  case atStart => exact ⟨0, by omega, rfl, rfl⟩
  case round =>
    obtain ⟨k, hk, rfl, rfl⟩ := hrel
    have hlt32 := take_lt HI.out k
    by_cases hlt : k < bs.length
    · obtain ⟨b, o, _, rfl, hcl⟩ := HC.out (fun e => by subst e; simp at hlt)
      obtain ⟨x, hx⟩ : ∃ x, x = bs.getD k 0 := ⟨_, rfl⟩
      have hc := hcl k hlt
      have hx0 := HI.out.at k
      have hT := fd_take ones bs k hlt
      rw [← hx] at hc hx0 hT
      obtain ⟨m, hm⟩ : ∃ m, m = fd ones (bs.take k) := ⟨_, rfl⟩
      rw [← hm] at hlt32 hT ⊢
      have HB := xorB hlt32 hx0.1 hx0.2
      have hz : m ^^^ x.toNat < 2 ^ 32 := Nat.xor_lt_two_pow hlt32 (by omega)
      obtain ⟨z, hz'⟩ : ∃ z, z = m ^^^ x.toNat := ⟨_, rfl⟩
      rw [← hz'] at hT HB hz
      have HT : Hid (fd ones (bs.take (k + 1)) = Ts 8 z) := hT
      clear hcl HC hx hm hz' hT
      go_wp2
      go_loop [3, 5] (fun n i => ∃ j : Nat, j ≤ 8 ∧ i = .int .i64 j ∧ n = .int .u32 (Ts j z : Nat)) (fun _ i => 8 - (intOf i).toNat)
      case atStart => exact ⟨0, by omega, rfl, rfl⟩
      case round =>
        obtain ⟨j, hj, rfl, rfl⟩ := hrel
        have hl2 : Ts j z < 4294967296 := Ts_lt j hz
        have HN := Ts_next j z
        obtain ⟨y, hy⟩ : ∃ y, y = Ts j z := ⟨_, rfl⟩
        rw [← hy] at hl2 HN ⊢
        by_cases hj8 : j < 8
        · by_cases ho : y % 2 = 1
          · have a1 := and1 hl2
            rw [ho] at a1
            have a2 := xorQ hl2
            rw [T_odd ho] at HN
            have HN' : Hid (Ts (j + 1) z = y / 2 ^^^ 3988292384) := HN
            clear hy HN ho
            go_wp2
            go_round
            case rel => exact ⟨j + 1, by omega, by go_num, by rw [HN'.out]⟩
            case measure => simp [intOf]; omega
          · have a1 := and1 hl2
            rw [show y % 2 = 0 by omega] at a1
            rw [T_eve ho] at HN
            have HN' : Hid (Ts (j + 1) z = y / 2) := HN
            clear hy HN ho
            go_wp2
            go_round
            case rel => exact ⟨j + 1, by omega, by go_num, by rw [HN'.out]; rfl⟩
            case measure => simp [intOf]; omega
        · obtain rfl : j = 8 := by omega
          rw [← HT.out] at hy
          have HY : Hid (y = fd ones (bs.take (k + 1))) := hy
          clear hy HN
          go_wp2
          go_round
          case rel => exact ⟨k + 1, by omega, by go_num, by rw [HY.out]⟩
          case measure => simp [intOf]; omega
    · obtain rfl : k = bs.length := by omega
      have hn := notQ hlt32
      rw [List.take_length] at hn hlt32 ⊢
      have HN : Hid (bits .xor .u32 IntKind.u32.max ((fd ones bs : Nat) : Int) = ((fd ones bs ^^^ ones : Nat) : Int)) := hn
      clear hn HC
      go_wp2
      go_ret
      exact ⟨by unfold crc; rw [← HN.out]; rfl, rfl⟩
end Go.Proofs.Ytijjcopglbcoiaa
