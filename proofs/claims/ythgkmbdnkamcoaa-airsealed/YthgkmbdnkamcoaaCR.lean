/-
  Plain facts of seals (out of stage 5's R1, R2, W0). No program is spoken of.
-/
import Derived.Test.YthgkmbdnkamcoaaK1
import Derived.Test.YthgkmbdnkamcoaaC3
import Derived.Laws.BitsAllLaws
namespace Go.Proofs.Ythgkmbdnkamcoaa
open Go.RowKit Seal

theorem Ts_next (j z : Nat) : Ts (j + 1) z = T (Ts j z) := Ts_add j 1 z
theorem T_odd {m : Nat} (h : m % 2 = 1) : T m = m / 2 ^^^ 3988292384 := by unfold T; rw [if_pos h]; rfl
theorem T_eve {m : Nat} (h : ¬ m % 2 = 1) : T m = m / 2 := by unfold T; rw [if_neg h, Nat.xor_zero]
theorem and1 {m : Nat} (h : m < 4294967296) : bits .and .u32 (m : Int) 1 = ((m % 2 : Nat) : Int) := by
  have := u32_and_nat m 1 h (by omega)
  rw [nat_mask1] at this
  exact this
theorem xorQ {m : Nat} (h : m < 4294967296) : bits .xor .u32 ((m : Int) / 2) 3988292384 = ((m / 2 ^^^ 3988292384 : Nat) : Int) := by
  have := u32_xor_nat (m / 2) 3988292384 (by omega) (by omega)
  exact this
theorem xorB {m : Nat} {x : Int} (h : m < 4294967296) (h0 : 0 ≤ x) (h1 : x < 256) : bits .xor .u32 (m : Int) x = ((m ^^^ x.toNat : Nat) : Int) := by
  have := u32_xor (m : Int) x (by omega) (by omega) h0 (by omega)
  simpa using this
theorem notQ {m : Nat} (h : m < 4294967296) : bits .xor .u32 IntKind.u32.max (m : Int) = ((m ^^^ ones : Nat) : Int) := by
  have := u32_xor_nat 4294967295 m (by omega) h
  rw [Nat.xor_comm] at this
  exact this
theorem fd_take (s : Nat) (bs : List Int) (k : Nat) (h : k < bs.length) : fd s (bs.take (k + 1)) = Ts 8 (fd s (bs.take k) ^^^ (bs.getD k 0).toNat) := by
  rw [List.take_add_one, fd_app, List.getElem?_eq_getElem h, List.getD_eq_getElem?_getD, List.getElem?_eq_getElem h]; rfl
theorem take_lt {bs : List Int} (h : IsB bs) (k : Nat) : fd ones (bs.take k) < 4294967296 := fd_lt ones_lt fun x hx => (h x (List.mem_of_mem_take hx)).2

theorem sl_four (w : World) (n : Nat) : Sl (w.heap.size + 1) (w.alloc (.cells #[.int .u8 ((n : Int) % 256), .int .u8 ((n : Int) / 256 % 256), .int .u8 ((n : Int) / 65536 % 256), .int .u8 ((n : Int) / 16777216 % 256)] 5)) (.slice (some ⟨w.heap.size, 0, none⟩) 4 4) (four n) := sl_lit w (four n) (four_isB n) (by simp [four])

theorem opE_eq {bs : List Int} {k : Nat} (hk : bs.length = k + 4) : opE bs = if ((crc (bs.take k) : Nat) : Int) = bs.getD k 0 + bs.getD (k + 1) 0 * 256 + bs.getD (k + 2) 0 * 65536 + bs.getD (k + 3) 0 * 16777216 then 0 else 50 := by
  unfold opE tail4
  rw [if_neg (by omega), show bs.length - 4 = k by omega]
theorem opL_eq {bs : List Int} {k : Nat} (hk : bs.length = k + 4) (h : opE bs = 0) : opL bs = bs.take k := by
  unfold opL
  rw [if_pos h, show bs.length - 4 = k by omega]

theorem seL_len (bs : List Int) : (seL bs).length ≤ 16388 := by
  unfold seL; split
  · simp
  · simp [four]; omega
theorem seL_isB {bs : List Int} (h : IsB bs) : IsB (seL bs) := by
  unfold seL; split
  · exact IsB.nil
  · exact h.app (four_isB _)
theorem opL_isB {bs : List Int} (h : IsB bs) : IsB (opL bs) := by
  unfold opL; split
  · exact h.take _
  · exact IsB.nil
theorem opL_len (bs : List Int) : (opL bs).length ≤ bs.length := by
  unfold opL; split
  · rw [List.length_take]; omega
  · simp

/-- The bytes of a constant. -/
abbrev c9 : Array Value := #[.int .u8 76, .int .u8 50, .int .u8 51, .int .u8 52, .int .u8 53, .int .u8 54, .int .u8 55, .int .u8 56, .int .u8 57]
end Go.Proofs.Ythgkmbdnkamcoaa
