/-
  Plain facts: the step of a seal as a function of numbers (T), which adds up by exclusive or, and never makes nothing of something below 2 to 32; a row of bytes as one number, the lowest first; what the steps make of it. No program is spoken of.
-/
import Derived.WalkKit
namespace Go.Proofs.Ythgkmbdnkamcoaa.Seal

/-- The number that is taken in where the lowest bit is set. -/
def Q : Nat := 3988292384
/-- One step. -/
def T (z : Nat) : Nat := z / 2 ^^^ (if z % 2 = 1 then Q else 0)
/-- k steps. -/
def Ts : Nat → Nat → Nat
  | 0, z => z
  | k + 1, z => Ts k (T z)
theorem xor_lc (a b c : Nat) : a ^^^ (b ^^^ c) = b ^^^ (a ^^^ c) := by rw [← Nat.xor_assoc, Nat.xor_comm a b, Nat.xor_assoc]
theorem xor_can (a b : Nat) : a ^^^ (a ^^^ b) = b := by rw [← Nat.xor_assoc, Nat.xor_self, Nat.zero_xor]
theorem eq_of_xor {a b : Nat} (h : a ^^^ b = 0) : a = b := by
  have := congrArg (· ^^^ b) h
  simpa [Nat.xor_assoc, Nat.xor_self] using this
theorem xor_mod2 (a b : Nat) : (a ^^^ b) % 2 = (a % 2 + b % 2) % 2 := by
  have h := @Nat.xor_mod_two_pow a b 1
  rw [Nat.pow_one] at h
  rw [h]
  rcases Nat.mod_two_eq_zero_or_one a with ha | ha <;> rcases Nat.mod_two_eq_zero_or_one b with hb | hb <;> rw [ha, hb] <;> decide
theorem xor_div2 (a b : Nat) : (a ^^^ b) / 2 = a / 2 ^^^ b / 2 := Nat.xor_div_two
theorem T_xor (a b : Nat) : T (a ^^^ b) = T a ^^^ T b := by
  unfold T
  rw [xor_div2, xor_mod2]
  have e : ∀ p q : Nat, p = 0 ∨ p = 1 → q = 0 ∨ q = 1 → (if (p + q) % 2 = 1 then Q else 0) = (if p = 1 then Q else 0) ^^^ (if q = 1 then Q else 0) := by
    rintro p q (rfl | rfl) (rfl | rfl) <;> simp
  rw [e _ _ (Nat.mod_two_eq_zero_or_one a) (Nat.mod_two_eq_zero_or_one b), Nat.xor_assoc, Nat.xor_assoc, xor_lc (b / 2)]
theorem Ts_xor : ∀ (k a b : Nat), Ts k (a ^^^ b) = Ts k a ^^^ Ts k b
  | 0, _, _ => rfl
  | k + 1, a, b => by
    show Ts k (T (a ^^^ b)) = Ts k (T a) ^^^ Ts k (T b)
    rw [T_xor, Ts_xor k]
theorem T_even (a : Nat) : T (2 * a) = a := by
  unfold T
  rw [if_neg (by omega), Nat.mul_div_cancel_left _ (by omega)]; simp
theorem Ts_shift : ∀ (k a : Nat), Ts k (2 ^ k * a) = a
  | 0, a => by simp [Ts]
  | k + 1, a => by
    show Ts k (T (2 ^ (k + 1) * a)) = a
    rw [show 2 ^ (k + 1) * a = 2 * (2 ^ k * a) by rw [Nat.pow_succ, Nat.mul_comm (2 ^ k) 2, Nat.mul_assoc], T_even, Ts_shift k a]
theorem Ts_add : ∀ (j k z : Nat), Ts (j + k) z = Ts k (Ts j z)
  | 0, k, z => by simp [Ts]
  | j + 1, k, z => by
    rw [Nat.add_right_comm]
    show Ts (j + k) (T z) = Ts k (Ts j (T z))
    exact Ts_add j k (T z)
theorem Ts_zero : ∀ k, Ts k 0 = 0
  | 0 => rfl
  | k + 1 => by show Ts k (T 0) = 0; exact Ts_zero k
theorem Q_lt : Q < 2 ^ 32 := by decide
theorem T_lt {z : Nat} (h : z < 2 ^ 32) : T z < 2 ^ 32 := by
  unfold T
  refine Nat.xor_lt_two_pow (by omega) ?_
  split
  · exact Q_lt
  · decide
theorem T_pos {z : Nat} (h : z < 2 ^ 32) (h0 : z ≠ 0) : T z ≠ 0 := by
  unfold T
  intro e
  have e' := eq_of_xor e
  split at e'
  · have : z / 2 = 3988292384 := e'
    omega
  · omega
theorem Ts_lt : ∀ (k : Nat) {z : Nat}, z < 2 ^ 32 → Ts k z < 2 ^ 32
  | 0, _, h => h
  | k + 1, _, h => Ts_lt k (T_lt h)
theorem Ts_pos : ∀ (k : Nat) {z : Nat}, z < 2 ^ 32 → z ≠ 0 → Ts k z ≠ 0
  | 0, _, _, h0 => h0
  | k + 1, _, h, h0 => Ts_pos k (T_lt h) (T_pos h h0)
end Go.Proofs.Ythgkmbdnkamcoaa.Seal
