/-
  Plain facts: a row of bytes as one number, the lowest first ('le'); the seal of bytes ('crc') as steps over that number; a row with its crc behind it is known by one equation, and a change within 32 bits side by side breaks it; seals add up. No program is spoken of.
-/
import Derived.Test.YthgkmbdnkamcoaaC1
namespace Go.Proofs.Ythgkmbdnkamcoaa.Seal

/-- A row of bytes as one number, the lowest first. -/
def le : List Int → Nat
  | [] => 0
  | b :: r => b.toNat ^^^ (le r <<< 8)
/-- Bytes are fed, one by one. -/
def fd : Nat → List Int → Nat
  | s, [] => s
  | s, b :: r => fd (Ts 8 (s ^^^ b.toNat)) r
def ones : Nat := 4294967295
/-- The seal. -/
def crc (bs : List Int) : Nat := fd ones bs ^^^ ones
theorem Ts_shl (k a : Nat) : Ts k (a <<< k) = a := by
  rw [Nat.shiftLeft_eq, Nat.mul_comm]; exact Ts_shift k a
theorem fd_eq : ∀ (bs : List Int) (s : Nat), fd s bs = Ts (8 * bs.length) (s ^^^ le bs)
  | [], s => by simp [fd, le, Ts]
  | b :: r, s => by
    show fd (Ts 8 (s ^^^ b.toNat)) r = _
    rw [fd_eq r, List.length_cons, Nat.mul_add, Nat.add_comm (8 * r.length), Ts_add]
    show _ = Ts (8 * r.length) (Ts 8 (s ^^^ (b.toNat ^^^ (le r <<< 8))))
    rw [← Nat.xor_assoc, Ts_xor 8 (s ^^^ b.toNat), Ts_shl]
theorem fd_app : ∀ (a b : List Int) (s : Nat), fd s (a ++ b) = fd (fd s a) b
  | [], _, _ => rfl
  | _ :: a, b, _ => fd_app a b _
theorem fd_lt : ∀ {bs : List Int} {s : Nat}, s < 2 ^ 32 → (∀ x ∈ bs, x < 256) → fd s bs < 2 ^ 32
  | [], _, hs, _ => hs
  | b :: r, s, hs, hb => by
    refine fd_lt (bs := r) (Ts_lt 8 (Nat.xor_lt_two_pow hs ?_)) (fun x hx => hb x (List.mem_cons_of_mem _ hx))
    have := hb b List.mem_cons_self
    omega
theorem ones_lt : ones < 2 ^ 32 := by decide
theorem crc_lt {bs : List Int} (hb : ∀ x ∈ bs, x < 256) : crc bs < 2 ^ 32 := Nat.xor_lt_two_pow (fd_lt ones_lt hb) ones_lt
theorem le_app : ∀ (a b : List Int), le (a ++ b) = le a ^^^ (le b <<< (8 * a.length))
  | [], b => by simp [le]
  | x :: a, b => by
    show x.toNat ^^^ (le (a ++ b) <<< 8) = (x.toNat ^^^ (le a <<< 8)) ^^^ _
    rw [le_app a b, Nat.shiftLeft_xor_distrib, ← Nat.xor_assoc, ← Nat.shiftLeft_add, List.length_cons, Nat.mul_add]
/-- Whether the last four bytes are the seal of those ahead: one equation of the whole. -/
theorem ok_iff (a c : List Int) : (crc a = le c) ↔ Ts (8 * a.length) (ones ^^^ le (a ++ c)) = ones := by
  have e : Ts (8 * a.length) (ones ^^^ le (a ++ c)) = fd ones a ^^^ le c := by
    rw [le_app, ← Nat.xor_assoc, Ts_xor, Ts_shl, fd_eq]
  rw [e]
  unfold crc
  constructor
  · intro h
    rw [← h, xor_can]
  · intro h
    have h2 := congrArg (fd ones a ^^^ ·) h
    simp only [xor_can] at h2
    exact h2.symm
/-- A change within 32 bits side by side is noticed. -/
theorem notices {a c a' c' : List Int} (hl : a'.length = a.length) (ok : crc a = le c) {at' by' : Nat} (hat : at' ≤ 8 * a.length) (hb : by' < 2 ^ 32) (h0 : by' ≠ 0) (he : le (a' ++ c') = le (a ++ c) ^^^ (by' <<< at')) : crc a' ≠ le c' := by
  intro h
  have h1 := (ok_iff a c).1 ok
  have h2 := (ok_iff a' c').1 h
  rw [hl, he, ← Nat.xor_assoc, Ts_xor, h1] at h2
  have h3 : Ts (8 * a.length) (by' <<< at') = 0 := by
    have := congrArg (ones ^^^ ·) h2
    simpa [xor_can, Nat.xor_self] using this
  rw [show 8 * a.length = at' + (8 * a.length - at') by omega, Ts_add, Ts_shl] at h3
  exact Ts_pos _ hb h0 h3
/-- Seals add up. -/
theorem linear {a b c z : List Int} (h1 : a.length = b.length) (h2 : c.length = b.length) (h3 : z.length = b.length) (hc : le c = le a ^^^ le b) (hz : le z = 0) : crc a ^^^ crc b ^^^ crc c ^^^ crc z = 0 := by
  have e : ∀ x y : Nat, Ts (8 * b.length) (ones ^^^ x) = Ts (8 * b.length) ones ^^^ Ts (8 * b.length) x := fun x _ => Ts_xor _ _ _
  unfold crc
  rw [fd_eq a, fd_eq b, fd_eq c, fd_eq z, h1, h2, h3, hc, hz]
  rw [e _ 0, e _ 0, e _ 0, e _ 0, Ts_xor, Ts_zero]
  generalize Ts (8 * b.length) ones = p
  generalize Ts (8 * b.length) (le a) = q
  generalize Ts (8 * b.length) (le b) = r
  apply Nat.eq_of_testBit_eq
  intro i
  simp only [Nat.testBit_xor, Nat.zero_testBit]
  cases p.testBit i <;> cases q.testBit i <;> cases r.testBit i <;> cases ones.testBit i <;> rfl
theorem le_zero : ∀ n, le (List.replicate n 0) = 0
  | 0 => rfl
  | n + 1 => by
    show (0 : Int).toNat ^^^ (le (List.replicate n 0) <<< 8) = 0
    rw [le_zero n]; rfl
/-- A byte is changed. -/
theorem le_set : ∀ (l : List Int) (j : Nat) (y : Int) (m : Nat), j < l.length → y.toNat = (l.getD j 0).toNat ^^^ m → le (l.set j y) = le l ^^^ (m <<< (8 * j))
  | [], _, _, _, h, _ => absurd h (by simp)
  | b :: r, 0, y, m, _, hy => by
    show y.toNat ^^^ (le r <<< 8) = (b.toNat ^^^ (le r <<< 8)) ^^^ _
    rw [hy]
    simp only [List.getD_cons_zero, Nat.mul_zero, Nat.shiftLeft_zero]
    rw [Nat.xor_assoc, Nat.xor_assoc, Nat.xor_comm m]
  | b :: r, j + 1, y, m, h, hy => by
    show b.toNat ^^^ (le (r.set j y) <<< 8) = (b.toNat ^^^ (le r <<< 8)) ^^^ _
    rw [le_set r j y m (by simpa using h) (by simpa using hy), Nat.shiftLeft_xor_distrib, ← Nat.xor_assoc, ← Nat.shiftLeft_add, Nat.mul_add]
/-- A number below 2 to k, and above it another one. -/
theorem split_xor (z k : Nat) : z = z % 2 ^ k ^^^ ((z / 2 ^ k) <<< k) := by
  apply Nat.eq_of_testBit_eq
  intro i
  simp only [Nat.testBit_xor, Nat.testBit_mod_two_pow, Nat.testBit_shiftLeft, Nat.testBit_div_two_pow]
  by_cases h : i < k
  · simp [h, show ¬ k ≤ i by omega]
  · simp [h, show k ≤ i by omega, show i - k + k = i by omega]
/-- Eight steps by a table of the lowest byte. -/
theorem Ts8_tab (z : Nat) : Ts 8 z = Ts 8 (z % 256) ^^^ z / 256 := by
  have h := split_xor z 8
  have h2 : Ts 8 z = Ts 8 (z % 2 ^ 8 ^^^ ((z / 2 ^ 8) <<< 8)) := congrArg (Ts 8) h
  rw [Ts_xor, Ts_shl] at h2
  exact h2
/-- The four bytes of a number. -/
theorem le_four {n : Nat} (h : n < 2 ^ 32) : le [((n % 256 : Nat) : Int), ((n / 256 % 256 : Nat) : Int), ((n / 65536 % 256 : Nat) : Int), ((n / 16777216 % 256 : Nat) : Int)] = n := by
  simp only [le, Int.toNat_natCast]
  have e4 : n / 16777216 % 256 ^^^ (0 <<< 8) = n / 16777216 := by simp; omega
  rw [e4]
  have e3 : n / 65536 % 256 ^^^ ((n / 16777216) <<< 8) = n / 65536 := by
    have := split_xor (n / 65536) 8
    rw [Nat.div_div_eq_div_mul] at this
    exact this.symm
  rw [e3]
  have e2 : n / 256 % 256 ^^^ ((n / 65536) <<< 8) = n / 256 := by
    have := split_xor (n / 256) 8
    rw [Nat.div_div_eq_div_mul] at this
    exact this.symm
  rw [e2]
  exact (split_xor n 8).symm
/-- Of a number's lowest i + 1 bits the highest one, apart. -/
theorem mod_step (n i : Nat) : n % 2 ^ (i + 1) = n % 2 ^ i ^^^ ((n / 2 ^ i % 2) <<< i) := by
  have h := split_xor (n % 2 ^ (i + 1)) i
  rw [Nat.mod_mod_of_dvd _ (Nat.pow_dvd_pow 2 (Nat.le_succ i)), Nat.pow_succ, Nat.mod_mul_right_div_self] at h
  rw [Nat.pow_succ]
  exact h
end Go.Proofs.Ythgkmbdnkamcoaa.Seal
