/-
  Plain facts: the widths of the fields, in how many bytes each stands, matches as numbers, when a match is one, and what follows of its numbers' size. No program is spoken of.
-/
import Derived.Test.YtllbbbfkdgjffaaDoorN1
import Derived.WalkKit
import Derived.Laws.BitsAllLaws
namespace Go.Proofs.YtllbbbfkdgjffaaDoor
open Go.RowKit

def wid : Nat → Int
  | 0 => 48 | 1 => 48 | 2 => 16 | 3 => 12 | 4 => 32 | 5 => 32 | 6 => 8 | 7 => 16 | 8 => 16 | 9 => 16 | 10 => 16 | _ => 0
theorem wid_bd (k : Nat) : 0 ≤ wid k ∧ wid k ≤ 48 := by
  unfold wid; split <;> omega
def widV (f : Int) : Int := if 0 ≤ f ∧ f < 11 then wid f.toNat else 0
theorem widV_nat (k : Nat) (hk : k < 11) : widV (k : Int) = wid k := by
  unfold widV; rw [if_pos (by omega)]; simp
/-- In how many bytes a field stands. -/
def sz : Nat → Nat
  | 0 => 6 | 1 => 6 | 2 => 2 | 3 => 2 | 4 => 4 | 5 => 4 | 6 => 1 | 7 => 2 | 8 => 2 | 9 => 2 | 10 => 2 | _ => 0
theorem sz_le (k : Nat) : sz k ≤ 6 := by
  unfold sz; split <;> omega
theorem sz_pos (k : Nat) (h : k < 11) : 0 < sz k := by
  have : k = 0 ∨ k = 1 ∨ k = 2 ∨ k = 3 ∨ k = 4 ∨ k = 5 ∨ k = 6 ∨ k = 7 ∨ k = 8 ∨ k = 9 ∨ k = 10 := by omega
  rcases this with rfl | rfl | rfl | rfl | rfl | rfl | rfl | rfl | rfl | rfl | rfl <;> simp [sz]
theorem sz_wid (k : Nat) (h : k < 11) : (wid k + 7) / 8 = (sz k : Int) := by
  have : k = 0 ∨ k = 1 ∨ k = 2 ∨ k = 3 ∨ k = 4 ∨ k = 5 ∨ k = 6 ∨ k = 7 ∨ k = 8 ∨ k = 9 ∨ k = 10 := by omega
  rcases this with rfl | rfl | rfl | rfl | rfl | rfl | rfl | rfl | rfl | rfl | rfl <;> decide
theorem wid_sz (k : Nat) : (wid k).toNat ≤ 8 * sz k := by
  unfold wid sz; split <;> decide

def zf : Nat → Int := fun _ => 0
def upd (h : Nat → Int) (f : Nat) (x : Int) : Nat → Int := fun k => bif Nat.beq k f then x else h k
theorem upd_same (h : Nat → Int) (f : Nat) (x : Int) : upd h f x f = x := by simp [upd]
theorem upd_other (h : Nat → Int) (f : Nat) (x : Int) (k : Nat) (hk : k ≠ f) : upd h f x k = h k := by
  unfold upd
  cases hb : Nat.beq k f
  · rfl
  · exact absurd (Nat.eq_of_beq_eq_true hb) hk
def allU (p : Nat → Bool) : Nat → Bool
  | 0 => true
  | k + 1 => allU p k && p k
theorem allU_false {p : Nat → Bool} : ∀ {n k : Nat}, k < n → p k = false → allU p n = false
  | 0, _, hk, _ => absurd hk (by omega)
  | n + 1, k, hk, hb => by
    by_cases e : k = n
    · subst e; simp [allU, hb]
    · simp [allU, allU_false (n := n) (by omega) hb]
theorem allU_iff {p : Nat → Bool} : ∀ {n : Nat}, allU p n = true ↔ ∀ k, k < n → p k = true
  | 0 => by simp [allU]
  | n + 1 => by
    simp only [allU, Bool.and_eq_true, allU_iff (n := n)]
    constructor
    · rintro ⟨h1, h2⟩ k hk
      by_cases e : k = n
      · subst e; exact h2
      · exact h1 k (by omega)
    · intro h
      exact ⟨fun k hk => h k (by omega), h n (by omega)⟩
theorem allU_congr {p q : Nat → Bool} {n : Nat} (h : ∀ k, k < n → p k = q k) : allU p n = allU q n := by
  rw [Bool.eq_iff_iff, allU_iff, allU_iff]
  constructor <;> intro ha k hk
  · rw [← h k hk]; exact ha k hk
  · rw [h k hk]; exact ha k hk
def bad (m : Nat → Int) (k : Nat) : Bool := m (11 + k) / 2 ^ (wid k).toNat != 0 || bits .andNot .u64 (m k) (m (11 + k)) != 0
def mOk (m : Nat → Int) : Bool := allU (fun k => !bad m k) 11
def chk (m : Nat → Int) : Int := if mOk m then 0 else 20
theorem chk_ok {m : Nat → Int} (h : mOk m = true) : chk m = 0 := by simp [chk, h]
theorem chk_bad {m : Nat → Int} (h : mOk m = false) : chk m = 20 := by simp [chk, h]
theorem mOk_congr {m n : Nat → Int} (h : ∀ k, k < 22 → m k = n k) : mOk m = mOk n := by
  unfold mOk
  exact allU_congr fun k hk => by unfold bad; rw [h (11 + k) (by omega), h k (by omega)]

def InB (x : Int) : Prop := 0 ≤ x ∧ x < 18446744073709551616
theorem wrap_toNat (X : BitVec 64) : IntKind.u64.wrap (X.toNat : Int) = (X.toNat : Int) := by
  rw [IntKind.wrap_u64]
  have := X.isLt
  omega
theorem andNot_eq (x y : Int) : bits .andNot .u64 x y = ((BitVec.ofInt 64 x &&& ~~~BitVec.ofInt 64 y).toNat : Int) := wrap_toNat _
theorem toNat_ofInt {x : Int} (h : InB x) : ((BitVec.ofInt 64 x).toNat : Int) = x := by
  obtain ⟨n, rfl⟩ := Int.eq_ofNat_of_zero_le h.1
  have := h.2
  rw [BitVec.ofInt_natCast, BitVec.toNat_ofNat, Nat.mod_eq_of_lt (by omega)]
theorem andNot_le {x y : Int} (hx : InB x) (hy : InB y) (h : bits .andNot .u64 x y = 0) : x ≤ y := by
  rw [andNot_eq] at h
  have h0 : BitVec.ofInt 64 x &&& ~~~BitVec.ofInt 64 y = 0#64 := by
    apply BitVec.eq_of_toNat_eq
    simpa using h
  have h1 : BitVec.ofInt 64 x &&& BitVec.ofInt 64 y = BitVec.ofInt 64 x := by
    apply BitVec.eq_of_getLsbD_eq
    intro i hi
    have := congrArg (fun b => b.getLsbD i) h0
    simp [hi] at this
    simp
    exact this
  have h2 : (BitVec.ofInt 64 x).toNat ≤ (BitVec.ofInt 64 y).toNat := by
    rw [← h1, BitVec.toNat_and]; exact Nat.and_le_right
  rw [← toNat_ofInt hx, ← toNat_ofInt hy]
  omega
/-- Of a match that is one: Value is at most Mask, and Mask goes into the field's bytes. -/
theorem mOk_le {m : Nat → Int} (h : mOk m = true) (hb : ∀ k, k < 22 → InB (m k)) (k : Nat) (hk : k < 11) : m k ≤ m (11 + k) ∧ m (11 + k) < 2 ^ (8 * sz k) := by
  have h1 := allU_iff.1 h k hk
  simp only [bad, Bool.not_or, Bool.and_eq_true, bne, Bool.not_not, beq_iff_eq] at h1
  refine ⟨andNot_le (hb k (by omega)) (hb (11 + k) (by omega)) h1.2, ?_⟩
  have hp : (0 : Int) < 2 ^ (wid k).toNat := Int.pow_pos (by omega)
  have h2 : m (11 + k) < 2 ^ (wid k).toNat := by
    by_cases h : m (11 + k) < 2 ^ (wid k).toNat
    · exact h
    · have := Int.le_ediv_of_mul_le hp (a := 1) (b := m (11 + k)) (by omega)
      omega
  have h3 : (2 : Int) ^ (wid k).toNat ≤ 2 ^ (8 * sz k) := by exact_mod_cast Nat.pow_le_pow_right (by omega) (wid_sz k)
  omega
end Go.Proofs.YtllbbbfkdgjffaaDoor
