/-
  Proved here: what the tests of a match say, bit for bit, for numbers of 64 bits. No further condition.
-/
import Derived.Test.YtmonlbmjgjapoaaDoorM5
import Derived.Test.YtmonlbmjgjapoaaDoorM6
import Derived.Test.YtmonlbmjgjapoaaDoorM7
import Derived.Test.YtmonlbmjgjapoaaDoorE1
import Derived.Laws.BitsAllLaws
namespace Go.Proofs.YtmonlbmjgjapoaaDoor
open Go.RowKit

/-- Bit i of a number. -/
def bt (x : Int) (i : Nat) : Bool := (BitVec.ofInt 64 x).getLsbD i
def InB (x : Int) : Prop := 0 ≤ x ∧ x < 18446744073709551616
theorem wrap_toNat (X : BitVec 64) : IntKind.u64.wrap (X.toNat : Int) = (X.toNat : Int) := by
  rw [IntKind.wrap_u64]
  have := X.isLt
  omega
theorem ofInt_toNat (X : BitVec 64) : BitVec.ofInt 64 (X.toNat : Int) = X := by
  rw [BitVec.ofInt_natCast]; simp
theorem toNat_ofInt {x : Int} (h : InB x) : ((BitVec.ofInt 64 x).toNat : Int) = x := by
  obtain ⟨n, rfl⟩ := Int.eq_ofNat_of_zero_le h.1
  have := h.2
  rw [BitVec.ofInt_natCast, BitVec.toNat_ofNat, Nat.mod_eq_of_lt (by omega)]
theorem inB_toNat (X : BitVec 64) : InB (X.toNat : Int) := by
  have := X.isLt
  unfold InB
  omega
theorem and_eq (x y : Int) : bits .and .u64 x y = ((BitVec.ofInt 64 x &&& BitVec.ofInt 64 y).toNat : Int) := wrap_toNat _
theorem or_eq (x y : Int) : bits .or .u64 x y = ((BitVec.ofInt 64 x ||| BitVec.ofInt 64 y).toNat : Int) := wrap_toNat _
theorem xor_eq (x y : Int) : bits .xor .u64 x y = ((BitVec.ofInt 64 x ^^^ BitVec.ofInt 64 y).toNat : Int) := wrap_toNat _
theorem andNot_eq (x y : Int) : bits .andNot .u64 x y = ((BitVec.ofInt 64 x &&& ~~~BitVec.ofInt 64 y).toNat : Int) := wrap_toNat _
theorem bt_and (x y : Int) (i : Nat) : bt (bits .and .u64 x y) i = (bt x i && bt y i) := by
  rw [and_eq]; unfold bt; rw [ofInt_toNat]; simp
theorem bt_or (x y : Int) (i : Nat) : bt (bits .or .u64 x y) i = (bt x i || bt y i) := by
  rw [or_eq]; unfold bt; rw [ofInt_toNat]; simp
theorem bt_xor (x y : Int) (i : Nat) : bt (bits .xor .u64 x y) i = (bt x i ^^ bt y i) := by
  rw [xor_eq]; unfold bt; rw [ofInt_toNat]; simp
theorem bt_past (x : Int) (i : Nat) (h : 64 ≤ i) : bt x i = false := by
  unfold bt; exact BitVec.getLsbD_of_ge _ _ h
theorem bt_andNot (x y : Int) (i : Nat) : bt (bits .andNot .u64 x y) i = (bt x i && !bt y i) := by
  by_cases h : 64 ≤ i
  · rw [bt_past _ i h, bt_past x i h]; rfl
  · rw [andNot_eq]; unfold bt; rw [ofInt_toNat]; simp [show i < 64 by omega]
theorem bt_zero (i : Nat) : bt 0 i = false := by
  unfold bt
  rw [show BitVec.ofInt 64 0 = 0#64 from rfl]; simp
theorem inB_and (x y : Int) : InB (bits .and .u64 x y) := by rw [and_eq]; exact inB_toNat _
theorem inB_or (x y : Int) : InB (bits .or .u64 x y) := by rw [or_eq]; exact inB_toNat _
theorem inB_andNot (x y : Int) : InB (bits .andNot .u64 x y) := by rw [andNot_eq]; exact inB_toNat _
theorem inB_zero : InB 0 := by unfold InB; omega
theorem bt_ext {x y : Int} (hx : InB x) (hy : InB y) : x = y ↔ ∀ i, bt x i = bt y i := by
  constructor
  · rintro rfl i; rfl
  · intro h
    have : BitVec.ofInt 64 x = BitVec.ofInt 64 y := BitVec.eq_of_getLsbD_eq fun i _ => h i
    rw [← toNat_ofInt hx, ← toNat_ofInt hy, this]
theorem bne_false {x y : Int} (hx : InB x) (hy : InB y) : (x != y) = false ↔ ∀ i, bt x i = bt y i := by
  rw [← bt_ext hx hy]; simp
theorem fits_iff {x : Int} (hx : InB x) (n : Nat) : (x / 2 ^ n != 0) = false ↔ ∀ i, n ≤ i → bt x i = false := by
  obtain ⟨m, rfl⟩ := Int.eq_ofNat_of_zero_le hx.1
  have hb : ∀ i, bt (m : Int) i = m.testBit i := fun i => by
    unfold bt
    rw [BitVec.ofInt_natCast, BitVec.getLsbD_ofNat]
    by_cases h : i < 64
    · simp [h]
    · have h2 : m < 2 ^ i := Nat.lt_of_lt_of_le (by have := hx.2; omega : m < 2 ^ 64) (Nat.pow_le_pow_right (by omega) (by omega))
      simp [h, Nat.testBit_lt_two_pow h2]
  have hd : ((m : Int) / 2 ^ n != 0) = false ↔ m < 2 ^ n := by
    have e : ((m : Int) / 2 ^ n) = ((m / 2 ^ n : Nat) : Int) := by simp
    rw [bne_eq_false_iff_eq, e, Int.natCast_eq_zero, Nat.div_eq_zero_iff]
    have := Nat.two_pow_pos n
    omega
  rw [hd]
  constructor
  · intro h i hi
    rw [hb i]
    exact Nat.testBit_lt_two_pow (Nat.lt_of_lt_of_le h (Nat.pow_le_pow_right (by omega) hi))
  · intro h
    exact Nat.lt_pow_two_of_testBit m fun i hi => by rw [← hb i]; exact h i hi

/-- All numbers are of 64 bits. -/
def Bd (m : Nat → Int) : Prop := ∀ k, 0 ≤ m k ∧ m k < 18446744073709551616
theorem Bd.at {m : Nat → Int} (h : Bd m) (k : Nat) : InB (m k) := h k

theorem ok_iff {m : Nat → Int} (hm : Bd m) : mOk m = true ↔ ∀ k, k < 11 → (∀ i, (wid k).toNat ≤ i → bt (m (11 + k)) i = false) ∧ ∀ i, (bt (m k) i && !bt (m (11 + k)) i) = false := by
  unfold mOk
  rw [allU_iff]
  have : ∀ k, (!bad m k) = true ↔ (∀ i, (wid k).toNat ≤ i → bt (m (11 + k)) i = false) ∧ ∀ i, (bt (m k) i && !bt (m (11 + k)) i) = false := fun k => by
    unfold bad
    rw [Bool.not_eq_true', Bool.or_eq_false_iff, fits_iff (hm.at _), bne_false (inB_andNot _ _) inB_zero]
    simp only [bt_andNot, bt_zero]
  simp only [this]
theorem hit_iff {m h : Nat → Int} (hm : Bd m) : hit m h = true ↔ mOk m = true ∧ ∀ k, k < 11 → ∀ i, (bt (h k) i && bt (m (11 + k)) i) = bt (m k) i := by
  unfold hit
  rw [Bool.and_eq_true, allU_iff]
  have : ∀ k, (!miss m h k) = true ↔ ∀ i, (bt (h k) i && bt (m (11 + k)) i) = bt (m k) i := fun k => by
    unfold miss
    rw [Bool.not_eq_true', bne_false (inB_and _ _) (hm.at _)]
    simp only [bt_and]
  simp only [this]
theorem clash_iff (a b : Nat → Int) (k : Nat) : (!clash a b k) = true ↔ ∀ i, ((bt (a k) i ^^ bt (b k) i) && bt (a (11 + k)) i && bt (b (11 + k)) i) = false := by
  unfold clash
  rw [Bool.not_eq_true', bne_false (inB_and _ _) inB_zero]
  simp only [bt_and, bt_xor, bt_zero]
theorem rclash_iff (a b : Nat → Int) (k : Nat) : (!rclash a b k) = true ↔ ∀ i, (bt (a k) i && (bt (a (11 + k)) i && bt (b (11 + k)) i)) = (bt (b k) i && (bt (a (11 + k)) i && bt (b (11 + k)) i)) := by
  unfold rclash
  rw [Bool.not_eq_true', bne_false (inB_and _ _) (inB_and _ _)]
  simp only [bt_and]
theorem mtOk_iff (a b : Nat → Int) : mtOk a b = true ↔ mOk a = true ∧ mOk b = true ∧ ∀ k, k < 11 → ∀ i, ((bt (a k) i ^^ bt (b k) i) && bt (a (11 + k)) i && bt (b (11 + k)) i) = false := by
  unfold mtOk
  rw [Bool.and_eq_true, Bool.and_eq_true, allU_iff, and_assoc]
  simp only [clash_iff]
theorem und_iff {a b : Nat → Int} (hb : Bd b) : und a b = true ↔ mOk a = true ∧ mOk b = true ∧ ∀ k, k < 11 → (∀ i, (bt (b (11 + k)) i && !bt (a (11 + k)) i) = false) ∧ ∀ i, (bt (a k) i && bt (b (11 + k)) i) = bt (b k) i := by
  unfold und
  rw [Bool.and_eq_true, Bool.and_eq_true, allU_iff, and_assoc]
  have : ∀ k, (!over a b k) = true ↔ (∀ i, (bt (b (11 + k)) i && !bt (a (11 + k)) i) = false) ∧ ∀ i, (bt (a k) i && bt (b (11 + k)) i) = bt (b k) i := fun k => by
    unfold over
    rw [Bool.not_eq_true', Bool.or_eq_false_iff, bne_false (inB_andNot _ _) inB_zero, bne_false (inB_and _ _) (hb.at _)]
    simp only [bt_and, bt_andNot, bt_zero]
  simp only [this]
theorem bt_orF (a b : Nat → Int) (j i : Nat) : bt (orF a b j) i = (bt (a j) i || bt (b j) i) := bt_or _ _ _
theorem Bd.orF (a b : Nat → Int) : Bd (orF a b) := fun _ => inB_or _ _
theorem Bd.zf : Bd zf := fun _ => inB_zero
theorem Bd.mt (a b : Nat → Int) : Bd (mt a b) := by
  unfold YtmonlbmjgjapoaaDoor.mt
  cases mtOk a b
  · exact Bd.zf
  · exact Bd.orF a b
theorem mt_true {a b : Nat → Int} (h : mtOk a b = true) : mt a b = orF a b := by unfold mt; rw [h]; rfl
theorem mt_false {a b : Nat → Int} (h : mtOk a b = false) : mt a b = zf := by unfold mt; rw [h]; rfl
theorem eqM_bt {a b : Nat → Int} (ha : Bd a) (hb : Bd b) : eqM a b = true ↔ ∀ k, k < 11 → (∀ i, bt (a k) i = bt (b k) i) ∧ ∀ i, bt (a (11 + k)) i = bt (b (11 + k)) i := by
  rw [eqM_iff]
  constructor
  · intro h k hk
    rw [h k (by omega), h (11 + k) (by omega)]
    exact ⟨fun _ => rfl, fun _ => rfl⟩
  · intro h k hk
    by_cases h1 : k < 11
    · exact (bt_ext (ha.at _) (hb.at _)).2 (h k h1).1
    · have := (bt_ext (ha.at _) (hb.at _)).2 (h (k - 11) (by omega)).2
      rw [show 11 + (k - 11) = k by omega] at this
      exact this

/-- P2.2: the document's Meet and the program's say the same. -/
theorem rmtOk_eq (a b : Nat → Int) : rmtOk a b = mtOk a b := by
  unfold rmtOk mtOk
  congr 1
  refine allU_congr fun k _ => ?_
  rw [Bool.eq_iff_iff, clash_iff, rclash_iff]
  have key : ∀ va vb ma mb : Bool, (va && (ma && mb)) = (vb && (ma && mb)) ↔ ((va ^^ vb) && ma && mb) = false := by decide
  exact forall_congr' fun i => key _ _ _ _
theorem rmt_eq (a b : Nat → Int) : rmt a b = mt a b := by unfold rmt mt; rw [rmtOk_eq]
end Go.Proofs.YtmonlbmjgjapoaaDoor
