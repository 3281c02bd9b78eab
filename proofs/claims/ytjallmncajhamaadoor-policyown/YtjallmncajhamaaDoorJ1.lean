/- Plain: bytes of a text, runs of them, the numbers and words that begin at a place, as the document says. -/
import Derived.WalkKit
namespace Go.Proofs.YtjallmncajhamaaDoor

/-- the byte at a place; behind the end a number that no byte is -/
def bt (s : ByteArray) (i : Nat) : Nat := if h : i < s.size then (s[i]'h).toNat else 256
theorem bt_in {s : ByteArray} {i : Nat} (h : i < s.size) : bt s i = (s[i]'h).toNat := by rw [bt, dif_pos h]
theorem bt_out {s : ByteArray} {i : Nat} (h : ¬ i < s.size) : bt s i = 256 := by rw [bt, dif_neg h]
theorem bt_lt {s : ByteArray} {i : Nat} (h : i < s.size) : bt s i < 256 := by rw [bt_in h]; exact (s[i]'h).toNat_lt
theorem in_of_bt {s : ByteArray} {i : Nat} (h : bt s i ≠ 256) : i < s.size := by
  by_cases hi : i < s.size
  · exact hi
  · exact absurd (bt_out hi) h

def isD (c : Nat) : Bool := decide (48 ≤ c) && decide (c ≤ 57)
def isH (c : Nat) : Bool := isD c || (decide (97 ≤ c) && decide (c ≤ 102)) || (decide (65 ≤ c) && decide (c ≤ 70))
def isL (c : Nat) : Bool := (decide (65 ≤ c) && decide (c ≤ 90)) || (decide (97 ≤ c) && decide (c ≤ 122)) || decide (c = 95)
def isN (c : Nat) : Bool := isL c || isD c
def hv (c : Nat) : Nat := if 97 ≤ c then c - 87 else if 65 ≤ c then c - 55 else c - 48
def hx (a v : Nat) : Nat := (a * 16) % 18446744073709551616 + v
def blk (c : Nat) : Bool := decide (c = 32) || decide (c = 9) || decide (c = 10) || decide (c = 13)
def sgn : List Nat := [43, 59, 42, 61, 33, 38, 124, 40, 41, 123, 125]

theorem isD_iff (c : Nat) : isD c = true ↔ 48 ≤ c ∧ c ≤ 57 := by simp [isD]
theorem isH_iff (c : Nat) : isH c = true ↔ (48 ≤ c ∧ c ≤ 57) ∨ (97 ≤ c ∧ c ≤ 102) ∨ (65 ≤ c ∧ c ≤ 70) := by simp [isH, isD, or_assoc]
theorem isL_iff (c : Nat) : isL c = true ↔ (65 ≤ c ∧ c ≤ 90) ∨ (97 ≤ c ∧ c ≤ 122) ∨ c = 95 := by simp [isL, or_assoc]
theorem isN_iff (c : Nat) : isN c = true ↔ (65 ≤ c ∧ c ≤ 90) ∨ (97 ≤ c ∧ c ≤ 122) ∨ c = 95 ∨ (48 ≤ c ∧ c ≤ 57) := by simp [isN, isL, isD, or_assoc]
theorem blk_iff (c : Nat) : blk c = true ↔ c = 32 ∨ c = 9 ∨ c = 10 ∨ c = 13 := by simp [blk, or_assoc]
theorem hv_lt {c : Nat} (h : isH c = true) : hv c < 16 := by
  rw [isH_iff] at h; unfold hv; split
  · omega
  · split <;> omega
theorem hx_lt {a v : Nat} (hv : v < 16) : hx a v < 18446744073709551616 := by unfold hx; omega

/-- where the bytes that hold, one directly behind the other, end -/
def rEf (p : Nat → Bool) (s : ByteArray) : Nat → Nat → Nat
  | 0, k => k
  | f + 1, k => if p (bt s k) then rEf p s f (k + 1) else k
def rE (p : Nat → Bool) (s : ByteArray) (k : Nat) : Nat := rEf p s (s.size - k) k
theorem rE_on {p : Nat → Bool} (hp : p 256 = false) {s : ByteArray} {k : Nat} (h : p (bt s k) = true) : rE p s k = rE p s (k + 1) := by
  have hk : k < s.size := in_of_bt (fun e => by rw [e, hp] at h; exact absurd h (by decide))
  unfold rE
  rw [show s.size - k = (s.size - (k + 1)) + 1 by omega, rEf, if_pos h]
theorem rE_end {p : Nat → Bool} {s : ByteArray} {k : Nat} (h : p (bt s k) = false) : rE p s k = k := by
  unfold rE
  cases s.size - k with
  | zero => rfl
  | succ f => rw [rEf, if_neg (by rw [h]; decide)]
theorem rEf_ge (p : Nat → Bool) (s : ByteArray) : ∀ f k, k ≤ rEf p s f k ∧ rEf p s f k ≤ k + f
  | 0, k => ⟨Nat.le_refl _, Nat.le_refl _⟩
  | f + 1, k => by
    rw [rEf]; split
    · have := rEf_ge p s f (k + 1); omega
    · omega
theorem rE_ge (p : Nat → Bool) (s : ByteArray) (k : Nat) : k ≤ rE p s k := (rEf_ge p s _ k).1
theorem rE_le {p : Nat → Bool} {s : ByteArray} {k : Nat} (h : k ≤ s.size) : rE p s k ≤ s.size := by
  have := (rEf_ge p s (s.size - k) k).2; unfold rE; omega
theorem rEf_all (p : Nat → Bool) (s : ByteArray) : ∀ f k j, k ≤ j → j < rEf p s f k → p (bt s j) = true
  | 0, k, j, h1, h2 => by rw [rEf] at h2; omega
  | f + 1, k, j, h1, h2 => by
    rw [rEf] at h2; split at h2
    · rename_i hp
      rcases Nat.lt_or_eq_of_le h1 with h | h
      · exact rEf_all p s f (k + 1) j h h2
      · rw [← h]; exact hp
    · omega
theorem rE_all {p : Nat → Bool} {s : ByteArray} {k j : Nat} (h1 : k ≤ j) (h2 : j < rE p s k) : p (bt s j) = true := rEf_all p s _ k j h1 h2
theorem rEf_no {p : Nat → Bool} (hp : p 256 = false) {s : ByteArray} : ∀ f k, s.size ≤ k + f → p (bt s (rEf p s f k)) = false
  | 0, k, h => by rw [rEf, bt_out (by omega), hp]
  | f + 1, k, h => by
    rw [rEf]; split
    · exact rEf_no hp f (k + 1) (by omega)
    · rename_i h; simpa using h
theorem rE_no {p : Nat → Bool} (hp : p 256 = false) {s : ByteArray} {k : Nat} : p (bt s (rE p s k)) = false := rEf_no hp _ _ (by omega)
theorem rE_eq {p : Nat → Bool} (hp : p 256 = false) {s : ByteArray} {k e : Nat} (h1 : k ≤ e) (h2 : ∀ j, k ≤ j → j < e → p (bt s j) = true) (h3 : p (bt s e) = false) : rE p s k = e := by
  rcases Nat.lt_trichotomy (rE p s k) e with h | h | h
  · have := h2 _ (rE_ge p s k) h; rw [rE_no hp] at this; exact absurd this (by decide)
  · exact h
  · have := rE_all h1 h; rw [h3] at this; exact absurd this (by decide)

/-- six pairs at a place: their number -/
def prF (s : ByteArray) (a : Nat) : Nat → Nat → Nat → Option Nat
  | 0, _, n => some n
  | f + 1, i, n => if i % 3 = 2 then (if bt s (a + i) = 58 then prF s a f (i + 1) n else none)
      else if isH (bt s (a + i)) = true then prF s a f (i + 1) (hx n (hv (bt s (a + i)))) else none
def pr (s : ByteArray) (a : Nat) : Option Nat := prF s a 17 0 0

/-- hexadecimal digits' number, as far as 64 bits go -/
def hn (s : ByteArray) : Nat → Nat → Nat → Nat
  | 0, _, n => n
  | f + 1, k, n => hn s f (k + 1) (hx n (hv (bt s k)))
/-- decimal digits' number -/
def dn (s : ByteArray) : Nat → Nat → Nat → Nat
  | 0, _, n => n
  | f + 1, k, n => dn s f (k + 1) (n * 10 + (bt s k - 48))

/-- what stands from a place up to e: a word of kind k, or, of a code that is not 0, what a fault tells -/
structure Fd where
  (k e n c : Nat)
def cls (s : ByteArray) (e n : Nat) : Fd := if isN (bt s e) = true then ⟨0, e, 0, 150⟩ else ⟨2, e, n, 0⟩
def hex (s : ByteArray) (a : Nat) : Fd :=
  if rE isH s (a + 2) = a + 2 ∨ 16 < rE isH s (a + 2) - (a + 2) then ⟨0, rE isH s (a + 2), 0, 150⟩
  else cls s (rE isH s (a + 2)) (hn s (rE isH s (a + 2) - (a + 2)) (a + 2) 0)
def dcv (s : ByteArray) (a : Nat) : Nat := dn s (rE isD s a - a) a 0
/-- a part of four is no part -/
def badP (s : ByteArray) (a : Nat) : Prop := rE isD s a = a ∨ 255 < dcv s a ∨ (1 < rE isD s a - a ∧ bt s a = 48)
instance (s : ByteArray) (a : Nat) : Decidable (badP s a) := by unfold badP; infer_instance
/-- four parts from the i-th on: f are left -/
def dot (s : ByteArray) : Nat → Nat → Nat → Fd
  | 0, k, n => cls s k n
  | f + 1, k, n => if f = 3 then (if badP s k then ⟨0, rE isD s k, 0, 150⟩ else dot s f (rE isD s k) (n * 256 + dcv s k))
      else if bt s k = 46 then (if badP s (k + 1) then ⟨0, rE isD s (k + 1), 0, 150⟩ else dot s f (rE isD s (k + 1)) (n * 256 + dcv s (k + 1))) else ⟨0, k, 0, 150⟩
def dec (s : ByteArray) (a : Nat) : Fd :=
  if 18446744073709551615 < dcv s a then ⟨0, rE isD s a, 0, 3⟩
  else if 1 < rE isD s a - a ∧ bt s a = 48 then ⟨0, rE isD s a, 0, 150⟩ else cls s (rE isD s a) (dcv s a)
/-- a number at a place where a digit, or six pairs, stand -/
def num (s : ByteArray) (a : Nat) : Fd :=
  match pr s a with
  | some n => cls s (a + 17) n
  | none => if bt s a = 48 ∧ bt s (a + 1) = 120 then hex s a else if bt s (rE isD s a) = 46 then dot s 4 a 0 else dec s a
def nam (s : ByteArray) (a : Nat) : Fd := if 32 < rE isN s a - a then ⟨0, rE isN s a, 0, 3⟩ else ⟨1, rE isN s a, 0, 0⟩
/-- the word that begins at a place -/
def one (s : ByteArray) (a : Nat) : Fd :=
  if (pr s a).isSome = true ∨ isD (bt s a) = true then num s a
  else if isL (bt s a) = true then nam s a
  else if bt s a = 58 ∧ bt s (a + 1) = 61 then ⟨3, a + 2, 0, 0⟩
  else if bt s a ∈ sgn then ⟨3, a + 1, 0, 0⟩ else ⟨0, a + 1, 0, 150⟩

theorem isD256 : isD 256 = false := by decide
theorem isH256 : isH 256 = false := by decide
theorem isN256 : isN 256 = false := by decide
theorem prF_in {s : ByteArray} {a : Nat} : ∀ f i n m, prF s a f i n = some m → f = 0 ∨ a + i + f ≤ s.size
  | 0, _, _, _, _ => .inl rfl
  | f + 1, i, n, m, h => by
    right
    rw [prF] at h
    have go : ∀ n', prF s a f (i + 1) n' = some m → a + i < s.size → a + i + (f + 1) ≤ s.size := by
      intro n' h' hi
      rcases prF_in f (i + 1) n' m h' with h0 | h0 <;> omega
    split at h
    · split at h
      · rename_i hc; exact go _ h (in_of_bt (by rw [hc]; decide))
      · exact absurd h (by simp)
    · split at h
      · rename_i hc; exact go _ h (in_of_bt (fun e => by rw [e] at hc; exact absurd hc (by decide)))
      · exact absurd h (by simp)
theorem pr_in {s : ByteArray} {a m : Nat} (h : pr s a = some m) : a + 17 ≤ s.size := by
  rcases prF_in 17 0 0 m h with h0 | h0
  · exact absurd h0 (by decide)
  · omega
theorem pr_H {s : ByteArray} {a m : Nat} (h : pr s a = some m) : isH (bt s a) = true := by
  unfold pr at h; rw [prF, if_neg (by decide)] at h
  split at h
  · rename_i hc; exact hc
  · exact absurd h (by simp)
theorem prF_lt {s : ByteArray} {a : Nat} : ∀ f i n m, n < 18446744073709551616 → prF s a f i n = some m → m < 18446744073709551616
  | 0, _, n, m, hn, h => by rw [prF] at h; exact Option.some.inj h ▸ hn
  | f + 1, i, n, m, hn, h => by
    rw [prF] at h
    split at h
    · split at h
      · exact prF_lt f _ n m hn h
      · exact absurd h (by simp)
    · split at h
      · rename_i hc; exact prF_lt f _ _ m (hx_lt (hv_lt hc)) h
      · exact absurd h (by simp)
end Go.Proofs.YtjallmncajhamaaDoor
