/- Plain: bytes of a text, runs of them, the numbers and words that begin at a place, as the document says. -/
/- Plain: what the word at a place is like; all words of a text. -/
import Derived.WalkKit
namespace Go.Proofs.YtoncogkamlgjhaaGreatDoor
set_option maxRecDepth 100000

/-- the byte at a place; behind the end a number that no byte is -/
def bt (s : ByteArray) (i : Nat) : Nat := if h : i < s.size then (s[i]'h).toNat else 256
theorem bt_in {s : ByteArray} {i : Nat} (h : i < s.size) : bt s i = (s[i]'h).toNat := by rw [bt, dif_pos h]
theorem bt_out {s : ByteArray} {i : Nat} (h : ¬ i < s.size) : bt s i = 256 := by rw [bt, dif_neg h]
theorem bt_lt {s : ByteArray} {i : Nat} (h : i < s.size) : bt s i < 256 := by rw [bt_in h]; exact (s[i]'h).toNat_lt
theorem in_of_bt {s : ByteArray} {i : Nat} (h : bt s i ≠ 256) : i < s.size := by
  by_cases hi : i < s.size
  · exact hi
  · exact absurd (bt_out hi) h

def isD (c : Nat) : Bool := decide (48 ≤ c) && decide (c ≤ 57)
def isH (c : Nat) : Bool := isD c || (decide (97 ≤ c) && decide (c ≤ 102)) || (decide (65 ≤ c) && decide (c ≤ 70))
def isL (c : Nat) : Bool := (decide (65 ≤ c) && decide (c ≤ 90)) || (decide (97 ≤ c) && decide (c ≤ 122)) || decide (c = 95)
def isN (c : Nat) : Bool := isL c || isD c
def hv (c : Nat) : Nat := if 97 ≤ c then c - 87 else if 65 ≤ c then c - 55 else c - 48
def hx (a v : Nat) : Nat := (a * 16) % 18446744073709551616 + v
def blk (c : Nat) : Bool := decide (c = 32) || decide (c = 9) || decide (c = 10) || decide (c = 13)
def sgn : List Nat := [43, 59, 42, 61, 33, 38, 124, 40, 41, 123, 125]

theorem isD_iff (c : Nat) : isD c = true ↔ 48 ≤ c ∧ c ≤ 57 := by simp [isD]
theorem isH_iff (c : Nat) : isH c = true ↔ (48 ≤ c ∧ c ≤ 57) ∨ (97 ≤ c ∧ c ≤ 102) ∨ (65 ≤ c ∧ c ≤ 70) := by simp [isH, isD, or_assoc]
theorem isL_iff (c : Nat) : isL c = true ↔ (65 ≤ c ∧ c ≤ 90) ∨ (97 ≤ c ∧ c ≤ 122) ∨ c = 95 := by simp [isL, or_assoc]
theorem isN_iff (c : Nat) : isN c = true ↔ (65 ≤ c ∧ c ≤ 90) ∨ (97 ≤ c ∧ c ≤ 122) ∨ c = 95 ∨ (48 ≤ c ∧ c ≤ 57) := by simp [isN, isL, isD, or_assoc]
theorem blk_iff (c : Nat) : blk c = true ↔ c = 32 ∨ c = 9 ∨ c = 10 ∨ c = 13 := by simp [blk, or_assoc]
theorem hv_lt {c : Nat} (h : isH c = true) : hv c < 16 := by
  rw [isH_iff] at h; unfold hv; split
  · omega
  · split <;> omega
theorem hx_lt {a v : Nat} (hv : v < 16) : hx a v < 18446744073709551616 := by unfold hx; omega

/-- where the bytes that hold, one directly behind the other, end -/
def rEf (p : Nat → Bool) (s : ByteArray) : Nat → Nat → Nat
  | 0, k => k
  | f + 1, k => if p (bt s k) then rEf p s f (k + 1) else k
def rE (p : Nat → Bool) (s : ByteArray) (k : Nat) : Nat := rEf p s (s.size - k) k
theorem rE_on {p : Nat → Bool} (hp : p 256 = false) {s : ByteArray} {k : Nat} (h : p (bt s k) = true) : rE p s k = rE p s (k + 1) := by
  have hk : k < s.size := in_of_bt (fun e => by rw [e, hp] at h; exact absurd h (by decide))
  unfold rE
  rw [show s.size - k = (s.size - (k + 1)) + 1 by omega, rEf, if_pos h]
theorem rE_end {p : Nat → Bool} {s : ByteArray} {k : Nat} (h : p (bt s k) = false) : rE p s k = k := by
  unfold rE
  cases s.size - k with
  | zero => rfl
  | succ f => rw [rEf, if_neg (by rw [h]; decide)]
theorem rEf_ge (p : Nat → Bool) (s : ByteArray) : ∀ f k, k ≤ rEf p s f k ∧ rEf p s f k ≤ k + f
  | 0, k => ⟨Nat.le_refl _, Nat.le_refl _⟩
  | f + 1, k => by
    rw [rEf]; split
    · have := rEf_ge p s f (k + 1); omega
    · omega
theorem rE_ge (p : Nat → Bool) (s : ByteArray) (k : Nat) : k ≤ rE p s k := (rEf_ge p s _ k).1
theorem rE_le {p : Nat → Bool} {s : ByteArray} {k : Nat} (h : k ≤ s.size) : rE p s k ≤ s.size := by
  have := (rEf_ge p s (s.size - k) k).2; unfold rE; omega
theorem rEf_all (p : Nat → Bool) (s : ByteArray) : ∀ f k j, k ≤ j → j < rEf p s f k → p (bt s j) = true
  | 0, k, j, h1, h2 => by rw [rEf] at h2; omega
  | f + 1, k, j, h1, h2 => by
    rw [rEf] at h2; split at h2
    · rename_i hp
      rcases Nat.lt_or_eq_of_le h1 with h | h
      · exact rEf_all p s f (k + 1) j h h2
      · rw [← h]; exact hp
    · omega
theorem rE_all {p : Nat → Bool} {s : ByteArray} {k j : Nat} (h1 : k ≤ j) (h2 : j < rE p s k) : p (bt s j) = true := rEf_all p s _ k j h1 h2
theorem rEf_no {p : Nat → Bool} (hp : p 256 = false) {s : ByteArray} : ∀ f k, s.size ≤ k + f → p (bt s (rEf p s f k)) = false
  | 0, k, h => by rw [rEf, bt_out (by omega), hp]
  | f + 1, k, h => by
    rw [rEf]; split
    · exact rEf_no hp f (k + 1) (by omega)
    · rename_i h; simpa using h
theorem rE_no {p : Nat → Bool} (hp : p 256 = false) {s : ByteArray} {k : Nat} : p (bt s (rE p s k)) = false := rEf_no hp _ _ (by omega)
theorem rE_eq {p : Nat → Bool} (hp : p 256 = false) {s : ByteArray} {k e : Nat} (h1 : k ≤ e) (h2 : ∀ j, k ≤ j → j < e → p (bt s j) = true) (h3 : p (bt s e) = false) : rE p s k = e := by
  rcases Nat.lt_trichotomy (rE p s k) e with h | h | h
  · have := h2 _ (rE_ge p s k) h; rw [rE_no hp] at this; exact absurd this (by decide)
  · exact h
  · have := rE_all h1 h; rw [h3] at this; exact absurd this (by decide)

/-- six pairs at a place: their number -/
def prF (s : ByteArray) (a : Nat) : Nat → Nat → Nat → Option Nat
  | 0, _, n => some n
  | f + 1, i, n => if i % 3 = 2 then (if bt s (a + i) = 58 then prF s a f (i + 1) n else none)
      else if isH (bt s (a + i)) = true then prF s a f (i + 1) (hx n (hv (bt s (a + i)))) else none
def pr (s : ByteArray) (a : Nat) : Option Nat := prF s a 17 0 0

/-- hexadecimal digits' number, as far as 64 bits go -/
def hn (s : ByteArray) : Nat → Nat → Nat → Nat
  | 0, _, n => n
  | f + 1, k, n => hn s f (k + 1) (hx n (hv (bt s k)))
/-- decimal digits' number -/
def dn (s : ByteArray) : Nat → Nat → Nat → Nat
  | 0, _, n => n
  | f + 1, k, n => dn s f (k + 1) (n * 10 + (bt s k - 48))

/-- what stands from a place up to e: a word of kind k, or, of a code that is not 0, what a fault tells -/
structure Fd where
  (k e n c : Nat)
def cls (s : ByteArray) (e n : Nat) : Fd := if isN (bt s e) = true then ⟨0, e, 0, 150⟩ else ⟨2, e, n, 0⟩
def hex (s : ByteArray) (a : Nat) : Fd :=
  if rE isH s (a + 2) = a + 2 ∨ 16 < rE isH s (a + 2) - (a + 2) then ⟨0, rE isH s (a + 2), 0, 150⟩
  else cls s (rE isH s (a + 2)) (hn s (rE isH s (a + 2) - (a + 2)) (a + 2) 0)
def dcv (s : ByteArray) (a : Nat) : Nat := dn s (rE isD s a - a) a 0
/-- a part of four is no part -/
def badP (s : ByteArray) (a : Nat) : Prop := rE isD s a = a ∨ 255 < dcv s a ∨ (1 < rE isD s a - a ∧ bt s a = 48)
instance (s : ByteArray) (a : Nat) : Decidable (badP s a) := by unfold badP; infer_instance
/-- four parts from the i-th on: f are left -/
def dot (s : ByteArray) : Nat → Nat → Nat → Fd
  | 0, k, n => cls s k n
  | f + 1, k, n => if f = 3 then (if badP s k then ⟨0, rE isD s k, 0, 150⟩ else dot s f (rE isD s k) (n * 256 + dcv s k))
      else if bt s k = 46 then (if badP s (k + 1) then ⟨0, rE isD s (k + 1), 0, 150⟩ else dot s f (rE isD s (k + 1)) (n * 256 + dcv s (k + 1))) else ⟨0, k, 0, 150⟩
def dec (s : ByteArray) (a : Nat) : Fd :=
  if 18446744073709551615 < dcv s a then ⟨0, rE isD s a, 0, 3⟩
  else if 1 < rE isD s a - a ∧ bt s a = 48 then ⟨0, rE isD s a, 0, 150⟩ else cls s (rE isD s a) (dcv s a)
/-- a number at a place where a digit, or six pairs, stand -/
def num (s : ByteArray) (a : Nat) : Fd :=
  match pr s a with
  | some n => cls s (a + 17) n
  | none => if bt s a = 48 ∧ bt s (a + 1) = 120 then hex s a else if bt s (rE isD s a) = 46 then dot s 4 a 0 else dec s a
def nam (s : ByteArray) (a : Nat) : Fd := if 32 < rE isN s a - a then ⟨0, rE isN s a, 0, 3⟩ else ⟨1, rE isN s a, 0, 0⟩
/-- the word that begins at a place -/
def one (s : ByteArray) (a : Nat) : Fd :=
  if (pr s a).isSome = true ∨ isD (bt s a) = true then num s a
  else if isL (bt s a) = true then nam s a
  else if bt s a = 58 ∧ bt s (a + 1) = 61 then ⟨3, a + 2, 0, 0⟩
  else if bt s a ∈ sgn then ⟨3, a + 1, 0, 0⟩ else ⟨0, a + 1, 0, 150⟩

theorem isD256 : isD 256 = false := by decide
theorem isH256 : isH 256 = false := by decide
theorem isN256 : isN 256 = false := by decide
theorem prF_in {s : ByteArray} {a : Nat} : ∀ f i n m, prF s a f i n = some m → f = 0 ∨ a + i + f ≤ s.size
  | 0, _, _, _, _ => .inl rfl
  | f + 1, i, n, m, h => by
    right
    rw [prF] at h
    have go : ∀ n', prF s a f (i + 1) n' = some m → a + i < s.size → a + i + (f + 1) ≤ s.size := by
      intro n' h' hi
      rcases prF_in f (i + 1) n' m h' with h0 | h0 <;> omega
    split at h
    · split at h
      · rename_i hc; exact go _ h (in_of_bt (by rw [hc]; decide))
      · exact absurd h (by simp)
    · split at h
      · rename_i hc; exact go _ h (in_of_bt (fun e => by rw [e] at hc; exact absurd hc (by decide)))
      · exact absurd h (by simp)
theorem pr_in {s : ByteArray} {a m : Nat} (h : pr s a = some m) : a + 17 ≤ s.size := by
  rcases prF_in 17 0 0 m h with h0 | h0
  · exact absurd h0 (by decide)
  · omega
theorem pr_H {s : ByteArray} {a m : Nat} (h : pr s a = some m) : isH (bt s a) = true := by
  unfold pr at h; rw [prF, if_neg (by decide)] at h
  split at h
  · rename_i hc; exact hc
  · exact absurd h (by simp)
theorem prF_lt {s : ByteArray} {a : Nat} : ∀ f i n m, n < 18446744073709551616 → prF s a f i n = some m → m < 18446744073709551616
  | 0, _, n, m, hn, h => by rw [prF] at h; exact Option.some.inj h ▸ hn
  | f + 1, i, n, m, hn, h => by
    rw [prF] at h
    split at h
    · split at h
      · exact prF_lt f _ n m hn h
      · exact absurd h (by simp)
    · split at h
      · rename_i hc; exact prF_lt f _ _ m (hx_lt (hv_lt hc)) h
      · exact absurd h (by simp)
end Go.Proofs.YtoncogkamlgjhaaGreatDoor
namespace Go.Proofs.YtoncogkamlgjhaaGreatDoor
set_option maxRecDepth 100000

structure OkF (s : ByteArray) (a : Nat) (f : Fd) : Prop where
  gt : a < f.e
  le : f.e ≤ s.size
  asc : f.c = 0 → ∀ j, a ≤ j → j < f.e → bt s j < 128
  nn : f.k ≠ 2 → f.n = 0
  lt : f.n < 18446744073709551616
  k3 : f.k ≤ 3
  k1 : f.c = 0 → 1 ≤ f.k
  c3 : f.c = 0 ∨ f.c = 3 ∨ f.c = 150

theorem OkF.cls {s : ByteArray} {a e n : Nat} (h1 : a < e) (h2 : e ≤ s.size) (h3 : ∀ j, a ≤ j → j < e → bt s j < 128) (h4 : n < 18446744073709551616) : OkF s a (cls s e n) := by
  unfold YtoncogkamlgjhaaGreatDoor.cls; split
  · exact ⟨h1, h2, fun h => absurd h (by simp), fun _ => rfl, by simp, by simp, fun h => absurd h (by simp), .inr (.inr rfl)⟩
  · exact ⟨h1, h2, fun _ => h3, fun h => absurd rfl h, h4, by simp, fun _ => by simp, .inl rfl⟩
theorem OkF.flt {s : ByteArray} {a e c : Nat} (h1 : a < e) (h2 : e ≤ s.size) (hc : c = 3 ∨ c = 150) : OkF s a ⟨0, e, 0, c⟩ :=
  ⟨h1, h2, fun h => by rcases hc with rfl | rfl <;> simp at h, fun _ => rfl, by simp, by simp, fun h => by rcases hc with rfl | rfl <;> simp at h, .inr hc⟩

theorem isD_lt {c : Nat} (h : isD c = true) : c < 128 := by rw [isD_iff] at h; omega
theorem isH_lt {c : Nat} (h : isH c = true) : c < 128 := by rw [isH_iff] at h; omega
theorem isN_lt {c : Nat} (h : isN c = true) : c < 128 := by rw [isN_iff] at h; omega
theorem prF_asc {s : ByteArray} {a : Nat} : ∀ f i n m, prF s a f i n = some m → ∀ j, a + i ≤ j → j < a + i + f → bt s j < 128
  | 0, _, _, _, _, j, h1, h2 => by omega
  | f + 1, i, n, m, h, j, h1, h2 => by
    rw [prF] at h
    have go : ∀ n', prF s a f (i + 1) n' = some m → bt s (a + i) < 128 → bt s j < 128 := by
      intro n' h' hi
      rcases Nat.lt_or_eq_of_le h1 with h0 | h0
      · exact prF_asc f (i + 1) n' m h' j (by omega) (by omega)
      · rw [← h0]; exact hi
    split at h
    · split at h
      · rename_i hc; exact go _ h (by rw [hc]; decide)
      · exact absurd h (by simp)
    · split at h
      · rename_i hc; exact go _ h (isH_lt hc)
      · exact absurd h (by simp)
theorem hn_lt {s : ByteArray} : ∀ f k n, n < 18446744073709551616 → (∀ j, k ≤ j → j < k + f → isH (bt s j) = true) → hn s f k n < 18446744073709551616
  | 0, _, _, h, _ => by rw [hn]; exact h
  | f + 1, k, n, h, ha => by
    rw [hn]; exact hn_lt f _ _ (hx_lt (hv_lt (ha k (by omega) (by omega)))) (fun j h1 h2 => ha j (by omega) (by omega))
theorem hex_ok {s : ByteArray} {a : Nat} (ha : bt s a = 48) (hb : bt s (a + 1) = 120) : OkF s a (hex s a) := by
  have h0 : a + 1 < s.size := in_of_bt (by rw [hb]; decide)
  have hge := rE_ge isH s (a + 2)
  have hle := rE_le (p := isH) (s := s) (k := a + 2) (by omega)
  unfold hex; split
  · exact .flt (by omega) hle (.inr rfl)
  · refine .cls (by omega) hle ?_ (hn_lt _ _ _ (by decide) fun j h1 h2 => rE_all (by omega) (by omega))
    intro j h1 h2
    by_cases e1 : j = a
    · subst e1; rw [ha]; decide
    · by_cases e2 : j = a + 1
      · subst e2; rw [hb]; decide
      · exact isH_lt (rE_all (k := a + 2) (by omega) h2)
theorem rE_D {s : ByteArray} {a : Nat} (h : isD (bt s a) = true) : a < rE isD s a := by
  rw [rE_on isD256 h]; exact rE_ge isD s (a + 1)
theorem dcv_asc {s : ByteArray} {a j : Nat} (h1 : a ≤ j) (h2 : j < rE isD s a) : bt s j < 128 := isD_lt (rE_all h1 h2)
theorem dec_ok {s : ByteArray} {a : Nat} (ha : isD (bt s a) = true) : OkF s a (dec s a) := by
  have hs : a < s.size := in_of_bt (fun e => by rw [e] at ha; exact absurd ha (by decide))
  have hge := rE_D ha
  have hle := rE_le (p := isD) (s := s) (k := a) (by omega)
  unfold dec; split
  · exact .flt hge hle (.inl rfl)
  · split
    · exact .flt hge hle (.inr rfl)
    · exact .cls hge hle (fun j h1 h2 => dcv_asc h1 h2) (by omega)
theorem dot_ok {s : ByteArray} {a : Nat} : ∀ f k n, f ≤ 4 → (f = 4 → k = a ∧ a < rE isD s a ∧ a < s.size) → (f < 4 → a < k ∧ k ≤ s.size) → (∀ j, a ≤ j → j < k → bt s j < 128) → n * 256 ^ f + 256 ^ f ≤ 4294967296 → OkF s a (dot s f k n)
  | 0, k, n, _, h4, h0, hasc, hn => by
    rw [dot]; exact .cls (h0 (by decide)).1 (h0 (by decide)).2 hasc (by simp at hn; omega)
  | f + 1, k, n, hf, h4, h0, hasc, hn => by
    have hpow : 256 ^ (f + 1) = 256 * 256 ^ f := by rw [Nat.pow_succ, Nat.mul_comm]
    have go : ∀ k', (∀ j, a ≤ j → j < k' → bt s j < 128) → a < rE isD s k' → k' ≤ s.size → OkF s a (if badP s k' then ⟨0, rE isD s k', 0, 150⟩ else dot s f (rE isD s k') (n * 256 + dcv s k')) := by
      intro k' hk' hgt hks
      have hle := rE_le (p := isD) hks
      split
      · exact .flt hgt hle (.inr rfl)
      · rename_i hb
        have hd : dcv s k' ≤ 255 := by unfold badP at hb; omega
        refine dot_ok f _ _ (by omega) (fun e => by omega) (fun _ => ⟨hgt, hle⟩) ?_ ?_
        · intro j h1 h2
          by_cases hj : j < k'
          · exact hk' j h1 hj
          · exact dcv_asc (by omega) h2
        · rw [hpow] at hn
          have e1 : (n * 256 + dcv s k') * 256 ^ f + 256 ^ f = n * (256 * 256 ^ f) + (dcv s k' + 1) * 256 ^ f := by
            rw [Nat.add_mul, Nat.add_mul, Nat.one_mul, Nat.mul_assoc]; omega
          have e2 : (dcv s k' + 1) * 256 ^ f ≤ 256 * 256 ^ f := Nat.mul_le_mul_right _ (by omega)
          omega
    rw [dot]; split
    · rename_i hf3
      obtain ⟨rfl, h1, h2⟩ := h4 (by omega)
      exact go k hasc h1 (by omega)
    · have hk := h0 (by omega)
      split
      · rename_i hc
        have hin : k < s.size := in_of_bt (by rw [hc]; decide)
        refine go (k + 1) ?_ ?_ (by omega)
        · intro j h1 h2
          by_cases hj : j < k
          · exact hasc j h1 hj
          · obtain rfl : j = k := by omega
            rw [hc]; decide
        · have := rE_ge isD s (k + 1); omega
      · exact .flt hk.1 hk.2 (.inr rfl)
theorem num_ok {s : ByteArray} {a : Nat} (h : (pr s a).isSome = true ∨ isD (bt s a) = true) : OkF s a (num s a) := by
  unfold num; split
  · rename_i m hm
    exact .cls (by omega) (pr_in hm) (fun j h1 h2 => prF_asc 17 0 0 m hm j (by omega) (by omega)) (prF_lt _ _ _ _ (by decide) hm)
  · rename_i hm
    have hd : isD (bt s a) = true := by
      rcases h with h | h
      · rw [hm] at h; exact absurd h (by decide)
      · exact h
    have hs : a < s.size := in_of_bt (fun e => by rw [e] at hd; exact absurd hd (by decide))
    split
    · rename_i hc; exact hex_ok hc.1 hc.2
    · split
      · exact dot_ok 4 a 0 (by decide) (fun _ => ⟨rfl, rE_D hd, hs⟩) (fun h => absurd h (by decide)) (fun j h1 h2 => by omega) (by decide)
      · exact dec_ok hd
theorem one_ok {s : ByteArray} {a : Nat} (ha : a < s.size) : OkF s a (one s a) := by
  unfold one; split
  · rename_i h; exact num_ok h
  · split
    · rename_i _ hl
      have hN : isN (bt s a) = true := by unfold isN; rw [hl]; rfl
      have hgt : a < rE isN s a := by rw [rE_on isN256 hN]; exact rE_ge isN s (a + 1)
      have hle := rE_le (p := isN) (s := s) (k := a) (by omega)
      unfold nam; split
      · exact .flt hgt hle (.inl rfl)
      · exact ⟨hgt, hle, fun _ j h1 h2 => isN_lt (rE_all h1 h2), fun _ => rfl, by simp, by simp, fun _ => by simp, .inl rfl⟩
    · split
      · rename_i hc
        have h1 : a + 1 < s.size := in_of_bt (by rw [hc.2]; decide)
        refine ⟨by simp, by simp; omega, fun _ j h1 h2 => ?_, fun _ => rfl, by simp, by simp, fun _ => by simp, .inl rfl⟩
        have h2 : j < a + 2 := h2
        by_cases e : j = a
        · subst e; rw [hc.1]; decide
        · obtain rfl : j = a + 1 := by omega
          rw [hc.2]; decide
      · split
        · rename_i hm
          refine ⟨by simp, by simp; omega, fun _ j h1 h2 => ?_, fun _ => rfl, by simp, by simp, fun _ => by simp, .inl rfl⟩
          have h2 : j < a + 1 := h2
          obtain rfl : j = a := by omega
          simp [sgn] at hm; omega
        · exact .flt (by omega) (by omega) (.inr rfl)

/-- a word: its kind, text, number and place -/
structure Wd where
  k : Nat
  t : ByteArray
  n : Nat
  at' : Nat
inductive Res
  | ok (l : List Wd)
  | no (c a : Nat) (t : ByteArray)
def nNL (c : Nat) : Bool := decide (c ≠ 10) && decide (c < 256)
theorem nNL256 : nNL 256 = false := by decide
def wdOf (s : ByteArray) (a : Nat) (f : Fd) : Wd := ⟨f.k, s.extract a f.e, f.n, a⟩
def wEnd (s : ByteArray) : Wd := ⟨0, ByteArray.empty, 0, s.size⟩
def scF (s : ByteArray) : Nat → Nat → List Wd → Res
  | 0, _, acc => .ok (acc ++ [wEnd s])
  | f + 1, a, acc => if a < s.size then (if blk (bt s a) = true then scF s f (a + 1) acc else if bt s a = 35 then scF s f (rE nNL s a) acc
      else if (one s a).c = 0 then scF s f (one s a).e (acc ++ [wdOf s a (one s a)]) else .no (one s a).c a (s.extract a (one s a).e)) else .ok (acc ++ [wEnd s])
theorem scF_more (s : ByteArray) : ∀ f g a acc, s.size - a ≤ f → s.size - a ≤ g → scF s f a acc = scF s g a acc
  | 0, 0, a, acc, _, _ => rfl
  | 0, g + 1, a, acc, h, _ => by rw [scF, scF, if_neg (by omega)]
  | f + 1, 0, a, acc, _, h => by rw [scF, scF, if_neg (by omega)]
  | f + 1, g + 1, a, acc, h1, h2 => by
    rw [scF, scF]
    by_cases ha : a < s.size
    · rw [if_pos ha, if_pos ha]
      split
      · exact scF_more s f g _ _ (by omega) (by omega)
      · split
        · rename_i hc
          have : a + 1 ≤ rE nNL s a := by rw [rE_on nNL256 (by rw [hc]; decide)]; exact rE_ge _ _ _
          exact scF_more s f g _ _ (by omega) (by omega)
        · split
          · have := (one_ok ha).gt
            exact scF_more s f g _ _ (by omega) (by omega)
          · rfl
    · rw [if_neg ha, if_neg ha]
def sc (s : ByteArray) (a : Nat) (acc : List Wd) : Res := scF s (s.size - a) a acc
theorem sc_end {s : ByteArray} {a : Nat} {acc : List Wd} (h : ¬ a < s.size) : sc s a acc = .ok (acc ++ [wEnd s]) := by
  unfold sc; rw [show s.size - a = 0 by omega, scF]
theorem sc_one {s : ByteArray} {a : Nat} {acc : List Wd} (h : a < s.size) : sc s a acc = (if blk (bt s a) = true then sc s (a + 1) acc else if bt s a = 35 then sc s (rE nNL s a) acc
      else if (one s a).c = 0 then sc s (one s a).e (acc ++ [wdOf s a (one s a)]) else .no (one s a).c a (s.extract a (one s a).e)) := by
  unfold sc
  rw [show s.size - a = (s.size - (a + 1)) + 1 by omega, scF, if_pos h]
  split
  · rfl
  · split
    · rename_i hc
      have : a + 1 ≤ rE nNL s a := by rw [rE_on nNL256 (by rw [hc]; decide)]; exact rE_ge _ _ _
      exact scF_more s _ _ _ _ (by omega) (by omega)
    · split
      · have := (one_ok h).gt
        exact scF_more s _ _ _ _ (by omega) (by omega)
      · rfl
theorem sc_blk {s : ByteArray} {a : Nat} {acc : List Wd} (h : blk (bt s a) = true) : sc s a acc = sc s (a + 1) acc := by
  rw [sc_one (in_of_bt (fun e => by rw [e] at h; exact absurd h (by decide))), if_pos h]
theorem sc_rem {s : ByteArray} {a : Nat} {acc : List Wd} (h : bt s a = 35) : sc s a acc = sc s (rE nNL s (a + 1)) acc := by
  rw [sc_one (in_of_bt (by rw [h]; decide)), if_neg (by rw [h]; decide), if_pos h, rE_on nNL256 (by rw [h]; decide)]
theorem sc_wd {s : ByteArray} {a : Nat} {acc : List Wd} (hs : a < s.size) (h1 : blk (bt s a) = false) (h2 : bt s a ≠ 35) (h3 : (one s a).c = 0) : sc s a acc = sc s (one s a).e (acc ++ [wdOf s a (one s a)]) := by
  rw [sc_one hs, if_neg (by rw [h1]; decide), if_neg h2, if_pos h3]
theorem sc_no {s : ByteArray} {a : Nat} {acc : List Wd} (hs : a < s.size) (h1 : blk (bt s a) = false) (h2 : bt s a ≠ 35) (h3 : (one s a).c ≠ 0) : sc s a acc = .no (one s a).c a (s.extract a (one s a).e) := by
  rw [sc_one hs, if_neg (by rw [h1]; decide), if_neg h2, if_neg h3]
/-- what a text is told as -/
def all (s : ByteArray) : Res := if 65536 < s.size then .no 3 0 ByteArray.empty else sc s 0 []
end Go.Proofs.YtoncogkamlgjhaaGreatDoor
