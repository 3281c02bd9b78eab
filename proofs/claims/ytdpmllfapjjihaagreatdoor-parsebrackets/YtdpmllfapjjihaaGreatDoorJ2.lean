/- Plain: what the word at a place is like; all words of a text. -/
import Derived.Test.YtdpmllfapjjihaaGreatDoorJ1
namespace Go.Proofs.YtdpmllfapjjihaaGreatDoor
set_option maxRecDepth 100000

structure OkF (s : ByteArray) (a : Nat) (f : Fd) : Prop where
  gt : a < f.e
  le : f.e ≤ s.size
  asc : f.c = 0 → ∀ j, a ≤ j → j < f.e → bt s j < 128
  nn : f.k ≠ 2 → f.n = 0
  lt : f.n < 18446744073709551616
  k3 : f.k ≤ 3
  k1 : f.c = 0 → 1 ≤ f.k
  c3 : f.c = 0 ∨ f.c = 3 ∨ f.c = 150

theorem OkF.cls {s : ByteArray} {a e n : Nat} (h1 : a < e) (h2 : e ≤ s.size) (h3 : ∀ j, a ≤ j → j < e → bt s j < 128) (h4 : n < 18446744073709551616) : OkF s a (cls s e n) := by
  unfold YtdpmllfapjjihaaGreatDoor.cls; split
  · exact ⟨h1, h2, fun h => absurd h (by simp), fun _ => rfl, by simp, by simp, fun h => absurd h (by simp), .inr (.inr rfl)⟩
  · exact ⟨h1, h2, fun _ => h3, fun h => absurd rfl h, h4, by simp, fun _ => by simp, .inl rfl⟩
theorem OkF.flt {s : ByteArray} {a e c : Nat} (h1 : a < e) (h2 : e ≤ s.size) (hc : c = 3 ∨ c = 150) : OkF s a ⟨0, e, 0, c⟩ :=
  ⟨h1, h2, fun h => by rcases hc with rfl | rfl <;> simp at h, fun _ => rfl, by simp, by simp, fun h => by rcases hc with rfl | rfl <;> simp at h, .inr hc⟩

theorem isD_lt {c : Nat} (h : isD c = true) : c < 128 := by rw [isD_iff] at h; omega
theorem isH_lt {c : Nat} (h : isH c = true) : c < 128 := by rw [isH_iff] at h; omega
theorem isN_lt {c : Nat} (h : isN c = true) : c < 128 := by rw [isN_iff] at h; omega
theorem prF_asc {s : ByteArray} {a : Nat} : ∀ f i n m, prF s a f i n = some m → ∀ j, a + i ≤ j → j < a + i + f → bt s j < 128
  | 0, _, _, _, _, j, h1, h2 => by omega
  | f + 1, i, n, m, h, j, h1, h2 => by
    rw [prF] at h
    have go : ∀ n', prF s a f (i + 1) n' = some m → bt s (a + i) < 128 → bt s j < 128 := by
      intro n' h' hi
      rcases Nat.lt_or_eq_of_le h1 with h0 | h0
      · exact prF_asc f (i + 1) n' m h' j (by omega) (by omega)
      · rw [← h0]; exact hi
    split at h
    · split at h
      · rename_i hc; exact go _ h (by rw [hc]; decide)
      · exact absurd h (by simp)
    · split at h
      · rename_i hc; exact go _ h (isH_lt hc)
      · exact absurd h (by simp)
theorem hn_lt {s : ByteArray} : ∀ f k n, n < 18446744073709551616 → (∀ j, k ≤ j → j < k + f → isH (bt s j) = true) → hn s f k n < 18446744073709551616
  | 0, _, _, h, _ => by rw [hn]; exact h
  | f + 1, k, n, h, ha => by
    rw [hn]; exact hn_lt f _ _ (hx_lt (hv_lt (ha k (by omega) (by omega)))) (fun j h1 h2 => ha j (by omega) (by omega))
theorem hex_ok {s : ByteArray} {a : Nat} (ha : bt s a = 48) (hb : bt s (a + 1) = 120) : OkF s a (hex s a) := by
  have h0 : a + 1 < s.size := in_of_bt (by rw [hb]; decide)
  have hge := rE_ge isH s (a + 2)
  have hle := rE_le (p := isH) (s := s) (k := a + 2) (by omega)
  unfold hex; split
  · exact .flt (by omega) hle (.inr rfl)
  · refine .cls (by omega) hle ?_ (hn_lt _ _ _ (by decide) fun j h1 h2 => rE_all (by omega) (by omega))
    intro j h1 h2
    by_cases e1 : j = a
    · subst e1; rw [ha]; decide
    · by_cases e2 : j = a + 1
      · subst e2; rw [hb]; decide
      · exact isH_lt (rE_all (k := a + 2) (by omega) h2)
theorem rE_D {s : ByteArray} {a : Nat} (h : isD (bt s a) = true) : a < rE isD s a := by
  rw [rE_on isD256 h]; exact rE_ge isD s (a + 1)
theorem dcv_asc {s : ByteArray} {a j : Nat} (h1 : a ≤ j) (h2 : j < rE isD s a) : bt s j < 128 := isD_lt (rE_all h1 h2)
theorem dec_ok {s : ByteArray} {a : Nat} (ha : isD (bt s a) = true) : OkF s a (dec s a) := by
  have hs : a < s.size := in_of_bt (fun e => by rw [e] at ha; exact absurd ha (by decide))
  have hge := rE_D ha
  have hle := rE_le (p := isD) (s := s) (k := a) (by omega)
  unfold dec; split
  · exact .flt hge hle (.inl rfl)
  · split
    · exact .flt hge hle (.inr rfl)
    · exact .cls hge hle (fun j h1 h2 => dcv_asc h1 h2) (by omega)
theorem dot_ok {s : ByteArray} {a : Nat} : ∀ f k n, f ≤ 4 → (f = 4 → k = a ∧ a < rE isD s a ∧ a < s.size) → (f < 4 → a < k ∧ k ≤ s.size) → (∀ j, a ≤ j → j < k → bt s j < 128) → n * 256 ^ f + 256 ^ f ≤ 4294967296 → OkF s a (dot s f k n)
  | 0, k, n, _, h4, h0, hasc, hn => by
    rw [dot]; exact .cls (h0 (by decide)).1 (h0 (by decide)).2 hasc (by simp at hn; omega)
  | f + 1, k, n, hf, h4, h0, hasc, hn => by
    have hpow : 256 ^ (f + 1) = 256 * 256 ^ f := by rw [Nat.pow_succ, Nat.mul_comm]
    have go : ∀ k', (∀ j, a ≤ j → j < k' → bt s j < 128) → a < rE isD s k' → k' ≤ s.size → OkF s a (if badP s k' then ⟨0, rE isD s k', 0, 150⟩ else dot s f (rE isD s k') (n * 256 + dcv s k')) := by
      intro k' hk' hgt hks
      have hle := rE_le (p := isD) hks
      split
      · exact .flt hgt hle (.inr rfl)
      · rename_i hb
        have hd : dcv s k' ≤ 255 := by unfold badP at hb; omega
        refine dot_ok f _ _ (by omega) (fun e => by omega) (fun _ => ⟨hgt, hle⟩) ?_ ?_
        · intro j h1 h2
          by_cases hj : j < k'
          · exact hk' j h1 hj
          · exact dcv_asc (by omega) h2
        · rw [hpow] at hn
          have e1 : (n * 256 + dcv s k') * 256 ^ f + 256 ^ f = n * (256 * 256 ^ f) + (dcv s k' + 1) * 256 ^ f := by
            rw [Nat.add_mul, Nat.add_mul, Nat.one_mul, Nat.mul_assoc]; omega
          have e2 : (dcv s k' + 1) * 256 ^ f ≤ 256 * 256 ^ f := Nat.mul_le_mul_right _ (by omega)
          omega
    rw [dot]; split
    · rename_i hf3
      obtain ⟨rfl, h1, h2⟩ := h4 (by omega)
      exact go k hasc h1 (by omega)
    · have hk := h0 (by omega)
      split
      · rename_i hc
        have hin : k < s.size := in_of_bt (by rw [hc]; decide)
        refine go (k + 1) ?_ ?_ (by omega)
        · intro j h1 h2
          by_cases hj : j < k
          · exact hasc j h1 hj
          · obtain rfl : j = k := by omega
            rw [hc]; decide
        · have := rE_ge isD s (k + 1); omega
      · exact .flt hk.1 hk.2 (.inr rfl)
theorem num_ok {s : ByteArray} {a : Nat} (h : (pr s a).isSome = true ∨ isD (bt s a) = true) : OkF s a (num s a) := by
  unfold num; split
  · rename_i m hm
    exact .cls (by omega) (pr_in hm) (fun j h1 h2 => prF_asc 17 0 0 m hm j (by omega) (by omega)) (prF_lt _ _ _ _ (by decide) hm)
  · rename_i hm
    have hd : isD (bt s a) = true := by
      rcases h with h | h
      · rw [hm] at h; exact absurd h (by decide)
      · exact h
    have hs : a < s.size := in_of_bt (fun e => by rw [e] at hd; exact absurd hd (by decide))
    split
    · rename_i hc; exact hex_ok hc.1 hc.2
    · split
      · exact dot_ok 4 a 0 (by decide) (fun _ => ⟨rfl, rE_D hd, hs⟩) (fun h => absurd h (by decide)) (fun j h1 h2 => by omega) (by decide)
      · exact dec_ok hd
theorem one_ok {s : ByteArray} {a : Nat} (ha : a < s.size) : OkF s a (one s a) := by
  unfold one; split
  · rename_i h; exact num_ok h
  · split
    · rename_i _ hl
      have hN : isN (bt s a) = true := by unfold isN; rw [hl]; rfl
      have hgt : a < rE isN s a := by rw [rE_on isN256 hN]; exact rE_ge isN s (a + 1)
      have hle := rE_le (p := isN) (s := s) (k := a) (by omega)
      unfold nam; split
      · exact .flt hgt hle (.inl rfl)
      · exact ⟨hgt, hle, fun _ j h1 h2 => isN_lt (rE_all h1 h2), fun _ => rfl, by simp, by simp, fun _ => by simp, .inl rfl⟩
    · split
      · rename_i hc
        have h1 : a + 1 < s.size := in_of_bt (by rw [hc.2]; decide)
        refine ⟨by simp, by simp; omega, fun _ j h1 h2 => ?_, fun _ => rfl, by simp, by simp, fun _ => by simp, .inl rfl⟩
        have h2 : j < a + 2 := h2
        by_cases e : j = a
        · subst e; rw [hc.1]; decide
        · obtain rfl : j = a + 1 := by omega
          rw [hc.2]; decide
      · split
        · rename_i hm
          refine ⟨by simp, by simp; omega, fun _ j h1 h2 => ?_, fun _ => rfl, by simp, by simp, fun _ => by simp, .inl rfl⟩
          have h2 : j < a + 1 := h2
          obtain rfl : j = a := by omega
          simp [sgn] at hm; omega
        · exact .flt (by omega) (by omega) (.inr rfl)

/-- a word: its kind, text, number and place -/
structure Wd where
  k : Nat
  t : ByteArray
  n : Nat
  at' : Nat
inductive Res
  | ok (l : List Wd)
  | no (c a : Nat) (t : ByteArray)
def nNL (c : Nat) : Bool := decide (c ≠ 10) && decide (c < 256)
theorem nNL256 : nNL 256 = false := by decide
def wdOf (s : ByteArray) (a : Nat) (f : Fd) : Wd := ⟨f.k, s.extract a f.e, f.n, a⟩
def wEnd (s : ByteArray) : Wd := ⟨0, ByteArray.empty, 0, s.size⟩
def scF (s : ByteArray) : Nat → Nat → List Wd → Res
  | 0, _, acc => .ok (acc ++ [wEnd s])
  | f + 1, a, acc => if a < s.size then (if blk (bt s a) = true then scF s f (a + 1) acc else if bt s a = 35 then scF s f (rE nNL s a) acc
      else if (one s a).c = 0 then scF s f (one s a).e (acc ++ [wdOf s a (one s a)]) else .no (one s a).c a (s.extract a (one s a).e)) else .ok (acc ++ [wEnd s])
theorem scF_more (s : ByteArray) : ∀ f g a acc, s.size - a ≤ f → s.size - a ≤ g → scF s f a acc = scF s g a acc
  | 0, 0, a, acc, _, _ => rfl
  | 0, g + 1, a, acc, h, _ => by rw [scF, scF, if_neg (by omega)]
  | f + 1, 0, a, acc, _, h => by rw [scF, scF, if_neg (by omega)]
  | f + 1, g + 1, a, acc, h1, h2 => by
    rw [scF, scF]
    by_cases ha : a < s.size
    · rw [if_pos ha, if_pos ha]
      split
      · exact scF_more s f g _ _ (by omega) (by omega)
      · split
        · rename_i hc
          have : a + 1 ≤ rE nNL s a := by rw [rE_on nNL256 (by rw [hc]; decide)]; exact rE_ge _ _ _
          exact scF_more s f g _ _ (by omega) (by omega)
        · split
          · have := (one_ok ha).gt
            exact scF_more s f g _ _ (by omega) (by omega)
          · rfl
    · rw [if_neg ha, if_neg ha]
def sc (s : ByteArray) (a : Nat) (acc : List Wd) : Res := scF s (s.size - a) a acc
theorem sc_end {s : ByteArray} {a : Nat} {acc : List Wd} (h : ¬ a < s.size) : sc s a acc = .ok (acc ++ [wEnd s]) := by
  unfold sc; rw [show s.size - a = 0 by omega, scF]
theorem sc_one {s : ByteArray} {a : Nat} {acc : List Wd} (h : a < s.size) : sc s a acc = (if blk (bt s a) = true then sc s (a + 1) acc else if bt s a = 35 then sc s (rE nNL s a) acc
      else if (one s a).c = 0 then sc s (one s a).e (acc ++ [wdOf s a (one s a)]) else .no (one s a).c a (s.extract a (one s a).e)) := by
  unfold sc
  rw [show s.size - a = (s.size - (a + 1)) + 1 by omega, scF, if_pos h]
  split
  · rfl
  · split
    · rename_i hc
      have : a + 1 ≤ rE nNL s a := by rw [rE_on nNL256 (by rw [hc]; decide)]; exact rE_ge _ _ _
      exact scF_more s _ _ _ _ (by omega) (by omega)
    · split
      · have := (one_ok h).gt
        exact scF_more s _ _ _ _ (by omega) (by omega)
      · rfl
theorem sc_blk {s : ByteArray} {a : Nat} {acc : List Wd} (h : blk (bt s a) = true) : sc s a acc = sc s (a + 1) acc := by
  rw [sc_one (in_of_bt (fun e => by rw [e] at h; exact absurd h (by decide))), if_pos h]
theorem sc_rem {s : ByteArray} {a : Nat} {acc : List Wd} (h : bt s a = 35) : sc s a acc = sc s (rE nNL s (a + 1)) acc := by
  rw [sc_one (in_of_bt (by rw [h]; decide)), if_neg (by rw [h]; decide), if_pos h, rE_on nNL256 (by rw [h]; decide)]
theorem sc_wd {s : ByteArray} {a : Nat} {acc : List Wd} (hs : a < s.size) (h1 : blk (bt s a) = false) (h2 : bt s a ≠ 35) (h3 : (one s a).c = 0) : sc s a acc = sc s (one s a).e (acc ++ [wdOf s a (one s a)]) := by
  rw [sc_one hs, if_neg (by rw [h1]; decide), if_neg h2, if_pos h3]
theorem sc_no {s : ByteArray} {a : Nat} {acc : List Wd} (hs : a < s.size) (h1 : blk (bt s a) = false) (h2 : bt s a ≠ 35) (h3 : (one s a).c ≠ 0) : sc s a acc = .no (one s a).c a (s.extract a (one s a).e) := by
  rw [sc_one hs, if_neg (by rw [h1]; decide), if_neg h2, if_neg h3]
/-- what a text is told as -/
def all (s : ByteArray) : Res := if 65536 < s.size then .no 3 0 ByteArray.empty else sc s 0 []
end Go.Proofs.YtdpmllfapjjihaaGreatDoor
