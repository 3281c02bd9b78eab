/-
  Proved here: two headers that Check takes have the same text only if their eleven numbers are the same, and such a text is not empty: plain facts on numbers and lists. Condition: the numbers are not negative.
-/
import Derived.Test.YthjgndkcijgfmaaDoorWL
namespace Go.Proofs.YthjgndkcijgfmaaDoor
open Go.RowKit

/-- Two lists parted at the first s: what stands ahead of it has none. -/
theorem split_first {s : UInt8} : ∀ {a b p q : List UInt8}, s ∉ a → s ∉ b → a ++ s :: p = b ++ s :: q → a = b ∧ p = q
  | [], [], _, _, _, _, h => by simp at h; exact ⟨rfl, h⟩
  | [], y :: b, _, _, _, hb, h => by simp at h; exact absurd h.1 (fun e => hb (by simp [e]))
  | x :: a, [], _, _, ha, _, h => by simp at h; exact absurd h.1 (fun e => ha (by simp [e]))
  | x :: a, y :: b, _, _, ha, hb, h => by
    simp only [List.cons_append, List.cons.injEq] at h
    have := split_first (fun e => ha (List.mem_cons_of_mem _ e)) (fun e => hb (List.mem_cons_of_mem _ e)) h.2
    exact ⟨by rw [h.1, this.1], this.2⟩

def ends (X : List UInt8) : Prop := X = [] ∨ ∃ X', X = X' ++ [32]
theorem last_half {X Y u v z : List UInt8} (hY : ends Y) (hu : (32 : UInt8) ∉ u) (h1 : Y = X ++ z) (h2 : u = z ++ v) : X = Y ∧ u = v := by
  cases hz : z with
  | nil => subst hz; exact ⟨by simpa using h1.symm, by simpa using h2⟩
  | cons c cs =>
    exfalso
    rcases hY with rfl | ⟨Y', rfl⟩
    · rw [hz] at h1; simp at h1
    · have hzl : z.getLast? = some 32 := by
        have hl := congrArg List.getLast? h1
        obtain ⟨x, hx⟩ : ∃ x, z.getLast? = some x := ⟨_, by rw [hz]; exact List.getLast?_cons⟩
        rw [List.getLast?_append, List.getLast?_append, hx] at hl
        rw [hx]
        simpa using hl.symm
      exact hu (by rw [h2]; exact List.mem_append_left _ (List.mem_of_getLast? hzl))
/-- The last word of a text is one. -/
theorem last_word {X Y u v : List UInt8} (hX : ends X) (hY : ends Y) (hu : (32 : UInt8) ∉ u) (hv : (32 : UInt8) ∉ v) (h : X ++ u = Y ++ v) : X = Y ∧ u = v := by
  rcases List.append_eq_append_iff.1 h with ⟨z, h1, h2⟩ | ⟨z, h1, h2⟩
  · exact last_half hY hu h1 h2
  · have := last_half hX hv h1 h2
    exact ⟨this.1.symm, this.2.symm⟩

/- The numbers -/
theorem ofNat_toNat (n : Nat) (h : n < 256) : (UInt8.ofNat n).toNat = n := by simp [UInt8.toNat_ofNat']; omega
theorem hexd_nat (d : Nat) (h : d < 16) : (hexd d).toNat = if d < 10 then 48 + d else 87 + d := by
  unfold hexd; split <;> rw [ofNat_toNat _ (by omega)]
theorem hexd_inj {c d : Nat} (hc : c < 16) (hd : d < 16) (h : hexd c = hexd d) : c = d := by
  have := congrArg UInt8.toNat h
  rw [hexd_nat c hc, hexd_nat d hd] at this
  split at this <;> split at this <;> omega
theorem hexL_inj {n m : Nat} : ∀ {c : Nat}, hexL n c = hexL m c → n % 16 ^ c = m % 16 ^ c
  | 0, _ => by simp [Nat.mod_one]
  | c + 1, h => by
    simp only [hexL, List.cons.injEq] at h
    have h1 := hexd_inj (Nat.mod_lt _ (by decide)) (Nat.mod_lt _ (by decide)) h.1
    rw [Nat.mod_pow_succ, Nat.mod_pow_succ, h1, hexL_inj h.2]
theorem append_len {a b p q : List UInt8} (hl : a.length = b.length) (h : a ++ p = b ++ q) : a = b ∧ p = q := List.append_inj h hl
theorem macL_inj {n m : Nat} : ∀ {c : Nat}, macL n c = macL m c → n % 256 ^ (c + 1) = m % 256 ^ (c + 1)
  | 0, h => by
    have := hexL_inj (c := 2) h
    simpa using this
  | c + 1, h => by
    simp only [macL] at h
    obtain ⟨h1, h2⟩ := append_len (by rw [hexL_length, hexL_length]) h
    have h3 := hexL_inj (c := 2) h1
    have h4 := macL_inj (List.cons.inj h2).2
    rw [Nat.mod_pow_succ (b := 256) (k := c + 1), Nat.mod_pow_succ (b := 256) (k := c + 1), h4]
    have h3' : n / 256 ^ (c + 1) % 256 = m / 256 ^ (c + 1) % 256 := by simpa using h3
    rw [h3']
def dval (l : List UInt8) : Nat := l.foldl (fun acc d => acc * 10 + (d.toNat - 48)) 0
theorem dval_snoc (l : List UInt8) (d : UInt8) : dval (l ++ [d]) = dval l * 10 + (d.toNat - 48) := by simp [dval]
theorem dval_dec (u : Nat) : dval (Lib.decDigits u) = u := by
  induction u using Nat.strongRecOn with
  | ind u ih =>
    rw [Lib.decDigits]
    split
    · have e := dval_snoc [] (UInt8.ofNat (48 + u))
      rw [List.nil_append] at e
      rw [e, ofNat_toNat _ (by omega)]; simp [dval]
    · rw [dval_snoc, ih (u / 10) (by omega), ofNat_toNat _ (by omega)]; omega
theorem dec_inj {u v : Nat} (h : Lib.decDigits u = Lib.decDigits v) : u = v := by
  rw [← dval_dec u, h, dval_dec]
theorem dec_digit (u : Nat) : ∀ x ∈ Lib.decDigits u, 48 ≤ x.toNat ∧ x.toNat ≤ 57 := by
  induction u using Nat.strongRecOn with
  | ind u ih =>
    rw [Lib.decDigits]
    split
    · intro x hx
      rw [List.mem_singleton] at hx
      rw [hx, ofNat_toNat _ (by omega)]; omega
    · intro x hx
      rcases List.mem_append.1 hx with hx | hx
      · exact ih _ (by omega) x hx
      · rw [List.mem_singleton] at hx
        rw [hx, ofNat_toNat _ (by omega)]; omega
theorem not_mem_dec (u : Nat) (s : UInt8) (hs : s.toNat < 48) : s ∉ Lib.decDigits u := fun h => by
  have := dec_digit u s h; omega
theorem ipL_inj {n m : Nat} : ∀ {c : Nat}, ipL n c = ipL m c → n % 256 ^ (c + 1) = m % 256 ^ (c + 1)
  | 0, h => by
    have := dec_inj h
    simpa using this
  | c + 1, h => by
    simp only [ipL] at h
    obtain ⟨h1, h2⟩ := split_first (not_mem_dec _ 46 (by decide)) (not_mem_dec _ 46 (by decide)) h
    have h3 := dec_inj h1
    have h4 := ipL_inj h2
    rw [Nat.mod_pow_succ (b := 256) (k := c + 1), Nat.mod_pow_succ (b := 256) (k := c + 1), h4, h3]
theorem hexL_sign (n : Nat) : ∀ c, ∀ x ∈ hexL n c, 48 ≤ x.toNat
  | 0, x, hx => by simp [hexL] at hx
  | c + 1, x, hx => by
    simp only [hexL, List.mem_cons] at hx
    rcases hx with rfl | hx
    · rw [hexd_nat _ (Nat.mod_lt _ (by decide))]; split <;> omega
    · exact hexL_sign n c x hx
theorem macL_sign (n : Nat) : ∀ c, ∀ x ∈ macL n c, 48 ≤ x.toNat
  | 0, x, hx => hexL_sign _ _ x hx
  | c + 1, x, hx => by
    simp only [macL, List.mem_append, List.mem_cons] at hx
    rcases hx with hx | rfl | hx
    · exact hexL_sign _ _ x hx
    · decide
    · exact macL_sign n c x hx
theorem ipL_sign (n : Nat) : ∀ c, ∀ x ∈ ipL n c, 46 ≤ x.toNat
  | 0, x, hx => by have := dec_digit _ x hx; omega
  | c + 1, x, hx => by
    simp only [ipL, List.mem_append, List.mem_cons] at hx
    rcases hx with hx | rfl | hx
    · have := dec_digit _ x hx; omega
    · decide
    · exact ipL_sign n c x hx
theorem numL_sign (k n : Nat) : ∀ x ∈ numL k n, 46 ≤ x.toNat := by
  intro x hx
  unfold numL at hx
  split at hx
  · have := macL_sign _ _ x hx; omega
  · have := macL_sign _ _ x hx; omega
  · simp only [List.mem_append, List.mem_cons, List.not_mem_nil, or_false] at hx
    rcases hx with (rfl | rfl) | hx
    · decide
    · decide
    · have := hexL_sign _ _ x hx; omega
  · exact ipL_sign _ _ x hx
  · exact ipL_sign _ _ x hx
  · have := dec_digit _ x hx; omega
theorem numL_inj (k : Nat) (hk : k < 11) {n m : Nat} (hn : n < 2 ^ (wid k).toNat) (hm : m < 2 ^ (wid k).toNat) (h : numL k n = numL k m) : n = m := by
  have hk' : k = 0 ∨ k = 1 ∨ k = 2 ∨ k = 3 ∨ k = 4 ∨ k = 5 ∨ k = 6 ∨ k = 7 ∨ k = 8 ∨ k = 9 ∨ k = 10 := by omega
  rcases hk' with rfl | rfl | rfl | rfl | rfl | rfl | rfl | rfl | rfl | rfl | rfl
  · have := macL_inj (c := 5) h
    simp [wid] at this hn hm; omega
  · have := macL_inj (c := 5) h
    simp [wid] at this hn hm; omega
  · have := hexL_inj (c := 4) (List.append_cancel_left h)
    simp [wid] at this hn hm; omega
  · exact dec_inj h
  · have := ipL_inj (c := 3) h
    simp [wid] at this hn hm; omega
  · have := ipL_inj (c := 3) h
    simp [wid] at this hn hm; omega
  all_goals exact dec_inj h

/- The words -/
def word (h : Nat → Int) (k : Nat) : List UInt8 := nameL k ++ 61 :: numL k (h k).toNat
theorem name_sign : ∀ k : Fin 11, (61 : UInt8) ∉ nameL k.val ∧ (32 : UInt8) ∉ nameL k.val := by decide
theorem name_inj : ∀ j k : Fin 11, nameL j.val = nameL k.val → j = k := by decide
theorem word_no (h : Nat → Int) (k : Nat) (hk : k < 11) : (32 : UInt8) ∉ word h k := by
  intro hm
  simp only [word, List.mem_append, List.mem_cons] at hm
  rcases hm with hm | hm | hm
  · exact (name_sign ⟨k, hk⟩).2 hm
  · exact absurd hm (by decide)
  · have := numL_sign _ _ _ hm
    exact absurd this (by decide)
theorem word_inj (a b : Nat → Int) (j k : Nat) (hj : j < 11) (hk : k < 11) (h : word a j = word b k) : j = k ∧ numL j (a j).toNat = numL k (b k).toNat := by
  obtain ⟨h1, h2⟩ := split_first (name_sign ⟨j, hj⟩).1 (name_sign ⟨k, hk⟩).1 h
  have := name_inj ⟨j, hj⟩ ⟨k, hk⟩ h1
  exact ⟨by simpa using this, h2⟩
theorem word_ne (h : Nat → Int) (k : Nat) : word h k ≠ [] := by unfold word; simp
theorem ends_sep (l : List UInt8) : ends (sep l) := by
  unfold sep ends; split
  · exact Or.inl rfl
  · exact Or.inr ⟨l, rfl⟩
theorem sep_inj {l m : List UInt8} (h : sep l = sep m) : l = m := by
  unfold sep at h
  split at h <;> split at h
  · rename_i h1 h2; rw [h1, h2]
  · simp at h
  · simp at h
  · exact List.append_cancel_right h
theorem txt_succ (h : Nat → Int) (k : Nat) : txtUpto h (k + 1) = if h k = 0 then txtUpto h k else sep (txtUpto h k) ++ word h k := rfl
theorem txt_last (h : Nat → Int) : ∀ k, txtUpto h k = [] ∨ ∃ j, j < k ∧ h j ≠ 0 ∧ txtUpto h k = sep (txtUpto h j) ++ word h j
  | 0 => Or.inl rfl
  | k + 1 => by
    rw [txt_succ]
    split
    · rcases txt_last h k with h1 | ⟨j, hj, h2⟩
      · exact Or.inl h1
      · exact Or.inr ⟨j, by omega, h2⟩
    · rename_i h0
      exact Or.inr ⟨k, by omega, h0, rfl⟩
theorem not_last (a b : Nat → Int) (k : Nat) (hk : k < 11) (h : sep (txtUpto a k) ++ word a k = txtUpto b k) : False := by
  rcases txt_last b k with h1 | ⟨j, hj, _, h2⟩
  · rw [h1] at h
    exact word_ne a k (List.append_eq_nil_iff.1 h).2
  · rw [h2] at h
    have := (last_word (ends_sep _) (ends_sep _) (word_no a k hk) (word_no b j (by omega)) h).2
    have := (word_inj a b k j hk (by omega) this).1
    omega
theorem txt_inj (a b : Nat → Int) (ha : ∀ k, k < 11 → 0 ≤ a k ∧ (a k).toNat < 2 ^ (wid k).toNat) (hb : ∀ k, k < 11 → 0 ≤ b k ∧ (b k).toNat < 2 ^ (wid k).toNat) :
    ∀ n, n ≤ 11 → txtUpto a n = txtUpto b n → ∀ k, k < n → a k = b k
  | 0, _, _, k, hk => absurd hk (by omega)
  | n + 1, hn, h, k, hk => by
    rw [txt_succ, txt_succ] at h
    have key : txtUpto a n = txtUpto b n ∧ a n = b n := by
      split at h <;> split at h
      · rename_i h1 h2; exact ⟨h, by rw [h1, h2]⟩
      · exact absurd h.symm (fun e => not_last b a n (by omega) e)
      · exact absurd h (fun e => not_last a b n (by omega) e)
      · obtain ⟨h1, h2⟩ := last_word (ends_sep _) (ends_sep _) (word_no a n (by omega)) (word_no b n (by omega)) h
        have h3 := numL_inj n (by omega) (ha n (by omega)).2 (hb n (by omega)).2 (word_inj a b n n (by omega) (by omega) h2).2
        have := (ha n (by omega)).1
        have := (hb n (by omega)).1
        exact ⟨sep_inj h1, by omega⟩
    by_cases e : k = n
    · subst e; exact key.2
    · exact txt_inj a b ha hb n (by omega) key.1 k (by omega)
theorem thin_of_ok (h : Nat → Int) (hpos : ∀ k, 0 ≤ h k) (hok : hOk h = true) (k : Nat) (hk : k < 11) : 0 ≤ h k ∧ (h k).toNat < 2 ^ (wid k).toNat := by
  refine ⟨hpos k, ?_⟩
  simp only [hOk, Bool.and_eq_true] at hok
  have hb := okUpto_all h 11 hok.2 k hk
  simp only [fldBad, Bool.or_eq_false_iff] at hb
  have h0 : h k / 2 ^ (wid k).toNat = 0 := by simpa using hb.1
  obtain ⟨n, hn⟩ := Int.eq_ofNat_of_zero_le (hpos k)
  rw [hn] at h0 ⊢
  have h1 : n / 2 ^ (wid k).toNat = 0 := by
    have e : ((n / 2 ^ (wid k).toNat : Nat) : Int) = (n : Int) / 2 ^ (wid k).toNat := by norm_cast
    rw [← e] at h0
    exact Int.ofNat_eq_zero.1 h0
  rw [Int.toNat_natCast]
  rcases Nat.div_eq_zero_iff.1 h1 with h2 | h2
  · have : 0 < 2 ^ (wid k).toNat := Nat.pow_pos (by decide)
    omega
  · exact h2
theorem apart_inj (a b : Nat → Int) (pa : ∀ k, 0 ≤ a k) (pb : ∀ k, 0 ≤ b k) (ha : hOk a = true) (hb : hOk b = true) (h : txtL a = txtL b) : ∀ k, k < 11 → a k = b k :=
  txt_inj a b (thin_of_ok a pa ha) (thin_of_ok b pb hb) 11 (by omega) h
theorem txt_congr (a b : Nat → Int) : ∀ n, (∀ k, k < n → a k = b k) → txtUpto a n = txtUpto b n
  | 0, _ => rfl
  | n + 1, h => by
    rw [txt_succ, txt_succ, txt_congr a b n (fun k hk => h k (by omega))]
    unfold word
    rw [h n (by omega)]
theorem txt_some (h : Nat → Int) (hok : hOk h = true) : txtL h ≠ [] := by
  have hk : h 2 ≠ 0 := by
    intro e
    simp only [hOk, Bool.and_eq_true, kindOk, e] at hok
    exact absurd hok.1 (by decide)
  have grow : ∀ n, 3 ≤ n → txtUpto h n ≠ [] := by
    intro n hn
    obtain ⟨m, rfl⟩ : ∃ m, n = m + 3 := ⟨n - 3, by omega⟩
    clear hn
    induction m with
    | zero =>
      rw [txt_succ, if_neg hk]
      intro e
      exact word_ne h 2 (List.append_eq_nil_iff.1 e).2
    | succ m ih =>
      rw [txt_succ]
      split
      · exact ih
      · intro e
        exact word_ne h _ (List.append_eq_nil_iff.1 e).2
  exact grow 11 (by omega)
end Go.Proofs.YthjgndkcijgfmaaDoor
