/- Plain: words that stand in a text with one blank or line's end behind each are told as they are. -/
/- Plain: a term's words, in the document's one form, are read as that term. -/
/- Plain: a policy's text, in the document's one form, is read as that policy. -/
import Derived.Test.YtoncogkamlgjhaaGreatDoorFA2
import Derived.Lib.ItoaNum
namespace Go.Proofs.YtoncogkamlgjhaaGreatDoor
set_option maxRecDepth 100000
open Go.Lib

/-- a list's byte -/
def lb (l : List UInt8) (i : Nat) : Nat := ((l[i]?).map (·.toNat)).getD 256
theorem lb_app (x y : List UInt8) (i : Nat) : lb (x ++ y) (x.length + i) = lb y i := by unfold lb; rw [List.getElem?_append_right (by omega), Nat.add_sub_cancel_left]
theorem lb_left {x : List UInt8} (y : List UInt8) {i : Nat} (h : i < x.length) : lb (x ++ y) i = lb x i := by unfold lb; rw [List.getElem?_append_left h]
theorem lb_in {x : List UInt8} {i : Nat} (h : i < x.length) : lb x i = (x[i]).toNat := by unfold lb; rw [List.getElem?_eq_getElem h]; rfl
/-- bytes that stand at a place -/
def Hs (T : ByteArray) (i : Nat) (l : List UInt8) : Prop := ∀ j, j < l.length → bt T (i + j) = lb l j
theorem Hs.left {T : ByteArray} {i : Nat} {x y : List UInt8} (h : Hs T i (x ++ y)) : Hs T i x := fun j hj => by
  rw [h j (by rw [List.length_append]; omega), lb_left y hj]
theorem Hs.right {T : ByteArray} {i : Nat} {x y : List UInt8} (h : Hs T i (x ++ y)) : Hs T (i + x.length) y := fun j hj => by
  rw [show i + x.length + j = i + (x.length + j) by omega, h _ (by rw [List.length_append]; omega), lb_app]
theorem Hs.one {T : ByteArray} {i : Nat} {c : UInt8} {y : List UInt8} (h : Hs T i (c :: y)) : bt T i = c.toNat := h 0 (by simp)
theorem Hs.tail {T : ByteArray} {i : Nat} {c : UInt8} {y : List UInt8} (h : Hs T i (c :: y)) : Hs T (i + 1) y := Hs.right (x := [c]) h
/-- a blank, or a line's end -/
def Bk2 (c : Nat) : Prop := c = 32 ∨ c = 10
theorem Bk2.D {c : Nat} (h : Bk2 c) : isD c = false := by rcases h with rfl | rfl <;> decide
theorem Bk2.H {c : Nat} (h : Bk2 c) : isH c = false := by rcases h with rfl | rfl <;> decide
theorem Bk2.N {c : Nat} (h : Bk2 c) : isN c = false := by rcases h with rfl | rfl <;> decide
theorem Bk2.ne {c : Nat} (h : Bk2 c) : c ≠ 58 ∧ c ≠ 120 ∧ c ≠ 46 ∧ c ≠ 61 := by rcases h with rfl | rfl <;> decide
/-- a word of a kind with a number -/
structure Gw (w : List UInt8) (k n : Nat) : Prop where
  ne : 0 < w.length
  nb : blk (lb w 0) = false
  nr : lb w 0 ≠ 35
  one : ∀ T i, Hs T i w → Bk2 (bt T (i + w.length)) → one T i = ⟨k, i + w.length, n, 0⟩
theorem pr_col {T : ByteArray} {a m : Nat} (h : pr T a = some m) : isH (bt T (a + 1)) = true ∧ bt T (a + 2) = 58 := by
  unfold pr at h
  rw [prF, if_neg (by decide)] at h
  split at h
  · rw [prF, if_neg (by decide)] at h
    split at h
    · rename_i h1
      rw [prF, if_pos (by decide)] at h
      split at h
      · rename_i h2; exact ⟨h1, h2⟩
      · cases h
    · cases h
  · cases h
theorem isN_of_L {c : Nat} (h : isL c = true) : isN c = true := by unfold isN; rw [h]; rfl
theorem isD_of_L {c : Nat} (h : isL c = true) : isD c = false := by
  rw [isL_iff] at h
  cases hd : isD c with
  | false => rfl
  | true => rw [isD_iff] at hd; omega
theorem gw_name {w : List UInt8} (h0 : 0 < w.length) (h2 : w.length ≤ 32) (hL : isL (lb w 0) = true) (hN : ∀ j, j < w.length → isN (lb w j) = true) : Gw w 1 0 := by
  refine ⟨h0, ?_, ?_, fun T i h hb => ?_⟩
  · cases hb : blk (lb w 0) with
    | false => rfl
    | true => rw [isL_iff] at hL; rw [blk_iff] at hb; omega
  · rw [isL_iff] at hL; omega
  · have hb0 : bt T i = lb w 0 := h 0 h0
    have hp : pr T i = none := by
      cases hp : pr T i with
      | none => rfl
      | some m =>
        obtain ⟨q1, q2⟩ := pr_col hp
        have : w.length = 1 ∨ w.length = 2 ∨ 2 < w.length := by omega
        rcases this with e | e | e
        · rw [e] at hb; rw [hb.H] at q1; cases q1
        · rw [e] at hb; exact absurd q2 hb.ne.1
        · have := hN 2 e; rw [← h 2 e, q2] at this; exact absurd this (by decide)
    have he : rE isN T i = i + w.length := rE_eq isN256 (by omega) (fun j j1 j2 => by
      obtain ⟨q, rfl⟩ : ∃ q, j = i + q := ⟨j - i, by omega⟩
      rw [h q (by omega)]; exact hN q (by omega)) hb.N
    unfold YtoncogkamlgjhaaGreatDoor.one
    rw [hp, hb0, if_neg (by rintro (e | e); cases e; rw [isD_of_L hL] at e; cases e), if_pos hL]
    unfold nam
    rw [he, if_neg (by omega)]
theorem gw_sign {c : UInt8} (hs : c.toNat ∈ sgn) : Gw [c] 3 0 := by
  have hc : lb [c] 0 = c.toNat := rfl
  refine ⟨by simp, ?_, ?_, fun T i h hb => ?_⟩
  · rw [hc]; generalize c.toNat = d at hs; simp [sgn] at hs; rcases hs with rfl | rfl | rfl | rfl | rfl | rfl | rfl | rfl | rfl | rfl | rfl <;> decide
  · rw [hc]; generalize c.toNat = d at hs; simp [sgn] at hs; omega
  · have hb0 : bt T i = c.toNat := h 0 (by simp)
    clear h hb hc
    generalize c.toNat = d at hs hb0
    have hH : isH d = false := by simp [sgn] at hs; rcases hs with rfl | rfl | rfl | rfl | rfl | rfl | rfl | rfl | rfl | rfl | rfl <;> decide
    have hL : isL d = false := by simp [sgn] at hs; rcases hs with rfl | rfl | rfl | rfl | rfl | rfl | rfl | rfl | rfl | rfl | rfl <;> decide
    have hD : isD d = false := by simp [sgn] at hs; rcases hs with rfl | rfl | rfl | rfl | rfl | rfl | rfl | rfl | rfl | rfl | rfl <;> decide
    have h58 : d ≠ 58 := by simp [sgn] at hs; omega
    have hp : pr T i = none := by
      cases h : pr T i with
      | none => rfl
      | some m => have := pr_H h; rw [hb0, hH] at this; cases this
    unfold YtoncogkamlgjhaaGreatDoor.one
    rw [hp, hb0, if_neg (by rintro (h | h); cases h; rw [hD] at h; cases h), if_neg (by rw [hL]; decide), if_neg (fun h => h58 h.1), if_pos hs]
    rfl
theorem gw_set : Gw [58, 61] 3 0 := by
  refine ⟨by simp, by decide, by decide, fun T i h hb => ?_⟩
  have h0 : bt T i = 58 := h 0 (by simp)
  have h1 : bt T (i + 1) = 61 := h 1 (by simp)
  have hp : pr T i = none := by
    cases h : pr T i with
    | none => rfl
    | some m => have := pr_H h; rw [h0] at this; exact absurd this (by decide)
  unfold YtoncogkamlgjhaaGreatDoor.one
  rw [hp, h0, if_neg (by rintro (h | h); cases h; exact absurd h (by decide)), if_neg (by decide), if_pos ⟨rfl, h1⟩]
  rfl

/-! decimal digits -/
theorem dn_snoc (s : ByteArray) : ∀ f k n, dn s (f + 1) k n = dn s f k n * 10 + (bt s (k + f) - 48)
  | 0, k, n => rfl
  | f + 1, k, n => by
    rw [dn, dn_snoc s f (k + 1) _, dn, show k + 1 + f = k + (f + 1) by omega]
theorem dd_big {n : Nat} (h : ¬ n < 10) : decDigits n = decDigits (n / 10) ++ [UInt8.ofNat (48 + n % 10)] := by rw [decDigits, dif_neg h]
theorem dg_nat {d : Nat} (h : d < 10) : (UInt8.ofNat (48 + d)).toNat = 48 + d := by rw [UInt8.toNat_ofNat_of_lt' (show 48 + d < 256 by omega)]
theorem dd_len (n : Nat) : 0 < (decDigits n).length := by rw [decDigits_length]; exact nDigits_pos n
theorem dd_num {T : ByteArray} (n : Nat) : ∀ i, Hs T i (decDigits n) → dn T (decDigits n).length i 0 = n := by
  induction n using Nat.strongRecOn with
  | _ n ih =>
    intro i h
    by_cases hn : n < 10
    · rw [decDigits_one hn] at h ⊢
      have := h 0 (by simp)
      show dn T 1 i 0 = n
      rw [dn, dn]
      have e : bt T i = 48 + n := by
        have h' : bt T i = (UInt8.ofNat (48 + n)).toNat := this
        rw [h', dg_nat hn]
      rw [e]; omega
    · rw [dd_big hn] at h ⊢
      have h1 := ih (n / 10) (by omega) i h.left
      have h2 := h.right.one
      rw [dg_nat (by omega)] at h2
      rw [List.length_append, List.length_singleton, dn_snoc, h1, h2]
      omega
theorem dd_isD (n : Nat) : ∀ j, j < (decDigits n).length → isD (lb (decDigits n) j) = true := by
  induction n using Nat.strongRecOn with
  | _ n ih =>
    intro j hj
    by_cases hn : n < 10
    · rw [decDigits_one hn] at hj ⊢
      obtain rfl : j = 0 := by simpa using hj
      show isD (UInt8.ofNat (48 + n)).toNat = true
      rw [dg_nat hn, isD_iff]; omega
    · rw [dd_big hn] at hj ⊢
      by_cases hl : j < (decDigits (n / 10)).length
      · rw [lb_left _ hl]; exact ih _ (by omega) j hl
      · rw [List.length_append, List.length_singleton] at hj
        obtain rfl : j = (decDigits (n / 10)).length + 0 := by omega
        rw [lb_app]
        show isD (UInt8.ofNat (48 + n % 10)).toNat = true
        rw [dg_nat (by omega), isD_iff]; omega
theorem dd_first (n : Nat) : 1 ≤ n → lb (decDigits n) 0 ≠ 48 := by
  induction n using Nat.strongRecOn with
  | _ n ih =>
    intro h1
    by_cases hn : n < 10
    · rw [decDigits_one hn]
      show (UInt8.ofNat (48 + n)).toNat ≠ 48
      rw [dg_nat hn]; omega
    · rw [dd_big hn, lb_left _ (dd_len _)]
      exact ih _ (by omega) (by omega)
/-- decimal digits that stand in a text -/
theorem dd_at {T : ByteArray} {i n : Nat} (h : Hs T i (decDigits n)) (he : isD (bt T (i + (decDigits n).length)) = false) : rE isD T i = i + (decDigits n).length ∧ dcv T i = n ∧ ¬ (1 < rE isD T i - i ∧ bt T i = 48) := by
  have h1 : rE isD T i = i + (decDigits n).length := rE_eq isD256 (by omega) (fun j j1 j2 => by
    obtain ⟨q, rfl⟩ : ∃ q, j = i + q := ⟨j - i, by omega⟩
    rw [h q (by omega)]; exact dd_isD n q (by omega)) he
  refine ⟨h1, ?_, ?_⟩
  · unfold dcv; rw [h1, Nat.add_sub_cancel_left]; exact dd_num n i h
  · rintro ⟨q1, q2⟩
    rw [h1, Nat.add_sub_cancel_left] at q1
    have := h 0 (dd_len n)
    rw [Nat.add_zero, q2] at this
    have hn : 1 ≤ n := by
      rcases Nat.eq_zero_or_pos n with e | e
      · subst e; rw [decDigits_one (by decide)] at q1; simp at q1
      · exact e
    exact dd_first n hn this.symm
theorem dd_pr {T : ByteArray} {i : Nat} (_h1 : isD (bt T i) = true) (h2 : bt T (i + 2) ≠ 58) : pr T i = none := by
  cases h : pr T i with
  | none => rfl
  | some m => exact absurd (pr_col h).2 h2
theorem gw_dec {n : Nat} (hn : n < 18446744073709551616) : Gw (decDigits n) 2 n := by
  have hl := dd_len n
  have hd0 := dd_isD n 0 hl
  refine ⟨hl, ?_, ?_, fun T i h hb => ?_⟩
  · rw [isD_iff] at hd0
    cases hb : blk (lb (decDigits n) 0) with
    | false => rfl
    | true => rw [blk_iff] at hb; omega
  · rw [isD_iff] at hd0; omega
  · obtain ⟨e1, e2, e3⟩ := dd_at h hb.D
    have hb0 : isD (bt T i) = true := by have := h 0 hl; rw [Nat.add_zero] at this; rw [this]; exact hd0
    have q2 : bt T (i + 2) ≠ 58 ∧ bt T (i + 1) ≠ 120 ∨ bt T (i + 1) ≠ 120 ∧ isH (bt T (i + 1)) = false := by
      have : (decDigits n).length = 1 ∨ (decDigits n).length = 2 ∨ 2 < (decDigits n).length := by omega
      rcases this with e | e | e
      · rw [e] at hb; exact Or.inr ⟨hb.ne.2.1, hb.H⟩
      · have h1 := dd_isD n 1 (by omega); rw [e] at hb; rw [← h 1 (by omega), isD_iff] at h1; exact Or.inl ⟨hb.ne.1, by omega⟩
      · have h1 := dd_isD n 1 (by omega); have h2 := dd_isD n 2 (by omega); rw [← h 1 (by omega), isD_iff] at h1; rw [← h 2 (by omega), isD_iff] at h2; exact Or.inl ⟨by omega, by omega⟩
    have hp : pr T i = none := by
      cases h : pr T i with
      | none => rfl
      | some m =>
        obtain ⟨p1, p2⟩ := pr_col h
        rcases q2 with q | q
        · exact absurd p2 q.1
        · rw [q.2] at p1; cases p1
    have hx1 : bt T (i + 1) ≠ 120 := by rcases q2 with q | q; exact q.2; exact q.1
    unfold YtoncogkamlgjhaaGreatDoor.one
    rw [if_pos (Or.inr hb0)]
    unfold num
    rw [hp]
    show (if bt T i = 48 ∧ bt T (i + 1) = 120 then hex T i else if bt T (rE isD T i) = 46 then dot T 4 i 0 else dec T i) = _
    rw [if_neg (fun q => hx1 q.2), e1, if_neg hb.ne.2.2.1]
    unfold dec
    rw [if_neg (by omega), if_neg e3, e1, e2]
    unfold cls
    rw [if_neg (by rw [hb.N]; decide)]

/-! four parts -/
def dots (a b c d : Nat) : List UInt8 := decDigits a ++ 46 :: (decDigits b ++ 46 :: (decDigits c ++ 46 :: decDigits d))
theorem dot_part {T : ByteArray} {i n : Nat} (h : Hs T i (decDigits n)) (he : isD (bt T (i + (decDigits n).length)) = false) (hn : n < 256) : ¬ badP T i ∧ rE isD T i = i + (decDigits n).length ∧ dcv T i = n := by
  obtain ⟨e1, e2, e3⟩ := dd_at h he
  have := dd_len n
  exact ⟨by unfold badP; rintro (q | q | q); omega; omega; exact e3 q, e1, e2⟩
theorem gw_dots {a b c d : Nat} (ha : a < 256) (hb : b < 256) (hc : c < 256) (hd : d < 256) : Gw (dots a b c d) 2 (((a * 256 + b) * 256 + c) * 256 + d) := by
  have hla := dd_len a
  have hlb := dd_len b
  have hd0 : isD (lb (dots a b c d) 0) = true := by unfold dots; rw [lb_left _ hla]; exact dd_isD a 0 hla
  have hlen : (dots a b c d).length = (decDigits a).length + ((decDigits b).length + ((decDigits c).length + (decDigits d).length + 1) + 1) + 1 := by unfold dots; simp; omega
  refine ⟨by omega, ?_, ?_, fun T i h hbk => ?_⟩
  · rw [isD_iff] at hd0
    cases hb : blk (lb (dots a b c d) 0) with
    | false => rfl
    | true => rw [blk_iff] at hb; omega
  · rw [isD_iff] at hd0; omega
  · have hb0 : isD (bt T i) = true := by have := h 0 (by omega); rw [Nat.add_zero] at this; rw [this]; exact hd0
    rw [hlen] at hbk ⊢
    unfold dots at h
    have h1 := h.left
    have h2 := h.right
    have p1 : bt T (i + (decDigits a).length) = 46 := h2.one
    have h3 := h2.tail.left
    have h4 := h2.tail.right
    have p2 : bt T (i + (decDigits a).length + 1 + (decDigits b).length) = 46 := h4.one
    have h5 := h4.tail.left
    have h6 := h4.tail.right
    have p3 : bt T (i + (decDigits a).length + 1 + (decDigits b).length + 1 + (decDigits c).length) = 46 := h6.one
    have h7 := h6.tail
    clear h2 h4 h6
    have D46 : isD 46 = false := by decide
    obtain ⟨a1, a2, a3⟩ := dot_part h1 (by rw [p1]; exact D46) ha
    obtain ⟨b1, b2, b3⟩ := dot_part h3 (by rw [p2]; exact D46) hb
    obtain ⟨c1, c2, c3⟩ := dot_part h5 (by rw [p3]; exact D46) hc
    have hbk' : Bk2 (bt T (i + (decDigits a).length + 1 + (decDigits b).length + 1 + (decDigits c).length + 1 + (decDigits d).length)) := by
      rw [show i + (decDigits a).length + 1 + (decDigits b).length + 1 + (decDigits c).length + 1 + (decDigits d).length = i + ((decDigits a).length + ((decDigits b).length + ((decDigits c).length + (decDigits d).length + 1) + 1) + 1) by omega]; exact hbk
    obtain ⟨d1, d2, d3⟩ := dot_part h7 hbk'.D hd
    have ha1 : ∀ j, j < (decDigits a).length → isD (bt T (i + j)) = true := fun j hj => by rw [h1 j hj]; exact dd_isD a j hj
    have hb1 : isD (bt T (i + (decDigits a).length + 1)) = true := by have := h3 0 hlb; rw [Nat.add_zero] at this; rw [this]; exact dd_isD b 0 hlb
    have q2 : bt T (i + 2) ≠ 58 := by
      have : (decDigits a).length = 1 ∨ (decDigits a).length = 2 ∨ 2 < (decDigits a).length := by omega
      rcases this with e | e | e
      · rw [e, isD_iff] at hb1; rw [show i + 2 = i + 1 + 1 by omega]; omega
      · rw [e] at p1; omega
      · have := ha1 2 e; rw [isD_iff] at this; omega
    have q1 : bt T (i + 1) ≠ 120 := by
      have : (decDigits a).length = 1 ∨ 1 < (decDigits a).length := by omega
      rcases this with e | e
      · rw [e] at p1; omega
      · have := ha1 1 e; rw [isD_iff] at this; omega
    have hp := dd_pr hb0 q2
    unfold YtoncogkamlgjhaaGreatDoor.one
    rw [if_pos (Or.inr hb0)]
    unfold num
    rw [hp]
    show (if bt T i = 48 ∧ bt T (i + 1) = 120 then hex T i else if bt T (rE isD T i) = 46 then dot T 4 i 0 else dec T i) = _
    rw [if_neg (fun q => q1 q.2), a2, if_pos p1, dot, if_pos rfl, if_neg a1, a2, a3, dot, if_neg (by decide), if_pos p1, if_neg b1, b2, b3, dot, if_neg (by decide), if_pos p2, if_neg c1, c2, c3, dot, if_neg (by decide), if_pos p3, if_neg d1, d2, d3, dot]
    unfold cls
    rw [if_neg (by rw [hbk'.N]; decide), Nat.zero_mul, Nat.zero_add]
    congr 1
    omega

/-! six pairs -/
def hc (d : Nat) : UInt8 := UInt8.ofNat (if d < 10 then 48 + d else 87 + d)
theorem hc_ok : ∀ d : Fin 16, isH (hc d.val).toNat = true ∧ hv (hc d.val).toNat = d.val := by decide
theorem hc_lt {d : Nat} (h : d < 16) : isH (hc d).toNat = true ∧ hv (hc d).toNat = d := hc_ok ⟨d, h⟩
def two (b : Nat) : List UInt8 := [hc (b / 16), hc (b % 16)]
def pairs6 (a b c d e f : Nat) : List UInt8 := two a ++ 58 :: (two b ++ 58 :: (two c ++ 58 :: (two d ++ 58 :: (two e ++ 58 :: two f))))
theorem hx_two {x b : Nat} (hx' : x < 72057594037927936) (hb : b < 256) : hx (hx x (b / 16)) (b % 16) = x * 256 + b := by unfold hx; omega
theorem pr_two {T : ByteArray} {a b f i x : Nat} (h0 : bt T (a + i) = (hc (b / 16)).toNat) (h1 : bt T (a + (i + 1)) = (hc (b % 16)).toNat) (hb : b < 256) (hi : i % 3 = 0) (hx' : x < 72057594037927936) : prF T a (f + 1 + 1) i x = prF T a f (i + 1 + 1) (x * 256 + b) := by
  obtain ⟨p1, p2⟩ := hc_lt (d := b / 16) (by omega)
  obtain ⟨q1, q2⟩ := hc_lt (d := b % 16) (by omega)
  rw [prF, if_neg (by omega), h0, if_pos p1, p2, prF, if_neg (by omega), h1, if_pos q1, q2, hx_two hx' hb]
theorem pr_cln {T : ByteArray} {a f i x : Nat} (h0 : bt T (a + i) = 58) (hi : i % 3 = 2) : prF T a (f + 1) i x = prF T a f (i + 1) x := by rw [prF, if_pos hi, if_pos h0]
theorem gw_pairs {a b c d e f : Nat} (ha : a < 256) (hb : b < 256) (hc' : c < 256) (hd : d < 256) (he : e < 256) (hf : f < 256) : Gw (pairs6 a b c d e f) 2 (((((a * 256 + b) * 256 + c) * 256 + d) * 256 + e) * 256 + f) := by
  have h0 : lb (pairs6 a b c d e f) 0 = (hc (a / 16)).toNat := rfl
  have hH := (hc_lt (d := a / 16) (by omega)).1
  have hL : (pairs6 a b c d e f).length = 17 := rfl
  refine ⟨by omega, ?_, ?_, fun T i h hbk => ?_⟩
  · rw [h0]; rw [isH_iff] at hH
    cases hb : blk (hc (a / 16)).toNat with
    | false => rfl
    | true => rw [blk_iff] at hb; omega
  · rw [h0]; rw [isH_iff] at hH; omega
  · have hp : pr T i = some (((((a * 256 + b) * 256 + c) * 256 + d) * 256 + e) * 256 + f) := by
      unfold pr
      rw [pr_two (f := 15) (h 0 (by omega)) (h 1 (by omega)) ha (by decide) (by omega), pr_cln (f := 14) (h 2 (by omega)) (by decide),
        pr_two (f := 12) (h 3 (by omega)) (h 4 (by omega)) hb (by decide) (by omega), pr_cln (f := 11) (h 5 (by omega)) (by decide),
        pr_two (f := 9) (h 6 (by omega)) (h 7 (by omega)) hc' (by decide) (by omega), pr_cln (f := 8) (h 8 (by omega)) (by decide),
        pr_two (f := 6) (h 9 (by omega)) (h 10 (by omega)) hd (by decide) (by omega), pr_cln (f := 5) (h 11 (by omega)) (by decide),
        pr_two (f := 3) (h 12 (by omega)) (h 13 (by omega)) he (by decide) (by omega), pr_cln (f := 2) (h 14 (by omega)) (by decide),
        pr_two (f := 0) (h 15 (by omega)) (h 16 (by omega)) hf (by decide) (by omega), prF, Nat.zero_mul, Nat.zero_add]
    unfold YtoncogkamlgjhaaGreatDoor.one
    rw [if_pos (Or.inl (by rw [hp]; rfl))]
    unfold num
    rw [hp]
    show cls T (i + 17) _ = _
    have hbk' : Bk2 (bt T (i + 17)) := hbk
    unfold cls
    rw [if_neg (by rw [hbk'.N]; decide)]
    rfl

/-! all the words -/
/-- a word and the sign behind it -/
structure Tk where
  (k : Nat) (t : ByteArray) (n : Nat)
/-- words with a byte behind each -/
def fw : List (Tk × UInt8) → List UInt8
  | [] => []
  | (x, c) :: r => x.t.data.toList ++ c :: fw r
def tkOf (x : Wd) : Tk := ⟨x.k, x.t, x.n⟩
theorem ext_hs {T : ByteArray} {i : Nat} {w : ByteArray} (h : Hs T i w.data.toList) (hi : i + w.size ≤ T.size) : T.extract i (i + w.size) = w := by
  apply ByteArray.ext
  rw [ByteArray.data_extract]
  apply Array.ext
  · rw [Array.size_extract]; have : T.data.size = T.size := rfl; have : w.data.size = w.size := rfl; omega
  · intro j h1 h2
    have hj : j < w.data.toList.length := by simpa using h2
    have := h j hj
    rw [lb_in hj, bt_in (by have : w.data.size = w.size := rfl; omega)] at this
    rw [Array.getElem_extract]
    have e := UInt8.toNat_inj.1 this
    rw [Array.getElem_toList] at e
    exact e
theorem sc_fw {T : ByteArray} : ∀ (ts : List (Tk × UInt8)) (i : Nat) (acc : List Wd), (∀ x ∈ ts, Gw x.1.t.data.toList x.1.k x.1.n ∧ Bk2 x.2.toNat) → Hs T i (fw ts) → i + (fw ts).length = T.size → ∃ l, sc T i acc = .ok (acc ++ l ++ [wEnd T]) ∧ l.map tkOf = ts.map (·.1)
  | [], i, acc, _, h, he => ⟨[], by rw [sc_end (by rw [fw, List.length_nil] at he; omega), List.append_nil], rfl⟩
  | (x, c) :: r, i, acc, hg, h, he => by
    obtain ⟨g, hbk⟩ := hg (x, c) (List.mem_cons_self ..)
    rw [fw] at h he
    have hl : x.t.data.toList.length = x.t.size := Array.length_toList
    rw [List.length_append, List.length_cons] at he
    have h1 := h.left
    have h2 := h.right
    rw [hl] at h2 he
    have hc : bt T (i + x.t.size) = c.toNat := h2.one
    have hne := g.ne
    rw [hl] at hne
    have hb0 : bt T i = lb x.t.data.toList 0 := h1 0 (by omega)
    have ho := g.one T i h1 (by rw [hl, hc]; exact hbk)
    rw [hl] at ho
    have hcb : blk (bt T (i + x.t.size)) = true := by
      rw [hc]
      simp only at hbk
      rcases hbk with e | e <;> rw [e] <;> decide
    obtain ⟨l, e1, e2⟩ := sc_fw r (i + x.t.size + 1) (acc ++ [wdOf T i (one T i)]) (fun y hy => hg y (List.mem_cons_of_mem _ hy)) h2.tail (by omega)
    refine ⟨wdOf T i (one T i) :: l, ?_, ?_⟩
    · rw [sc_wd (by omega) (by rw [hb0]; exact g.nb) (by rw [hb0]; exact g.nr) (by rw [ho])]
      rw [ho] at e1 ⊢
      rw [sc_blk hcb, e1]
      simp
    · rw [List.map_cons, List.map_cons, e2, ho]
      congr 1
      show (⟨x.k, T.extract i (i + x.t.size), x.n⟩ : Tk) = x
      rw [ext_hs h1 (by omega)]
end Go.Proofs.YtoncogkamlgjhaaGreatDoor
namespace Go.Proofs.YtoncogkamlgjhaaGreatDoor
set_option maxRecDepth 100000
open Go.Lib

def fnm (f : Nat) : ByteArray := ((fdT[f]?).map (·.1)).getD ⟨#[]⟩
/-- how tightly a term's words hold, how tightly a kid's must -/
def hld : Nat → Nat
  | 0 => 3 | 1 => 3 | 2 => 3 | 3 => 2 | 4 => 1 | 5 => 0 | 6 => 2 | 7 => 2 | 8 => 0 | 9 => 1 | _ => 2
def ask : Nat → Nat
  | 3 => 2 | 4 => 2 | 5 => 1 | 8 => 1 | 9 => 2 | 10 => 3 | _ => 0
def sgT : Nat → ByteArray
  | 2 => Seq | 4 => Sand | 5 => Sor | 7 => Sset | 8 => Splus | 9 => Ssemi | _ => ⟨#[]⟩
def nb (n i : Nat) : Nat := n / 2 ^ (8 * i) % 256
/-- a number as a text has it -/
def nbr (f n : Nat) : ByteArray :=
  if f = 0 ∨ f = 1 then ⟨(pairs6 (nb n 5) (nb n 4) (nb n 3) (nb n 2) (nb n 1) (nb n 0)).toArray⟩
  else if f = 4 ∨ f = 5 then ⟨(dots (nb n 3) (nb n 2) (nb n 1) (nb n 0)).toArray⟩
  else ⟨(decDigits n).toArray⟩
def wdt : Nat → Nat
  | 0 => 48 | 1 => 48 | 2 => 16 | 3 => 12 | 4 => 32 | 5 => 32 | 6 => 8 | _ => 16
/-- a name, a sign, a number as words -/
abbrev tN (t : ByteArray) : Tk := ⟨1, t, 0⟩
abbrev tS (t : ByteArray) : Tk := ⟨3, t, 0⟩
abbrev tM (f n : Nat) : Tk := ⟨2, nbr f n, n⟩
def Tm.op : Tm → Nat
  | .mk op _ _ _ => op
mutual
def tks : Tm → List Tk
  | .mk op fd n ks =>
    if op = 0 then [tN Qfalse]
    else if op = 1 then [tN Qtrue]
    else if op = 2 ∨ op = 7 then [tN (fnm fd), tS (sgT op), tM fd n]
    else if op = 3 then tS Snot :: tkk 3 true ks
    else if op = 6 then tkF ks (tkk 6 true ks)
    else if op = 10 then tkk 10 true ks ++ [tS Sstar]
    else tkk op true ks
def tkk (op : Nat) (first : Bool) : List Tm → List Tk
  | [] => []
  | k :: ks => (if first = true then [] else [tS (sgT op)]) ++ (if ask op ≤ hld k.op then tks k else tS Slp :: (tks k ++ [tS Srp])) ++ tkk op false ks
/-- Filter: of Yes id, of No drop -/
def tkF : List Tm → List Tk → List Tk
  | [], r => tN Qfilter :: r
  | k :: _, r => if k.op = 1 then [tN Qid] else if k.op = 0 then [tN Qdrop] else tN Qfilter :: r
end
/-- a kid's words where it holds as tightly as asked -/
def tkA (a : Nat) (k : Tm) : List Tk := if a ≤ hld k.op then tks k else tS Slp :: (tks k ++ [tS Srp])
theorem tkk_one (op : Nat) (k : Tm) : tkk op true [k] = tkA (ask op) k := by
  rw [tkk, tkk]; simp [tkA]
theorem tkk_cons (op : Nat) (k : Tm) (ks : List Tm) : tkk op true (k :: ks) = tkA (ask op) k ++ tkk op false ks := by
  rw [tkk]; simp [tkA]
theorem tkk_more (op : Nat) (k : Tm) (ks : List Tm) : tkk op false (k :: ks) = tS (sgT op) :: (tkA (ask op) k ++ tkk op false ks) := by
  rw [tkk]; simp [tkA]
theorem tkk_nil (op : Nat) (b : Bool) : tkk op b [] = [] := by rw [tkk]
mutual
/-- which terms have words: b: predicates -/
def okT (b : Bool) : Tm → Bool
  | .mk op fd n ks =>
    (if b = true then decide (op ≤ 5) else decide (6 ≤ op) && decide (op ≤ 10)) &&
    (if op = 2 ∨ op = 7 then decide (fd ≤ 10) && decide (n < 2 ^ wdt fd) && ks.isEmpty
     else decide (fd = 0) && decide (n = 0) &&
      (if op ≤ 1 then ks.isEmpty else if op = 3 ∨ op = 6 ∨ op = 10 then decide (ks.length = 1) else decide (2 ≤ ks.length) && decide (ks.length ≤ 4096))) &&
    okK (decide (op ≤ 6)) ks
def okK (b : Bool) : List Tm → Bool
  | [] => true
  | k :: ks => okT b k && okK b ks
end
theorem okK_mem {b : Bool} : ∀ {ks : List Tm}, okK b ks = true → ∀ k ∈ ks, okT b k = true
  | [], _, k, hk => by cases hk
  | a :: ks, h, k, hk => by
    rw [okK, Bool.and_eq_true] at h
    rcases List.mem_cons.1 hk with rfl | hk
    · exact h.1
    · exact okK_mem h.2 k hk

/-- words that stand in a list from a place on -/
def At (l : List Wd) (i : Nat) (ts : List Tk) : Prop := ∀ j (h : j < ts.length), tkOf (wat l (i + j)) = ts[j]
section
variable {l : List Wd}
theorem At.left {i : Nat} {a b : List Tk} (h : At l i (a ++ b)) : At l i a := fun j hj => by
  rw [h j (by rw [List.length_append]; omega), List.getElem_append_left hj]
theorem At.right {i : Nat} {a b : List Tk} (h : At l i (a ++ b)) : At l (i + a.length) b := fun j hj => by
  rw [Nat.add_assoc, h _ (by rw [List.length_append]; omega), List.getElem_append_right (by omega)]
  congr 1; omega
theorem At.hd {i : Nat} {x : Tk} {b : List Tk} (h : At l i (x :: b)) : tkOf (wat l i) = x := h 0 (by simp)
theorem At.tl {i : Nat} {x : Tk} {b : List Tk} (h : At l i (x :: b)) : At l (i + 1) b := At.right (a := [x]) h
theorem At.t {i : Nat} {x : Tk} {b : List Tk} (h : At l i (x :: b)) : (wat l i).t = x.t := congrArg Tk.t h.hd
theorem At.k {i : Nat} {x : Tk} {b : List Tk} (h : At l i (x :: b)) : (wat l i).k = x.k := congrArg Tk.k h.hd
theorem At.n {i : Nat} {x : Tk} {b : List Tk} (h : At l i (x :: b)) : (wat l i).n = x.n := congrArg Tk.n h.hd
theorem At.tk {i : Nat} {x : Tk} {b : List Tk} (h : At l i (x :: b)) (q : ByteArray) : tk l i q = decide (x.t = q) := by unfold YtoncogkamlgjhaaGreatDoor.tk; rw [h.t]
/-- what stands at a place is none of those -/
def Nx (l : List Wd) (i : Nat) (qs : List ByteArray) : Prop := ∀ q ∈ qs, tk l i q = false
theorem Nx.sub {i : Nat} {a b : List ByteArray} (h : Nx l i a) (hs : ∀ q ∈ b, q ∈ a) : Nx l i b := fun q hq => h q (hs q hq)
theorem At.nx {i : Nat} {x : Tk} {b : List Tk} (h : At l i (x :: b)) {qs : List ByteArray} (hq : ∀ q ∈ qs, x.t ≠ q) : Nx l i qs := fun q hm => by rw [h.tk]; exact decide_eq_false (hq q hm)
theorem jn_no {op : Nat} {sg : ByteArray} {part : Nat → Rd Tm} {i j : Nat} {t : Tm} (h : part i = .ok t j) (hs : tk l j sg = false) : jn l op sg part i = .ok t j := by
  unfold jn; rw [h]; show (if _ then _ else _) = _; rw [if_neg (by rw [hs]; decide)]
/-- parts, one behind the other -/
theorem jnL_tks {sg : ByteArray} {part : Nat → Rd Tm} {a : Nat} {op : Nat} (hsg : sgT op = sg) {nx : Nat → Prop} : ∀ (ks : List Tm) (f i : Nat) (acc : List Tm), (∀ k ∈ ks, ∀ i, At l i (tkA a k) → nx (i + (tkA a k).length) → part i = .ok k (i + (tkA a k).length)) → ask op = a → At l i (tkk op false ks) → (tkk op false ks).length ≤ f → (∀ i, tk l i sg = true → nx i) → nx (i + (tkk op false ks).length) → tk l (i + (tkk op false ks).length) sg = false → jnL l sg part f i acc = .ok (acc ++ ks) (i + (tkk op false ks).length)
  | [], f, i, acc, _, _, _, hf, _, _, hs => by
    rw [tkk_nil] at hs ⊢
    rw [List.append_nil]
    cases f with
    | zero => rfl
    | succ f => rw [jnL, if_neg (by rw [List.length_nil, Nat.add_zero] at hs; rw [hs]; decide)]; rfl
  | k :: ks, f, i, acc, hp, ha, hA, hf, hn, hx, hs => by
    rw [tkk_more, ha] at hA hf hx hs ⊢
    have h1 := hA.tl.left
    have h2 := hA.tl.right
    have ht : tk l i sg = true := by rw [hA.tk, hsg]; exact decide_eq_true rfl
    rw [List.length_cons, List.length_append] at hf
    obtain ⟨f, rfl⟩ : ∃ g, f = g + 1 := ⟨f - 1, by omega⟩
    have hN : nx (i + 1 + (tkA a k).length) := by
      cases ks with
      | nil => rw [tkk_nil, List.append_nil, List.length_cons] at hx; rw [show i + 1 + (tkA a k).length = i + ((tkA a k).length + 1) by omega]; exact hx
      | cons k2 ks =>
        rw [tkk_more] at h2
        exact hn _ (by rw [h2.tk, hsg]; exact decide_eq_true rfl)
    rw [jnL, if_pos ht, hp k (List.mem_cons_self ..) (i + 1) h1 hN]
    have e : i + (tS (sgT op) :: (tkA a k ++ tkk op false ks)).length = i + 1 + (tkA a k).length + (tkk op false ks).length := by rw [List.length_cons, List.length_append]; omega
    rw [e] at hx hs ⊢
    have := jnL_tks hsg ks f (i + 1 + (tkA a k).length) (acc ++ [k]) (fun k' hk' => hp k' (List.mem_cons_of_mem _ hk')) ha h2 (by omega) hn hx hs
    show jnL l sg part f (i + 1 + (tkA a k).length) (acc ++ [k]) = _
    rw [this]; simp
theorem jn_tks {sg : ByteArray} {part : Nat → Rd Tm} {a : Nat} {op : Nat} (hsg : sgT op = sg) {nx : Nat → Prop} {k1 k2 : Tm} {ks : List Tm} {i : Nat} (hp : ∀ k ∈ k1 :: k2 :: ks, ∀ i, At l i (tkA a k) → nx (i + (tkA a k).length) → part i = .ok k (i + (tkA a k).length)) (ha : ask op = a) (hA : At l i (tkk op true (k1 :: k2 :: ks))) (hf : (tkk op true (k1 :: k2 :: ks)).length ≤ l.length) (hn : ∀ i, tk l i sg = true → nx i) (hx : nx (i + (tkk op true (k1 :: k2 :: ks)).length)) (hs : tk l (i + (tkk op true (k1 :: k2 :: ks)).length) sg = false) : jn l op sg part i = .ok (ov op (k1 :: k2 :: ks)) (i + (tkk op true (k1 :: k2 :: ks)).length) := by
  rw [tkk_cons, ha] at hA hf hx hs ⊢
  have h1 := hA.left
  have h2 := hA.right
  have ht : tk l (i + (tkA a k1).length) sg = true := by
    rw [tkk_more] at h2
    rw [h2.tk, hsg]; exact decide_eq_true rfl
  rw [List.length_append] at hf
  have e : i + (tkA a k1 ++ tkk op false (k2 :: ks)).length = i + (tkA a k1).length + (tkk op false (k2 :: ks)).length := by rw [List.length_append]; omega
  rw [e] at hx hs ⊢
  have := jnL_tks hsg (k2 :: ks) l.length (i + (tkA a k1).length) [k1] (fun k hk => hp k (List.mem_cons_of_mem _ hk)) ha h2 (by omega) hn hx hs
  unfold jn
  rw [hp k1 (List.mem_cons_self ..) i h1 (hn _ ht)]
  show (if _ then _ else _) = _
  rw [if_pos ht, this]
  rfl
/-! predicates -/
abbrev nA : List ByteArray := [Sand]
abbrev nP : List ByteArray := [Sand, Sor]
/-- read at each of the levels -/
def RdN (l : List Wd) (t : Tm) : Prop := ∀ i m, At l i (tks t) → (tks t).length ≤ m → i + (tks t).length < l.length → (ps l m).nt i = .ok t (i + (tks t).length)
def RdA (l : List Wd) (t : Tm) : Prop := ∀ i m, At l i (tks t) → (tks t).length ≤ m → i + (tks t).length < l.length → Nx l (i + (tks t).length) nA → andF l (ps l m).nt i = .ok t (i + (tks t).length)
def RdPp (l : List Wd) (t : Tm) : Prop := ∀ i m, At l i (tks t) → (tks t).length ≤ m → i + (tks t).length < l.length → Nx l (i + (tks t).length) nP → predF l (ps l m).nt i = .ok t (i + (tks t).length)
structure PdR (l : List Wd) (t : Tm) : Prop where
  n : 2 ≤ hld t.op → RdN l t
  a : 1 ≤ hld t.op → RdA l t
  p : RdPp l t
theorem PdR.ofN {t : Tm} (h : RdN l t) : PdR l t :=
  have ha : RdA l t := fun i m h1 h2 h3 h4 => jn_no (h i m h1 h2 h3) (h4 _ (by simp))
  ⟨fun _ => h, fun _ => ha, fun i m h1 h2 h3 h4 => jn_no (ha i m h1 h2 h3 (h4.sub (by simp))) (h4 _ (by simp))⟩
theorem PdR.ofA {t : Tm} (h1 : hld t.op < 2) (ha : RdA l t) : PdR l t :=
  ⟨fun h => by omega, fun _ => ha, fun i m h1 h2 h3 h4 => jn_no (ha i m h1 h2 h3 (h4.sub (by simp))) (h4 _ (by simp))⟩
theorem ps_pos {m : Nat} (h : 0 < m) : ∃ n, m = n + 1 := ⟨m - 1, by omega⟩
theorem pred_eq {m : Nat} (h : 0 < m) : (ps l m).pred = predF l (ps l m).nt := by
  obtain ⟨n, rfl⟩ := ps_pos h
  rfl
/-- in brackets -/
theorem nt_brk {t : Tm} (h : PdR l t) {i m : Nat} (hA : At l i (tS Slp :: (tks t ++ [tS Srp]))) (hm : (tks t).length + 2 ≤ m) (hl : i + ((tks t).length + 2) < l.length) : (ps l m).nt i = .ok t (i + ((tks t).length + 2)) := by
  obtain ⟨n, rfl⟩ := ps_pos (m := m) (by omega)
  have h2 := hA.tl.left
  have h3 := hA.tl.right
  have hr : predF l (ps l n).nt (i + 1) = .ok t (i + 1 + (tks t).length) := h.p (i + 1) n h2 (by omega) (by omega) (h3.nx (by decide))
  show notF l (ps l n).pred (ps l n).nt i = _
  unfold notF
  rw [hA.tk, hA.tk, hA.tk, hA.tk, if_neg (by decide), if_neg (by decide), if_neg (by decide), if_pos (by decide), pred_eq (by omega), hr]
  show (if _ then _ else _) = _
  rw [h3.tk, if_pos (by decide)]
  congr 1
  omega
theorem tkA_nt {t : Tm} (h : PdR l t) {i m : Nat} (hA : At l i (tkA 2 t)) (hm : (tkA 2 t).length ≤ m) (hl : i + (tkA 2 t).length < l.length) : (ps l m).nt i = .ok t (i + (tkA 2 t).length) := by
  unfold tkA at hA hm hl ⊢
  split at hA
  · rename_i hh
    rw [if_pos hh] at hm hl ⊢
    exact h.n hh i m hA hm hl
  · rename_i hh
    rw [if_neg hh] at hm hl ⊢
    have e : (tS Slp :: (tks t ++ [tS Srp])).length = (tks t).length + 2 := by simp
    rw [e] at hm hl ⊢
    exact nt_brk h hA hm hl
theorem tkA_and {t : Tm} (h : PdR l t) {i m : Nat} (hA : At l i (tkA 1 t)) (hm : (tkA 1 t).length ≤ m) (hl : i + (tkA 1 t).length < l.length) (hx : Nx l (i + (tkA 1 t).length) nA) : andF l (ps l m).nt i = .ok t (i + (tkA 1 t).length) := by
  unfold tkA at hA hm hl hx ⊢
  split at hA
  · rename_i hh
    rw [if_pos hh] at hm hl hx ⊢
    exact h.a hh i m hA hm hl hx
  · rename_i hh
    rw [if_neg hh] at hm hl hx ⊢
    have e : (tS Slp :: (tks t ++ [tS Srp])).length = (tks t).length + 2 := by simp
    rw [e] at hm hl hx ⊢
    exact jn_no (nt_brk h hA hm hl) (hx _ (by simp))

theorem fnm_ok : ∀ f : Fin 11, fdOf (fnm f.val) = some f.val ∧ ∀ q ∈ [Snot, Qtrue, Qfalse, Slp, Qfilter, Qid, Qdrop, Qif], fnm f.val ≠ q := by decide
theorem fnm_fd {f : Nat} (h : f ≤ 10) : fdOf (fnm f) = some f ∧ ∀ q ∈ [Snot, Qtrue, Qfalse, Slp, Qfilter, Qid, Qdrop, Qif], fnm f ≠ q := fnm_ok ⟨f, by omega⟩
theorem tk_in {i : Nat} {q : ByteArray} (hq : q ≠ ⟨#[]⟩) (h : YtoncogkamlgjhaaGreatDoor.tk l i q = true) : i < l.length := by
  rcases Nat.lt_or_ge i l.length with h1 | h1
  · exact h1
  · unfold YtoncogkamlgjhaaGreatDoor.tk wat at h
    rw [List.getD_eq_getElem?_getD, List.getElem?_eq_none h1] at h
    exact absurd (of_decide_eq_true h).symm hq
theorem tkk_le {op : Nat} {k : Tm} : ∀ {b : Bool} {ks : List Tm}, k ∈ ks → (tkA (ask op) k).length ≤ (tkk op b ks).length
  | b, [], h => by cases h
  | b, a :: ks, h => by
    have e : (tkA (ask op) a).length + (tkk op false ks).length ≤ (tkk op b (a :: ks)).length := by
      cases b with
      | true => rw [tkk_cons, List.length_append]; omega
      | false => rw [tkk_more, List.length_cons, List.length_append]; omega
    rcases List.mem_cons.1 h with rfl | h
    · omega
    · have := tkk_le (op := op) (b := false) h; omega
theorem pairT_ok {op f n i : Nat} {sg : ByteArray} {r : List Tk} (hf : f ≤ 10) (hA : At l i (tN (fnm f) :: tS sg :: tM f n :: r)) : pair l op sg i = .ok (.mk op f n []) (i + 3) := by
  unfold pair
  rw [hA.t, (fnm_fd hf).1]
  show (if tk l (i + 1) sg = true then _ else _) = _
  rw [hA.tl.tk, if_pos (decide_eq_true rfl)]
  have := hA.tl.tl
  rw [show i + 1 + 1 = i + 2 from rfl] at this
  rw [this.k, if_pos rfl, this.n]
/-- what a term is like that has words -/
theorem okT_shape {b : Bool} {op fd n : Nat} {ks : List Tm} (h : okT b (.mk op fd n ks) = true) : (b = true ∧ op ≤ 5 ∨ b = false ∧ 6 ≤ op ∧ op ≤ 10) ∧ okK (decide (op ≤ 6)) ks = true ∧
    ((op = 2 ∨ op = 7) ∧ fd ≤ 10 ∧ n < 2 ^ wdt fd ∧ ks = [] ∨ fd = 0 ∧ n = 0 ∧ (op ≤ 1 ∧ ks = [] ∨ (op = 3 ∨ op = 6 ∨ op = 10) ∧ (∃ k, ks = [k]) ∨ (op = 4 ∨ op = 5 ∨ op = 8 ∨ op = 9) ∧ ∃ k1 k2 r, ks = k1 :: k2 :: r)) := by
  rw [okT] at h
  simp only [Bool.and_eq_true] at h
  obtain ⟨⟨h1, h2⟩, h3⟩ := h
  have h1' : b = true ∧ op ≤ 5 ∨ b = false ∧ 6 ≤ op ∧ op ≤ 10 := by
    cases b <;> simp at h1 <;> simp <;> omega
  refine ⟨h1', h3, ?_⟩
  split at h2
  · rename_i ho
    simp only [Bool.and_eq_true, decide_eq_true_eq, List.isEmpty_iff] at h2
    exact Or.inl ⟨ho, h2.1.1, h2.1.2, h2.2⟩
  · rename_i ho
    simp only [Bool.and_eq_true, decide_eq_true_eq] at h2
    refine Or.inr ⟨h2.1.1, h2.1.2, ?_⟩
    have h4 := h2.2
    split at h4
    · rename_i hp; exact Or.inl ⟨hp, by simpa using h4⟩
    · split at h4
      · rename_i hp
        simp only [decide_eq_true_eq] at h4
        obtain ⟨k, hk⟩ := List.length_eq_one_iff.1 h4
        exact Or.inr (Or.inl ⟨hp, k, hk⟩)
      · simp only [Bool.and_eq_true, decide_eq_true_eq] at h4
        refine Or.inr (Or.inr ⟨by rcases h1' with h | h <;> omega, ?_⟩)
        match ks, h4 with
        | k1 :: k2 :: r, _ => exact ⟨k1, k2, r, rfl⟩
        | [_], h4 => simp at h4
        | [], h4 => simp at h4
mutual
theorem pd_all (l : List Wd) : ∀ t : Tm, okT true t = true → PdR l t
  | .mk op fd n ks, h => by
    obtain ⟨h1, h2, h3⟩ := okT_shape h
    have hop : op ≤ 5 := by rcases h1 with h | h; exact h.2; exact absurd h.1 (by decide)
    have hK : ∀ k ∈ ks, PdR l k := by
      rw [decide_eq_true (by omega)] at h2
      exact pd_list l ks h2
    rcases h3 with ⟨ho, hf, hn, rfl⟩ | ⟨rfl, rfl, ⟨ho, rfl⟩ | ⟨ho, k, rfl⟩ | ⟨ho, k1, k2, r, rfl⟩⟩
    · obtain rfl : op = 2 := by omega
      refine PdR.ofN fun i m hA hm hl => ?_
      have e : tks (.mk 2 fd n []) = [tN (fnm fd), tS Seq, tM fd n] := by rw [tks]; rfl
      rw [e] at hA hm hl ⊢
      obtain ⟨q, rfl⟩ := ps_pos (m := m) (by simp at hm; omega)
      show notF l (ps l q).pred (ps l q).nt i = _
      have hne := (fnm_fd hf).2
      unfold notF
      rw [hA.tk, hA.tk, hA.tk, hA.tk, if_neg (by rw [decide_eq_false (hne _ (by simp))]; decide), if_neg (by rw [decide_eq_false (hne _ (by simp))]; decide), if_neg (by rw [decide_eq_false (hne _ (by simp))]; decide), if_neg (by rw [decide_eq_false (hne _ (by simp))]; decide)]
      exact pairT_ok hf hA
    · have : op = 0 ∨ op = 1 := by omega
      rcases this with rfl | rfl
      · refine PdR.ofN fun i m hA hm hl => ?_
        have e : tks (.mk 0 0 0 []) = [tN Qfalse] := by rw [tks]; rfl
        rw [e] at hA hm hl ⊢
        obtain ⟨q, rfl⟩ := ps_pos (m := m) (by simp at hm; omega)
        show notF l (ps l q).pred (ps l q).nt i = _
        unfold notF
        rw [hA.tk, hA.tk, hA.tk, if_neg (by decide), if_neg (by decide), if_pos (by decide)]
        rfl
      · refine PdR.ofN fun i m hA hm hl => ?_
        have e : tks (.mk 1 0 0 []) = [tN Qtrue] := by rw [tks]; rfl
        rw [e] at hA hm hl ⊢
        obtain ⟨q, rfl⟩ := ps_pos (m := m) (by simp at hm; omega)
        show notF l (ps l q).pred (ps l q).nt i = _
        unfold notF
        rw [hA.tk, hA.tk, if_neg (by decide), if_pos (by decide)]
        rfl
    · obtain rfl : op = 3 := by omega
      refine PdR.ofN fun i m hA hm hl => ?_
      have e : tks (.mk 3 0 0 [k]) = tS Snot :: tkA 2 k := by rw [tks, tkk_one]; rfl
      rw [e] at hA hm hl ⊢
      rw [List.length_cons] at hm hl ⊢
      obtain ⟨q, rfl⟩ := ps_pos (m := m) (by omega)
      show notF l (ps l q).pred (ps l q).nt i = _
      unfold notF
      rw [hA.tk, if_pos (by decide), tkA_nt (hK k (by simp)) hA.tl (by omega) (by omega)]
      show Rd.ok (ov 3 [k]) _ = _
      congr 1; omega
    · have : op = 4 ∨ op = 5 := by omega
      rcases this with rfl | rfl
      · refine PdR.ofA (show 1 < 2 by decide) fun i m hA hm hl hx => ?_
        have e : tks (.mk 4 0 0 (k1 :: k2 :: r)) = tkk 4 true (k1 :: k2 :: r) := by rw [tks]; rfl
        rw [e] at hA hm hl hx ⊢
        have hp : ∀ k ∈ k1 :: k2 :: r, ∀ i, At l i (tkA 2 k) → i + (tkA 2 k).length < l.length → (ps l m).nt i = .ok k (i + (tkA 2 k).length) := fun k hk i h1 h2 =>
          tkA_nt (hK k hk) h1 (by have := tkk_le (op := 4) (b := true) hk; rw [show ask 4 = 2 from rfl] at this; omega) h2
        exact jn_tks (l := l) (op := 4) (sg := Sand) rfl (nx := fun q => q < l.length) hp rfl hA (by omega) (fun i h => tk_in (by decide) h) hl (hx _ (by simp))
      · refine ⟨fun h => absurd h (show ¬ 2 ≤ 0 by decide), fun h => absurd h (show ¬ 1 ≤ 0 by decide), fun i m hA hm hl hx => ?_⟩
        have e : tks (.mk 5 0 0 (k1 :: k2 :: r)) = tkk 5 true (k1 :: k2 :: r) := by rw [tks]; rfl
        rw [e] at hA hm hl hx ⊢
        have hp : ∀ k ∈ k1 :: k2 :: r, ∀ i, At l i (tkA 1 k) → (i + (tkA 1 k).length < l.length ∧ Nx l (i + (tkA 1 k).length) nA) → andF l (ps l m).nt i = .ok k (i + (tkA 1 k).length) := fun k hk i h1 h2 =>
          tkA_and (hK k hk) h1 (by have := tkk_le (op := 5) (b := true) hk; rw [show ask 5 = 1 from rfl] at this; omega) h2.1 h2.2
        exact jn_tks (l := l) (op := 5) (sg := Sor) rfl (nx := fun q => q < l.length ∧ Nx l q nA) hp rfl hA (by omega) (fun i h => ⟨tk_in (by decide) h, fun q hq => by
          obtain rfl : q = Sand := by simpa using hq
          unfold YtoncogkamlgjhaaGreatDoor.tk at h ⊢
          rw [of_decide_eq_true h]; decide⟩) ⟨hl, hx.sub (by simp)⟩ (hx _ (by simp))
theorem pd_list (l : List Wd) : ∀ ks : List Tm, okK true ks = true → ∀ k ∈ ks, PdR l k
  | [], _, k, hk => by cases hk
  | a :: ks, h, k, hk => by
    rw [okK, Bool.and_eq_true] at h
    rcases List.mem_cons.1 hk with e | hk
    · rw [e]; exact pd_all l a h.1
    · exact pd_list l ks h.2 k hk
end
/-! policies -/
abbrev nS : List ByteArray := [Sand, Sor, Sstar]
abbrev nQ : List ByteArray := [Sand, Sor, Sstar, Ssemi]
abbrev nU : List ByteArray := [Sand, Sor, Sstar, Ssemi, Splus]
abbrev atm (l : List Wd) (n : Nat) : Nat → Rd Tm := atomF l (ps l n).pol (ps l n).pred
def RdS (l : List Wd) (t : Tm) : Prop := ∀ i n, At l i (tks t) → (tks t).length ≤ n → i + (tks t).length < l.length → Nx l (i + (tks t).length) nS → starF l (atm l n) i = .ok t (i + (tks t).length)
def RdQ (l : List Wd) (t : Tm) : Prop := ∀ i n, At l i (tks t) → (tks t).length ≤ n → i + (tks t).length < l.length → Nx l (i + (tks t).length) nQ → seqF l (atm l n) i = .ok t (i + (tks t).length)
def RdU (l : List Wd) (t : Tm) : Prop := ∀ i n, At l i (tks t) → (tks t).length ≤ n → i + (tks t).length < l.length → Nx l (i + (tks t).length) nU → polF l (atm l n) i = .ok t (i + (tks t).length)
structure UoR (l : List Wd) (t : Tm) : Prop where
  s : 2 ≤ hld t.op → RdS l t
  q : 1 ≤ hld t.op → RdQ l t
  u : RdU l t
theorem UoR.ofS {t : Tm} (h : RdS l t) : UoR l t :=
  have hq : RdQ l t := fun i m h1 h2 h3 h4 => jn_no (h i m h1 h2 h3 (h4.sub (by simp))) (h4 _ (by simp))
  ⟨fun _ => h, fun _ => hq, fun i m h1 h2 h3 h4 => jn_no (hq i m h1 h2 h3 (h4.sub (by simp))) (h4 _ (by simp))⟩
theorem UoR.ofQ {t : Tm} (h1 : hld t.op < 2) (hq : RdQ l t) : UoR l t :=
  ⟨fun h => by omega, fun _ => hq, fun i m h1 h2 h3 h4 => jn_no (hq i m h1 h2 h3 (h4.sub (by simp))) (h4 _ (by simp))⟩
theorem star_no {n i j : Nat} {t : Tm} (h : atm l n i = .ok t j) (hj : j < l.length) (hs : YtoncogkamlgjhaaGreatDoor.tk l j Sstar = false) : starF l (atm l n) i = .ok t j := by
  unfold starF
  rw [h]
  show starL l l.length j t = _
  obtain ⟨f, hf⟩ := ps_pos (m := l.length) (by omega)
  rw [hf, starL, if_neg (by rw [hs]; decide)]
theorem at_brk {t : Tm} (h : UoR l t) {i n : Nat} {r : List Tk} (hA : At l i (tS Slp :: (tks t ++ tS Srp :: r))) (hm : (tks t).length + 2 ≤ n) (hl : i + ((tks t).length + 2) < l.length) : atm l n i = .ok t (i + ((tks t).length + 2)) := by
  obtain ⟨q, rfl⟩ := ps_pos (m := n) (by omega)
  have h2 := hA.tl.left
  have h3 := hA.tl.right
  have hr : (ps l (q + 1)).pol (i + 1) = .ok t (i + 1 + (tks t).length) := h.u (i + 1) q h2 (by omega) (by omega) (h3.nx (by decide))
  show atomF l (ps l (q + 1)).pol (ps l (q + 1)).pred i = _
  unfold atomF
  rw [hA.tk, hA.tk, hA.tk, hA.tk, hA.tk, if_neg (by decide), if_neg (by decide), if_neg (by decide), if_neg (by decide), if_pos (by decide), hr]
  show (if _ then _ else _) = _
  rw [h3.tk, if_pos (by decide)]
  congr 1
  omega
theorem tkA_star {t : Tm} (h : UoR l t) {i n : Nat} (hA : At l i (tkA 2 t)) (hm : (tkA 2 t).length ≤ n) (hl : i + (tkA 2 t).length < l.length) (hx : Nx l (i + (tkA 2 t).length) nS) : starF l (atm l n) i = .ok t (i + (tkA 2 t).length) := by
  unfold tkA at hA hm hl hx ⊢
  split at hA
  · rename_i hh
    rw [if_pos hh] at hm hl hx ⊢
    exact h.s hh i n hA hm hl hx
  · rename_i hh
    rw [if_neg hh] at hm hl hx ⊢
    have e : (tS Slp :: (tks t ++ [tS Srp])).length = (tks t).length + 2 := by simp
    rw [e] at hm hl hx ⊢
    exact star_no (at_brk h hA hm hl) hl (hx _ (by simp))
theorem tkA_seq {t : Tm} (h : UoR l t) {i n : Nat} (hA : At l i (tkA 1 t)) (hm : (tkA 1 t).length ≤ n) (hl : i + (tkA 1 t).length < l.length) (hx : Nx l (i + (tkA 1 t).length) nQ) : seqF l (atm l n) i = .ok t (i + (tkA 1 t).length) := by
  unfold tkA at hA hm hl hx ⊢
  split at hA
  · rename_i hh
    rw [if_pos hh] at hm hl hx ⊢
    exact h.q hh i n hA hm hl hx
  · rename_i hh
    rw [if_neg hh] at hm hl hx ⊢
    have e : (tS Slp :: (tks t ++ [tS Srp])).length = (tks t).length + 2 := by simp
    rw [e] at hm hl hx ⊢
    exact jn_no (star_no (at_brk h hA hm hl) hl (hx _ (by simp))) (hx _ (by simp))
theorem okT_hld {k : Tm} (h : okT false k = true) : hld k.op ≤ 2 := by
  obtain ⟨op, fd, n, ks⟩ := k
  obtain ⟨h1, -, -⟩ := okT_shape h
  have : op = 6 ∨ op = 7 ∨ op = 8 ∨ op = 9 ∨ op = 10 := by rcases h1 with h | h; exact absurd h.1 (by decide); omega
  rcases this with rfl | rfl | rfl | rfl | rfl
  · exact show 2 ≤ 2 by decide
  · exact show 2 ≤ 2 by decide
  · exact show 0 ≤ 2 by decide
  · exact show 1 ≤ 2 by decide
  · exact show 2 ≤ 2 by decide
mutual
theorem po_all (l : List Wd) : ∀ t : Tm, okT false t = true → UoR l t
  | .mk op fd n ks, h => by
    obtain ⟨h1, h2, h3⟩ := okT_shape h
    have hop : 6 ≤ op ∧ op ≤ 10 := by rcases h1 with h | h; exact absurd h.1 (by decide); exact h.2
    rcases h3 with ⟨ho, hf, hn, rfl⟩ | ⟨rfl, rfl, ⟨ho, rfl⟩ | ⟨ho, k, rfl⟩ | ⟨ho, k1, k2, r, rfl⟩⟩
    · obtain rfl : op = 7 := by omega
      refine UoR.ofS fun i m hA hm hl hx => ?_
      have e : tks (.mk 7 fd n []) = [tN (fnm fd), tS Sset, tM fd n] := by rw [tks]; rfl
      rw [e] at hA hm hl hx ⊢
      have hne := (fnm_fd hf).2
      refine star_no ?_ hl (hx _ (by simp))
      show atomF l (ps l m).pol (ps l m).pred i = _
      unfold atomF
      rw [hA.tk, hA.tk, hA.tk, hA.tk, hA.tk, if_neg (by rw [decide_eq_false (hne _ (by simp))]; decide), if_neg (by rw [decide_eq_false (hne _ (by simp))]; decide), if_neg (by rw [decide_eq_false (hne _ (by simp))]; decide), if_neg (by rw [decide_eq_false (hne _ (by simp))]; decide), if_neg (by rw [decide_eq_false (hne _ (by simp))]; decide)]
      exact pairT_ok hf hA
    · omega
    · have : op = 6 ∨ op = 10 := by omega
      rcases this with rfl | rfl
      · have hk : okT true k = true := by rw [okK, Bool.and_eq_true] at h2; exact h2.1
        have hP := pd_all l k hk
        refine UoR.ofS fun i m hA hm hl hx => ?_
        have e : tks (.mk 6 0 0 [k]) = if k.op = 1 then [tN Qid] else if k.op = 0 then [tN Qdrop] else tN Qfilter :: tks k := by
          rw [tks, if_neg (by decide), if_neg (by decide), if_neg (by decide), if_neg (by decide), if_pos rfl, tkk_one, show tkA (ask 6) k = tks k from if_pos (Nat.zero_le _), tkF]
        have hyes : k.op = 1 → k = ov 1 [] := fun e => by
          obtain ⟨o, f, n, q⟩ := k
          obtain rfl : o = 1 := e
          obtain ⟨-, -, h | ⟨rfl, rfl, ⟨-, rfl⟩ | ⟨h, -⟩ | ⟨h, -⟩⟩⟩ := okT_shape hk
          · omega
          · rfl
          · omega
          · omega
        have hno : k.op = 0 → k = ov 0 [] := fun e => by
          obtain ⟨o, f, n, q⟩ := k
          obtain rfl : o = 0 := e
          obtain ⟨-, -, h | ⟨rfl, rfl, ⟨-, rfl⟩ | ⟨h, -⟩ | ⟨h, -⟩⟩⟩ := okT_shape hk
          · omega
          · rfl
          · omega
          · omega
        rw [e] at hA hm hl hx ⊢
        split at hA
        · rename_i c
          rw [if_pos c] at hm hl hx ⊢
          refine star_no ?_ hl (hx _ (by simp))
          show atomF l (ps l m).pol (ps l m).pred i = _
          unfold atomF
          rw [hA.tk, hA.tk, if_neg (by decide), if_pos (by decide), hyes c]
          rfl
        · rename_i c
          rw [if_neg c] at hm hl hx ⊢
          split at hA
          · rename_i c
            rw [if_pos c] at hm hl hx ⊢
            refine star_no ?_ hl (hx _ (by simp))
            show atomF l (ps l m).pol (ps l m).pred i = _
            unfold atomF
            rw [hA.tk, hA.tk, hA.tk, if_neg (by decide), if_neg (by decide), if_pos (by decide), hno c]
            rfl
          · rename_i c
            rw [if_neg c] at hm hl hx ⊢
            rw [List.length_cons] at hm hl hx ⊢
            have ei : i + ((tks k).length + 1) = i + 1 + (tks k).length := by omega
            rw [ei] at hl hx ⊢
            refine star_no ?_ hl (hx _ (by simp))
            show atomF l (ps l m).pol (ps l m).pred i = _
            unfold atomF
            rw [hA.tk, if_pos (by decide), pred_eq (by omega), hP.p (i + 1) m hA.tl (by omega) hl (hx.sub (by simp))]
            rfl
      · have hk : okT false k = true := by rw [okK, Bool.and_eq_true] at h2; exact h2.1
        have hP := po_all l k hk
        refine UoR.ofS fun i m hA hm hl hx => ?_
        have e : tks (.mk 10 0 0 [k]) = tS Slp :: (tks k ++ tS Srp :: [tS Sstar]) := by
          rw [tks, if_neg (by decide), if_neg (by decide), if_neg (by decide), if_neg (by decide), if_neg (by decide), if_pos rfl, tkk_one, show tkA (ask 10) k = tS Slp :: (tks k ++ [tS Srp]) from if_neg (by have := okT_hld hk; show ¬ 3 ≤ _; omega)]
          simp
        rw [e] at hA hm hl hx ⊢
        have el : (tS Slp :: (tks k ++ tS Srp :: [tS Sstar])).length = (tks k).length + 3 := by simp
        rw [el] at hm hl hx ⊢
        have hb := at_brk (l := l) hP hA (n := m) (by omega) (by omega)
        have h5 := hA.tl.right.tl
        unfold starF
        rw [hb]
        show starL l l.length _ k = _
        obtain ⟨f, hf⟩ : ∃ f, l.length = f + 1 + 1 := ⟨l.length - 2, by omega⟩
        have e2 : i + ((tks k).length + 2) = i + 1 + (tks k).length + 1 := by omega
        rw [hf, starL, e2, h5.tk, if_pos (by decide), starL, show i + 1 + (tks k).length + 1 + 1 = i + ((tks k).length + 3) by omega, if_neg (by rw [hx _ (by simp)]; decide)]
    · have hK : ∀ k ∈ k1 :: k2 :: r, UoR l k := by
        rw [decide_eq_false (by omega)] at h2
        exact po_list l _ h2
      have : op = 8 ∨ op = 9 := by omega
      rcases this with rfl | rfl
      · refine ⟨fun h => absurd h (show ¬ 2 ≤ 0 by decide), fun h => absurd h (show ¬ 1 ≤ 0 by decide), fun i m hA hm hl hx => ?_⟩
        have e : tks (.mk 8 0 0 (k1 :: k2 :: r)) = tkk 8 true (k1 :: k2 :: r) := by rw [tks]; rfl
        rw [e] at hA hm hl hx ⊢
        have hp : ∀ k ∈ k1 :: k2 :: r, ∀ i, At l i (tkA 1 k) → (i + (tkA 1 k).length < l.length ∧ Nx l (i + (tkA 1 k).length) nQ) → seqF l (atm l m) i = .ok k (i + (tkA 1 k).length) := fun k hk i h1 h2 =>
          tkA_seq (hK k hk) h1 (by have := tkk_le (op := 8) (b := true) hk; rw [show ask 8 = 1 from rfl] at this; omega) h2.1 h2.2
        exact jn_tks (l := l) (op := 8) (sg := Splus) rfl (nx := fun q => q < l.length ∧ Nx l q nQ) hp rfl hA (by omega) (fun i h => ⟨tk_in (by decide) h, fun q hq => by
          unfold YtoncogkamlgjhaaGreatDoor.tk at h ⊢
          rw [of_decide_eq_true h]
          revert q
          decide⟩) ⟨hl, hx.sub (by simp)⟩ (hx _ (by simp))
      · refine UoR.ofQ (show 1 < 2 by decide) fun i m hA hm hl hx => ?_
        have e : tks (.mk 9 0 0 (k1 :: k2 :: r)) = tkk 9 true (k1 :: k2 :: r) := by rw [tks]; rfl
        rw [e] at hA hm hl hx ⊢
        have hp : ∀ k ∈ k1 :: k2 :: r, ∀ i, At l i (tkA 2 k) → (i + (tkA 2 k).length < l.length ∧ Nx l (i + (tkA 2 k).length) nS) → starF l (atm l m) i = .ok k (i + (tkA 2 k).length) := fun k hk i h1 h2 =>
          tkA_star (hK k hk) h1 (by have := tkk_le (op := 9) (b := true) hk; rw [show ask 9 = 2 from rfl] at this; omega) h2.1 h2.2
        exact jn_tks (l := l) (op := 9) (sg := Ssemi) rfl (nx := fun q => q < l.length ∧ Nx l q nS) hp rfl hA (by omega) (fun i h => ⟨tk_in (by decide) h, fun q hq => by
          unfold YtoncogkamlgjhaaGreatDoor.tk at h ⊢
          rw [of_decide_eq_true h]
          revert q
          decide⟩) ⟨hl, hx.sub (by simp)⟩ (hx _ (by simp))
theorem po_list (l : List Wd) : ∀ ks : List Tm, okK false ks = true → ∀ k ∈ ks, UoR l k
  | [], _, k, hk => by cases hk
  | a :: ks, h, k, hk => by
    rw [okK, Bool.and_eq_true] at h
    rcases List.mem_cons.1 hk with e | hk
    · rw [e]; exact po_all l a h.1
    · exact po_list l ks h.2 k hk
end
end
end Go.Proofs.YtoncogkamlgjhaaGreatDoor
namespace Go.Proofs.YtoncogkamlgjhaaGreatDoor
set_option maxRecDepth 100000
open Go.Lib

/-- a query's words -/
def tkQ (q : Qy) : List Tk := tN Qcount :: tN q.nm :: tS Seq :: tks q.pd
/-- a line: a blank behind each word, behind the last one a line's end -/
def lnT : List Tk → List (Tk × UInt8)
  | [] => []
  | [x] => [(x, 10)]
  | x :: y :: r => (x, 32) :: lnT (y :: r)
def allT (p : Po) : List (Tk × UInt8) := lnT (tks p.main) ++ p.qs.flatMap fun q => lnT (tkQ q)
def txt (p : Po) : ByteArray := ⟨(fw (allT p)).toArray⟩
/-- which names queries may have -/
def isNm (t : ByteArray) : Bool := decide (0 < t.size) && decide (t.size ≤ 32) && !isD (bt t 0) && t.data.toList.all (fun c => isN c.toNat) && !isKw t
structure OkP (p : Po) : Prop where
  main : okT false p.main = true
  pd : ∀ q ∈ p.qs, okT true q.pd = true
  nm : ∀ q ∈ p.qs, isNm q.nm = true
  fits : fitsB p = true
theorem lnT_map : ∀ ts, (lnT ts).map (·.1) = ts
  | [] => rfl
  | [x] => rfl
  | x :: y :: r => by rw [lnT, List.map_cons, lnT_map (y :: r)]
theorem lnT_bk : ∀ ts, ∀ x ∈ lnT ts, Bk2 x.2.toNat
  | [], x, h => by cases h
  | [y], x, h => by
    rw [lnT, List.mem_singleton] at h; subst h; exact Or.inr rfl
  | y :: z :: r, x, h => by
    rw [lnT] at h
    rcases List.mem_cons.1 h with rfl | h
    · exact Or.inl rfl
    · exact lnT_bk (z :: r) x h
theorem allT_map (p : Po) : (allT p).map (·.1) = tks p.main ++ p.qs.flatMap tkQ := by
  unfold allT
  rw [List.map_append, lnT_map, List.map_flatMap]
  congr 1
  simp only [lnT_map]
theorem fw_app : ∀ a b, fw (a ++ b) = fw a ++ fw b
  | [], b => rfl
  | (x, c) :: a, b => by rw [List.cons_append, fw, fw, fw_app a b]; simp

/-! the words are words -/
theorem gw_toArray {w : List UInt8} {k n : Nat} (h : Gw w k n) : Gw (⟨w.toArray⟩ : ByteArray).data.toList k n := by
  simpa using h
theorem nb_lt (n i : Nat) : nb n i < 256 := Nat.mod_lt _ (by decide)
theorem gw_nbr {f n : Nat} (hf : f ≤ 10) (hn : n < 2 ^ wdt f) : Gw (nbr f n).data.toList 2 n := by
  unfold nbr
  split
  · rename_i h
    have hn' : n < 281474976710656 := by rcases h with rfl | rfl <;> exact hn
    have e : ((((nb n 5 * 256 + nb n 4) * 256 + nb n 3) * 256 + nb n 2) * 256 + nb n 1) * 256 + nb n 0 = n := by unfold nb; omega
    have := gw_pairs (nb_lt n 5) (nb_lt n 4) (nb_lt n 3) (nb_lt n 2) (nb_lt n 1) (nb_lt n 0)
    rw [e] at this
    exact gw_toArray this
  · split
    · rename_i h
      have hn' : n < 4294967296 := by rcases h with rfl | rfl <;> exact hn
      have e : ((nb n 3 * 256 + nb n 2) * 256 + nb n 1) * 256 + nb n 0 = n := by unfold nb; omega
      have := gw_dots (nb_lt n 3) (nb_lt n 2) (nb_lt n 1) (nb_lt n 0)
      rw [e] at this
      exact gw_toArray this
    · refine gw_toArray (gw_dec ?_)
      have : wdt f ≤ 48 := by
        have : f = 0 ∨ f = 1 ∨ f = 2 ∨ f = 3 ∨ f = 4 ∨ f = 5 ∨ f = 6 ∨ f = 7 ∨ f = 8 ∨ f = 9 ∨ f = 10 := by omega
        rcases this with rfl | rfl | rfl | rfl | rfl | rfl | rfl | rfl | rfl | rfl | rfl <;> decide
      have := Nat.pow_le_pow_right (n := 2) (by decide) this
      exact Nat.lt_of_lt_of_le hn (Nat.le_trans this (by decide))
theorem gw_nm {t : ByteArray} (h : isNm t = true) : Gw t.data.toList 1 0 ∧ isKw t = false := by
  unfold isNm at h
  simp only [Bool.and_eq_true, decide_eq_true_eq, Bool.not_eq_true', List.all_eq_true] at h
  obtain ⟨⟨⟨⟨h1, h2⟩, h3⟩, h4⟩, h5⟩ := h
  have hl : t.data.toList.length = t.size := Array.length_toList
  have hN : ∀ j, j < t.data.toList.length → isN (lb t.data.toList j) = true := fun j hj => by rw [lb_in hj]; exact h4 _ (List.getElem_mem hj)
  have h0 : bt t 0 = lb t.data.toList 0 := by
    rw [bt_in h1, lb_in (by omega)]; rfl
  refine ⟨gw_name (by omega) (by omega) ?_ hN, h5⟩
  have := hN 0 (by omega)
  rw [← h0] at this ⊢
  unfold isN at this
  rw [h3, Bool.or_false] at this
  exact this
theorem gw_fix {w : List UInt8} (h : (decide (0 < w.length) && decide (w.length ≤ 32) && isL (lb w 0) && w.all fun c => isN c.toNat) = true) : Gw w 1 0 := by
  simp only [Bool.and_eq_true, decide_eq_true_eq, List.all_eq_true] at h
  exact gw_name h.1.1.1 h.1.1.2 h.1.2 fun j hj => by rw [lb_in hj]; exact h.2 _ (List.getElem_mem hj)
theorem fnm_gw {f : Nat} (h : f ≤ 10) : Gw (fnm f).data.toList 1 0 := by
  have : f = 0 ∨ f = 1 ∨ f = 2 ∨ f = 3 ∨ f = 4 ∨ f = 5 ∨ f = 6 ∨ f = 7 ∨ f = 8 ∨ f = 9 ∨ f = 10 := by omega
  rcases this with rfl | rfl | rfl | rfl | rfl | rfl | rfl | rfl | rfl | rfl | rfl <;> exact gw_fix (by decide)
abbrev GwT (x : Tk) : Prop := Gw x.t.data.toList x.k x.n
theorem gw_sg {op : Nat} (h : op = 4 ∨ op = 5 ∨ op = 8 ∨ op = 9) : GwT (tS (sgT op)) := by
  rcases h with rfl | rfl | rfl | rfl <;> exact gw_sign (by decide)
theorem gw_lp : GwT (tS Slp) := gw_sign (by decide)
theorem gw_rp : GwT (tS Srp) := gw_sign (by decide)
theorem gwA {a : Nat} {k : Tm} (h : ∀ x ∈ tks k, GwT x) : ∀ x ∈ tkA a k, GwT x := by
  intro x hx
  unfold tkA at hx
  split at hx
  · exact h x hx
  · rcases List.mem_cons.1 hx with rfl | hx
    · exact gw_lp
    · rcases List.mem_append.1 hx with hx | hx
      · exact h x hx
      · rw [List.mem_singleton.1 hx]; exact gw_rp
theorem gwK {op : Nat} (hs : op = 4 ∨ op = 5 ∨ op = 8 ∨ op = 9) : ∀ {b : Bool} {ks : List Tm}, (∀ k ∈ ks, ∀ x ∈ tks k, GwT x) → ∀ x ∈ tkk op b ks, GwT x
  | b, [], _, x, hx => by rw [tkk_nil] at hx; cases hx
  | true, k :: ks, h, x, hx => by
    rw [tkk_cons] at hx
    rcases List.mem_append.1 hx with hx | hx
    · exact gwA (h k (List.mem_cons_self ..)) x hx
    · exact gwK hs (b := false) (fun k' hk' => h k' (List.mem_cons_of_mem _ hk')) x hx
  | false, k :: ks, h, x, hx => by
    rw [tkk_more] at hx
    rcases List.mem_cons.1 hx with rfl | hx
    · exact gw_sg hs
    · rcases List.mem_append.1 hx with hx | hx
      · exact gwA (h k (List.mem_cons_self ..)) x hx
      · exact gwK hs (b := false) (fun k' hk' => h k' (List.mem_cons_of_mem _ hk')) x hx
mutual
theorem gw_tks : ∀ (t : Tm) (b : Bool), okT b t = true → ∀ x ∈ tks t, GwT x
  | .mk op fd n ks, b, h => by
    obtain ⟨h1, h2, h3⟩ := okT_shape h
    have hK := gw_tkl ks _ h2
    rcases h3 with ⟨ho, hf, hn, rfl⟩ | ⟨rfl, rfl, ⟨ho, rfl⟩ | ⟨ho, k, rfl⟩ | ⟨ho, k1, k2, r, rfl⟩⟩
    · intro x hx
      have e : tks (.mk op fd n []) = [tN (fnm fd), tS (sgT op), tM fd n] := by
        rw [tks]
        rcases ho with rfl | rfl <;> rfl
      rw [e] at hx
      simp only [List.mem_cons, List.not_mem_nil, or_false] at hx
      rcases hx with rfl | rfl | rfl
      · exact fnm_gw hf
      · rcases ho with rfl | rfl
        · exact gw_sign (by decide)
        · exact gw_set
      · exact gw_nbr hf hn
    · have : op = 0 ∨ op = 1 := by omega
      intro x hx
      rcases this with rfl | rfl
      · rw [show tks (.mk 0 0 0 []) = [tN Qfalse] by rw [tks]; rfl, List.mem_singleton] at hx
        subst hx; exact gw_fix (by decide)
      · rw [show tks (.mk 1 0 0 []) = [tN Qtrue] by rw [tks]; rfl, List.mem_singleton] at hx
        subst hx; exact gw_fix (by decide)
    · have hk := hK k (List.mem_singleton.2 rfl)
      intro x hx
      rcases ho with rfl | rfl | rfl
      · rw [show tks (.mk 3 0 0 [k]) = tS Snot :: tkA 2 k by rw [tks, tkk_one]; rfl] at hx
        rcases List.mem_cons.1 hx with rfl | hx
        · exact gw_sign (by decide)
        · exact gwA hk x hx
      · rw [show tks (.mk 6 0 0 [k]) = if k.op = 1 then [tN Qid] else if k.op = 0 then [tN Qdrop] else tN Qfilter :: tks k by
          rw [tks, if_neg (by decide), if_neg (by decide), if_neg (by decide), if_neg (by decide), if_pos rfl, tkk_one, show tkA (ask 6) k = tks k from if_pos (Nat.zero_le _), tkF]] at hx
        split at hx
        · rw [List.mem_singleton.1 hx]; exact gw_fix (by decide)
        · split at hx
          · rw [List.mem_singleton.1 hx]; exact gw_fix (by decide)
          · rcases List.mem_cons.1 hx with rfl | hx
            · exact gw_fix (by decide)
            · exact hk x hx
      · rw [show tks (.mk 10 0 0 [k]) = tkA 3 k ++ [tS Sstar] by
          rw [tks, if_neg (by decide), if_neg (by decide), if_neg (by decide), if_neg (by decide), if_neg (by decide), if_pos rfl, tkk_one]; rfl] at hx
        rcases List.mem_append.1 hx with hx | hx
        · exact gwA hk x hx
        · rw [List.mem_singleton.1 hx]; exact gw_sign (by decide)
    · intro x hx
      have e : tks (.mk op 0 0 (k1 :: k2 :: r)) = tkk op true (k1 :: k2 :: r) := by
        rw [tks]
        rcases ho with rfl | rfl | rfl | rfl <;> rfl
      rw [e] at hx
      exact gwK ho hK x hx
theorem gw_tkl : ∀ (ks : List Tm) (b : Bool), okK b ks = true → ∀ k ∈ ks, ∀ x ∈ tks k, GwT x
  | [], _, _, k, hk => by cases hk
  | a :: ks, b, h, k, hk => by
    rw [okK, Bool.and_eq_true] at h
    rcases List.mem_cons.1 hk with e | hk
    · rw [e]; exact gw_tks a b h.1
    · exact gw_tkl ks b h.2 k hk
end
theorem gw_all {p : Po} (h : OkP p) : ∀ x ∈ allT p, GwT x.1 ∧ Bk2 x.2.toNat := by
  intro x hx
  refine ⟨?_, ?_⟩
  · have hm : x.1 ∈ tks p.main ++ p.qs.flatMap tkQ := by rw [← allT_map]; exact List.mem_map_of_mem hx
    rcases List.mem_append.1 hm with hm | hm
    · exact gw_tks _ _ h.main _ hm
    · obtain ⟨q, hq, hm⟩ := List.mem_flatMap.1 hm
      unfold tkQ at hm
      rcases List.mem_cons.1 hm with e | hm
      · rw [e]; exact gw_fix (by decide)
      · rcases List.mem_cons.1 hm with e | hm
        · rw [e]; exact (gw_nm (h.nm q hq)).1
        · rcases List.mem_cons.1 hm with e | hm
          · rw [e]; exact gw_sign (by decide)
          · exact gw_tks _ _ (h.pd q hq) _ hm
  · unfold allT at hx
    rcases List.mem_append.1 hx with hx | hx
    · exact lnT_bk _ x hx
    · obtain ⟨q, -, hm⟩ := List.mem_flatMap.1 hx
      exact lnT_bk _ x hm
/-! the whole -/
theorem bt_arr (w : List UInt8) (i : Nat) : bt ⟨w.toArray⟩ i = lb w i := by
  by_cases h : i < w.length
  · rw [lb_in h, bt_in (show i < (⟨w.toArray⟩ : ByteArray).size from by show i < w.toArray.size; simpa using h)]
    show ((w.toArray)[i]'_).toNat = _
    simp
  · rw [bt_out (show ¬ i < (⟨w.toArray⟩ : ByteArray).size from by show ¬ i < w.toArray.size; simpa using h)]
    unfold lb
    rw [List.getElem?_eq_none (by omega)]; rfl
theorem txt_size (p : Po) : (txt p).size = (fw (allT p)).length := by
  show (fw (allT p)).toArray.size = _
  simp
section
variable {l : List Wd}
theorem qrs_tks {L : Nat} (hL : 0 < L) : ∀ (qs : List Qy) (f i : Nat) (acc : List Qy), (∀ q ∈ qs, okT true q.pd = true ∧ isKw q.nm = false) → At l i (qs.flatMap tkQ) → qs.length ≤ f → (qs.flatMap tkQ).length ≤ L → i + (qs.flatMap tkQ).length < l.length → (wat l (i + (qs.flatMap tkQ).length)).t = ⟨#[]⟩ → qrs l (ps l L).pred f i acc = .ok (acc ++ qs) (i + (qs.flatMap tkQ).length)
  | [], f, i, acc, _, _, _, _, _, ht => by
    rw [List.append_nil]
    have e : ([] : List Qy).flatMap tkQ = [] := rfl
    rw [e] at ht ⊢
    cases f with
    | zero => rfl
    | succ f =>
      rw [qrs, if_neg]
      · rfl
      · unfold tk; rw [List.length_nil, Nat.add_zero] at ht; rw [ht]; decide
  | q :: qs, f, i, acc, hq, hA, hf, hlen, hl, ht => by
    have e : (q :: qs).flatMap tkQ = tN Qcount :: tN q.nm :: tS Seq :: (tks q.pd ++ qs.flatMap tkQ) := by rw [List.flatMap_cons]; rfl
    rw [e] at hA hlen hl ht ⊢
    have el : (tN Qcount :: tN q.nm :: tS Seq :: (tks q.pd ++ qs.flatMap tkQ)).length = (tks q.pd).length + (qs.flatMap tkQ).length + 3 := by simp
    rw [el] at hlen hl ht ⊢
    obtain ⟨f, rfl⟩ : ∃ g, f = g + 1 := ⟨f - 1, by simp at hf; omega⟩
    obtain ⟨h1, h2⟩ := hq q (List.mem_cons_self ..)
    have a1 := hA.tl
    have a2 := a1.tl
    have a3 := a2.tl.left
    have a4 := a2.tl.right
    have hx : Nx l (i + 1 + 1 + 1 + (tks q.pd).length) nP := by
      cases qs with
      | nil =>
        intro x hx
        unfold tk
        rw [show i + 1 + 1 + 1 + (tks q.pd).length = i + ((tks q.pd).length + (([] : List Qy).flatMap tkQ).length + 3) by simp; omega, ht]
        revert x; decide
      | cons q2 qs => rw [List.flatMap_cons] at a4; exact a4.nx (by decide)
    have hp := (pd_all l q.pd h1).p (i + 1 + 1 + 1) L a3 (by omega) (by omega) hx
    have e2 : i + ((tks q.pd).length + (qs.flatMap tkQ).length + 3) = i + 1 + 1 + 1 + (tks q.pd).length + (qs.flatMap tkQ).length := by omega
    rw [e2] at hl ht ⊢
    rw [qrs, hA.tk, if_pos (by decide)]
    have hqr : qry l (ps l L).pred (i + 1) = .ok q (i + 1 + 1 + 1 + (tks q.pd).length) := by
      unfold qry
      rw [a1.k, a1.t, if_pos ⟨rfl, h2⟩, a2.tk, if_pos (by decide), pred_eq hL, show i + 1 + 2 = i + 1 + 1 + 1 by omega, hp]
      rfl
    rw [hqr]
    show qrs l (ps l L).pred f _ (acc ++ [q]) = _
    rw [qrs_tks hL qs f _ (acc ++ [q]) (fun q' hq' => hq q' (List.mem_cons_of_mem _ hq')) a4 (by simp at hf; omega) (by omega) hl ht]
    simp
end
/-- WHAT IS WRITTEN IS READ AS IT WAS. -/
theorem prs_txt {p : Po} (h : OkP p) (hs : (txt p).size ≤ 65536) : prs (txt p) = .ok p := by
  have hT : Hs (txt p) 0 (fw (allT p)) := fun j _ => by rw [Nat.zero_add]; exact bt_arr _ _
  obtain ⟨ws, e1, e2⟩ := sc_fw (allT p) 0 [] (gw_all h) hT (by rw [txt_size]; omega)
  rw [List.nil_append] at e1
  rw [allT_map] at e2
  have hall : all (txt p) = .ok (ws ++ [wEnd (txt p)]) := by unfold all; rw [if_neg (by omega)]; exact e1
  obtain ⟨l, hl⟩ : ∃ l, l = ws ++ [wEnd (txt p)] := ⟨_, rfl⟩
  rw [← hl] at hall
  have hlw : ws.length = (tks p.main ++ p.qs.flatMap tkQ).length := by rw [← e2, List.length_map]
  have hlen : l.length = (tks p.main ++ p.qs.flatMap tkQ).length + 1 := by rw [hl, List.length_append, hlw]; rfl
  have hA : At l 0 (tks p.main ++ p.qs.flatMap tkQ) := fun j hj => by
    have hj' : j < ws.length := by omega
    have : wat l (0 + j) = ws[j] := by
      unfold wat
      rw [Nat.zero_add, hl, List.getD_eq_getElem?_getD, List.getElem?_append_left hj', List.getElem?_eq_getElem hj']; rfl
    rw [this]
    have e3 : (ws.map tkOf)[j]'(by rw [List.length_map]; exact hj') = (tks p.main ++ p.qs.flatMap tkQ)[j] := by simp only [e2]
    rw [List.getElem_map] at e3
    exact e3
  have hE : wat l (tks p.main ++ p.qs.flatMap tkQ).length = wEnd (txt p) := by
    unfold wat
    rw [hl, List.getD_eq_getElem?_getD, List.getElem?_append_right (by omega), hlw, Nat.sub_self]; rfl
  rw [List.length_append] at hlen hE
  have hEt : (wat l (0 + (tks p.main).length + (p.qs.flatMap tkQ).length)).t = ⟨#[]⟩ := by rw [Nat.zero_add, hE]; rfl
  have hx : Nx l (0 + (tks p.main).length) nU := by
    cases hq : p.qs with
    | nil =>
      rw [hq] at hEt
      intro x hx
      unfold tk
      have : 0 + (tks p.main).length + (([] : List Qy).flatMap tkQ).length = 0 + (tks p.main).length := by simp
      rw [this] at hEt
      rw [hEt]
      revert x; decide
    | cons q qs =>
      have := hA.right
      rw [hq, List.flatMap_cons] at this
      exact this.nx (by decide)
  have hpol : (ps l l.length).pol 0 = .ok p.main (0 + (tks p.main).length) := by
    rw [hlen]
    exact (po_all l p.main h.main).u 0 _ hA.left (by omega) (by omega) hx
  have hqs : qrs l (ps l l.length).pred l.length (0 + (tks p.main).length) [] = .ok ([] ++ p.qs) (0 + (tks p.main).length + (p.qs.flatMap tkQ).length) := by
    refine qrs_tks (by omega) p.qs l.length _ [] (fun q hq => ⟨h.pd q hq, (gw_nm (h.nm q hq)).2⟩) hA.right ?_ (by omega) (by omega) hEt
    have hge : ∀ qs : List Qy, qs.length ≤ (qs.flatMap tkQ).length := fun qs => by
      induction qs with
      | nil => exact Nat.le_refl _
      | cons q qs ih => rw [List.flatMap_cons, List.length_append, List.length_cons]; have : 1 ≤ (tkQ q).length := by unfold tkQ; simp
                        omega
    have := hge p.qs
    omega
  have hfil : fil l = .ok p (0 + (tks p.main).length + (p.qs.flatMap tkQ).length) := by
    unfold fil
    rw [hpol]
    show (qrs l (ps l l.length).pred l.length (0 + (tks p.main).length) []).bind _ = _
    rw [hqs]
    show (if (wat l _).k = 0 then _ else _) = _
    rw [Nat.zero_add, hE]
    exact if_pos rfl
  unfold prs
  rw [hall]
  show rdW l = _
  unfold rdW
  rw [hfil]
  show (if fitsB p = true then _ else _) = _
  rw [if_pos h.fits]
end Go.Proofs.YtoncogkamlgjhaaGreatDoor
