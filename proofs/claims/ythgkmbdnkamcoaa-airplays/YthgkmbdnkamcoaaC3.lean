/-
  Plain facts: four bytes as one number, by addition and by exclusive or; what Seal and Open tell; what was sealed is opened; a change is noticed. No program's function is spoken of.
-/
import Derived.Test.YthgkmbdnkamcoaaK1
import Derived.Test.YthgkmbdnkamcoaaC2
import Derived.Laws.BitsAllLaws
namespace Go.Proofs.Ythgkmbdnkamcoaa
open Go.RowKit Seal

/-- The four bytes of a number, the lowest first. -/
def four (n : Nat) : List Int := [(n : Int) % 256, (n : Int) / 256 % 256, (n : Int) / 65536 % 256, (n : Int) / 16777216 % 256]
theorem four_isB (n : Nat) : IsB (four n) := fun x hx => by
  simp only [four, List.mem_cons, List.not_mem_nil, or_false] at hx
  rcases hx with rfl | rfl | rfl | rfl <;> exact ⟨Int.emod_nonneg _ (by omega), Int.emod_lt_of_pos _ (by omega)⟩
theorem le_of_four {n : Nat} (h : n < 4294967296) : le (four n) = n := le_four h
/-- The last four bytes of a row, as a number. -/
def tail4 (bs : List Int) : Int := bs.getD (bs.length - 4) 0 + bs.getD (bs.length - 4 + 1) 0 * 256 + bs.getD (bs.length - 4 + 2) 0 * 65536 + bs.getD (bs.length - 4 + 3) 0 * 16777216
theorem le_bytes {a b c d : Int} (ha : 0 ≤ a ∧ a < 256) (hb : 0 ≤ b ∧ b < 256) (hc : 0 ≤ c ∧ c < 256) (hd : 0 ≤ d ∧ d < 256) : ((le [a, b, c, d] : Nat) : Int) = a + b * 256 + c * 65536 + d * 16777216 := by
  obtain ⟨n, hn⟩ := Int.eq_ofNat_of_zero_le (a := a + b * 256 + c * 65536 + d * 16777216) (by omega)
  have h4 := le_of_four (n := n) (by omega)
  have e : four n = [a, b, c, d] := by
    unfold four
    rw [show (n : Int) % 256 = a by omega, show (n : Int) / 256 % 256 = b by omega, show (n : Int) / 65536 % 256 = c by omega, show (n : Int) / 16777216 % 256 = d by omega]
  rw [e] at h4
  rw [h4, ← hn]
theorem drop4 {bs : List Int} (h : 4 ≤ bs.length) : bs.drop (bs.length - 4) = [bs.getD (bs.length - 4) 0, bs.getD (bs.length - 4 + 1) 0, bs.getD (bs.length - 4 + 2) 0, bs.getD (bs.length - 4 + 3) 0] := by
  apply List.ext_getElem?
  intro j
  rw [List.getElem?_drop]
  by_cases hj : j < 4
  · have hlt : bs.length - 4 + j < bs.length := by omega
    have : j = 0 ∨ j = 1 ∨ j = 2 ∨ j = 3 := by omega
    have h0 : bs.length - 4 < bs.length := by omega
    rcases this with rfl | rfl | rfl | rfl
    · simp [List.getElem?_eq_getElem h0]
    all_goals simp [List.getElem?_eq_getElem hlt]
  · rw [List.getElem?_eq_none (by omega), List.getElem?_eq_none (by simp; omega)]
theorem tail4_le {bs : List Int} (hB : IsB bs) (h : 4 ≤ bs.length) : tail4 bs = ((le (bs.drop (bs.length - 4)) : Nat) : Int) := by
  rw [drop4 h, le_bytes (hB.at _) (hB.at _) (hB.at _) (hB.at _)]; rfl
/-- What Seal tells. -/
def seE (bs : List Int) : Int := if 16384 < bs.length then 3 else 0
def seL (bs : List Int) : List Int := if 16384 < bs.length then [] else bs ++ four (crc bs)
/-- What Open tells. -/
def opE (bs : List Int) : Int := if bs.length < 4 then 51 else if ((crc (bs.take (bs.length - 4)) : Nat) : Int) = tail4 bs then 0 else 50
def opL (bs : List Int) : List Int := if opE bs = 0 then bs.take (bs.length - 4) else []
theorem crc_lt32 {bs : List Int} (hB : IsB bs) : crc bs < 4294967296 := crc_lt fun x hx => (hB x hx).2
/-- What was sealed is opened. -/
theorem open_seal {bs : List Int} (hB : IsB bs) : opE (bs ++ four (crc bs)) = 0 ∧ opL (bs ++ four (crc bs)) = bs := by
  have hl : (bs ++ four (crc bs)).length = bs.length + 4 := by simp [four]
  have hI : IsB (bs ++ four (crc bs)) := hB.app (four_isB _)
  have ht : (bs ++ four (crc bs)).take ((bs ++ four (crc bs)).length - 4) = bs := by rw [hl]; simp
  have hd : (bs ++ four (crc bs)).drop ((bs ++ four (crc bs)).length - 4) = four (crc bs) := by rw [hl]; simp
  have e : opE (bs ++ four (crc bs)) = 0 := by
    unfold opE
    rw [if_neg (by omega), ht, tail4_le hI (by omega), hd, le_of_four (crc_lt32 hB), if_pos rfl]
  refine ⟨e, ?_⟩
  unfold opL
  rw [if_pos e, ht]
/-- A sealed row with a change within 32 bits side by side is torn. -/
theorem open_torn {bs x : List Int} (hB : IsB bs) (hx : IsB x) (hl : x.length = bs.length + 4) {p q : Nat} (hp : p ≤ 8 * bs.length) (hq : q < 4294967296) (h0 : q ≠ 0) (he : le x = le (bs ++ four (crc bs)) ^^^ (q <<< p)) : opE x = 50 := by
  unfold opE
  rw [if_neg (by omega), tail4_le hx (by omega), if_neg]
  intro e
  have e' : crc (x.take (x.length - 4)) = le (x.drop (x.length - 4)) := by omega
  refine notices (a := bs) (c := four (crc bs)) (a' := x.take (x.length - 4)) (c' := x.drop (x.length - 4)) (by rw [List.length_take]; omega) (le_of_four (crc_lt32 hB)).symm hp hq h0 ?_ e'
  rw [List.take_append_drop]; exact he
/-- The beginning of a slice. -/
theorem Sl.pre {B : Nat} {w : World} {ao : Option Addr} {cap : Nat} {bs : List Int} (h : Sl B w (.slice ao bs.length cap) bs) (k : Nat) (hk : k ≤ bs.length) : Sl B w (.slice ao k cap) (bs.take k) := by
  obtain ⟨ao', cap', e, h1, h2, h3, h4, h5⟩ := h
  simp only [Value.slice.injEq] at e
  obtain ⟨rfl, _, rfl⟩ := e
  have hl : (bs.take k).length = k := by rw [List.length_take]; omega
  refine ⟨ao, cap, by rw [hl], by omega, by omega, h3.take k, h4, fun hne => ?_⟩
  have hk0 : 0 < k := by
    rcases Nat.eq_zero_or_pos k with h0 | h0
    · subst h0; simp at hne
    · exact h0
  obtain ⟨b, o, hb, e, hc⟩ := h5 (fun e => by subst e; simp at hk; omega)
  refine ⟨b, o, hb, e, fun j hj => ?_⟩
  rw [hl] at hj
  rw [hc j (by omega)]
  simp only [List.getD_eq_getElem?_getD, List.getElem?_take, if_pos hj]
/-- A number below 2 to i, and one above, together. -/
theorem or32 {a b : Int} (i : Nat) (ha : 0 ≤ a) (hai : a < 2 ^ i) (hb : 0 ≤ b) (hm : b % 2 ^ i = 0) (hs : a + b < 4294967296) : bits .or .u32 a b = a + b := by
  obtain ⟨x, rfl⟩ := Int.eq_ofNat_of_zero_le ha
  obtain ⟨y, rfl⟩ := Int.eq_ofNat_of_zero_le hb
  have h1 : x < 2 ^ i := by exact_mod_cast hai
  have h2 : y % 2 ^ i = 0 := by exact_mod_cast hm
  rw [u32_or_nat x y (by omega) (by omega), Nat.or_comm, nat_join i _ _ h2 h1]
  omega
end Go.Proofs.Ythgkmbdnkamcoaa
