/-
  Proved here: the program's Check and Text and the document's answer alike, for every header of numbers below 2 to 64: plain facts on numbers and lists. No further condition.
-/
import Derived.Test.YthjgndkcijgfmaaDoorR6
namespace Go.Proofs.YthjgndkcijgfmaaDoor
open Go.RowKit

def barUpto (h : Nat → Int) : Nat → Bool
  | 0 => true
  | k + 1 => barUpto h k && !(bar h k && h k != 0)
theorem fldBad_not (h : Nat → Int) (k : Nat) : (!fldBad h k) = ((h k / 2 ^ (wid k).toNat == 0) && !(bar h k && h k != 0)) := by
  unfold fldBad
  generalize h k / 2 ^ (wid k).toNat = q
  cases hq : (q == 0) <;> simp [bne, hq]
theorem okUpto_eq (h : Nat → Int) : ∀ n, okUpto h n = (thinUpto h n && barUpto h n)
  | 0 => rfl
  | n + 1 => by
    simp only [okUpto, thinUpto, barUpto]
    rw [okUpto_eq h n, fldBad_not]
    generalize thinUpto h n = a
    generalize barUpto h n = b
    generalize (h n / 2 ^ (wid n).toNat == 0) = c
    generalize (bar h n && h n != 0) = d
    cases a <;> cases b <;> cases c <;> cases d <;> rfl
theorem barUpto_eq (h : Nat → Int) : barUpto h 11 = (!(b45 h && h 4 != 0) && !(b45 h && h 5 != 0) && !(b6 h && h 6 != 0) && !(b78 h && h 7 != 0) && !(b78 h && h 8 != 0)) := by
  simp [barUpto, bar]
theorem rOk_eq (h : Nat → Int) : rOk h = hOk h := by
  unfold rOk hOk
  rw [okUpto_eq, barUpto_eq]
  generalize thinUpto h 11 = t
  unfold b45 b6 b78 kindOk portsOk
  generalize h 2 = K
  generalize h 4 = F
  generalize h 5 = T
  generalize h 6 = P
  generalize h 7 = S
  generalize h 8 = D
  cases t
  · simp
  · rw [Bool.eq_iff_iff]
    simp
    omega
end Go.Proofs.YthjgndkcijgfmaaDoor
