/-
  Plain facts: a number's lowest bytes (dg), the number of bytes (num), taking bytes off the front (tk). No program is spoken of.
-/
import Derived.WalkKit
namespace Go.Proofs.Ythgkmbdnkamcoaa

/-- The lowest k bytes of n, the greatest first. -/
def dg (n : Int) : Nat → List Int
  | 0 => []
  | k + 1 => n / 2 ^ (8 * k) % 256 :: dg n k
/-- The number of bytes, the greatest first. -/
def num (l : List Int) : Int := l.foldl (fun n d => n * 256 + d) 0
def IsB (l : List Int) : Prop := ∀ x ∈ l, 0 ≤ x ∧ x < 256
theorem IsB.nil : IsB [] := fun _ h => by cases h
theorem IsB.cons {x : Int} {l : List Int} (h0 : 0 ≤ x) (h1 : x < 256) (h : IsB l) : IsB (x :: l) := fun y hy => by
  rcases List.mem_cons.1 hy with rfl | hy
  · exact ⟨h0, h1⟩
  · exact h y hy
theorem IsB.app {a b : List Int} (ha : IsB a) (hb : IsB b) : IsB (a ++ b) := fun y hy => by
  rcases List.mem_append.1 hy with hy | hy
  · exact ha y hy
  · exact hb y hy
theorem IsB.take {l : List Int} (h : IsB l) (k : Nat) : IsB (l.take k) := fun y hy => h y (List.mem_of_mem_take hy)
theorem IsB.drop {l : List Int} (h : IsB l) (k : Nat) : IsB (l.drop k) := fun y hy => h y (List.mem_of_mem_drop hy)
theorem IsB.tail {x : Int} {l : List Int} (h : IsB (x :: l)) : IsB l := fun y hy => h y (List.mem_cons_of_mem _ hy)
theorem IsB.head {x : Int} {l : List Int} (h : IsB (x :: l)) : 0 ≤ x ∧ x < 256 := h x List.mem_cons_self
theorem IsB.left {a b : List Int} (h : IsB (a ++ b)) : IsB a := fun y hy => h y (List.mem_append_left _ hy)
theorem IsB.right {a b : List Int} (h : IsB (a ++ b)) : IsB b := fun y hy => h y (List.mem_append_right _ hy)
theorem IsB.at {l : List Int} (h : IsB l) (k : Nat) : 0 ≤ l.getD k 0 ∧ l.getD k 0 < 256 := by
  rw [List.getD_eq_getElem?_getD]
  cases e : l[k]? with
  | none => simp
  | some x => exact h x (List.mem_of_getElem? e)
theorem dg_len (n : Int) : ∀ k, (dg n k).length = k
  | 0 => rfl
  | k + 1 => by simp [dg, dg_len n k]
theorem dg_isB (n : Int) : ∀ k, IsB (dg n k)
  | 0 => IsB.nil
  | k + 1 => IsB.cons (Int.emod_nonneg _ (by omega)) (Int.emod_lt_of_pos _ (by omega)) (dg_isB n k)
theorem num_snoc (l : List Int) (d : Int) : num (l ++ [d]) = num l * 256 + d := by simp [num]
theorem fold_from (l : List Int) : ∀ a : Int, l.foldl (fun n d => n * 256 + d) a = a * 2 ^ (8 * l.length) + num l := by
  induction l with
  | nil => intro a; simp [num]
  | cons d l ih =>
    intro a
    have h1 : num (d :: l) = d * 2 ^ (8 * l.length) + num l := by
      show l.foldl _ (0 * 256 + d) = _
      rw [ih]; simp
    rw [h1]
    show l.foldl _ (a * 256 + d) = _
    rw [ih, List.length_cons, Nat.mul_add, Int.pow_add, Int.add_mul, Int.mul_assoc a 256, Int.add_assoc]
    have e : (2 : Int) ^ (8 * 1) = 256 := by decide
    rw [e, Int.mul_comm 256]
theorem num_cons (d : Int) (l : List Int) : num (d :: l) = d * 2 ^ (8 * l.length) + num l := by
  show l.foldl _ (0 * 256 + d) = _
  rw [fold_from]; simp
theorem pw_pos (k : Nat) : (0 : Int) < 2 ^ k := Int.pow_pos (by omega)
theorem num_bd : ∀ {l : List Int}, IsB l → 0 ≤ num l ∧ num l < 2 ^ (8 * l.length)
  | [], _ => by simp [num]
  | d :: l, h => by
    have ih := num_bd h.tail
    have hd := h.head
    have hp := pw_pos (8 * l.length)
    rw [num_cons, List.length_cons, Nat.mul_add, Int.pow_add]
    have e : (2 : Int) ^ (8 * 1) = 256 := by decide
    rw [e]
    generalize (2 : Int) ^ (8 * l.length) = p at *
    have h1 : 0 ≤ d * p := Int.mul_nonneg hd.1 (by omega)
    have h2 : d * p ≤ 255 * p := Int.mul_le_mul_of_nonneg_right (by omega) (by omega)
    omega
theorem num_dg_any (n : Int) : ∀ k : Nat, n / 2 ^ (8 * k) * 2 ^ (8 * k) + num (dg n k) = n
  | 0 => by simp [dg, num]
  | k + 1 => by
    have ih := num_dg_any n k
    have hp := pw_pos (8 * k)
    simp only [dg]
    rw [num_cons, dg_len, Nat.mul_add, Int.pow_add]
    have e : (2 : Int) ^ (8 * 1) = 256 := by decide
    rw [e, ← Int.ediv_ediv_of_nonneg (by omega)]
    generalize hq : n / 2 ^ (8 * k) = q at *
    generalize (2 : Int) ^ (8 * k) = p at *
    have h1 : q / 256 * (p * 256) + (q % 256 * p + num (dg n k)) = (q / 256 * 256 + q % 256) * p + num (dg n k) := by
      rw [Int.add_mul, Int.mul_comm p 256, ← Int.mul_assoc]; omega
    rw [h1, show q / 256 * 256 + q % 256 = q by omega]
    exact ih
theorem num_dg {n : Int} {k : Nat} (h0 : 0 ≤ n) (h1 : n < 2 ^ (8 * k)) : num (dg n k) = n := by
  have h := num_dg_any n k
  rw [Int.ediv_eq_zero_of_lt h0 h1] at h
  omega
theorem num_inj : ∀ {a b : List Int}, IsB a → IsB b → a.length = b.length → num a = num b → a = b
  | [], [], _, _, _, _ => rfl
  | [], _ :: _, _, _, h, _ => by simp at h
  | _ :: _, [], _, _, h, _ => by simp at h
  | x :: a, y :: b, ha, hb, hl, hn => by
    have hl' : a.length = b.length := by simpa using hl
    rw [num_cons, num_cons, hl'] at hn
    have ba := num_bd ha.tail
    have bb := num_bd hb.tail
    rw [hl'] at ba
    have hp := pw_pos (8 * b.length)
    generalize (2 : Int) ^ (8 * b.length) = p at *
    have e1 : (x * p + num a) / p = x := by
      rw [Int.add_comm, Int.add_mul_ediv_right _ _ (by omega), Int.ediv_eq_zero_of_lt ba.1 ba.2]; omega
    have e2 : (y * p + num b) / p = y := by
      rw [Int.add_comm, Int.add_mul_ediv_right _ _ (by omega), Int.ediv_eq_zero_of_lt bb.1 bb.2]; omega
    have hxy : x = y := by rw [← e1, ← e2, hn]
    subst hxy
    have hab : num a = num b := by omega
    rw [num_inj ha.tail hb.tail hl' hab]
theorem dg_num {l : List Int} (h : IsB l) : dg (num l) l.length = l := by
  have hb := num_bd h
  exact num_inj (dg_isB _ _) h (dg_len _ _) (num_dg hb.1 hb.2)

/-- k bytes off the front, as a number. -/
def tk (k : Nat) (l : List Int) : Option (Int × List Int) := if k ≤ l.length then some (num (l.take k), l.drop k) else none
theorem tk_short {k : Nat} {l : List Int} (h : l.length < k) : tk k l = none := by simp [tk]; omega
theorem tk_some {k : Nat} {l : List Int} (h : k ≤ l.length) : tk k l = some (num (l.take k), l.drop k) := by simp [tk, h]
theorem tk_dg {n : Int} {k : Nat} (h0 : 0 ≤ n) (h1 : n < 2 ^ (8 * k)) (r : List Int) : tk k (dg n k ++ r) = some (n, r) := by
  rw [tk_some (by simp [dg_len])]
  rw [List.take_append_of_le_length (by simp [dg_len]), List.take_of_length_le (by simp [dg_len]), List.drop_append_of_le_length (by simp [dg_len]), List.drop_of_length_le (by simp [dg_len]), num_dg h0 h1]
  simp
theorem tk_inv {k : Nat} {l r : List Int} {n : Int} (hl : IsB l) (h : tk k l = some (n, r)) : l = dg n k ++ r ∧ 0 ≤ n ∧ n < 2 ^ (8 * k) ∧ IsB r := by
  unfold tk at h
  split at h
  · rename_i hk
    simp only [Option.some.injEq, Prod.mk.injEq] at h
    obtain ⟨rfl, rfl⟩ := h
    have h1 : (l.take k).length = k := by simp; omega
    have h2 := dg_num (hl.take k)
    have h3 := num_bd (hl.take k)
    rw [h1] at h2 h3
    exact ⟨by rw [h2, List.take_append_drop], h3.1, h3.2, hl.drop k⟩
  · cases h
theorem tk_len {k : Nat} {l r : List Int} {n : Int} (h : tk k l = some (n, r)) : l.length = k + r.length := by
  unfold tk at h
  split at h
  · rename_i hk
    simp only [Option.some.injEq, Prod.mk.injEq] at h
    obtain ⟨rfl, rfl⟩ := h
    simp; omega
  · cases h
end Go.Proofs.Ythgkmbdnkamcoaa
