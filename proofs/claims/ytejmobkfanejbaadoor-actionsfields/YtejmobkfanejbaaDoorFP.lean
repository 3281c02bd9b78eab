/-
  Plain: a header goes out with no field changed but those that some action sets, and its port; what is changed fits. No program is spoken of.
-/
import Derived.Test.YtejmobkfanejbaaDoorWR
namespace Go.Proofs.YtejmobkfanejbaaDoor
open Go.RowKit

/-- Does an action set this field? -/
def setF (f : Nat) (a : Ac) : Bool := a.dw == 0 && a.fd == (f : Int)
def sets (f : Nat) (c : List (List Ac)) : Bool := c.any fun l => l.any (setF f)
theorem sets_one (f : Nat) (c : List (List Ac)) (l : List Ac) : sets f (c ++ [l]) = (sets f c || l.any (setF f)) := by simp [sets]
theorem any_one (f : Nat) (l : List Ac) (a : Ac) : (l ++ [a]).any (setF f) = (l.any (setF f) || setF f a) := by simp
theorem isAc_set {a : Ac} (h : isAc a = true) (h0 : a.dw = 0) : mayF a.fd = true ∧ fits a.fd a.n = true := by
  rw [isAc_0 h0, Bool.and_eq_true] at h; exact h
theorem isAc_out {a : Ac} (h : isAc a = true) (h0 : a.dw = 1) : fits 9 a.n = true := by
  rw [isAc_1 h0, Bool.and_eq_true] at h; exact h.2
/-- A field is as it was, or fits. -/
def Okf (h g : Nat → Int) (f : Nat) : Prop := g f = h f ∨ fits (f : Int) (g f) = true
theorem okf_set {h g : Nat → Int} {f : Nat} {a : Ac} (hg : Okf h g f) (ha : isAc a = true) : Okf h (setH g a) f := by
  unfold setH
  by_cases h0 : a.dw = 0 ∧ isF a.fd = true
  · rw [if_pos h0]
    have hb := isF_iff.1 h0.2
    by_cases e : f = a.fd.toNat
    · right
      subst e
      rw [upd_same, show ((a.fd.toNat : Nat) : Int) = a.fd by omega]
      exact (isAc_set ha h0.1).2
    · unfold Okf
      rw [upd_other _ _ _ _ e]; exact hg
  · rw [if_neg h0]; exact hg
theorem okf_at {h g : Nat → Int} {f : Nat} {n : Int} (hg : Okf h g f) (hn : fits 9 n = true) : Okf h (atP g n) f := by
  unfold atP
  split
  · exact hg
  · by_cases e : f = 9
    · right
      subst e
      rw [upd_same]; exact hn
    · unfold Okf
      rw [upd_other _ _ _ _ e]; exact hg
theorem okf_sens {h : Nat → Int} {f : Nat} : ∀ (l : List Ac) (g : Nat → Int), Okf h g f → (∀ a ∈ l, isAc a = true) → ∀ x ∈ sens g l, Okf h x f
  | [], _, _, _, x, hx => by simp [sens] at hx
  | a :: l, g, hg, ha, x, hx => by
    simp only [sens, List.mem_append] at hx
    rcases hx with hx | hx
    · unfold sen1 at hx
      split at hx
      · rename_i h1
        simp only [List.mem_cons, List.not_mem_nil, or_false] at hx
        subst hx
        exact okf_at hg (isAc_out (ha a (by simp)) h1)
      · simp at hx
    · exact okf_sens l _ (okf_set hg (ha a (by simp))) (fun b hb => ha b (by simp [hb])) x hx
theorem still_set {g : Nat → Int} {f : Nat} {a : Ac} (hf : f < 11) (ha : setF f a = false) : setH g a f = g f := by
  unfold setH
  split
  · rename_i h0
    have hb := isF_iff.1 h0.2
    refine upd_other _ _ _ _ fun e => ?_
    have : setF f a = true := by
      unfold setF
      rw [h0.1, show a.fd = (f : Int) by omega]; simp
    rw [this] at ha; cases ha
  · rfl
theorem still_sens {f : Nat} (hf : f < 11) (h9 : f ≠ 9) : ∀ (l : List Ac) (g : Nat → Int), l.any (setF f) = false → ∀ x ∈ sens g l, x f = g f
  | [], _, _, x, hx => by simp [sens] at hx
  | a :: l, g, ha, x, hx => by
    simp only [List.any_cons, Bool.or_eq_false_iff] at ha
    simp only [sens, List.mem_append] at hx
    rcases hx with hx | hx
    · unfold sen1 at hx
      split at hx
      · simp only [List.mem_cons, List.not_mem_nil, or_false] at hx
        subst hx
        unfold atP
        split
        · rfl
        · exact upd_other _ _ _ _ h9
      · simp at hx
    · rw [still_sens hf h9 l _ ha.2 x hx, still_set hf ha.1]
theorem mem_outs {h : Nat → Int} {ps : List Int} {c : List (List Ac)} {x : Nat → Int} (hx : x ∈ outs h ps c) : ∃ l ∈ c, x ∈ sens h l := by
  unfold outs at hx
  obtain ⟨l, hl, hx⟩ := List.mem_flatMap.1 hx
  exact ⟨l, hl, (List.mem_filter.1 hx).1⟩
/-- WHAT NO ACTION SETS STAYS. -/
theorem outs_stay {h : Nat → Int} {ps : List Int} {c : List (List Ac)} {x : Nat → Int} {f : Nat} (hx : x ∈ outs h ps c) (hf : f < 11) (hm : (decide (f = 9) || sets f c) = false) : x f = h f := by
  obtain ⟨l, hl, hx⟩ := mem_outs hx
  simp only [Bool.or_eq_false_iff, decide_eq_false_iff_not] at hm
  refine still_sens hf hm.1 l h ?_ x hx
  cases he : l.any (setF f)
  · rfl
  · have : sets f c = true := List.any_eq_true.2 ⟨l, hl, he⟩
    rw [this] at hm; cases hm.2
theorem outs_fit {h : Nat → Int} {ps : List Int} {c : List (List Ac)} {x : Nat → Int} {f : Nat} (hx : x ∈ outs h ps c) (hc : okC c = true) (hne : x f ≠ h f) : fits (f : Int) (x f) = true := by
  obtain ⟨l, hl, hx⟩ := mem_outs hx
  have ha : ∀ a ∈ l, isAc a = true := fun a ha => List.all_eq_true.1 (List.all_eq_true.1 hc l hl) a ha
  exact (okf_sens l h (Or.inl rfl) ha x hx).resolve_left hne
theorem fits_bd {f n : Int} (h : fits f n = true) : (0 ≤ n ∧ n < 18446744073709551616) ∧ n / 2 ^ (widV f).toNat = 0 := by
  have h1 : n / 2 ^ (widV f).toNat = 0 := by simpa [fits] using h
  refine ⟨?_, h1⟩
  have hb := widV_bd f
  obtain ⟨k, hk⟩ : ∃ k : Nat, (widV f).toNat = k := ⟨_, rfl⟩
  have hk48 : k ≤ 48 := by omega
  rw [hk] at h1
  have hpos : (0 : Int) < 2 ^ k := Int.pow_pos (by omega)
  have hle : (2 : Int) ^ k ≤ 2 ^ 48 := by
    have := Nat.pow_le_pow_right (n := 2) (by omega) hk48
    exact_mod_cast this
  have h2 := Int.emod_nonneg n (Int.ne_of_gt hpos)
  have h3 := Int.emod_lt_of_pos n hpos
  have h4 := Int.mul_ediv_add_emod n (2 ^ k)
  rw [h1, Int.mul_zero, Int.zero_add] at h4
  have h5 : (2 : Int) ^ 48 = 281474976710656 := by decide
  constructor
  · omega
  · omega
theorem ckR_zero {r : Rl} (h : ckR r = 0) : okC r.cp = true := by
  unfold ckR at h
  cases h1 : mOk r.mt
  · rw [h1] at h; simp at h
  · rw [h1] at h
    cases h2 : (few r.cp && okC r.cp)
    · rw [h2] at h; simp at h
    · rw [Bool.and_eq_true] at h2; exact h2.2
end Go.Proofs.YtejmobkfanejbaaDoor
