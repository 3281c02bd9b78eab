/-
  Plain facts on bytes: what a packet's bytes are read as, and that bytes which are read are the packet's. No program is spoken of.
-/
import Derived.Test.YtioohgcaakcgaaaDoorD5
import Derived.Test.YtioohgcaakcgaaaDoorE3
namespace Go.Proofs.YtioohgcaakcgaaaDoor
open Go.RowKit

/-- A header's fields are within their widths, and those that must be 0 are. -/
def Vd (h : Nat → Int) : Prop :=
  h 0 < 281474976710656 ∧ h 1 < 281474976710656 ∧ 1536 ≤ h 2 ∧ h 2 < 65536 ∧ h 2 ≠ 33024 ∧ h 3 < 4096 ∧ h 4 < 4294967296 ∧ h 5 < 4294967296 ∧ h 6 < 256 ∧ h 7 < 65536 ∧ h 8 < 65536 ∧ h 9 < 65536 ∧ h 10 < 65536 ∧
    (h 2 ≠ 2048 → h 2 ≠ 2054 → h 4 = 0 ∧ h 5 = 0) ∧ (h 2 ≠ 2048 → h 6 = 0 ∧ h 7 = 0 ∧ h 8 = 0) ∧ (h 6 ≠ 6 → h 6 ≠ 17 → h 7 = 0 ∧ h 8 = 0)
theorem hOk_iff {h : Nat → Int} (h0 : ∀ k, 0 ≤ h k) : hOk h = true ↔ Vd h := by
  have q0 := h0 0; have q1 := h0 1; have q2 := h0 2; have q3 := h0 3; have q4 := h0 4; have q5 := h0 5
  have q6 := h0 6; have q7 := h0 7; have q8 := h0 8; have q9 := h0 9; have q10 := h0 10
  unfold Vd hOk
  simp only [okUpto, fldBad, bar, wid, kindOk, b45, b6, b78, portsOk]
  generalize h 0 = x0 at *; generalize h 1 = x1 at *; generalize h 2 = x2 at *; generalize h 3 = x3 at *; generalize h 4 = x4 at *; generalize h 5 = x5 at *
  generalize h 6 = x6 at *; generalize h 7 = x7 at *; generalize h 8 = x8 at *; generalize h 9 = x9 at *; generalize h 10 = x10 at *
  clear h0
  simp
  omega
theorem zf_at (k : Nat) : zf k = 0 := rfl

theorem ex_dg {n : Int} {k : Nat} (h0 : 0 ≤ n) (h1 : n < 2 ^ (8 * k)) (r : List Int) : ex k n (dg n k ++ r) = some r := by
  simp [ex, tk_dg h0 h1]
theorem ex_inv {k : Nat} {n : Int} {l r : List Int} (hl : IsB l) (h : ex k n l = some r) : l = dg n k ++ r ∧ IsB r := by
  unfold ex at h
  cases e : tk k l with
  | none => simp [e] at h
  | some p =>
    simp only [e, Option.bind_some] at h
    split at h
    · rename_i hp
      simp only [Option.some.injEq] at h
      subst h
      obtain ⟨h1, _, _, h4⟩ := tk_inv (n := p.1) (r := p.2) hl e
      rw [← hp]
      exact ⟨h1, h4⟩
    · cases h

/-- The header that ethernet reads of a header's bytes. -/
def ethOf (h : Nat → Int) : Nat → Int := if h 3 = 0 then ethH (h 1) (h 0) (h 2) else upd (upd (ethH (h 1) (h 0) 33024) 3 (h 3)) 2 (h 2)
theorem ethOf_low (h : Nat → Int) : ethOf h 0 = h 0 ∧ ethOf h 1 = h 1 ∧ ethOf h 2 = h 2 ∧ ethOf h 3 = h 3 := by
  unfold ethOf
  split
  · rename_i h3
    exact ⟨rfl, rfl, rfl, h3.symm⟩
  · exact ⟨rfl, rfl, rfl, rfl⟩
theorem ethOf_high (h : Nat → Int) (k : Nat) (hk : 4 ≤ k) : ethOf h k = 0 := by
  unfold ethOf
  split
  · unfold ethH
    rw [upd_other _ _ _ _ (by omega), upd_other _ _ _ _ (by omega), upd_other _ _ _ _ (by omega)]; rfl
  · unfold ethH
    rw [upd_other _ _ _ _ (by omega), upd_other _ _ _ _ (by omega), upd_other _ _ _ _ (by omega), upd_other _ _ _ _ (by omega), upd_other _ _ _ _ (by omega)]; rfl
theorem ethOf_ok {h : Nat → Int} (h0 : ∀ k, 0 ≤ h k) (hv : Vd h) : hOk (ethOf h) = true := by
  obtain ⟨e0, e1, e2, e3⟩ := ethOf_low h
  have hh := ethOf_high h
  rw [hOk_iff]
  · unfold Vd at *
    rw [e0, e1, e2, e3, hh 4 (by omega), hh 5 (by omega), hh 6 (by omega), hh 7 (by omega), hh 8 (by omega), hh 9 (by omega), hh 10 (by omega)]
    omega
  · intro k
    by_cases hk : 4 ≤ k
    · rw [hh k hk]; exact Int.le_refl _
    · have : k = 0 ∨ k = 1 ∨ k = 2 ∨ k = 3 := by omega
      rcases this with rfl | rfl | rfl | rfl
      · rw [e0]; exact h0 0
      · rw [e1]; exact h0 1
      · rw [e2]; exact h0 2
      · rw [e3]; exact h0 3
theorem p48 : (2 : Int) ^ (8 * 6) = 281474976710656 := by decide
theorem p16 : (2 : Int) ^ (8 * 2) = 65536 := by decide
theorem p32 : (2 : Int) ^ (8 * 4) = 4294967296 := by decide
theorem p8 : (2 : Int) ^ (8 * 1) = 256 := by decide
theorem p64 : (2 : Int) ^ (8 * 8) = 18446744073709551616 := by decide

theorem pEth_ethL {h : Nat → Int} (h0 : ∀ k, 0 ≤ h k) (hv : Vd h) (r : List Int) : pEth (ethL h ++ r) = some (ethOf h, r) := by
  have hok := ethOf_ok h0 hv
  have hV := hv
  unfold Vd at hv
  have a1 : ∀ r, tk 6 (dg (h 1) 6 ++ r) = some (h 1, r) := tk_dg (h0 1) (by rw [p48]; omega)
  have a0 : ∀ r, tk 6 (dg (h 0) 6 ++ r) = some (h 0, r) := tk_dg (h0 0) (by rw [p48]; omega)
  have a2 : ∀ r, tk 2 (dg (h 2) 2 ++ r) = some (h 2, r) := tk_dg (h0 2) (by rw [p16]; omega)
  have a3 : ∀ r, tk 2 (dg (h 3) 2 ++ r) = some (h 3, r) := tk_dg (h0 3) (by rw [p16]; omega)
  have at' : ∀ r, tk 2 (dg 33024 2 ++ r) = some (33024, r) := tk_dg (by omega) (by rw [p16]; omega)
  by_cases h3 : h 3 = 0
  · have e : ethOf h = ethH (h 1) (h 0) (h 2) := by unfold ethOf; rw [if_pos h3]
    rw [e] at hok ⊢
    have hne : ¬ h 2 = 33024 := by omega
    simp only [pEth, ethL, tagL, if_pos h3, List.append_assoc, List.nil_append, a1, a0, a2, Option.bind_some, if_neg hne, chkd, hok, if_true]
  · have e : ethOf h = upd (upd (ethH (h 1) (h 0) 33024) 3 (h 3)) 2 (h 2) := by unfold ethOf; rw [if_neg h3]
    rw [e] at hok ⊢
    simp only [pEth, ethL, tagL, if_neg h3, List.append_assoc, a1, a0, a2, a3, at', Option.bind_some, if_true, chkd, hok]

/-- What ethernet reads are the bytes of the header that it tells. -/
theorem pEth_inv {l r : List Int} {E : Nat → Int} (hl : IsB l) (e : pEth l = some (E, r)) : l = ethL E ++ r ∧ IsB r ∧ (∀ k, 0 ≤ E k) ∧ Vd E ∧ ∀ k, 4 ≤ k → E k = 0 := by
  unfold pEth at e
  simp only [Option.bind_eq_some_iff] at e
  obtain ⟨⟨n1, r1⟩, e1, ⟨n2, r2⟩, e2, ⟨n3, r3⟩, e3, e4⟩ := e
  obtain ⟨x1, b1, _, c1⟩ := tk_inv hl e1
  obtain ⟨x2, b2, _, c2⟩ := tk_inv c1 e2
  obtain ⟨x3, b3, _, c3⟩ := tk_inv c2 e3

  split at e4
  · rename_i ht
    try simp only at ht
    subst ht
    simp only [Option.bind_eq_some_iff] at e4
    obtain ⟨⟨n4, r4⟩, e4, e5⟩ := e4
    obtain ⟨x4, b4, _, c4⟩ := tk_inv c3 e4
    try simp only at e5
    split at e5
    · cases e5
    · rename_i hv0
      simp only [Option.bind_eq_some_iff] at e5
      obtain ⟨⟨n5, r5⟩, e5, e6⟩ := e5
      obtain ⟨x5, b5, _, c5⟩ := tk_inv c4 e5
      unfold chkd at e6
      split at e6
      · rename_i hok
        simp only [Option.some.injEq, Prod.mk.injEq] at e6
        obtain ⟨rfl, rfl⟩ := e6
        have hnn : ∀ k, 0 ≤ upd (upd (ethH n1 n2 33024) 3 n4) 2 n5 k := by
          intro k
          by_cases hk : 4 ≤ k
          · unfold ethH
            rw [upd_other _ _ _ _ (by omega), upd_other _ _ _ _ (by omega), upd_other _ _ _ _ (by omega), upd_other _ _ _ _ (by omega), upd_other _ _ _ _ (by omega)]; exact Int.le_refl _
          · have : k = 0 ∨ k = 1 ∨ k = 2 ∨ k = 3 := by omega
            rcases this with rfl | rfl | rfl | rfl
            · exact b2
            · exact b1
            · exact b5
            · exact b4
        refine ⟨?_, c5, hnn, (hOk_iff hnn).1 hok, fun k hk => ?_⟩
        · rw [x1, x2, x3, x4, x5]
          unfold ethL tagL
          rw [if_neg (show ¬ upd (upd (ethH n1 n2 33024) 3 n4) 2 n5 3 = 0 from hv0)]
          simp only [List.append_assoc]
          rfl
        · unfold ethH
          rw [upd_other _ _ _ _ (by omega), upd_other _ _ _ _ (by omega), upd_other _ _ _ _ (by omega), upd_other _ _ _ _ (by omega), upd_other _ _ _ _ (by omega)]; rfl
      · cases e6
  · unfold chkd at e4
    split at e4
    · rename_i hok
      simp only [Option.some.injEq, Prod.mk.injEq] at e4
      obtain ⟨rfl, rfl⟩ := e4
      have hnn : ∀ k, 0 ≤ ethH n1 n2 n3 k := by
        intro k
        by_cases hk : 3 ≤ k
        · unfold ethH
          rw [upd_other _ _ _ _ (by omega), upd_other _ _ _ _ (by omega), upd_other _ _ _ _ (by omega)]; exact Int.le_refl _
        · have : k = 0 ∨ k = 1 ∨ k = 2 := by omega
          rcases this with rfl | rfl | rfl
          · exact b2
          · exact b1
          · exact b3
      refine ⟨?_, c3, hnn, (hOk_iff hnn).1 hok, fun k hk => ?_⟩
      · rw [x1, x2, x3]
        unfold ethL tagL
        rw [if_pos (show ethH n1 n2 n3 3 = 0 from rfl)]
        simp only [List.append_assoc, List.nil_append]
        rfl
      · unfold ethH
        rw [upd_other _ _ _ _ (by omega), upd_other _ _ _ _ (by omega), upd_other _ _ _ _ (by omega)]; rfl
    · cases e4
end Go.Proofs.YtioohgcaakcgaaaDoor
