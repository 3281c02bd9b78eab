/-
  Plain facts: of any k datagrams one comes, in both ways: within 2 k rounds one message more is got; what a round makes of two ends. No program's function is spoken of.
-/
import Derived.Test.YtijjcopglbcoiaaL2
namespace Go.Proofs.Ytijjcopglbcoiaa
open Seal

/-- How far it has come behind t rounds: n messages, of which got are got, come have come; la, lb datagrams were lost last, there and back. -/
structure Pr (k t n got come la lb : Nat) : Prop where
  le : got ≤ come
  len : come ≤ n
  a : la < k
  b : lb < k
  near : got = n ∨ (come = got ∧ t + 2 * k * (n - got) ≤ 2 * k * n + la) ∨ (got < come ∧ t + 2 * k * (n - got) ≤ 2 * k * n + k + lb)
theorem Pr.start {k n : Nat} (hk : 0 < k) : Pr k 0 n 0 0 0 0 := ⟨Nat.le_refl _, Nat.zero_le _, hk, hk, Or.inr (Or.inl ⟨rfl, by simp⟩)⟩
/-- A round. -/
theorem Pr.step {k t n got come la lb got' come' la' lb' : Nat} (h : Pr k t n got come la lb) (hc : come ≤ come') (hcn : come' ≤ n)
    (hA : (la' = 0 ∧ (got < n → got + 1 ≤ come')) ∨ (la' = la + 1 ∧ la + 1 < k ∧ come' = come)) (hB : (lb' = 0 ∧ got' = come) ∨ (lb' = lb + 1 ∧ lb + 1 < k ∧ got' = got)) : Pr k (t + 1) n got' come' la' lb' := by
  have h1 := h.le; have h2 := h.len; have h3 := h.a; have h4 := h.b
  have ha : la' < k := by rcases hA with ⟨rfl, _⟩ | ⟨rfl, _, _⟩ <;> omega
  have hb : lb' < k := by rcases hB with ⟨rfl, _⟩ | ⟨rfl, _, _⟩ <;> omega
  have hg : got' ≤ come' := by rcases hB with ⟨_, rfl⟩ | ⟨_, _, rfl⟩ <;> omega
  refine ⟨hg, hcn, ha, hb, ?_⟩
  have hmul : got + 1 ≤ got' → got' ≤ n → 2 * k * (n - got') + 2 * k ≤ 2 * k * (n - got) := fun a b => by
    have e : 2 * k * (n - got') + 2 * k = 2 * k * ((n - got') + 1) := by rw [Nat.mul_add, Nat.mul_one]
    rw [e]
    exact Nat.mul_le_mul_left _ (by omega)
  by_cases hdone : got' = n
  · exact Or.inl hdone
  · refine Or.inr ?_
    rcases h.near with hn | ⟨hcg, hn⟩ | ⟨hcg, hn⟩
    · exfalso
      rcases hB with ⟨_, rfl⟩ | ⟨_, _, rfl⟩ <;> omega
    · -- nothing beyond what is got has come
      have hgot : got' = got := by rcases hB with ⟨_, rfl⟩ | ⟨_, _, rfl⟩ <;> omega
      subst hgot
      rcases hA with ⟨rfl, hA⟩ | ⟨rfl, _, rfl⟩
      · have := hA (by omega)
        refine Or.inr ⟨by omega, ?_⟩
        omega
      · exact Or.inl ⟨by omega, by omega⟩
    · rcases hB with ⟨rfl, rfl⟩ | ⟨rfl, _, rfl⟩
      · -- what came is got
        have hm := hmul (by omega) (by omega)
        by_cases he : come' = got'
        · refine Or.inl ⟨he, ?_⟩
          omega
        · refine Or.inr ⟨by omega, ?_⟩
          omega
      · exact Or.inr ⟨by omega, by omega⟩
/-- Behind 2 k (n + 1) rounds all is got. -/
theorem Pr.done {k t n got come la lb : Nat} (h : Pr k t n got come la lb) (ht : 2 * k * (n + 1) ≤ t) : got = n ∧ come = n := by
  have h1 := h.le; have h2 := h.len; have h3 := h.a; have h4 := h.b
  rw [Nat.mul_add, Nat.mul_one] at ht
  have : got = n := by
    rcases h.near with hn | ⟨hcg, hn⟩ | ⟨hcg, hn⟩
    · exact hn
    · omega
    · omega
  omega
/-- The first message that is not got goes into the datagram. -/
theorem win_some {P : List (List Int)} {A : E} (hs : A.sent = P.drop A.got) (hg : A.got < P.length) (hm : ∀ m ∈ P, m.length ≤ 4096) : 0 < (win A).length := by
  unfold win
  rw [hs, List.drop_eq_getElem_cons hg]
  have := hm _ (List.getElem_mem hg)
  unfold wd
  rw [if_pos (by omega)]
  simp
/-- What a datagram of A's, told just now, makes of B. -/
theorem take_tick {P Q x y : List (List Int)} {A B : E} (h1 : Dir P x A B) (h2 : Dir Q y B A) (he : B.ep = A.ep) (hp : AllB P) (hm : ∀ m ∈ P, m.length ≤ 4096) (hc : A.come < 4294967296) (hg : A.got < 4294967296) (he32 : A.ep < 4294967296) (hl : B.got + B.sent.length = Q.length) :
    (A.got < P.length → A.got + 1 ≤ (taS B (tkL A)).come) ∧ (taS B (tkL A)).got = A.come ∧ (taS B (tkL A)).got + (taS B (tkL A)).sent.length = Q.length := by
  have hB : AllB (win A) := by rw [win_pre, h1.sent]; exact (hp.drop _).take _
  have hm8 : ∀ m ∈ win A, m.length ≤ 8192 := fun m h => by
    rw [win_pre, h1.sent] at h
    have := hm m (List.mem_of_mem_drop (List.mem_of_mem_take h))
    omega
  have ht := take_dat hB (win_le A) hm8 he32 hc hg B
  have hh : hear B A.ep A.come A.got (win A) = ad (gt B A.come) A.got (win A) := by
    unfold hear; rw [if_neg (by omega), show rs B A.ep = B from if_neg (by omega)]
  have hts : taS B (tkL A) = ad (gt B A.come) A.got (win A) := ht.2.trans hh
  have hgt : (gt B A.come).come = B.come ∧ (gt B A.come).new = B.new ∧ (gt B A.come).got = A.come ∧ (gt B A.come).got + (gt B A.come).sent.length = Q.length := by
    have hba := h2.got
    have hle := h2.rel.le
    unfold gt
    split
    · rename_i h
      refine ⟨rfl, rfl, rfl, ?_⟩
      show A.come + (B.sent.drop (A.come - B.got)).length = _
      rw [List.length_drop]; omega
    · rename_i h
      have : B.got = A.come := by omega
      exact ⟨rfl, rfl, this, hl⟩
  have hrel : Rel P x (gt B A.come) := ⟨by rw [hgt.1, hgt.2.1]; exact h1.rel.all, by rw [hgt.1]; exact h1.rel.le⟩
  have hsub : Sub P A.got (win A) := by rw [win_pre, h1.sent]; exact sub_take
  have ha := rel_ad (win A) (gt B A.come) A.got hrel hsub
  rw [hts]
  refine ⟨fun hlt => ?_, ?_, ?_⟩
  · have h3 := ha.2.2.1 (by rw [hgt.1]; exact h1.got)
    have := win_some h1.sent hlt hm
    omega
  · rw [ha.2.2.2.2.2]; exact hgt.2.2.1
  · rw [ha.2.2.2.2.2, ha.2.2.2.2.1]; exact hgt.2.2.2
end Go.Proofs.Ytijjcopglbcoiaa
