/-
  Proved here: what the document's Find answers is the best of the rules (plain). No condition.
-/
import Derived.Test.YtimenbkfkdpdcaaDoorRF
namespace Go.Proofs.YtimenbkfkdpdcaaDoor
open Go.RowKit

/-- The rules of the document's table. -/
def ruI (L : List Ie) : List Ru := L.map fun e => ⟨e.k, e.x.r, e.x.m⟩
theorem rb_spec (L : List Ie) (h : Nat → Int) : ∀ q, q ≤ L.length → (rb L h q = none → ∀ i, i < q → hit (L.getD i ie0).x.m h = false) ∧ ∀ j, rb L h q = some j → j < q ∧ hit (L.getD j ie0).x.m h = true ∧ ∀ i, i < q → hit (L.getD i ie0).x.m h = true → (L.getD i ie0).x.r ≤ (L.getD j ie0).x.r ∧ ((L.getD i ie0).x.r = (L.getD j ie0).x.r → j ≤ i)
  | 0, _ => ⟨fun _ i hi => by omega, fun j e => by cases e⟩
  | q + 1, hq => by
    obtain ⟨h1, h2⟩ := rb_spec L h q (by omega)
    have e : rb L h (q + 1) = if rbq L h (rb L h q) q then some q else rb L h q := rfl
    cases hb : rbq L h (rb L h q) q with
    | true =>
      rw [hb, if_pos rfl] at e
      rw [e]
      refine ⟨(fun e => by cases e), fun j hj => ?_⟩
      cases hj
      unfold rbq at hb
      rw [Bool.and_eq_true] at hb
      refine ⟨by omega, hb.1, fun i hi hhi => ?_⟩
      by_cases hiq : i = q
      · subst hiq; exact ⟨Int.le_refl _, fun _ => Nat.le_refl _⟩
      · cases hr : rb L h q with
        | none => rw [h1 hr i (by omega)] at hhi; cases hhi
        | some j0 =>
          have h3 := (h2 j0 hr).2.2 i (by omega) hhi
          have h4 := hb.2
          rw [hr] at h4
          have h5 : (L.getD j0 ie0).x.r < (L.getD q ie0).x.r := of_decide_eq_true h4
          exact ⟨by omega, fun e => by omega⟩
    | false =>
      rw [hb] at e
      have e' : rb L h (q + 1) = rb L h q := e
      rw [e']
      unfold rbq at hb
      refine ⟨fun hr i hi => ?_, fun j hj => ?_⟩
      · by_cases hiq : i = q
        · subst hiq
          rw [hr] at hb
          simpa using hb
        · exact h1 hr i (by omega)
      · obtain ⟨h3, h4, h5⟩ := h2 j hj
        refine ⟨by omega, h4, fun i hi hhi => ?_⟩
        by_cases hiq : i = q
        · subst hiq
          rw [hj, hhi] at hb
          have h6 : ¬ (L.getD j ie0).x.r < (L.getD i ie0).x.r := of_decide_eq_false (by simpa using hb)
          exact ⟨by omega, fun _ => by omega⟩
        · exact h5 i (by omega) hhi
/-- One best there is. -/
theorem best_rb {L : List Ie} {h : Nat → Int} (hn : L.Pairwise fun a b => a.k < b.k) {f : Option En} (hf : Best (ruI L) h f) : f.isSome = (rb L h L.length).isSome ∧ (eD f).k = match rb L h L.length with | none => 0 | some j => (L.getD j ie0).k := by
  obtain ⟨h1, h2⟩ := rb_spec L h L.length (Nat.le_refl _)
  have hmem : ∀ i (hi : i < L.length), (⟨(L.getD i ie0).k, (L.getD i ie0).x.r, (L.getD i ie0).x.m⟩ : Ru) ∈ ruI L := fun i hi => by
    rw [getD_at L i ie0 hi]
    exact List.mem_map.2 ⟨L[i], List.getElem_mem hi, rfl⟩
  have hof : ∀ u ∈ ruI L, ∃ i, i < L.length ∧ u = ⟨(L.getD i ie0).k, (L.getD i ie0).x.r, (L.getD i ie0).x.m⟩ := fun u hu => by
    obtain ⟨e, he, rfl⟩ := List.mem_map.1 hu
    obtain ⟨i, hi, rfl⟩ := List.getElem_of_mem he
    exact ⟨i, hi, by rw [getD_at L i ie0 hi]⟩
  cases hr : rb L h L.length with
  | none =>
    cases f with
    | none => exact ⟨rfl, rfl⟩
    | some e =>
      obtain ⟨⟨u, hu, -, hh⟩, -⟩ := hf.2 e rfl
      obtain ⟨i, hi, rfl⟩ := hof u hu
      have h3 : hit (L.getD i ie0).x.m h = true := hh
      rw [h1 hr i hi] at h3; cases h3
  | some j =>
    obtain ⟨h3, h4, h5⟩ := h2 j hr
    cases f with
    | none =>
      have h6 : hit (L.getD j ie0).x.m h = false := hf.1 rfl ⟨(L.getD j ie0).k, (L.getD j ie0).x.r, (L.getD j ie0).x.m⟩ (hmem j h3)
      rw [h6] at h4; cases h4
    | some e =>
      refine ⟨rfl, ?_⟩
      obtain ⟨⟨u, hu, he, hh⟩, h6⟩ := hf.2 e rfl
      obtain ⟨i, hi, rfl⟩ := hof u hu
      have h7 := h5 i hi hh
      show e.k = (L.getD j ie0).k
      rcases h6 ⟨(L.getD j ie0).k, (L.getD j ie0).x.r, (L.getD j ie0).x.m⟩ (hmem j h3) h4 with h8 | h8
      · rw [← h8]
      · rw [he] at h8 ⊢
        have h9 := ahd_iff.1 h8
        have h10 : (L.getD j ie0).x.r < (L.getD i ie0).x.r ∨ ((L.getD i ie0).x.r = (L.getD j ie0).x.r ∧ (L.getD i ie0).k < (L.getD j ie0).k) := h9
        rcases h10 with h10 | ⟨h10, h11⟩
        · omega
        · have hji := h7.2 h10
          rcases Nat.lt_or_eq_of_le hji with hlt | heq
          · have := List.pairwise_iff_getElem.1 hn j i h3 hi hlt
            rw [getD_at L i ie0 hi, getD_at L j ie0 h3] at h11
            omega
          · subst heq; rfl
end Go.Proofs.YtimenbkfkdpdcaaDoor
