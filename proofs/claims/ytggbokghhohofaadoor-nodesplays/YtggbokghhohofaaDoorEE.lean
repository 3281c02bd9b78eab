/-
  Plain: what a leaf, a test, an act make of a store is one thing. Condition: no node stands twice.
-/
import Derived.Test.YtggbokghhohofaaDoorDA
namespace Go.Proofs.YtggbokghhohofaaDoor

theorem putR_fn {all : List Nd} {x : Nd} {id er id2 er2 : Int} {l1 l2 : List Nd} (hn : all.Nodup) (h : PutR all x id er l1) (k : PutR all x id2 er2 l2) : id = id2 ∧ er = er2 ∧ l1 = l2 := by
  rcases h with ⟨i, hi, e, h1, h2, h3⟩ | ⟨hx, hl, h1, h2, h3⟩ | ⟨hx, hl, h1, h2, h3⟩
  · obtain ⟨k1, k2, k3⟩ := putR_old k (e ▸ List.getElem_mem hi) hn i hi e
    exact ⟨by rw [h1, k1], by rw [h2, k2], by rw [h3, k3]⟩
  · rcases k with ⟨j, hj, e, _⟩ | ⟨_, _, k1, k2, k3⟩ | ⟨_, kl, _⟩
    · exact absurd (e ▸ List.getElem_mem hj) hx
    · exact ⟨by rw [h1, k1], by rw [h2, k2], by rw [h3, k3]⟩
    · omega
  · obtain ⟨k1, k2, k3⟩ := putR_new k hx hl
    exact ⟨by rw [h1, k1], by rw [h2, k2], by rw [h3, k3]⟩
theorem leafR_fn {all : List Nd} {rows : List (List Ac)} {id er id2 er2 : Int} {l1 l2 : List Nd} (hn : all.Nodup) (h : LeafR all rows id er l1) (k : LeafR all rows id2 er2 l2) : id = id2 ∧ er = er2 ∧ l1 = l2 := by
  rcases h with ⟨h0, h1, h2, h3⟩ | ⟨K, h0, h1⟩
  · rcases k with ⟨_, k1, k2, k3⟩ | ⟨K', k0, _⟩
    · exact ⟨by rw [h1, k1], by rw [h2, k2], by rw [h3, k3]⟩
    · rw [h0] at k0; cases k0
  · rcases k with ⟨k0, _⟩ | ⟨K', k0, k1⟩
    · rw [h0] at k0; cases k0
    · rw [h0] at k0
      simp only [Option.some.injEq] at k0
      subst k0
      exact putR_fn hn h1 k1
theorem testR_fn {all : List Nd} {fd n hi lo : Int} {id er id2 er2 : Int} {l1 l2 : List Nd} (hn : all.Nodup) (h : TestR all fd n hi lo id er l1) (k : TestR all fd n hi lo id2 er2 l2) : id = id2 ∧ er = er2 ∧ l1 = l2 := by
  rcases h with ⟨h0, h1, h2, h3⟩ | ⟨h0, he, h1, h2, h3⟩ | ⟨h0, he, h1⟩
  · rcases k with ⟨_, k1, k2, k3⟩ | ⟨k0, _⟩ | ⟨k0, _⟩
    · exact ⟨by rw [h1, k1], by rw [h2, k2], by rw [h3, k3]⟩
    · rw [h0] at k0; cases k0
    · rw [h0] at k0; cases k0
  · rcases k with ⟨k0, _⟩ | ⟨_, _, k1, k2, k3⟩ | ⟨_, ke, _⟩
    · rw [h0] at k0; cases k0
    · exact ⟨by rw [h1, k1], by rw [h2, k2], by rw [h3, k3]⟩
    · exact absurd he ke
  · rcases k with ⟨k0, _⟩ | ⟨_, ke, _⟩ | ⟨_, _, k1⟩
    · rw [h0] at k0; cases k0
    · exact absurd ke he
    · exact putR_fn hn h1 k1
end Go.Proofs.YtggbokghhohofaaDoor
