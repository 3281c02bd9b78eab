/-
  Proved here: a byte of what the call owns is stored, read; a datagram with one byte changed is torn. No condition.
-/
import Derived.Test.YtijjcopglbcoiaaW1
namespace Go.Proofs.Ytijjcopglbcoiaa
open Go.RowKit Seal

/-- A byte of what the call owns is stored. -/
theorem Owns.set {base g n c : Nat} {w : World} {xs : List Int} (h : Owns base w (.slice (some ⟨g, 0, none⟩) n c) xs) (j : Nat) (y : Int) : Owns base (w.setCell ⟨g, j, none⟩ (.int .u8 y)) (.slice (some ⟨g, 0, none⟩) n c) (xs.set j y) := by
  have hn : xs.length = (xs.set j y).length := by simp
  unfold Owns
  rw [← hn]
  refine ⟨by simp, ?_⟩
  rcases h.2 with ⟨e, _⟩ | ⟨g', cap, cur, e, hb, hg, hc, hm, hsz, ht⟩
  · cases e
  · simp only [Value.slice.injEq, Option.some.injEq, Addr.mk.injEq] at e
    obtain ⟨⟨rfl, _, _⟩, rfl, rfl⟩ := e
    refine Or.inr ⟨g, c, cur.setIfInBounds j (.int .u8 y), rfl, hb, ?_, hc, hm, by simpa using hsz, ?_⟩
    · rw [heap_setCell_same w g j _ 5 _ hg]
    · rw [Array.toList_setIfInBounds, List.map_set, ← ht, List.take_set]
theorem IsB.set {xs : List Int} (h : IsB xs) (j : Nat) {y : Int} (h0 : 0 ≤ y) (h1 : y < 256) : IsB (xs.set j y) := fun x hx => by
  rcases List.mem_or_eq_of_mem_set hx with hx | rfl
  · exact h x hx
  · exact ⟨h0, h1⟩
theorem Owns.cell {base g n c : Nat} {w : World} {xs : List Int} (h : Owns base w (.slice (some ⟨g, 0, none⟩) n c) xs) (j : Nat) (hj : j < xs.length) : w.cell? ⟨g, j, none⟩ = some (.int .u8 (xs.getD j 0)) ∧ w.frozen? ⟨g, j, none⟩ = false := by
  rcases h.2 with ⟨e, _⟩ | ⟨g', cap, cur, e, hb, hg, hc, hm, hsz, ht⟩
  · cases e
  · simp only [Value.slice.injEq, Option.some.injEq, Addr.mk.injEq] at e
    obtain ⟨⟨rfl, _, _⟩, rfl, rfl⟩ := e
    refine ⟨?_, by simp [World.frozen?, hg]⟩
    rw [cell_of_row w g j cur 5 (0, 0) hg]
    have h2 : (cur.toList.take (xs.length * 1))[j]? = (xs.map (Value.int .u8))[j]? := by rw [ht]
    rw [List.getElem?_take, if_pos (by omega)] at h2
    simp only [Array.getElem?_toList, List.getElem?_map] at h2
    rw [h2, List.getD_eq_getElem?_getD, List.getElem?_eq_getElem hj]; rfl

theorem place (k N : Int) (h0 : 0 < N) (h1 : N ≤ 1000000) : ∃ p : Nat, (Go.RowKit.wrap64 (k.tmod N + N)).tmod N = (p : Int) ∧ (p : Int) < N := by
  have ha := Int.natAbs_tmod k N
  have hb := Nat.mod_lt k.natAbs (show 0 < N.natAbs by omega)
  rw [← ha] at hb
  have hw : Go.RowKit.wrap64 (k.tmod N + N) = k.tmod N + N := by
    unfold Go.RowKit.wrap64
    omega
  rw [hw]
  have hn := Int.tmod_nonneg N (show 0 ≤ k.tmod N + N by omega)
  have hlt := Int.tmod_lt_of_pos (k.tmod N + N) h0
  exact ⟨((k.tmod N + N).tmod N).toNat, by omega, by omega⟩
theorem Owns.form {base : Nat} {w : World} {v : Value} {xs : List Int} (h : Owns base w v xs) (hne : xs.length ≠ 0) : ∃ g c, v = .slice (some ⟨g, 0, none⟩) xs.length c ∧ base ≤ g := by
  rcases h.2 with ⟨_, h0⟩ | ⟨g, cap, cur, e, hb, _⟩
  · exact absurd h0 hne
  · exact ⟨g, cap, e, hb⟩


/-- A datagram with one byte changed is torn. -/
theorem torn {b : List Int} (hB : IsB b) {i q : Nat} (hi : i < b.length + 4) (hq : q < 256) (h0 : q ≠ 0) {y : Int} (hy : y.toNat = ((dat b).getD i 0).toNat ^^^ q) (y0 : 0 ≤ y) (y1 : y < 256) : opE ((dat b).set i y) = 50 := by
  have hl : i < (dat b).length := by rw [dat_len]; exact hi
  have hs := le_set (dat b) i y q hl hy
  have hx : IsB ((dat b).set i y) := (dat_isB hB).set i y0 y1
  have hlen : ((dat b).set i y).length = b.length + 4 := by rw [List.length_set, dat_len]
  by_cases h : i ≤ b.length
  · exact open_torn hB hx hlen (p := 8 * i) (q := q) (by omega) (by omega) h0 hs
  · obtain ⟨t, rfl⟩ : ∃ t, i = b.length + t := ⟨i - b.length, by omega⟩
    have ht : t ≤ 3 := by omega
    have e : q <<< (8 * (b.length + t)) = (q <<< (8 * t)) <<< (8 * b.length) := by
      rw [← Nat.shiftLeft_add, Nat.mul_add, Nat.add_comm]
    rw [e] at hs
    have hb : q <<< (8 * t) < 4294967296 := by
      rw [Nat.shiftLeft_eq]
      have h2 : 2 ^ (8 * t) ≤ 2 ^ 24 := Nat.pow_le_pow_right (by omega) (by omega)
      have h3 : q * 2 ^ (8 * t) ≤ 255 * 2 ^ 24 := Nat.mul_le_mul (by omega) h2
      have h4 : 255 * 2 ^ 24 = 4278190080 := by decide
      omega
    have hne : q <<< (8 * t) ≠ 0 := by
      rw [Nat.shiftLeft_eq]
      have := Nat.pos_of_ne_zero h0
      have := Nat.mul_pos this (Nat.pow_pos (n := 8 * t) (show 0 < 2 by omega))
      omega
    exact open_torn hB hx hlen (p := 8 * b.length) (q := q <<< (8 * t)) (by omega) hb hne hs
theorem taE_torn {d : List Int} (h : opE d = 50) : taE d = 50 ∧ ∀ e, taS e d = e := by
  have h1 : taE d = 50 := by unfold taE; rw [h]; rfl
  exact ⟨h1, fun e => by unfold taS; rw [h1]; rfl⟩
end Go.Proofs.Ytijjcopglbcoiaa
