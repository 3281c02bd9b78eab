/-
  Proved here: a slice of bytes is appended to a row of slices, wherever the row lies, whether there is room or not. Condition: the row has fewer than 2 to 31.
-/
import Derived.Test.YthgkmbdnkamcoaaM1
namespace Go.Proofs.Ythgkmbdnkamcoaa
open Go.RowKit Seal

/-- What an append to the slice v leaves. -/
structure Apd (w : World) (v : Value) (w' : World) : Prop where
  os : w'.os = w.os
  tape : w'.tape = w.tape
  output : w'.output = w.output
  size : w.heap.size ≤ w'.heap.size
  block : ∀ k, k < w.heap.size → v.ownBlock ≠ some k → w'.heap[k]? = w.heap[k]?
theorem Apd.only {S : Nat → Prop} {w w' : World} {v : Value} (h : Apd w v w') (hf : Fresh S w) (hv : ∀ k, v.ownBlock = some k → S k) : Only S w w' :=
  ⟨h.os, h.tape, h.output, h.size, fun k hk => by
    rcases Nat.lt_or_ge k w.heap.size with hl | hl
    · exact h.block k hl fun e => hk (hv k e)
    · exact absurd (hf k hl) hk⟩
theorem Sp.own {S T : Nat → Prop} {w : World} {v : Value} {ll : List (List Int)} (h : Sp S T w v ll) (k : Nat) (hk : v.ownBlock = some k) : S k := by
  rcases h with ⟨rfl, _⟩ | ⟨g, o, cap, cur, rfl, h2, _⟩
  · simp [Value.ownBlock] at hk
  · simp [Value.ownBlock] at hk; subst hk; exact h2
theorem getD_app (ll : List (List Int)) (m : List Int) (j : Nat) (h : j < ll.length) : (ll ++ [m]).getD j [] = ll.getD j [] := by
  simp only [List.getD_eq_getElem?_getD, List.getElem?_append_left h]
theorem getD_app_last (ll : List (List Int)) (m : List Int) : (ll ++ [m]).getD ll.length [] = m := by
  simp [List.getD_eq_getElem?_getD]

theorem run_sp_app {S T : Nat → Prop} {w : World} {v u : Value} {ll : List (List Int)} {m : List Int} {b : Nat} (ty : TypeId) (h : Sp S T w v ll) (hu : SlC T w u m) (hd : ∀ k, v.ownBlock = some k → ¬ T k) (hl : ll.length < 2147483648) (hb : w.cell? ⟨b, 0, none⟩ = some u) :
    ∃ v' w', (Builtin.append_ #[28, 28] ty #[v, .slice (some ⟨b, 0, none⟩) 1 1]).run Try.prog w = .ok v' w' ∧ Apd w v w' ∧ Sp (fun k => S k ∨ w.heap.size ≤ k) T w' v' (ll ++ [m]) := by
  obtain ⟨i, hi, hz0, hz1, hz2⟩ := info_parts infoB
  have hnews : ∀ j x, [u][j]? = some x → w.cell? (Addr.add ⟨b, 0, none⟩ j) = some x := by
    intro j x hx
    have : j = 0 := by
      rcases Nat.eq_zero_or_pos j with e | e
      · exact e
      · rw [List.getElem?_eq_none (by simp only [List.length_singleton]; omega)] at hx; cases hx
    subst this
    simp at hx; subst hx
    rw [Addr.add_lit]; exact hb
  have h1 : ∀ x ∈ [u], x.oneCell' = true := by
    intro x hx
    have : x = u := by simpa using hx
    subst this; exact hu.one
  have hlen : (ll ++ [m]).length = ll.length + 1 := by simp
  rcases h with ⟨rfl, rfl⟩ | ⟨g, o, cap, cur, rfl, h2, h3, h4, h5, h6⟩
  · obtain ⟨v', w', hr, ho, hg, _⟩ := run_append_own (P := Try.prog) w w.heap.size 28 ty 31 i (.slice none 0 0) 1 24 Try.underlying28 hi hz0 hz1 hz2 rfl (by decide) nilS 0 [] (World.ownsRow_nil _ _ _ _) ⟨b, 0, none⟩ 1 1 [u] rfl hnews h1 (by unfold maxLen; omega) (by omega) (Nat.le_refl _)
    refine ⟨v', w', hr, ⟨hg.os, hg.tape, hg.output, hg.size, fun k hk hne => hg.block k hk (by simp [Value.ownBlock])⟩, ?_⟩
    have hT : SlC T w' u m := hu.carry fun k hk hk2 => ⟨hk2, hg.block k hk (by simp [Value.ownBlock])⟩
    rcases ho.2 with ⟨_, e⟩ | ⟨g', cap', cur', rfl, hb', hg', hc1, hc2, hc3, hc4⟩
    · simp at e
    · refine Or.inr ⟨g', 0, cap', cur', by simp, Or.inr hb', hg', by simpa using hc1, by simpa using Nat.le_of_eq hc3.symm, fun j hj => ?_⟩
      have hj0 : j = 0 := by simpa using hj
      subst hj0
      refine ⟨u, ?_, by simpa using hT⟩
      have : (cur'.toList.take (1 * 1))[0]? = [u][0]? := by
        have := hc4
        simp only [List.nil_append] at this
        rw [show (0 + 1) * 1 = 1 * 1 from rfl] at this
        rw [this]
      rw [List.getElem?_take, if_pos (by omega)] at this
      simpa using this
  · have hgl := (Array.getElem?_eq_some_iff.1 h3).1
    by_cases hroom : ll.length + 1 ≤ cap
    · have hcell : ∀ j, j < [u].length → (w.cell? ⟨g, o + ll.length * i.size + j, none⟩).isSome = true := by
        intro j hj
        have : j = 0 := by simpa using hj
        subst this
        rw [hz1, cell_of_row w g _ cur 31 (0, 0) h3, Array.getElem?_eq_getElem (by omega)]; rfl
      have hfr : ∀ j, j < [u].length → w.frozen? ⟨g, o + ll.length * i.size + j, none⟩ = false := by
        intro j _
        simp [World.frozen?, h3]
      have hr := run_append_room_cells (P := Try.prog) w 28 ty 31 i Try.underlying28 hi g o ll.length cap ⟨b, 0, none⟩ 1 1 [u] (by simp [hz1]) hnews h1 hroom hcell hfr
      rw [hz1, Nat.mul_one, show w.setCells g (o + ll.length) [u] = w.setCell ⟨g, o + ll.length, none⟩ u from rfl] at hr
      have hblk := heap_setCell_same w g (o + ll.length) cur 31 u h3
      have hoth : ∀ k, k ≠ g → (w.setCell ⟨g, o + ll.length, none⟩ u).heap[k]? = w.heap[k]? := fun k hk => heap_setCell_other w ⟨g, o + ll.length, none⟩ k u hk
      have hbel : Below 0 w (w.setCell ⟨g, o + ll.length, none⟩ u) := (Below.refl 0 w).setCell (p := ⟨g, o + ll.length, none⟩) (Nat.zero_le _) u
      have hTd : ¬ T g := hd g (by simp [Value.ownBlock])
      have hcar : ∀ k, k < w.heap.size → T k → T k ∧ (w.setCell ⟨g, o + ll.length, none⟩ u).heap[k]? = w.heap[k]? := fun k _ hk => ⟨hk, hoth k (fun e => hTd (e ▸ hk))⟩
      refine ⟨_, _, hr, ⟨hbel.os, hbel.tape, hbel.output, hbel.size, fun k _ hne => hoth k (fun e => hne (by simp [Value.ownBlock, e]))⟩, ?_⟩
      refine Or.inr ⟨g, o, cap, _, by rw [hlen], Or.inl h2, hblk, by rw [hlen]; exact hroom, by simpa using h5, fun j hj => ?_⟩
      rw [hlen] at hj
      by_cases hjl : j = ll.length
      · subst hjl
        refine ⟨u, ?_, by rw [getD_app_last]; exact hu.carry hcar⟩
        rw [Array.getElem?_setIfInBounds, if_pos rfl, if_pos (by omega)]
      · obtain ⟨x, hx, hc⟩ := h6 j (by omega)
        refine ⟨x, ?_, by rw [getD_app _ _ _ (by omega)]; exact hc.carry hcar⟩
        rw [Array.getElem?_setIfInBounds, if_neg (by omega)]; exact hx
    · have holds : ∀ j x, ((cur.toList.drop o).take ll.length)[j]? = some x → w.cell? (Addr.add ⟨g, o, none⟩ j) = some x := by
        intro j x hx
        rw [Addr.add_lit, cell_of_row w g _ cur 31 (0, 0) h3]
        rw [List.getElem?_take] at hx
        split at hx
        · rw [List.getElem?_drop] at hx; simpa using hx
        · cases hx
      obtain ⟨v', w', hr, ho, hg⟩ := run_append_arg_grows (P := Try.prog) w 28 ty 31 i (.slice none 0 0) 1 24 Try.underlying28 hi hz0 hz1 hz2 rfl (by decide) ⟨g, o, none⟩ ll.length cap ((cur.toList.drop o).take ll.length) (by simp; omega) holds ⟨b, 0, none⟩ 1 1 [u] rfl hnews (by omega) (by unfold maxLen; omega) (by omega)
      have hcar : ∀ k, k < w.heap.size → T k → T k ∧ w'.heap[k]? = w.heap[k]? := fun k hk hk2 => ⟨hk2, hg.block k hk (by simp)⟩
      refine ⟨v', w', hr, ⟨hg.os, hg.tape, hg.output, hg.size, fun k hk _ => hg.block k hk (by simp)⟩, ?_⟩
      rcases ho.2 with ⟨_, e⟩ | ⟨g', cap', cur', rfl, hb', hg', hc1, hc2, hc3, hc4⟩
      · simp at e
      · refine Or.inr ⟨g', 0, cap', cur', by rw [hlen], Or.inr hb', hg', by rw [hlen]; exact hc1, by simpa using Nat.le_of_eq hc3.symm, fun j hj => ?_⟩
        rw [hlen] at hj
        have hat : cur'[0 + j]? = ((cur.toList.drop o).take ll.length ++ [u])[j]? := by
          rw [← hc4, List.getElem?_take, if_pos (by omega), Nat.zero_add]; simp
        have hll : ((cur.toList.drop o).take ll.length).length = ll.length := by simp; omega
        by_cases hjl : j = ll.length
        · subst hjl
          refine ⟨u, ?_, by rw [getD_app_last]; exact hu.carry hcar⟩
          rw [hat, List.getElem?_append_right (by omega), hll]; simp
        · obtain ⟨x, hx, hc⟩ := h6 j (by omega)
          refine ⟨x, ?_, by rw [getD_app _ _ _ (by omega)]; exact hc.carry hcar⟩
          rw [hat, List.getElem?_append_left (by omega), List.getElem?_take, if_pos (by omega), List.getElem?_drop]
          simpa using hx
end Go.Proofs.Ythgkmbdnkamcoaa
