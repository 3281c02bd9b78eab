/-
  Proved here: slices.Delete at [][]byte leaves the first ones out, in place. Conditions: as many as there are, at least one; the row's own block holds no bytes that it names.
-/
import Derived.Test.YtijjcopglbcoiaaQ1
import Derived.Test.YtijjcopglbcoiaaM3
import Derived.Lib.SliceRun
namespace Go.Proofs.Ytijjcopglbcoiaa
open Go.RowKit Seal

theorem zeroB : ∀ w, (zeroValue 31).run Try.prog w = .ok (.slice none 0 0) w := fun w => by simp [go_sem]

/-- Cells that are set, and all the others. -/
theorem setCells_all (b : Nat) : ∀ (vs : List Value) (o : Nat) (w : World) (cur : Array Value) (t : TypeId), w.heap[b]? = some (.cells cur t (0, 0)) → ∃ cur', (w.setCells b o vs).heap[b]? = some (.cells cur' t (0, 0)) ∧ cur'.size = cur.size ∧ (∀ i, i < o ∨ o + vs.length ≤ i → cur'[i]? = cur[i]?) ∧ (∀ i, i < vs.length → o + vs.length ≤ cur.size → cur'[o + i]? = vs[i]?)
  | [], o, w, cur, t, h => ⟨cur, h, rfl, fun _ _ => rfl, fun i hi => by simp at hi⟩
  | v :: r, o, w, cur, t, h => by
    have h1 := heap_setCell_same w b o cur t v h
    obtain ⟨cur', h2, h3, h4, h5⟩ := setCells_all b r (o + 1) (w.setCell ⟨b, o, none⟩ v) _ t h1
    refine ⟨cur', h2, by rw [h3]; simp, fun i hi => ?_, fun i hi hs => ?_⟩
    · rw [List.length_cons] at hi
      rw [h4 i (by omega), Array.getElem?_setIfInBounds, if_neg (by omega)]
    · rw [List.length_cons] at hi hs
      cases i with
      | zero =>
        rw [Nat.add_zero, h4 o (by omega), Array.getElem?_setIfInBounds, if_pos rfl, if_pos (by omega)]; rfl
      | succ i =>
        rw [show o + (i + 1) = o + 1 + i by omega, h5 i (by omega) (by simp; omega)]; rfl

set_option maxHeartbeats 1600000 in
set_option maxRecDepth 100000 in
theorem delete_any {S T : Nat → Prop} (v : Value) (ll : List (List Int)) (k : Nat) (w : World) (h : Sp S T w v ll) (hd : ∀ k, v.ownBlock = some k → ¬ T k) (hk0 : 0 < k) (hk : k ≤ ll.length) (hl : ll.length < 2147483648) :
    Calls Try.prog 56 #[v, .int .i64 0, .int .i64 k] w fun r w' => ∃ v', r = .returned v' ∧ Apd w v w' ∧ Sp S T w' v' (ll.drop k) := by
  obtain ⟨i0, hi0, hz0, hz1, hz2⟩ := info_parts infoB
  rcases h with ⟨rfl, rfl⟩ | ⟨g, o, cap, cur, rfl, h2, h3, h4, h5, h6⟩
  · simp at hk; omega
  have hTd : ¬ T g := hd g (by simp [Value.ownBlock])
  obtain ⟨news, hnews⟩ : ∃ news, news = (cur.toList.drop (o + k)).take (ll.length - k) := ⟨_, rfl⟩
  have hlen : news.length = ll.length - k := by rw [hnews]; simp; omega
  have hget : ∀ t, t < ll.length - k → news[t]? = cur[o + (k + t)]? := by
    intro t ht
    rw [hnews, List.getElem?_take, if_pos ht, List.getElem?_drop, show o + k + t = o + (k + t) by omega]; simp
  have hcell : ∀ t, w.drew.cell? ⟨g, o + t, none⟩ = cur[o + t]? := fun t => cell_of_row w g _ cur 31 (0, 0) h3
  have hfro : ∀ t, w.drew.frozen? ⟨g, t, none⟩ = false := fun t => by show w.frozen? _ = _; simp [World.frozen?, h3]
  obtain ⟨A, hA, hsrc⟩ : ∃ A : Addr, (if cap = k then some (⟨g, o, none⟩ : Addr) else some ⟨g, o + k, none⟩) = some A ∧ Hid (∀ t u, news[t]? = some u → w.drew.cell? (A.add t) = some u) := by
    by_cases h : cap = k
    · refine ⟨⟨g, o, none⟩, by simp [h], fun t u hu => ?_⟩
      have h0 : news.length = 0 := by rw [hlen]; omega
      rw [List.length_eq_zero_iff.1 h0] at hu
      simp at hu
    · refine ⟨⟨g, o + k, none⟩, by simp [h], fun t u hu => ?_⟩
      have ht : t < ll.length - k := by
        have := (List.getElem?_eq_some_iff.1 hu).1
        rwa [hlen] at this
      rw [hget t ht] at hu
      rw [Addr.add_lit, show o + k + t = o + (k + t) by omega, hcell]
      exact hu
  have s1 : Hid (news.length = (ll.length - k) * 1) := by rw [Nat.mul_one]; exact hlen
  have s2 : Hid (∀ u ∈ news, u.oneCell' = true) := by
    intro u hu
    obtain ⟨t, ht, rfl⟩ := List.getElem_of_mem hu
    rw [hlen] at ht
    obtain ⟨x, hx, hs⟩ := h6 (k + t) (by omega)
    have := hget t ht
    rw [List.getElem?_eq_getElem (by omega), hx] at this
    cases this
    exact hs.one
  have s3 : Hid (∀ t, t < news.length → (w.drew.cell? ⟨g, o + 0 * 1 + t, none⟩).isSome = true ∧ w.drew.frozen? ⟨g, o + 0 * 1 + t, none⟩ = false) := by
    intro t ht
    rw [hlen] at ht
    rw [Nat.zero_mul, Nat.add_zero]
    exact ⟨by rw [hcell, Array.getElem?_eq_getElem (by omega)]; rfl, hfro _⟩
  obtain ⟨W1, hW1⟩ : ∃ W1, W1 = w.drew.setCells g (o + 0 * 1) news := ⟨_, rfl⟩
  obtain ⟨cur1, f1, f2, f3, f4⟩ := setCells_all g news (o + 0 * 1) w.drew cur 31 h3
  rw [← hW1] at f1
  have hb1 := setCells_below g news (o + 0 * 1) w.drew
  rw [← hW1] at hb1
  rw [Nat.zero_mul, Nat.add_zero, hlen] at f3 f4
  have hcl : ∀ ty, (Builtin.clear_ #[30] ty #[.slice (some ⟨g, o + (ll.length - k), none⟩) (ll.length - (ll.length - k)) (cap - (ll.length - k))]).run Try.prog W1 = .ok (.tuple #[]) (W1.setCells g (o + (ll.length - k)) (List.replicate (ll.length - (ll.length - k)) (.slice none 0 0))) :=
    fun ty => Lib.run_clear_slice W1 30 31 ty _ Try.underlying30 zeroB rfl rfl g (o + (ll.length - k)) _ _ (by omega) (fun t ht => by rw [cell_of_row W1 g _ cur1 31 (0, 0) f1, Array.getElem?_eq_getElem (by omega)]; rfl) (fun t ht => by simp [World.frozen?, f1])
  obtain ⟨W2, hW2⟩ : ∃ W2, W2 = W1.setCells g (o + (ll.length - k)) (List.replicate (ll.length - (ll.length - k)) (.slice none 0 0)) := ⟨_, rfl⟩
  rw [← hW2] at hcl
  obtain ⟨cur2, g1, g2, g3, g4⟩ := setCells_all g (List.replicate (ll.length - (ll.length - k)) (.slice none 0 0)) (o + (ll.length - k)) W1 cur1 31 f1
  rw [← hW2] at g1
  have hb2 := setCells_below g (List.replicate (ll.length - (ll.length - k)) (.slice none 0 0)) (o + (ll.length - k)) W1
  rw [← hW2] at hb2
  have HR : Hid (Apd w (.slice (some ⟨g, o, none⟩) ll.length cap) W2 ∧ Sp S T W2 (.slice (some ⟨g, o, none⟩) (ll.length - k) cap) (ll.drop k)) := by
    have hoth : ∀ i, i ≠ g → W2.heap[i]? = w.heap[i]? := fun i hi => (hb2.2.2.2.2 i hi).trans (hb1.2.2.2.2 i hi)
    have hdl : (ll.drop k).length = ll.length - k := List.length_drop
    refine ⟨⟨hb2.1.trans hb1.1, hb2.2.1.trans hb1.2.1, hb2.2.2.1.trans hb1.2.2.1, Nat.le_trans hb1.2.2.2.1 hb2.2.2.2.1, fun i _ hne => hoth i (fun e => hne (by simp [Value.ownBlock, e]))⟩, Or.inr ⟨g, o, cap, cur2, by rw [hdl], h2, g1, by omega, by omega, fun j hj => ?_⟩⟩
    rw [hdl] at hj
    obtain ⟨u, hu, hs⟩ := h6 (k + j) (by omega)
    refine ⟨u, ?_, ?_⟩
    · rw [g3 (o + j) (Or.inl (by omega)), f4 j (by omega) (by omega), hget j hj]; exact hu
    · have e : (ll.drop k).getD j [] = ll.getD (k + j) [] := by simp only [List.getD_eq_getElem?_getD, List.getElem?_drop]
      rw [e]
      exact hs.carry fun i _ hi => ⟨hi, hoth i (fun e => hTd (e ▸ hi))⟩
  have hW : Hid (W1 = w.drew.setCells g (o + 0 * 1) news) := hW1
  have hW' : Hid (W2 = W1.setCells g (o + (ll.length - k)) (List.replicate (ll.length - (ll.length - k)) (.slice none 0 0))) := hW2
  have hkc : k ≤ cap := by omega
  clear hW1 hW2 hcell hfro hget hnews hlen f1 f2 f3 f4 g1 g2 g3 g4 hb1 hb2 h6 h3 hd
  go_enter Try.func56, Try.ntmps56
  go_wp2_with fail
  go_region_law (refine step_append_room rfl (.tmp 22) (.tmp 25) 30 rfl 31 i0 1 Try.underlying30 hi0 hz1 g o 0 cap (by simp [Act.eval, Act.put]) A (ll.length - k) (cap - k) news (by simp [Act.eval, Act.put]) s1.out hsrc.out s2.out (by omega) s3.out ?_; rw [← hW.out])
  all_goals (go_wp2; go_ret; exact ⟨_, rfl, HR.out⟩)
end Go.Proofs.Ytijjcopglbcoiaa
