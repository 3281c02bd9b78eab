/-
  Proved here: rows of slices of bytes, and of integers, that come in hold what they hold, within the reach of every row. No further condition.
-/
import Derived.Test.YtijjcopglbcoiaaP0
import Derived.Test.YtijjcopglbcoiaaWO
import Derived.Deep.Slices
namespace Go.Proofs.Ytijjcopglbcoiaa
open Go.ChangeShapes Go.WideShapes Go.ChangeAt Go.RowKit Go.Deep

theorem cells31 : Try.prog.cellsOf 31 = 1 := by kernel_rfl
theorem cells3 : Try.prog.cellsOf 3 = 1 := by kernel_rfl
theorem bytes31 : Try.prog.bytesOf 31 = 24 := by kernel_rfl
section
variable {H : Type} {enc : TypeId × Value → H} {W : World}
theorem weights_all_mem {P : Program} {e : TypeId} : ∀ {l : List (DataW H)} {d : DataW H}, d ∈ l → ∀ n ∈ d.weights P e, n ∈ DataW.weightsAll P e l
  | x :: r, d, hd, n, hn => by
    simp only [DataW.weightsAll, List.mem_append]
    rcases List.mem_cons.1 hd with rfl | hd
    · exact Or.inl hn
    · exact Or.inr (weights_all_mem hd n hn)
theorem weights_slice {P : Program} {t e : TypeId} {elems spare : List (DataW H)} (hu : P.underlying t = some (.slice e)) : (DataW.slice elems spare).weights P t = (elems.length + spare.length) * P.bytesOf e :: (DataW.weightsAll P e elems ++ DataW.weightsAll P e spare) := by
  simp [DataW.weights, hu]
theorem pick {n : Nat} {p : Nat → List Int → Prop} (h : ∀ i, i < n → ∃ x, p i x) : ∃ l : List (List Int), l.length = n ∧ ∀ i, i < n → p i (l.getD i []) := by
  induction n with
  | zero => exact ⟨[], rfl, fun i hi => by omega⟩
  | succ n ih =>
    obtain ⟨l, h1, h2⟩ := ih fun i hi => h i (by omega)
    obtain ⟨x, hx⟩ := h n (by omega)
    refine ⟨l ++ [x], by simp [h1], fun i hi => ?_⟩
    by_cases hlt : i < n
    · rw [getD_app l x i (by omega)]; exact h2 i hlt
    · obtain rfl : i = n := by omega
      have := getD_app_last l x
      rw [h1] at this
      rw [this]; exact hx

/-- A ROW OF SLICES OF BYTES THAT CAME IN. -/
theorem open_bb {v : Value} {d : DataW H} {p : List MemPlace} (h0 : DataW.Trod enc Try.prog W 0 (fun _ => true) true 30 v d p) (hlt : ∀ y ∈ p, y.block < W.heap.size) (hw : ∀ n ∈ d.weights Try.prog 30, n ≤ reachBytes) (hv : ∃ ao n c, v = .slice ao n c) :
    ∃ ll, Ls (fun k => k < W.heap.size) W v ll := by
  obtain ⟨fuel, hf⟩ := h0
  obtain ⟨ao, n, c, rfl⟩ := hv
  rcases open_slice1 Try.underlying30 cells31 hf with ⟨hcs, _⟩ | ⟨a, len, cap, m, k, V, D, Pl, hcs, _, hl, hm, hmm, hx, hc⟩
  · simp only [Value.cells] at hcs
    have e : Value.slice ao n c = .slice none 0 0 := by simpa using hcs
    rw [e]
    exact ⟨[], none, 0, rfl, by simp, by simp, fun _ => rfl, fun h => absurd rfl h⟩
  · simp only [Value.cells] at hcs
    have e : Value.slice ao n c = .slice (some a) len cap := by simpa using hcs
    rw [e]
    simp only [if_true] at hmm
    subst hmm
    have hd : d = .slice ((List.range len).map D) ((List.range (m - len)).map fun j => D (len + j)) := by have := congrArg Prod.fst hx; exact this
    have hp : p = MemPlace.row a m ++ (List.range m).flatMap Pl := by have := congrArg Prod.snd hx; exact this
    rw [hd, weights_slice Try.underlying30] at hw
    have hlen : len ≤ 140737488355328 := by
      have := hw _ List.mem_cons_self
      rw [bytes31] at this
      simp only [reachBytes, List.length_map, List.length_range] at this
      omega
    obtain ⟨ll, h1, h2⟩ := pick (n := len) (p := fun i x => Sl W.heap.size W (V i) x) (fun i hi => by
      obtain ⟨hcl, htr⟩ := hc i (by omega)
      obtain ⟨v', bs, hb1, hb2, -⟩ := open_cell htr (fun y hy => hlt y (by rw [hp]; exact List.mem_append_right _ (List.mem_flatMap.2 ⟨i, List.mem_range.2 (by omega), hy⟩))) (fun elems spare he => by
        have he' : D i = .slice elems spare := he
        refine hw _ (List.mem_cons_of_mem _ (List.mem_append_left _ (weights_all_mem (d := D i) (List.mem_map.2 ⟨i, List.mem_range.2 hi, rfl⟩) _ ?_)))
        rw [he', weights_slice Try.underlying31]
        exact List.mem_cons_self)
      have : V i = v' := by simpa using hb1
      exact ⟨bs, this ▸ hb2⟩)
    obtain ⟨b, off, spot⟩ := a
    refine ⟨ll, some ⟨b, off, spot⟩, m, by rw [h1], by omega, by omega, (fun h => by cases h), fun hne => ?_⟩
    have hpos : 0 < len := by
      rcases Nat.eq_zero_or_pos len with h0 | h0
      · rw [h0] at h1; exact absurd (List.length_eq_zero_iff.1 h1) hne
      · exact h0
    have hspot : spot = none := by simpa [Addr.add] using World.cell?_spot (hc 0 (by omega)).1
    subst hspot
    refine ⟨b, off, ?_, rfl, fun j hj => ?_⟩
    · refine hlt (.cell b off) ?_
      rw [hp]
      exact List.mem_append_left _ (MemPlace.mem_row.2 ⟨0, by omega, by simp⟩)
    · rw [h1] at hj
      refine ⟨V j, ?_, h2 j hj⟩
      have := (hc j (by omega)).1
      rw [Addr.add_mid] at this
      exact this

/-- A ROW OF INTEGERS THAT CAME IN. -/
theorem open_il {v : Value} {d : DataW H} {p : List MemPlace} (h0 : DataW.Trod enc Try.prog W 0 (fun _ => true) true 46 v d p) (hlt : ∀ y ∈ p, y.block < W.heap.size) (hv : ∃ ao n c, v = .slice ao n c) :
    ∃ ns, SlI (fun k => k < W.heap.size) W v ns := by
  obtain ⟨fuel, hf⟩ := h0
  obtain ⟨ao, n, c, rfl⟩ := hv
  rcases open_ints Try.underlying46 Try.underlying3 cells3 hf with ⟨hcs, hx⟩ | ⟨a, len, cap, zs, hcs, _, hl, hm, hz, hx, hcell, hwz⟩
  · simp only [Value.cells] at hcs
    have e : Value.slice ao n c = .slice none 0 0 := by simpa using hcs
    rw [e]
    exact ⟨[], none, 0, rfl, by simp, (fun _ h => by cases h), fun _ => rfl, fun h => absurd rfl h⟩
  · simp only [Value.cells] at hcs
    have e : Value.slice ao n c = .slice (some a) len cap := by simpa using hcs
    rw [e]
    have hz' : zs.length = cap := by simpa using hz
    have hlen : (zs.take len).length = len := by rw [List.length_take]; omega
    obtain ⟨b, off, spot⟩ := a
    refine ⟨zs.take len, some ⟨b, off, spot⟩, cap, by rw [hlen], by omega, fun y hy => ?_, (fun h => by cases h), fun hne => ?_⟩
    · have := hwz y (List.mem_of_mem_take hy)
      exact bounds_i64 this
    · have hpos : 0 < len := by
        rcases Nat.eq_zero_or_pos len with h0 | h0
        · subst h0; simp at hne
        · exact h0
      have hspot : spot = none := by simpa [Addr.add] using World.cell?_spot (hcell 0 (by omega))
      subst hspot
      refine ⟨b, off, ?_, rfl, fun j hj => ?_⟩
      · refine hlt (.cell b off) ?_
        have hp : p = _ := congrArg Prod.snd hx
        rw [hp]
        exact MemPlace.mem_row.2 ⟨0, by omega, by simp⟩
      · rw [hlen] at hj
        rw [← Addr.add_mid, hcell j (by omega)]
        simp only [List.getD_eq_getElem?_getD, List.getElem?_take, if_pos hj]
end
end Go.Proofs.Ytijjcopglbcoiaa
