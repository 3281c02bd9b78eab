/-
  Proved here: what holds of a table's rules and rows holds behind Drop (plain). No condition.
-/
import Derived.Test.YtimenbkfkdpdcaaDoorTP
import Derived.Test.YtimenbkfkdpdcaaDoorIB
namespace Go.Proofs.YtimenbkfkdpdcaaDoor
open Go.RowKit

/-- The rules of other numbers. -/
def rmT (T : List Ru) (id : Int) : List Ru := T.filter fun u => !(u.k == id)
theorem mem_rmT {T : List Ru} {id : Int} {u : Ru} : u ∈ rmT T id ↔ u ∈ T ∧ u.k ≠ id := by simp [rmT]
theorem mem_fl {l : List En} {id : Int} {e : En} : e ∈ fl l id ↔ e ∈ l ∧ e.k ≠ id := by simp [fl]
theorem rmT_none {T : List Ru} {id : Int} (h : ∀ u ∈ T, u.k ≠ id) : rmT T id = T := List.filter_eq_self.2 fun u hu => by simp [h u hu]
theorem rmT_len {id : Int} : ∀ {T : List Ru}, (T.Pairwise fun a b => a.k < b.k) → (∃ u ∈ T, u.k = id) → (rmT T id).length + 1 = T.length
  | [], _, ⟨u, hu, _⟩ => by cases hu
  | a :: T, hp, ⟨u, hu, hk⟩ => by
    obtain ⟨h1, h2⟩ := List.pairwise_cons.1 hp
    by_cases ha : a.k = id
    · have hn : ∀ v ∈ T, v.k ≠ id := fun v hv => by have := h1 v hv; omega
      have e : rmT (a :: T) id = rmT T id := by simp [rmT, ha]
      rw [e, rmT_none hn]; rfl
    · have hu' : u ∈ T := by
        rcases List.mem_cons.1 hu with rfl | hu
        · exact absurd hk ha
        · exact hu
      have e : rmT (a :: T) id = a :: rmT T id := by simp [rmT, ha]
      rw [e, List.length_cons, List.length_cons, rmT_len h2 ⟨u, hu', hk⟩]
theorem num_inj {T : List Ru} (h : T.Pairwise fun a b => a.k < b.k) {u v : Ru} (hu : u ∈ T) (hv : v ∈ T) (e : u.k = v.k) : u = v := by
  obtain ⟨i, hi, rfl⟩ := List.getElem_of_mem hu
  obtain ⟨j, hj, rfl⟩ := List.getElem_of_mem hv
  have hp := List.pairwise_iff_getElem.1 h
  rcases Nat.lt_trichotomy i j with h1 | h1 | h1
  · have := hp i j hi hj h1; omega
  · subst h1; rfl
  · have := hp j i hj hi h1; omega
theorem Inv.drop {T : List Ru} {ad : Int} {nm : Nat} {Gm : Lit → Option Value} {rs rs' : List Ro} {ρ : Ro} {u : Ru} {v : Value} {t : Int} {n' : Nat} (h : Inv T ad nm Gm rs) (hu : u ∈ T) (ho : Out rs (mkk u) ρ rs')
    (htop : ∀ l e es, updE ρ.E (kl u.m) (fl (ρ.E (kl u.m)) u.k) l = e :: es → e.r ≤ t) (hn : n' = (if (fl (ρ.E (kl u.m)) u.k).isEmpty then ρ.n - 1 else ρ.n)) (hz : n' = 0 ↔ ∀ l, updE ρ.E (kl u.m) (fl (ρ.E (kl u.m)) u.k) l = []) :
    Inv (rmT T u.k) ad (nm - 1) (updL Gm (.int .i64 u.k) none) (if n' = 0 then rs' else placeR rs' (dropRo ρ u.m (fl (ρ.E (kl u.m)) u.k) v n' t)) := by
  obtain ⟨hm, ho⟩ := ho
  have hmask : eqR 11 ρ.mask (mkk u) = true := eqR_iff.2 hm
  obtain ⟨i, hi, h1, h2⟩ : ∃ i, ∃ hi : i < rs.length, rs[i] = ρ ∧ rs' = rs.eraseIdx i := by
    rcases ho with ho | ⟨_, h2, _⟩
    · exact ho
    · obtain ⟨σ, hσ, h5⟩ := h.has u hu
      rw [h2 σ hσ] at h5; cases h5
  have hρ : ρ ∈ rs := h1 ▸ List.getElem_mem hi
  have hsub : ∀ σ ∈ rs', σ ∈ rs := fun σ hσ => by rw [h2] at hσ; exact List.mem_of_mem_eraseIdx hσ
  have hoth : ∀ σ ∈ rs', eqR 11 σ.mask ρ.mask = false := fun σ hσ => by
    rw [h2] at hσ
    obtain ⟨j, hj, rfl⟩ := List.getElem_of_mem hσ
    rw [List.length_eraseIdx_of_lt hi] at hj
    rw [List.getElem_eraseIdx]
    have hp := List.pairwise_iff_getElem.1 h.apart
    split
    · rename_i hji
      rw [← h1]
      exact hp j i (by omega) hi hji
    · rename_i hji
      rw [← h1, eqR_symm]
      exact hp i (j + 1) hi (by omega) (by omega)
  have hrs : ∀ σ ∈ rs, σ = ρ ∨ σ ∈ rs' := fun σ hσ => by
    obtain ⟨j, hj, rfl⟩ := List.getElem_of_mem hσ
    by_cases hji : j = i
    · subst hji; exact Or.inl h1
    · right
      rw [h2, List.mem_eraseIdx_iff_getElem]
      exact ⟨j, hj, hji, rfl⟩
  have hsort' : rs'.Pairwise fun a b => b.top ≤ a.top := by rw [h2]; exact h.sort.eraseIdx i
  have hap' : rs'.Pairwise fun a b => eqR 11 a.mask b.mask = false := by rw [h2]; exact h.apart.eraseIdx i
  have hlen' : rs'.length + 1 = rs.length := by rw [h2, List.length_eraseIdx_of_lt hi]; omega
  obtain ⟨E', hE'⟩ : ∃ E', E' = updE ρ.E (kl u.m) (fl (ρ.E (kl u.m)) u.k) := ⟨_, rfl⟩
  have hE : ∀ l e, e ∈ E' l ↔ e ∈ ρ.E l ∧ (l = kl u.m → e.k ≠ u.k) := fun l e => by
    rw [hE']
    by_cases hl : l = kl u.m
    · subst hl; rw [updE_same, mem_fl]; simp
    · rw [updE_other _ _ hl]; simp [hl]
  have hmem : ∀ l e, e ∈ E' l ↔ ∃ w ∈ rmT T u.k, eqR 11 ρ.mask (mkk w) = true ∧ l = kl w.m ∧ e = ⟨w.r, w.k⟩ := fun l e => by
    rw [hE, h.mem ρ hρ]
    constructor
    · rintro ⟨⟨w, hw, h3, h4, h5⟩, h6⟩
      refine ⟨w, mem_rmT.2 ⟨hw, fun hk => ?_⟩, h3, h4, h5⟩
      have := num_inj h.num hw hu hk
      subst this
      exact h6 h4 (by rw [h5])
    · rintro ⟨w, hw, h3, h4, h5⟩
      exact ⟨⟨w, (mem_rmT.1 hw).1, h3, h4, h5⟩, fun _ => by rw [h5]; exact (mem_rmT.1 hw).2⟩
  have hord : ∀ l, (E' l).Pairwise fun a b => ahd a b = true := fun l => by
    rw [hE']
    by_cases hl : l = kl u.m
    · subst hl; rw [updE_same]; exact (h.ord ρ hρ _).filter _
    · rw [updE_other _ _ hl]; exact h.ord ρ hρ l
  have htp : ∀ l e, e ∈ E' l → e.r ≤ t := fun l e he => by
    have hp := hord l
    cases hEl : E' l with
    | nil => rw [hEl] at he; cases he
    | cons e0 es =>
      have h0 : e0.r ≤ t := htop l e0 es (by rw [← hE']; exact hEl)
      rw [hEl] at he hp
      rcases List.mem_cons.1 he with rfl | he
      · exact h0
      · have := ahd_iff.1 ((List.pairwise_cons.1 hp).1 e he)
        omega
  have hlenE : ∀ l, ((E' l).length : Int) ≤ ad := fun l => by
    have hl0 := (h.len.2 ρ hρ).2 l
    rw [hE']
    by_cases hl : l = kl u.m
    · subst hl
      rw [updE_same]
      have := List.length_filter_le (fun e : En => !(e.k == u.k)) (ρ.E (kl u.m))
      unfold fl; omega
    · rw [updE_other _ _ hl]; exact hl0
  have hnot : ∀ σ ∈ rs', ∀ w ∈ T, eqR 11 σ.mask (mkk w) = true → w.k ≠ u.k := fun σ hσ w hw h3 hk => by
    have := num_inj h.num hw hu hk
    subst this
    have h4 := hoth σ hσ
    rw [eqR_trans h3 (eqR_symm ▸ hmask)] at h4; cases h4
  rw [← hE'] at hz
  -- the rows that are left
  have hmemR : ∀ σ, σ ∈ (if n' = 0 then rs' else placeR rs' (dropRo ρ u.m (fl (ρ.E (kl u.m)) u.k) v n' t)) → (n' ≠ 0 ∧ σ = dropRo ρ u.m (fl (ρ.E (kl u.m)) u.k) v n' t) ∨ σ ∈ rs' := fun σ hσ => by
    by_cases h0 : n' = 0
    · rw [if_pos h0] at hσ; exact Or.inr hσ
    · rw [if_neg h0] at hσ
      rcases mem_placeR.1 hσ with rfl | hσ
      · exact Or.inl ⟨h0, rfl⟩
      · exact Or.inr hσ
  have hEd : ∀ l, (dropRo ρ u.m (fl (ρ.E (kl u.m)) u.k) v n' t).E l = E' l := fun l => by rw [hE']; rfl
  refine ⟨?_, ?_, ?_, ?_, ?_, ?_, ?_, ?_, ?_, h.ad0, ?_, ?_, ?_, ?_⟩
  · intro σ hσ l e
    rcases hmemR σ hσ with ⟨_, rfl⟩ | hσ
    · rw [hEd]; exact hmem l e
    · rw [h.mem σ (hsub σ hσ)]
      constructor
      · rintro ⟨w, hw, h3, h4⟩
        exact ⟨w, mem_rmT.2 ⟨hw, hnot σ hσ w hw h3⟩, h3, h4⟩
      · rintro ⟨w, hw, h3, h4⟩
        exact ⟨w, (mem_rmT.1 hw).1, h3, h4⟩
  · intro w hw
    obtain ⟨σ, hσ, h3⟩ := h.has w (mem_rmT.1 hw).1
    rcases hrs σ hσ with rfl | hσ
    · have h0 : n' ≠ 0 := fun h0 => by
        have := hz.1 h0 (kl w.m)
        have h4 := (hmem (kl w.m) ⟨w.r, w.k⟩).2 ⟨w, hw, h3, rfl, rfl⟩
        rw [this] at h4; cases h4
      rw [if_neg h0]
      exact ⟨_, mem_placeR.2 (Or.inl rfl), h3⟩
    · refine ⟨σ, ?_, h3⟩
      split
      · exact hσ
      · exact mem_placeR.2 (Or.inr hσ)
  · split
    · exact hap'
    · refine pair_put hap' (fun y hy => hoth y (List.mem_of_mem_take hy)) fun y hy => ?_
      show eqR 11 ρ.mask y.mask = false
      rw [eqR_symm]
      exact hoth y (List.mem_of_mem_drop hy)
  · intro σ hσ
    rcases hmemR σ hσ with ⟨h0, rfl⟩ | hσ
    · have : ∃ l, E' l ≠ [] := Classical.byContradiction fun hno => h0 (hz.2 fun l => Classical.byContradiction fun hl => hno ⟨l, hl⟩)
      obtain ⟨l, hl⟩ := this
      obtain ⟨e, he⟩ := List.exists_mem_of_ne_nil _ hl
      obtain ⟨w, hw, h3, -⟩ := (hmem l e).1 he
      exact ⟨w, hw, h3⟩
    · obtain ⟨w, hw, h3⟩ := h.som σ (hsub σ hσ)
      exact ⟨w, mem_rmT.2 ⟨hw, hnot σ hσ w hw h3⟩, h3⟩
  · split
    · exact hsort'
    · exact placeR_sort hsort'
  · intro σ hσ l e he
    rcases hmemR σ hσ with ⟨_, rfl⟩ | hσ
    · rw [hEd] at he; exact htp l e he
    · exact h.top σ (hsub σ hσ) l e he
  · intro σ hσ l
    rcases hmemR σ hσ with ⟨_, rfl⟩ | hσ
    · rw [hEd]; exact hord l
    · exact h.ord σ (hsub σ hσ) l
  · exact h.num.filter _
  · intro w hw; exact h.bd w (mem_rmT.1 hw).1
  · intro w hw; exact h.ok w (mem_rmT.1 hw).1
  · have := rmT_len h.num ⟨u, hu, rfl⟩
    rw [h.cnt]; omega
  · intro k
    by_cases hkk : k = u.k
    · subst hkk
      rw [updL_same]
      exact ⟨fun w hw e => absurd e (mem_rmT.1 hw).2, fun _ => rfl⟩
    · have hne : (Lit.int .i64 k : Lit) ≠ .int .i64 u.k := fun e => hkk (by simpa using e)
      rw [updL_other _ _ hne]
      refine ⟨fun w hw e => (h.mat k).1 w (mem_rmT.1 hw).1 e, fun hno => (h.mat k).2 fun w hw e => ?_⟩
      exact hno w (mem_rmT.2 ⟨hw, by rw [e]; exact hkk⟩) e
  · have hl := h.len
    refine ⟨?_, fun σ hσ => ?_⟩
    · split
      · omega
      · rw [placeR_len]; omega
    · rcases hmemR σ hσ with ⟨_, rfl⟩ | hσ
      · refine ⟨?_, fun l => by rw [hEd]; exact hlenE l⟩
        show (n' : Int) ≤ ad
        have := (hl.2 ρ hρ).1
        rw [hn]
        split <;> omega
      · exact hl.2 σ (hsub σ hσ)
end Go.Proofs.YtimenbkfkdpdcaaDoor
