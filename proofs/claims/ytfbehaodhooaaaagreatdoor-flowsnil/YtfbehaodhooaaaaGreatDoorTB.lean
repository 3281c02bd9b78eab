/-
  Plain facts: rules, and the rows that stand for them (Inv); one more rule; what is found is the best that hits (fnd_best). No program is spoken of.
-/
/-
  Plain facts: what Find finds is the best rule that hits; there are as many rows as unlike masks. No program is spoken of.
-/
/-
  Proved here: a table of package tuples by the rules that are in it (Tbl): New, Add, Find, Rows. Conditions: the widths' table holds its numbers; fewer than 2 to 31 were added.
-/
import Derived.Test.YtfbehaodhooaaaaGreatDoorFN
namespace Go.Proofs.YtfbehaodhooaaaaGreatDoor
set_option maxRecDepth 100000

set_option maxRecDepth 100000 in
theorem ahd_iff {a b : En} : ahd a b = true ↔ b.r < a.r ∨ (a.r = b.r ∧ a.k < b.k) := by simp [ahd]
set_option maxRecDepth 100000 in
theorem ahd_trans {a b c : En} (h1 : ahd a b = true) (h2 : ahd b c = true) : ahd a c = true := by
  rw [ahd_iff] at *; omega
set_option maxRecDepth 100000 in
theorem ahd_total {a b : En} (h : ahd a b = false) : a = b ∨ ahd b a = true := by
  have : ¬ (b.r < a.r ∨ (a.r = b.r ∧ a.k < b.k)) := fun e => by rw [ahd_iff.2 e] at h; cases h
  by_cases e : a.r = b.r ∧ a.k = b.k
  · left
    obtain ⟨ar, ak⟩ := a
    obtain ⟨br, bk⟩ := b
    simp only at e
    rw [e.1, e.2]
  · right; rw [ahd_iff]; omega
set_option maxRecDepth 100000 in
theorem mem_put {α : Type} {l : List α} {x y : α} {q : Nat} : y ∈ l.take q ++ [x] ++ l.drop q ↔ y = x ∨ y ∈ l := by
  constructor
  · intro h
    rcases List.mem_append.1 h with h | h
    · rcases List.mem_append.1 h with h | h
      · exact Or.inr (List.mem_of_mem_take h)
      · exact Or.inl (List.mem_singleton.1 h)
    · exact Or.inr (List.mem_of_mem_drop h)
  · rintro (rfl | h)
    · simp
    · rw [← List.take_append_drop q l] at h
      rcases List.mem_append.1 h with h | h
      · simp [h]
      · simp [h]
set_option maxRecDepth 100000 in
theorem pair_put {α : Type} {R : α → α → Prop} {l : List α} {x : α} {q : Nat} (h : l.Pairwise R) (h1 : ∀ y ∈ l.take q, R y x) (h2 : ∀ y ∈ l.drop q, R x y) : (l.take q ++ [x] ++ l.drop q).Pairwise R := by
  have hs := h
  rw [← List.take_append_drop q l, List.pairwise_append] at hs
  rw [List.append_assoc, List.pairwise_append]
  refine ⟨hs.1, List.pairwise_cons.2 ⟨h2, hs.2.1⟩, fun a ha b hb => ?_⟩
  rcases List.mem_cons.1 hb with rfl | hb
  · exact h1 a ha
  · exact hs.2.2 a ha b hb
set_option maxRecDepth 100000 in
theorem mem_place {l : List En} {e x : En} : x ∈ place l e ↔ x = e ∨ x ∈ l := mem_put
set_option maxRecDepth 100000 in
theorem posd_spec (l : List En) (e : En) : ∀ k, k ≤ l.length → (∀ j, posd l e k ≤ j → j < k → ahd e (l.getD j ⟨0, 0⟩) = true) ∧ (posd l e k ≠ 0 → ahd e (l.getD (posd l e k - 1) ⟨0, 0⟩) = false)
  | 0, _ => ⟨fun j _ h => absurd h (by omega), fun h => absurd rfl h⟩
  | k + 1, hk => by
    have ih := posd_spec l e k (by omega)
    unfold posd
    split
    · rename_i h
      refine ⟨fun j h1 h2 => ?_, ih.2⟩
      by_cases hj : j = k
      · subst hj; exact h
      · exact ih.1 j h1 (by omega)
    · rename_i h
      exact ⟨fun j h1 h2 => absurd h1 (by omega), fun _ => by simpa using h⟩
set_option maxRecDepth 100000 in
theorem getD_at {α : Type} (l : List α) (j : Nat) (d : α) (h : j < l.length) : l.getD j d = l[j] := by
  rw [List.getD_eq_getElem?_getD, List.getElem?_eq_getElem h]; rfl
set_option maxRecDepth 100000 in
theorem place_ord {l : List En} {e : En} (h : l.Pairwise fun a b => ahd a b = true) (hn : ∀ x ∈ l, x ≠ e) : (place l e).Pairwise fun a b => ahd a b = true := by
  have hs := posd_spec l e l.length (Nat.le_refl _)
  have hle := posd_le l e l.length
  refine pair_put h (fun y hy => ?_) fun y hy => ?_
  · obtain ⟨i, hi, rfl⟩ := List.getElem_of_mem hy
    rw [List.length_take] at hi
    rw [List.getElem_take]
    have hp : posd l e l.length ≠ 0 := by omega
    have hlast := hs.2 hp
    rw [getD_at _ _ _ (by omega)] at hlast
    have hl : ahd l[posd l e l.length - 1] e = true := by
      rcases ahd_total hlast with h1 | h1
      · exact absurd h1.symm (hn _ (List.getElem_mem _))
      · exact h1
    by_cases hie : i = posd l e l.length - 1
    · subst hie; exact hl
    · exact ahd_trans (List.pairwise_iff_getElem.1 h i (posd l e l.length - 1) (by omega) (by omega) (by omega)) hl
  · obtain ⟨i, hi, rfl⟩ := List.getElem_of_mem hy
    rw [List.length_drop] at hi
    rw [List.getElem_drop]
    have := hs.1 (posd l e l.length + i) (by omega) (by omega)
    rwa [getD_at _ _ _ (by omega)] at this
set_option maxRecDepth 100000 in
theorem posr_spec (l : List Ro) (t : Int) : ∀ k, k ≤ l.length → (∀ j (hj : j < l.length), posr l t k ≤ j → j < k → l[j].top < t) ∧ ∀ (h : posr l t k - 1 < l.length), posr l t k ≠ 0 → t ≤ (l[posr l t k - 1]).top
  | 0, _ => ⟨fun j _ _ h => absurd h (by omega), fun _ h => absurd rfl h⟩
  | k + 1, hk => by
    have ih := posr_spec l t k (by omega)
    have e : (l[k]?.map Ro.top).getD 0 = l[k].top := by rw [List.getElem?_eq_getElem (by omega)]; rfl
    by_cases hc : (l[k]?.map Ro.top).getD 0 < t
    · have e1 : posr l t (k + 1) = posr l t k := by show (if _ then _ else _) = _; rw [if_pos hc]
      rw [e1]
      refine ⟨fun j hj h1 h2 => ?_, ih.2⟩
      by_cases hjk : j = k
      · subst hjk; omega
      · exact ih.1 j hj h1 (by omega)
    · have e1 : posr l t (k + 1) = k + 1 := by show (if _ then _ else _) = _; rw [if_neg hc]
      simp only [e1]
      refine ⟨fun j _ h1 h2 => absurd h1 (by omega), fun _ _ => ?_⟩
      simp only [Nat.add_sub_cancel]
      omega
set_option maxRecDepth 100000 in
theorem placeR_sort {l : List Ro} {x : Ro} (h : l.Pairwise fun a b => b.top ≤ a.top) : (placeR l x).Pairwise fun a b => b.top ≤ a.top := by
  have hs := posr_spec l x.top l.length (Nat.le_refl _)
  have hle := posr_le l x.top l.length
  refine pair_put h (fun y hy => ?_) fun y hy => ?_
  · obtain ⟨i, hi, rfl⟩ := List.getElem_of_mem hy
    rw [List.length_take] at hi
    rw [List.getElem_take]
    have hl := hs.2 (by omega) (by omega)
    by_cases hie : i = posr l x.top l.length - 1
    · subst hie; exact hl
    · have := List.pairwise_iff_getElem.1 h i (posr l x.top l.length - 1) (by omega) (by omega) (by omega)
      omega
  · obtain ⟨i, hi, rfl⟩ := List.getElem_of_mem hy
    rw [List.length_drop] at hi
    rw [List.getElem_drop]
    have := hs.1 (posr l x.top l.length + i) (by omega) (by omega) (by omega)
    omega
set_option maxRecDepth 100000 in
theorem mem_placeR {l : List Ro} {x y : Ro} : y ∈ placeR l x ↔ y = x ∨ y ∈ l := mem_put
set_option maxRecDepth 100000 in
theorem placeR_len (l : List Ro) (x : Ro) : (placeR l x).length = l.length + 1 := by
  have := posr_le l x.top l.length
  unfold placeR; simp; omega
set_option maxRecDepth 100000 in
theorem eqR_symm {a b : Nat → Int} : eqR 11 a b = eqR 11 b a := by
  rw [Bool.eq_iff_iff, eqR_iff, eqR_iff]
  exact ⟨fun h k hk => (h k hk).symm, fun h k hk => (h k hk).symm⟩
set_option maxRecDepth 100000 in
theorem eqR_trans {a b c : Nat → Int} (h1 : eqR 11 a b = true) (h2 : eqR 11 b c = true) : eqR 11 a c = true := eqR_iff.2 fun k hk => (eqR_iff.1 h1 k hk).trans (eqR_iff.1 h2 k hk)
set_option maxRecDepth 100000 in
theorem eqR_congr {a b c : Nat → Int} (h1 : eqR 11 a b = true) : eqR 11 a c = eqR 11 b c := by
  rw [Bool.eq_iff_iff]
  exact ⟨fun h => eqR_trans (eqR_symm ▸ h1) h, fun h => eqR_trans h1 h⟩
/-- A rule: its number, its rank, its match. -/
structure Ru where
  k : Int
  r : Int
  m : Nat → Int
def mkk (u : Ru) : Nat → Int := fun k => u.m (11 + k)
/-- The rows stand for the rules. -/
structure Inv (T : List Ru) (ad : Int) (nm : Nat) (Gm : Lit → Option Value) (rs : List Ro) : Prop where
  mem : ∀ ρ ∈ rs, ∀ l e, e ∈ ρ.E l ↔ ∃ u ∈ T, eqR 11 ρ.mask (mkk u) = true ∧ l = kl u.m ∧ e = ⟨u.r, u.k⟩
  has : ∀ u ∈ T, ∃ ρ ∈ rs, eqR 11 ρ.mask (mkk u) = true
  apart : rs.Pairwise fun a b => eqR 11 a.mask b.mask = false
  som : ∀ ρ ∈ rs, ∃ u ∈ T, eqR 11 ρ.mask (mkk u) = true
  sort : rs.Pairwise fun a b => b.top ≤ a.top
  top : ∀ ρ ∈ rs, ∀ l e, e ∈ ρ.E l → e.r ≤ ρ.top
  ord : ∀ ρ ∈ rs, ∀ l, (ρ.E l).Pairwise fun a b => ahd a b = true
  num : T.Pairwise fun a b => a.k < b.k
  bd : ∀ u ∈ T, 1 ≤ u.k ∧ u.k ≤ ad
  ad0 : 0 ≤ ad
  ok : ∀ u ∈ T, mOk u.m = true ∧ Wf u.m
  cnt : nm = T.length
  mat : ∀ k : Int, (∀ u ∈ T, u.k = k → Gm (.int .i64 k) = some (mv u.m)) ∧ ((∀ u ∈ T, u.k ≠ k) → Gm (.int .i64 k) = none)
  len : (rs.length : Int) ≤ ad ∧ ∀ ρ ∈ rs, (ρ.n : Int) ≤ ad ∧ ∀ l, ((ρ.E l).length : Int) ≤ ad
set_option maxRecDepth 100000 in
theorem Inv.nil : Inv [] 0 0 (fun _ => none) [] :=
  ⟨(fun _ h => by cases h), (fun _ h => by cases h), List.Pairwise.nil, (fun _ h => by cases h), List.Pairwise.nil, (fun _ h => by cases h), (fun _ h => by cases h), List.Pairwise.nil, (fun _ h => by cases h), Int.le_refl _, (fun _ h => by cases h), rfl, fun _ => ⟨(fun _ h => by cases h), fun _ => rfl⟩, by simp, (fun _ h => by cases h)⟩
set_option maxRecDepth 100000 in
theorem Inv.wf {T : List Ru} {ad : Int} {nm : Nat} {Gm : Lit → Option Value} {rs : List Ro} (h : Inv T ad nm Gm rs) {u : Ru} (hu : u ∈ T) : Wf u.m := (h.ok u hu).2
open Classical in
set_option maxRecDepth 100000 in
/-- One more rule. -/
theorem Inv.add {T : List Ru} {ad : Int} {nm : Nat} {Gm : Lit → Option Value} {rs rs' : List Ro} {ρ : Ro} {u : Ru} {v : Value} (h : Inv T ad nm Gm rs) (hk : u.k = ad + 1) (hok : mOk u.m = true) (hwf : Wf u.m) (ho : Out rs (mkk u) ρ rs') :
    Inv (T ++ [u]) (ad + 1) (if (Gm (.int .i64 (ad + 1))).isSome then nm else nm + 1) (updL Gm (.int .i64 (ad + 1)) (some (mv u.m))) (placeR rs' (addRo ρ u.m ⟨u.r, ad + 1⟩ v)) := by
  obtain ⟨hm, ho⟩ := ho
  have hmask : eqR 11 ρ.mask (mkk u) = true := eqR_iff.2 hm
  -- what is known of the row that is out, and of the others
  have hsub : ∀ σ ∈ rs', σ ∈ rs := fun σ hσ => by
    rcases ho with ⟨i, hi, h1, h2⟩ | ⟨h1, h2, h3⟩
    · rw [h2] at hσ; exact List.mem_of_mem_eraseIdx hσ
    · rw [h1] at hσ; exact hσ
  have hoth : ∀ σ ∈ rs', eqR 11 σ.mask ρ.mask = false := fun σ hσ => by
    rcases ho with ⟨i, hi, h1, h2⟩ | ⟨h1, h2, h3⟩
    · rw [h2] at hσ
      obtain ⟨j, hj, rfl⟩ := List.getElem_of_mem hσ
      rw [List.length_eraseIdx_of_lt hi] at hj
      rw [List.getElem_eraseIdx]
      have hp := List.pairwise_iff_getElem.1 h.apart
      split
      · rename_i hji
        rw [← h1]
        exact hp j i (by omega) hi hji
      · rename_i hji
        rw [← h1, eqR_symm]
        exact hp i (j + 1) hi (by omega) (by omega)
    · rw [h1] at hσ
      rw [eqR_symm, eqR_congr hmask, eqR_symm]
      exact h2 σ hσ
  have hrs : ∀ σ ∈ rs, σ = ρ ∨ σ ∈ rs' := fun σ hσ => by
    rcases ho with ⟨i, hi, h1, h2⟩ | ⟨h1, h2, h3⟩
    · obtain ⟨j, hj, rfl⟩ := List.getElem_of_mem hσ
      by_cases hji : j = i
      · subst hji; exact Or.inl h1
      · right
        rw [h2, List.mem_eraseIdx_iff_getElem]
        exact ⟨j, hj, hji, rfl⟩
    · rw [h1]; exact Or.inr hσ
  have hρm : ∀ l e, e ∈ ρ.E l ↔ ∃ w ∈ T, eqR 11 ρ.mask (mkk w) = true ∧ l = kl w.m ∧ e = ⟨w.r, w.k⟩ := fun l e => by
    rcases ho with ⟨i, hi, h1, h2⟩ | ⟨h1, h2, h3⟩
    · exact h.mem ρ (h1 ▸ List.getElem_mem hi) l e
    · constructor
      · intro he; rw [h3] at he; cases he
      · rintro ⟨w, hw, h4, -, -⟩
        obtain ⟨σ, hσ, h5⟩ := h.has w hw
        have h6 := h2 σ hσ
        have h7 : eqR 11 σ.mask (mkk u) = true := eqR_trans h5 (eqR_trans (eqR_symm ▸ h4) hmask)
        rw [h7] at h6; cases h6
  have hρt : ∀ l e, e ∈ ρ.E l → e.r ≤ ρ.top := fun l e he => by
    rcases ho with ⟨i, hi, h1, h2⟩ | ⟨h1, h2, h3⟩
    · exact h.top ρ (h1 ▸ List.getElem_mem hi) l e he
    · rw [h3] at he; cases he
  have hρo : ∀ l, (ρ.E l).Pairwise fun a b => ahd a b = true := fun l => by
    rcases ho with ⟨i, hi, h1, h2⟩ | ⟨h1, h2, h3⟩
    · exact h.ord ρ (h1 ▸ List.getElem_mem hi) l
    · rw [h3]; exact List.Pairwise.nil
  have hρl : (ρ.n : Int) ≤ ad ∧ ∀ l, ((ρ.E l).length : Int) ≤ ad := by
    rcases ho with ⟨i, hi, h1, h2⟩ | ⟨h1, h2, h3⟩
    · exact h.len.2 ρ (h1 ▸ List.getElem_mem hi)
    · rw [h3]; exact ⟨h.ad0, fun l => by simpa [emRo] using h.ad0⟩
  have hlen' : ((rs'.length : Nat) : Int) ≤ ad := by
    rcases ho with ⟨i, hi, h1, h2⟩ | ⟨h1, h2, h3⟩
    · rw [h2, List.length_eraseIdx_of_lt hi]; have := h.len.1; omega
    · rw [h1]; exact h.len.1
  have hsort' : rs'.Pairwise fun a b => b.top ≤ a.top := by
    rcases ho with ⟨i, hi, h1, h2⟩ | ⟨h1, h2, h3⟩
    · rw [h2]; exact h.sort.eraseIdx i
    · rw [h1]; exact h.sort
  have hap' : rs'.Pairwise fun a b => eqR 11 a.mask b.mask = false := by
    rcases ho with ⟨i, hi, h1, h2⟩ | ⟨h1, h2, h3⟩
    · rw [h2]; exact h.apart.eraseIdx i
    · rw [h1]; exact h.apart
  have hnew : ∀ w ∈ T, w.k ≠ ad + 1 := fun w hw => by have := (h.bd w hw).2; omega
  have hE : ∀ l, (addRo ρ u.m ⟨u.r, ad + 1⟩ v).E l = if l = kl u.m then place (ρ.E (kl u.m)) ⟨u.r, ad + 1⟩ else ρ.E l := fun l => by
    by_cases hl : l = kl u.m
    · subst hl; rw [if_pos rfl]; exact updE_same _ _ _
    · rw [if_neg hl]; exact updE_other _ _ hl
  have hnone : Gm (.int .i64 (ad + 1)) = none := (h.mat (ad + 1)).2 hnew
  refine ⟨?_, ?_, ?_, ?_, placeR_sort hsort', ?_, ?_, ?_, ?_, by have := h.ad0; omega, ?_, ?_, ?_, ?_⟩
  · intro σ hσ l e
    rcases mem_placeR.1 hσ with rfl | hσ
    · rw [hE]
      show _ ↔ ∃ w ∈ T ++ [u], eqR 11 ρ.mask (mkk w) = true ∧ _
      by_cases hl : l = kl u.m
      · rw [if_pos hl, mem_place, ← hl, hρm]
        constructor
        · rintro (rfl | ⟨w, hw, h1⟩)
          · exact ⟨u, by simp, hmask, hl, by rw [hk]⟩
          · exact ⟨w, by simp [hw], h1⟩
        · rintro ⟨w, hw, h1, h2, h3⟩
          rcases List.mem_append.1 hw with hw | hw
          · exact Or.inr ⟨w, hw, h1, h2, h3⟩
          · rw [List.mem_singleton.1 hw, hk] at h3
            exact Or.inl h3
      · rw [if_neg hl, hρm]
        constructor
        · rintro ⟨w, hw, h1⟩
          exact ⟨w, by simp [hw], h1⟩
        · rintro ⟨w, hw, h1, h2, h3⟩
          rcases List.mem_append.1 hw with hw | hw
          · exact ⟨w, hw, h1, h2, h3⟩
          · rw [List.mem_singleton.1 hw] at h2
            exact absurd h2 hl
    · rw [h.mem σ (hsub σ hσ)]
      constructor
      · rintro ⟨w, hw, h1⟩
        exact ⟨w, by simp [hw], h1⟩
      · rintro ⟨w, hw, h1, h2, h3⟩
        rcases List.mem_append.1 hw with hw | hw
        · exact ⟨w, hw, h1, h2, h3⟩
        · rw [List.mem_singleton.1 hw] at h1
          have h4 := hoth σ hσ
          rw [eqR_trans h1 (eqR_symm ▸ hmask)] at h4; cases h4
  · intro w hw
    rcases List.mem_append.1 hw with hw | hw
    · obtain ⟨σ, hσ, h1⟩ := h.has w hw
      rcases hrs σ hσ with rfl | hσ
      · exact ⟨_, mem_placeR.2 (Or.inl rfl), h1⟩
      · exact ⟨σ, mem_placeR.2 (Or.inr hσ), h1⟩
    · rw [List.mem_singleton.1 hw]
      exact ⟨_, mem_placeR.2 (Or.inl rfl), hmask⟩
  · refine pair_put hap' (fun y hy => hoth y (List.mem_of_mem_take hy)) fun y hy => ?_
    show eqR 11 ρ.mask y.mask = false
    rw [eqR_symm]
    exact hoth y (List.mem_of_mem_drop hy)
  · intro σ hσ
    rcases mem_placeR.1 hσ with rfl | hσ
    · exact ⟨u, by simp, hmask⟩
    · obtain ⟨w, hw, h1⟩ := h.som σ (hsub σ hσ)
      exact ⟨w, by simp [hw], h1⟩
  · intro σ hσ l e he
    rcases mem_placeR.1 hσ with rfl | hσ
    · rw [hE] at he
      show e.r ≤ max ρ.top u.r
      by_cases hl : l = kl u.m
      · rw [if_pos hl, mem_place] at he
        rcases he with rfl | he
        · show u.r ≤ _; omega
        · have := hρt _ e he; omega
      · rw [if_neg hl] at he
        have := hρt _ e he; omega
    · exact h.top σ (hsub σ hσ) l e he
  · intro σ hσ l
    rcases mem_placeR.1 hσ with rfl | hσ
    · rw [hE]
      by_cases hl : l = kl u.m
      · rw [if_pos hl]
        refine place_ord (hρo _) fun x hx e => ?_
        obtain ⟨w, hw, -, -, h3⟩ := (hρm _ _).1 hx
        have h4 : w.k = ad + 1 := by rw [h3] at e; exact (En.mk.inj e).2
        exact hnew w hw h4
      · rw [if_neg hl]; exact hρo l
    · exact h.ord σ (hsub σ hσ) l
  · rw [List.pairwise_append]
    refine ⟨h.num, by simp, fun a ha b hb => ?_⟩
    rw [List.mem_singleton.1 hb, hk]
    have := (h.bd a ha).2; omega
  · intro w hw
    rcases List.mem_append.1 hw with hw | hw
    · have := h.bd w hw; omega
    · rw [List.mem_singleton.1 hw, hk]; have := h.ad0; omega
  · intro w hw
    rcases List.mem_append.1 hw with hw | hw
    · exact h.ok w hw
    · rw [List.mem_singleton.1 hw]; exact ⟨hok, hwf⟩
  · rw [hnone, h.cnt]; simp
  · intro k
    by_cases hkk : k = ad + 1
    · subst hkk
      rw [updL_same]
      refine ⟨fun w hw e => ?_, fun hno => absurd hk (hno u (by simp))⟩
      rcases List.mem_append.1 hw with hw | hw
      · exact absurd e (hnew w hw)
      · rw [List.mem_singleton.1 hw]
    · have hne : (Lit.int .i64 k : Lit) ≠ .int .i64 (ad + 1) := fun e => hkk (by simpa using e)
      rw [updL_other _ _ hne]
      refine ⟨fun w hw e => ?_, fun hno => (h.mat k).2 fun w hw => hno w (by simp [hw])⟩
      rcases List.mem_append.1 hw with hw | hw
      · exact (h.mat k).1 w hw e
      · rw [List.mem_singleton.1 hw, hk] at e
        exact absurd e.symm hkk
  · refine ⟨by rw [placeR_len]; omega, fun σ hσ => ?_⟩
    rcases mem_placeR.1 hσ with rfl | hσ
    · refine ⟨?_, fun l => ?_⟩
      · show ((if (ρ.G (kl u.m)).isSome then ρ.n else ρ.n + 1 : Nat) : Int) ≤ ad + 1
        have := hρl.1
        split <;> omega
      · rw [hE]
        by_cases hl : l = kl u.m
        · rw [if_pos hl, place_len]; have := hρl.2 (kl u.m); omega
        · rw [if_neg hl]; have := hρl.2 l; omega
    · have := h.len.2 σ (hsub σ hσ)
      exact ⟨by omega, fun l => by have := this.2 l; omega⟩
end Go.Proofs.YtfbehaodhooaaaaGreatDoor
namespace Go.Proofs.YtfbehaodhooaaaaGreatDoor
set_option maxRecDepth 100000

set_option maxRecDepth 100000 in
theorem fnd_spec (h : Nat → Int) : ∀ (rs : List Ro) (b : Option En), (rs.Pairwise fun a b => b.top ≤ a.top) → (∀ ρ ∈ rs, ∀ e, fst ρ h = some e → e.r ≤ ρ.top) →
    (fnd h rs b = none → b = none ∧ ∀ ρ ∈ rs, fst ρ h = none) ∧ ∀ e, fnd h rs b = some e → (b = some e ∨ ∃ ρ ∈ rs, fst ρ h = some e) ∧ (∀ b', b = some b' → b' = e ∨ ahd e b' = true) ∧ ∀ ρ ∈ rs, ∀ e', fst ρ h = some e' → e' = e ∨ ahd e e' = true
  | [], b, _, _ => by
    refine ⟨fun hb => ⟨hb, fun _ h => by cases h⟩, fun e he => ⟨Or.inl he, fun b' hb => Or.inl ?_, fun _ h => by cases h⟩⟩
    have he' : b = some e := he
    rw [he'] at hb
    exact (Option.some.inj hb).symm
  | ρ :: rs, none, hs, ht => by
    have hs' := (List.pairwise_cons.1 hs).2
    have ih := fnd_spec h rs (fst ρ h) hs' fun σ hσ => ht σ (by simp [hσ])
    have e0 : fnd h (ρ :: rs) none = fnd h rs (fst ρ h) := rfl
    rw [e0]
    refine ⟨fun hn => ?_, fun e he => ?_⟩
    · have := ih.1 hn
      refine ⟨rfl, fun σ hσ => ?_⟩
      rcases List.mem_cons.1 hσ with rfl | hσ
      · exact this.1
      · exact this.2 σ hσ
    · obtain ⟨h1, h2, h3⟩ := ih.2 e he
      refine ⟨Or.inr ?_, (fun b' hb => by cases hb), fun σ hσ e' he' => ?_⟩
      · rcases h1 with h1 | ⟨σ, hσ, h1⟩
        · exact ⟨ρ, by simp, h1⟩
        · exact ⟨σ, by simp [hσ], h1⟩
      · rcases List.mem_cons.1 hσ with rfl | hσ
        · exact h2 e' he'
        · exact h3 σ hσ e' he'
  | ρ :: rs, some b, hs, ht => by
    have hs1 := (List.pairwise_cons.1 hs).1
    have hs' := (List.pairwise_cons.1 hs).2
    by_cases hlt : ρ.top < b.r
    · have e0 : fnd h (ρ :: rs) (some b) = some b := by show (if _ then _ else _) = _; rw [if_pos hlt]
      rw [e0]
      refine ⟨(fun hn => by cases hn), fun e he => ?_⟩
      cases he
      refine ⟨Or.inl rfl, fun b' hb => Or.inl (Option.some.inj hb).symm, fun σ hσ e' he' => Or.inr (ahd_iff.2 (Or.inl ?_))⟩
      have h1 := ht σ hσ e' he'
      have h2 : σ.top ≤ ρ.top := by
        rcases List.mem_cons.1 hσ with rfl | hσ
        · exact Int.le_refl _
        · exact hs1 σ hσ
      omega
    · obtain ⟨b2, hb2⟩ : ∃ b2 : En, nxt (fst ρ h) b = some b2 ∧ (b = b2 ∨ ahd b2 b = true) ∧ (b2 = b ∨ fst ρ h = some b2) ∧ ∀ e', fst ρ h = some e' → e' = b2 ∨ ahd b2 e' = true := by
        cases hf : fst ρ h with
        | none => exact ⟨b, rfl, Or.inl rfl, Or.inl rfl, (fun e' he' => by cases he')⟩
        | some e1 =>
          cases hc : ahd e1 b with
          | true => exact ⟨e1, by simp [nxt, hc], Or.inr hc, Or.inr rfl, fun e' he' => Or.inl (Option.some.inj he').symm⟩
          | false => exact ⟨b, by simp [nxt, hc], Or.inl rfl, Or.inl rfl, fun e' he' => by cases he'; exact ahd_total hc⟩
      obtain ⟨hb2, hb3, hb4, hb5⟩ := hb2
      have e0 : fnd h (ρ :: rs) (some b) = fnd h rs (some b2) := by
        show (if _ then _ else _) = _
        rw [if_neg hlt, hb2]
      have ih := fnd_spec h rs (some b2) hs' fun σ hσ => ht σ (by simp [hσ])
      rw [e0]
      refine ⟨(fun hn => by have := (ih.1 hn).1; cases this), fun e he => ?_⟩
      obtain ⟨h1, h2, h3⟩ := ih.2 e he
      have hbe := h2 b2 rfl
      have hchain : ∀ x, x = b2 ∨ ahd b2 x = true → x = e ∨ ahd e x = true := fun x hx => by
        rcases hx with rfl | hx
        · exact hbe
        · rcases hbe with rfl | hbe
          · exact Or.inr hx
          · exact Or.inr (ahd_trans hbe hx)
      refine ⟨?_, fun b' hb => ?_, fun σ hσ e' he' => ?_⟩
      · rcases h1 with h1 | ⟨σ, hσ, h1⟩
        · have : b2 = e := Option.some.inj h1
          subst this
          rcases hb4 with h4 | h4
          · exact Or.inl (by rw [h4])
          · exact Or.inr ⟨ρ, by simp, h4⟩
        · exact Or.inr ⟨σ, by simp [hσ], h1⟩
      · have : b = b' := Option.some.inj hb
        subst this
        exact hchain b (hb3.imp id id)
      · rcases List.mem_cons.1 hσ with rfl | hσ
        · exact hchain e' (hb5 e' he')
        · exact h3 σ hσ e' he'
set_option maxRecDepth 100000 in
theorem hit_iff {m h : Nat → Int} : hit m h = true ↔ mOk m = true ∧ ∀ k, k < 11 → bits .and .u64 (h k) (m (11 + k)) = m k := by
  unfold hit
  rw [Bool.and_eq_true, allU_iff]
  simp [miss]
/-- What is found: none hits, or it hits and is ahead of all others that do. -/
def Best (T : List Ru) (h : Nat → Int) (f : Option En) : Prop :=
  (f = none → ∀ u ∈ T, hit u.m h = false) ∧ ∀ e, f = some e → (∃ u ∈ T, e = ⟨u.r, u.k⟩ ∧ hit u.m h = true) ∧ ∀ u ∈ T, hit u.m h = true → ⟨u.r, u.k⟩ = e ∨ ahd e ⟨u.r, u.k⟩ = true
set_option maxRecDepth 100000 in
theorem Inv.first {T : List Ru} {ad : Int} {nm : Nat} {Gm : Lit → Option Value} {rs : List Ro} (hI : Inv T ad nm Gm rs) {h : Nat → Int} (hh : Wf h) {ρ : Ro} (hρ : ρ ∈ rs) (hρw : Wf ρ.mask) :
    (fst ρ h = none → ∀ u ∈ T, eqR 11 ρ.mask (mkk u) = true → hit u.m h = false) ∧ ∀ e, fst ρ h = some e → (∃ u ∈ T, e = ⟨u.r, u.k⟩ ∧ hit u.m h = true) ∧ ∀ u ∈ T, eqR 11 ρ.mask (mkk u) = true → hit u.m h = true → ⟨u.r, u.k⟩ = e ∨ ahd e ⟨u.r, u.k⟩ = true := by
  have hw := msk_wf hh hρw
  have key : ∀ u ∈ T, eqR 11 ρ.mask (mkk u) = true → (hit u.m h = true ↔ kl (msk h ρ.mask) = kl u.m) := fun u hu hm => by
    have hmk := eqR_iff.1 hm
    constructor
    · intro hhit
      have := (hit_iff.1 hhit).2
      refine kl_congr fun k hk => ?_
      show bits .and .u64 (h k) (ρ.mask k) = u.m k
      rw [hmk k hk]; exact this k hk
    · intro hk
      refine hit_iff.2 ⟨(hI.ok u hu).1, fun k hk' => ?_⟩
      have := kl_inj hw (hI.ok u hu).2 hk k hk'
      rw [← this]
      show _ = bits .and .u64 (h k) (ρ.mask k)
      rw [hmk k hk']; rfl
  have hmem : ∀ u ∈ T, eqR 11 ρ.mask (mkk u) = true → hit u.m h = true → (⟨u.r, u.k⟩ : En) ∈ ρ.E (kl (msk h ρ.mask)) := fun u hu hm hh' => (hI.mem ρ hρ _ _).2 ⟨u, hu, hm, (key u hu hm).1 hh', rfl⟩
  refine ⟨fun hn u hu hm => ?_, fun e he => ?_⟩
  · cases hc : hit u.m h with
    | false => rfl
    | true =>
      have h1 := hmem u hu hm hc
      have h2 : ρ.E (kl (msk h ρ.mask)) = [] := List.head?_eq_none_iff.1 hn
      rw [h2] at h1; cases h1
  · have he' : (ρ.E (kl (msk h ρ.mask))).head? = some e := he
    have hem : e ∈ ρ.E (kl (msk h ρ.mask)) := List.mem_of_mem_head? he'
    obtain ⟨u, hu, hm, hl, hee⟩ := (hI.mem ρ hρ _ _).1 hem
    refine ⟨⟨u, hu, hee, (key u hu hm).2 hl⟩, fun v hv hvm hvh => ?_⟩
    have hvm' := hmem v hv hvm hvh
    have ho := hI.ord ρ hρ (kl (msk h ρ.mask))
    cases hE : ρ.E (kl (msk h ρ.mask)) with
    | nil => rw [hE] at hem; cases hem
    | cons a l =>
      rw [hE] at ho hvm' he'
      have : a = e := by simpa using he'
      subst this
      rcases List.mem_cons.1 hvm' with h1 | h1
      · exact Or.inl h1
      · exact Or.inr ((List.pairwise_cons.1 ho).1 _ h1)
set_option maxRecDepth 100000 in
theorem Inv.best {T : List Ru} {ad : Int} {nm : Nat} {Gm : Lit → Option Value} {rs : List Ro} (hI : Inv T ad nm Gm rs) {h : Nat → Int} (hh : Wf h) (hw : ∀ ρ ∈ rs, Wf ρ.mask) : Best T h (fnd h rs none) := by
  have hs := fnd_spec h rs none hI.sort fun ρ hρ e he => hI.top ρ hρ (kl (msk h ρ.mask)) e (List.mem_of_mem_head? he)
  refine ⟨fun hn u hu => ?_, fun e he => ?_⟩
  · obtain ⟨ρ, hρ, hm⟩ := hI.has u hu
    exact (hI.first hh hρ (hw ρ hρ)).1 ((hs.1 hn).2 ρ hρ) u hu hm
  · obtain ⟨h1, -, h3⟩ := hs.2 e he
    rcases h1 with h1 | ⟨ρ, hρ, h1⟩
    · cases h1
    · refine ⟨((hI.first hh hρ (hw ρ hρ)).2 e h1).1, fun u hu hhit => ?_⟩
      obtain ⟨σ, hσ, hm⟩ := hI.has u hu
      have hf := hI.first hh hσ (hw σ hσ)
      cases hc : fst σ h with
      | none => rw [hf.1 hc u hu hm] at hhit; cases hhit
      | some e' =>
        have h4 := (hf.2 e' hc).2 u hu hm hhit
        have h5 := h3 σ hσ e' hc
        rcases h4 with h4 | h4
        · rw [h4]; exact h5
        · rcases h5 with rfl | h5
          · exact Or.inr h4
          · exact Or.inr (ahd_trans h5 h4)
/-- How many unlike masks there are: those that no earlier one has. -/
def cntF : List Ru → List Ru → Nat
  | _, [] => 0
  | p, u :: T => (if p.any (fun v => eqR 11 (mkk v) (mkk u)) then 0 else 1) + cntF (p ++ [u]) T
def nMask (T : List Ru) : Nat := cntF [] T
set_option maxRecDepth 100000 in
theorem cntF_app : ∀ (T : List Ru) (p : List Ru) (u : Ru), cntF p (T ++ [u]) = cntF p T + (if (p ++ T).any (fun v => eqR 11 (mkk v) (mkk u)) then 0 else 1)
  | [], p, u => by simp [cntF]
  | x :: T, p, u => by
    show _ + cntF (p ++ [x]) (T ++ [u]) = _ + cntF (p ++ [x]) T + _
    rw [cntF_app T (p ++ [x]) u, List.append_assoc]
    simp only [List.cons_append, List.nil_append]
    omega
set_option maxRecDepth 100000 in
/-- Rows of unlike masks, each of a rule's, each rule's among them: as many as unlike masks. -/
theorem rows_count : ∀ (n : Nat) (T : List Ru) (rs : List Ro), T.length = n → (∀ u ∈ T, ∃ ρ ∈ rs, eqR 11 ρ.mask (mkk u) = true) → (rs.Pairwise fun a b => eqR 11 a.mask b.mask = false) → (∀ ρ ∈ rs, ∃ u ∈ T, eqR 11 ρ.mask (mkk u) = true) → rs.length = nMask T
  | 0, T, rs, hT, _, _, h3 => by
    have hT0 : T = [] := List.length_eq_zero_iff.1 hT
    subst hT0
    cases rs with
    | nil => rfl
    | cons ρ rs => obtain ⟨u, hu, _⟩ := h3 ρ (by simp); cases hu
  | n + 1, T, rs, hT, h1, h2, h3 => by
    obtain ⟨T', u, rfl⟩ : ∃ T' u, T = T' ++ [u] := by
      rcases List.eq_nil_or_concat T with e | ⟨L, b, e⟩
      · rw [e] at hT; cases hT
      · exact ⟨L, b, by rw [e]; simp⟩
    have hT' : T'.length = n := by simpa using hT
    unfold nMask
    rw [cntF_app, List.nil_append]
    cases hc : T'.any (fun v => eqR 11 (mkk v) (mkk u)) with
    | true =>
      obtain ⟨v, hv, hvu⟩ := List.any_eq_true.1 hc
      have := rows_count n T' rs hT' (fun w hw => h1 w (by simp [hw])) h2 fun ρ hρ => by
        obtain ⟨w, hw, hm⟩ := h3 ρ hρ
        rcases List.mem_append.1 hw with hw | hw
        · exact ⟨w, hw, hm⟩
        · rw [List.mem_singleton.1 hw] at hm
          exact ⟨v, hv, eqR_trans hm (eqR_symm ▸ hvu)⟩
      simpa [nMask] using this
    | false =>
      have hno : ∀ v ∈ T', eqR 11 (mkk v) (mkk u) = false := fun v hv => by
        cases hx : eqR 11 (mkk v) (mkk u) with
        | false => rfl
        | true => rw [List.any_eq_true.2 ⟨v, hv, hx⟩] at hc; cases hc
      obtain ⟨ρ, hρ, hm⟩ := h1 u (by simp)
      obtain ⟨i, hi, rfl⟩ := List.getElem_of_mem hρ
      have hp := List.pairwise_iff_getElem.1 h2
      have := rows_count n T' (rs.eraseIdx i) hT' (fun w hw => by
        obtain ⟨σ, hσ, hm2⟩ := h1 w (by simp [hw])
        obtain ⟨j, hj, rfl⟩ := List.getElem_of_mem hσ
        refine ⟨rs[j], ?_, hm2⟩
        rw [List.mem_eraseIdx_iff_getElem]
        refine ⟨j, hj, fun e => ?_, rfl⟩
        subst e
        have := hno w hw
        rw [eqR_trans (eqR_symm ▸ hm2) hm] at this; cases this) (h2.eraseIdx i) fun σ hσ => by
        obtain ⟨w, hw, hm2⟩ := h3 σ (List.mem_of_mem_eraseIdx hσ)
        rcases List.mem_append.1 hw with hw | hw
        · exact ⟨w, hw, hm2⟩
        · rw [List.mem_singleton.1 hw] at hm2
          obtain ⟨j, hj, hji, e⟩ := List.mem_eraseIdx_iff_getElem.1 hσ
          subst e
          have hx : eqR 11 rs[j].mask rs[i].mask = true := eqR_trans hm2 (eqR_symm ▸ hm)
          rcases Nat.lt_or_gt_of_ne hji with h5 | h5
          · rw [hp j i hj hi h5] at hx; cases hx
          · rw [eqR_symm, hp i j hi hj h5] at hx; cases hx
      rw [List.length_eraseIdx_of_lt hi] at this
      simp only [Bool.false_eq_true, if_false]
      unfold nMask at this
      omega
set_option maxRecDepth 100000 in
theorem Inv.rows {T : List Ru} {ad : Int} {nm : Nat} {Gm : Lit → Option Value} {rs : List Ro} (hI : Inv T ad nm Gm rs) : rs.length = nMask T := rows_count T.length T rs rfl hI.has hI.apart hI.som
end Go.Proofs.YtfbehaodhooaaaaGreatDoor
namespace Go.Proofs.YtfbehaodhooaaaaGreatDoor
set_option maxRecDepth 100000
open Go.RowKit

def Tbl (S : Nat → Prop) (w : World) (v : Value) (T : List Ru) (ad : Int) : Prop := ∃ g o bm nm Gm vr rs, v = pv g ∧ TabM S o w g ad bm nm Gm vr rs ∧ Inv T ad nm Gm rs
set_option maxRecDepth 100000 in
theorem Tbl.carry {S S' : Nat → Prop} {w w' : World} {v : Value} {T : List Ru} {ad : Int} (h : Tbl S w v T ad) (hc : ∀ b, b < w.heap.size → S b → S' b ∧ w'.heap[b]? = w.heap[b]?) : Tbl S' w' v T ad := by
  obtain ⟨g, o, bm, nm, Gm, vr, rs, h1, h2, h3⟩ := h
  exact ⟨g, o, bm, nm, Gm, vr, rs, h1, h2.carry fun b hb hS _ => ⟨(hc b hb hS).1, rfl, (hc b hb hS).2⟩, h3⟩
set_option maxRecDepth 100000 in
theorem Tbl.form {S : Nat → Prop} {w : World} {v : Value} {T : List Ru} {ad : Int} (h : Tbl S w v T ad) : ∃ g, v = pv g := by
  obtain ⟨g, o, bm, nm, Gm, vr, rs, h1, h2, h3⟩ := h
  exact ⟨g, h1⟩
set_option maxRecDepth 100000 in
theorem tnew_any (w : World) : Calls Tryz.prog 44 #[] w fun e w' => ∃ v, e = .returned v ∧ Below w.heap.size w w' ∧ Tbl (fun b => w.heap.size ≤ b) w' v [] 0 := by
  have hmm := @run_makeMap Tryz.prog
  have HF : Hid (Below w.heap.size w ((w.alloc (.map #[] 0)).alloc (.cells #[.int .i64 0, .map (some w.heap.size), .slice none 0 0] 128)) ∧ Tbl (fun b => w.heap.size ≤ b) ((w.alloc (.map #[] 0)).alloc (.cells #[.int .i64 0, .map (some w.heap.size), .slice none 0 0] 128)) (pv (w.heap.size + 1)) [] 0) := by
    have h1 := heap_alloc_new (w.alloc (.map #[] 0)) (.cells #[.int .i64 0, .map (some w.heap.size), .slice none 0 0] 128)
    have e1 : (w.alloc (.map #[] 0)).heap.size = w.heap.size + 1 := by simp
    rw [e1] at h1
    refine ⟨((Below.refl _ _).alloc (Nat.le_refl _) _).alloc (by simp) _, w.heap.size + 1, fun b => if b = w.heap.size + 1 then .tab else .mat, w.heap.size, 0, fun _ => none, nilS, [], rfl, ⟨by show _ ≤ _; omega, by simp, h1, Nat.le_refl _, by simp, (Mp.new w 3).carry (heap_alloc_old _ _ (by simp)), Rw.nil _ _ _ _, (fun _ h => by cases h), List.Pairwise.nil⟩, Inv.nil⟩
  go_enter Tryz.func44, Tryz.ntmps44
  go_wp2
  go_ret
  exact ⟨_, rfl, HF.out.1, HF.out.2⟩
def adE (T : List Ru) (m : Nat → Int) : Int := if mOk m then (if 1024 ≤ T.length then 4 else 0) else 20
def adT (T : List Ru) (ad r : Int) (m : Nat → Int) : List Ru := if adE T m = 0 then T ++ [⟨ad + 1, r, m⟩] else T
def adA (T : List Ru) (ad : Int) (m : Nat → Int) : Int := if adE T m = 0 then ad + 1 else ad
def adN (T : List Ru) (ad : Int) (m : Nat → Int) : Int := if adE T m = 0 then ad + 1 else 0
set_option maxRecDepth 100000 in
theorem tAdd_any {S : Nat → Prop} (w : World) (v : Value) (T : List Ru) (ad r : Int) (m : Nat → Int) (cp : Value) (ck : Int) (h : Tbl S w v T ad) (hf : Fresh S w) (ht : Tab w) (hw : Wf m) (ha : ad < 2147483640) :
    Calls Tryz.prog 70 #[v, .agg (rc r m cp ck)] w fun e w' => e = .returned (.tuple #[.int .i64 (adN T ad m), .int .i64 (adE T m)]) ∧ Only S w w' ∧ Tbl S w' v (adT T ad r m) (adA T ad m) := by
  obtain ⟨g, o, bm, nm, Gm, vr, rs, rfl, hT, hI⟩ := id h
  cases hm : mOk m with
  | false =>
    have e0 : adE T m = 20 := by simp [adE, hm]
    unfold adN adT adA
    rw [e0]
    refine (tadd_bad w g r m cp ck ht hm).mono ?_
    rintro e w' ⟨rfl, hb⟩
    exact ⟨rfl, Only.of hb hf, h.carry fun b hb1 hS => ⟨hS, hb.block b hb1⟩⟩
  | true =>
    by_cases hn : 1024 ≤ T.length
    · have e0 : adE T m = 4 := by simp [adE, hm, hn]
      unfold adN adT adA
      rw [e0]
      refine (tadd_full w g ad bm nm Gm vr rs r m cp ck hT ht hm (by rw [hI.cnt]; exact hn)).mono ?_
      rintro e w' ⟨rfl, hb⟩
      exact ⟨rfl, Only.of hb hf, h.carry fun b hb1 hS => ⟨hS, hb.block b hb1⟩⟩
    · have e0 : adE T m = 0 := by simp [adE, hm, hn]
      unfold adN adT adA
      rw [e0]
      have hl := hI.len
      refine (tadd_ok w g ad bm nm Gm vr rs r m cp ck hT hf ht hm hw (by rw [hI.cnt]; omega) hI.ad0 (by omega) (by omega) (fun ρ hρ => ⟨by have := (hl.2 ρ hρ).1; omega, fun l => by have := (hl.2 ρ hρ).2 l; omega⟩)).mono ?_
      rintro e w' ⟨rfl, hO, o', vr', ρ, rs', v5, hou, hT'⟩
      exact ⟨rfl, hO, g, o', bm, _, _, vr', _, rfl, hT', hI.add (u := ⟨ad + 1, r, m⟩) rfl hm hw hou⟩
set_option maxRecDepth 100000 in
theorem tFind_any {S : Nat → Prop} (w : World) (v : Value) (T : List Ru) (ad : Int) (h : Nat → Int) (hT : Tbl S w v T ad) (hw : Wf h) (ha : ad < 2147483640) :
    Calls Tryz.prog 45 #[v, hv h] w fun e w' => ∃ f, Best T h f ∧ e = .returned (.tuple #[.int .i64 (eD f).k, .bool f.isSome]) ∧ Below w.heap.size w w' := by
  obtain ⟨g, o, bm, nm, Gm, vr, rs, rfl, hT, hI⟩ := hT
  refine (find_any w g ad bm nm Gm vr rs h hT hw (by have := hI.len.1; omega)).mono ?_
  rintro e w' ⟨rfl, hb⟩
  exact ⟨_, hI.best hw fun ρ hρ => (hT.all ρ hρ).wf, rfl, hb⟩
end Go.Proofs.YtfbehaodhooaaaaGreatDoor
