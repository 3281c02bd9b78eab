/-
  Plain facts: what Find finds is the best rule that hits; there are as many rows as unlike masks. No program is spoken of.
-/
import Derived.Test.YtimenbkfkdpdcaaDoorIV
namespace Go.Proofs.YtimenbkfkdpdcaaDoor

theorem fnd_spec (h : Nat → Int) : ∀ (rs : List Ro) (b : Option En), (rs.Pairwise fun a b => b.top ≤ a.top) → (∀ ρ ∈ rs, ∀ e, fst ρ h = some e → e.r ≤ ρ.top) →
    (fnd h rs b = none → b = none ∧ ∀ ρ ∈ rs, fst ρ h = none) ∧ ∀ e, fnd h rs b = some e → (b = some e ∨ ∃ ρ ∈ rs, fst ρ h = some e) ∧ (∀ b', b = some b' → b' = e ∨ ahd e b' = true) ∧ ∀ ρ ∈ rs, ∀ e', fst ρ h = some e' → e' = e ∨ ahd e e' = true
  | [], b, _, _ => by
    refine ⟨fun hb => ⟨hb, fun _ h => by cases h⟩, fun e he => ⟨Or.inl he, fun b' hb => Or.inl ?_, fun _ h => by cases h⟩⟩
    have he' : b = some e := he
    rw [he'] at hb
    exact (Option.some.inj hb).symm
  | ρ :: rs, none, hs, ht => by
    have hs' := (List.pairwise_cons.1 hs).2
    have ih := fnd_spec h rs (fst ρ h) hs' fun σ hσ => ht σ (by simp [hσ])
    have e0 : fnd h (ρ :: rs) none = fnd h rs (fst ρ h) := rfl
    rw [e0]
    refine ⟨fun hn => ?_, fun e he => ?_⟩
    · have := ih.1 hn
      refine ⟨rfl, fun σ hσ => ?_⟩
      rcases List.mem_cons.1 hσ with rfl | hσ
      · exact this.1
      · exact this.2 σ hσ
    · obtain ⟨h1, h2, h3⟩ := ih.2 e he
      refine ⟨Or.inr ?_, (fun b' hb => by cases hb), fun σ hσ e' he' => ?_⟩
      · rcases h1 with h1 | ⟨σ, hσ, h1⟩
        · exact ⟨ρ, by simp, h1⟩
        · exact ⟨σ, by simp [hσ], h1⟩
      · rcases List.mem_cons.1 hσ with rfl | hσ
        · exact h2 e' he'
        · exact h3 σ hσ e' he'
  | ρ :: rs, some b, hs, ht => by
    have hs1 := (List.pairwise_cons.1 hs).1
    have hs' := (List.pairwise_cons.1 hs).2
    by_cases hlt : ρ.top < b.r
    · have e0 : fnd h (ρ :: rs) (some b) = some b := by show (if _ then _ else _) = _; rw [if_pos hlt]
      rw [e0]
      refine ⟨(fun hn => by cases hn), fun e he => ?_⟩
      cases he
      refine ⟨Or.inl rfl, fun b' hb => Or.inl (Option.some.inj hb).symm, fun σ hσ e' he' => Or.inr (ahd_iff.2 (Or.inl ?_))⟩
      have h1 := ht σ hσ e' he'
      have h2 : σ.top ≤ ρ.top := by
        rcases List.mem_cons.1 hσ with rfl | hσ
        · exact Int.le_refl _
        · exact hs1 σ hσ
      omega
    · obtain ⟨b2, hb2⟩ : ∃ b2 : En, nxt (fst ρ h) b = some b2 ∧ (b = b2 ∨ ahd b2 b = true) ∧ (b2 = b ∨ fst ρ h = some b2) ∧ ∀ e', fst ρ h = some e' → e' = b2 ∨ ahd b2 e' = true := by
        cases hf : fst ρ h with
        | none => exact ⟨b, rfl, Or.inl rfl, Or.inl rfl, (fun e' he' => by cases he')⟩
        | some e1 =>
          cases hc : ahd e1 b with
          | true => exact ⟨e1, by simp [nxt, hc], Or.inr hc, Or.inr rfl, fun e' he' => Or.inl (Option.some.inj he').symm⟩
          | false => exact ⟨b, by simp [nxt, hc], Or.inl rfl, Or.inl rfl, fun e' he' => by cases he'; exact ahd_total hc⟩
      obtain ⟨hb2, hb3, hb4, hb5⟩ := hb2
      have e0 : fnd h (ρ :: rs) (some b) = fnd h rs (some b2) := by
        show (if _ then _ else _) = _
        rw [if_neg hlt, hb2]
      have ih := fnd_spec h rs (some b2) hs' fun σ hσ => ht σ (by simp [hσ])
      rw [e0]
      refine ⟨(fun hn => by have := (ih.1 hn).1; cases this), fun e he => ?_⟩
      obtain ⟨h1, h2, h3⟩ := ih.2 e he
      have hbe := h2 b2 rfl
      have hchain : ∀ x, x = b2 ∨ ahd b2 x = true → x = e ∨ ahd e x = true := fun x hx => by
        rcases hx with rfl | hx
        · exact hbe
        · rcases hbe with rfl | hbe
          · exact Or.inr hx
          · exact Or.inr (ahd_trans hbe hx)
      refine ⟨?_, fun b' hb => ?_, fun σ hσ e' he' => ?_⟩
      · rcases h1 with h1 | ⟨σ, hσ, h1⟩
        · have : b2 = e := Option.some.inj h1
          subst this
          rcases hb4 with h4 | h4
          · exact Or.inl (by rw [h4])
          · exact Or.inr ⟨ρ, by simp, h4⟩
        · exact Or.inr ⟨σ, by simp [hσ], h1⟩
      · have : b = b' := Option.some.inj hb
        subst this
        exact hchain b (hb3.imp id id)
      · rcases List.mem_cons.1 hσ with rfl | hσ
        · exact hchain e' (hb5 e' he')
        · exact h3 σ hσ e' he'
theorem hit_iff {m h : Nat → Int} : hit m h = true ↔ mOk m = true ∧ ∀ k, k < 11 → bits .and .u64 (h k) (m (11 + k)) = m k := by
  unfold hit
  rw [Bool.and_eq_true, allU_iff]
  simp [miss]
/-- What is found: none hits, or it hits and is ahead of all others that do. -/
def Best (T : List Ru) (h : Nat → Int) (f : Option En) : Prop :=
  (f = none → ∀ u ∈ T, hit u.m h = false) ∧ ∀ e, f = some e → (∃ u ∈ T, e = ⟨u.r, u.k⟩ ∧ hit u.m h = true) ∧ ∀ u ∈ T, hit u.m h = true → ⟨u.r, u.k⟩ = e ∨ ahd e ⟨u.r, u.k⟩ = true
theorem Inv.first {T : List Ru} {ad : Int} {nm : Nat} {Gm : Lit → Option Value} {rs : List Ro} (hI : Inv T ad nm Gm rs) {h : Nat → Int} (hh : Wf h) {ρ : Ro} (hρ : ρ ∈ rs) (hρw : Wf ρ.mask) :
    (fst ρ h = none → ∀ u ∈ T, eqR 11 ρ.mask (mkk u) = true → hit u.m h = false) ∧ ∀ e, fst ρ h = some e → (∃ u ∈ T, e = ⟨u.r, u.k⟩ ∧ hit u.m h = true) ∧ ∀ u ∈ T, eqR 11 ρ.mask (mkk u) = true → hit u.m h = true → ⟨u.r, u.k⟩ = e ∨ ahd e ⟨u.r, u.k⟩ = true := by
  have hw := msk_wf hh hρw
  have key : ∀ u ∈ T, eqR 11 ρ.mask (mkk u) = true → (hit u.m h = true ↔ kl (msk h ρ.mask) = kl u.m) := fun u hu hm => by
    have hmk := eqR_iff.1 hm
    constructor
    · intro hhit
      have := (hit_iff.1 hhit).2
      refine kl_congr fun k hk => ?_
      show bits .and .u64 (h k) (ρ.mask k) = u.m k
      rw [hmk k hk]; exact this k hk
    · intro hk
      refine hit_iff.2 ⟨(hI.ok u hu).1, fun k hk' => ?_⟩
      have := kl_inj hw (hI.ok u hu).2 hk k hk'
      rw [← this]
      show _ = bits .and .u64 (h k) (ρ.mask k)
      rw [hmk k hk']; rfl
  have hmem : ∀ u ∈ T, eqR 11 ρ.mask (mkk u) = true → hit u.m h = true → (⟨u.r, u.k⟩ : En) ∈ ρ.E (kl (msk h ρ.mask)) := fun u hu hm hh' => (hI.mem ρ hρ _ _).2 ⟨u, hu, hm, (key u hu hm).1 hh', rfl⟩
  refine ⟨fun hn u hu hm => ?_, fun e he => ?_⟩
  · cases hc : hit u.m h with
    | false => rfl
    | true =>
      have h1 := hmem u hu hm hc
      have h2 : ρ.E (kl (msk h ρ.mask)) = [] := List.head?_eq_none_iff.1 hn
      rw [h2] at h1; cases h1
  · have he' : (ρ.E (kl (msk h ρ.mask))).head? = some e := he
    have hem : e ∈ ρ.E (kl (msk h ρ.mask)) := List.mem_of_mem_head? he'
    obtain ⟨u, hu, hm, hl, hee⟩ := (hI.mem ρ hρ _ _).1 hem
    refine ⟨⟨u, hu, hee, (key u hu hm).2 hl⟩, fun v hv hvm hvh => ?_⟩
    have hvm' := hmem v hv hvm hvh
    have ho := hI.ord ρ hρ (kl (msk h ρ.mask))
    cases hE : ρ.E (kl (msk h ρ.mask)) with
    | nil => rw [hE] at hem; cases hem
    | cons a l =>
      rw [hE] at ho hvm' he'
      have : a = e := by simpa using he'
      subst this
      rcases List.mem_cons.1 hvm' with h1 | h1
      · exact Or.inl h1
      · exact Or.inr ((List.pairwise_cons.1 ho).1 _ h1)
theorem Inv.best {T : List Ru} {ad : Int} {nm : Nat} {Gm : Lit → Option Value} {rs : List Ro} (hI : Inv T ad nm Gm rs) {h : Nat → Int} (hh : Wf h) (hw : ∀ ρ ∈ rs, Wf ρ.mask) : Best T h (fnd h rs none) := by
  have hs := fnd_spec h rs none hI.sort fun ρ hρ e he => hI.top ρ hρ (kl (msk h ρ.mask)) e (List.mem_of_mem_head? he)
  refine ⟨fun hn u hu => ?_, fun e he => ?_⟩
  · obtain ⟨ρ, hρ, hm⟩ := hI.has u hu
    exact (hI.first hh hρ (hw ρ hρ)).1 ((hs.1 hn).2 ρ hρ) u hu hm
  · obtain ⟨h1, -, h3⟩ := hs.2 e he
    rcases h1 with h1 | ⟨ρ, hρ, h1⟩
    · cases h1
    · refine ⟨((hI.first hh hρ (hw ρ hρ)).2 e h1).1, fun u hu hhit => ?_⟩
      obtain ⟨σ, hσ, hm⟩ := hI.has u hu
      have hf := hI.first hh hσ (hw σ hσ)
      cases hc : fst σ h with
      | none => rw [hf.1 hc u hu hm] at hhit; cases hhit
      | some e' =>
        have h4 := (hf.2 e' hc).2 u hu hm hhit
        have h5 := h3 σ hσ e' hc
        rcases h4 with h4 | h4
        · rw [h4]; exact h5
        · rcases h5 with rfl | h5
          · exact Or.inr h4
          · exact Or.inr (ahd_trans h5 h4)
/-- How many unlike masks there are: those that no earlier one has. -/
def cntF : List Ru → List Ru → Nat
  | _, [] => 0
  | p, u :: T => (if p.any (fun v => eqR 11 (mkk v) (mkk u)) then 0 else 1) + cntF (p ++ [u]) T
def nMask (T : List Ru) : Nat := cntF [] T
theorem cntF_app : ∀ (T : List Ru) (p : List Ru) (u : Ru), cntF p (T ++ [u]) = cntF p T + (if (p ++ T).any (fun v => eqR 11 (mkk v) (mkk u)) then 0 else 1)
  | [], p, u => by simp [cntF]
  | x :: T, p, u => by
    show _ + cntF (p ++ [x]) (T ++ [u]) = _ + cntF (p ++ [x]) T + _
    rw [cntF_app T (p ++ [x]) u, List.append_assoc]
    simp only [List.cons_append, List.nil_append]
    omega
/-- Rows of unlike masks, each of a rule's, each rule's among them: as many as unlike masks. -/
theorem rows_count : ∀ (n : Nat) (T : List Ru) (rs : List Ro), T.length = n → (∀ u ∈ T, ∃ ρ ∈ rs, eqR 11 ρ.mask (mkk u) = true) → (rs.Pairwise fun a b => eqR 11 a.mask b.mask = false) → (∀ ρ ∈ rs, ∃ u ∈ T, eqR 11 ρ.mask (mkk u) = true) → rs.length = nMask T
  | 0, T, rs, hT, _, _, h3 => by
    have hT0 : T = [] := List.length_eq_zero_iff.1 hT
    subst hT0
    cases rs with
    | nil => rfl
    | cons ρ rs => obtain ⟨u, hu, _⟩ := h3 ρ (by simp); cases hu
  | n + 1, T, rs, hT, h1, h2, h3 => by
    obtain ⟨T', u, rfl⟩ : ∃ T' u, T = T' ++ [u] := by
      rcases List.eq_nil_or_concat T with e | ⟨L, b, e⟩
      · rw [e] at hT; cases hT
      · exact ⟨L, b, by rw [e]; simp⟩
    have hT' : T'.length = n := by simpa using hT
    unfold nMask
    rw [cntF_app, List.nil_append]
    cases hc : T'.any (fun v => eqR 11 (mkk v) (mkk u)) with
    | true =>
      obtain ⟨v, hv, hvu⟩ := List.any_eq_true.1 hc
      have := rows_count n T' rs hT' (fun w hw => h1 w (by simp [hw])) h2 fun ρ hρ => by
        obtain ⟨w, hw, hm⟩ := h3 ρ hρ
        rcases List.mem_append.1 hw with hw | hw
        · exact ⟨w, hw, hm⟩
        · rw [List.mem_singleton.1 hw] at hm
          exact ⟨v, hv, eqR_trans hm (eqR_symm ▸ hvu)⟩
      simpa [nMask] using this
    | false =>
      have hno : ∀ v ∈ T', eqR 11 (mkk v) (mkk u) = false := fun v hv => by
        cases hx : eqR 11 (mkk v) (mkk u) with
        | false => rfl
        | true => rw [List.any_eq_true.2 ⟨v, hv, hx⟩] at hc; cases hc
      obtain ⟨ρ, hρ, hm⟩ := h1 u (by simp)
      obtain ⟨i, hi, rfl⟩ := List.getElem_of_mem hρ
      have hp := List.pairwise_iff_getElem.1 h2
      have := rows_count n T' (rs.eraseIdx i) hT' (fun w hw => by
        obtain ⟨σ, hσ, hm2⟩ := h1 w (by simp [hw])
        obtain ⟨j, hj, rfl⟩ := List.getElem_of_mem hσ
        refine ⟨rs[j], ?_, hm2⟩
        rw [List.mem_eraseIdx_iff_getElem]
        refine ⟨j, hj, fun e => ?_, rfl⟩
        subst e
        have := hno w hw
        rw [eqR_trans (eqR_symm ▸ hm2) hm] at this; cases this) (h2.eraseIdx i) fun σ hσ => by
        obtain ⟨w, hw, hm2⟩ := h3 σ (List.mem_of_mem_eraseIdx hσ)
        rcases List.mem_append.1 hw with hw | hw
        · exact ⟨w, hw, hm2⟩
        · rw [List.mem_singleton.1 hw] at hm2
          obtain ⟨j, hj, hji, e⟩ := List.mem_eraseIdx_iff_getElem.1 hσ
          subst e
          have hx : eqR 11 rs[j].mask rs[i].mask = true := eqR_trans hm2 (eqR_symm ▸ hm)
          rcases Nat.lt_or_gt_of_ne hji with h5 | h5
          · rw [hp j i hj hi h5] at hx; cases hx
          · rw [eqR_symm, hp i j hi hj h5] at hx; cases hx
      rw [List.length_eraseIdx_of_lt hi] at this
      simp only [Bool.false_eq_true, if_false]
      unfold nMask at this
      omega
theorem Inv.rows {T : List Ru} {ad : Int} {nm : Nat} {Gm : Lit → Option Value} {rs : List Ro} (hI : Inv T ad nm Gm rs) : rs.length = nMask T := rows_count T.length T rs rfl hI.has hI.apart hI.som
end Go.Proofs.YtimenbkfkdpdcaaDoor
