/-
  Plain facts: what Find finds is the best rule that hits; there are as many rows as unlike masks. No program is spoken of.
-/
/-
  Proved here: a table of package tuples by the rules that are in it (Tbl): New, Add, Find, Rows. Conditions: the widths' table holds its numbers; fewer than 2 to 31 were added.
-/
/-
  Proved here: the closure that row.drop hands on tells whether an entry has the number; slices.IndexFunc with it gives the first such place. Condition: fewer than 2 to 31 entries.
-/
import Derived.Test.YtdehlnaoehjehaaGreatDoorzIV
import Derived.Test.YtdehlnaoehjehaaGreatDoorzPE
import Derived.Test.YtdehlnaoehjehaaGreatDoorzI0
namespace Go.Proofs.YtdehlnaoehjehaaGreatDoor
set_option maxRecDepth 100000

set_option maxRecDepth 100000 in
theorem fnd_spec (h : Nat → Int) : ∀ (rs : List Ro) (b : Option En), (rs.Pairwise fun a b => b.top ≤ a.top) → (∀ ρ ∈ rs, ∀ e, fst ρ h = some e → e.r ≤ ρ.top) →
    (fnd h rs b = none → b = none ∧ ∀ ρ ∈ rs, fst ρ h = none) ∧ ∀ e, fnd h rs b = some e → (b = some e ∨ ∃ ρ ∈ rs, fst ρ h = some e) ∧ (∀ b', b = some b' → b' = e ∨ ahd e b' = true) ∧ ∀ ρ ∈ rs, ∀ e', fst ρ h = some e' → e' = e ∨ ahd e e' = true
  | [], b, _, _ => by
    refine ⟨fun hb => ⟨hb, fun _ h => by cases h⟩, fun e he => ⟨Or.inl he, fun b' hb => Or.inl ?_, fun _ h => by cases h⟩⟩
    have he' : b = some e := he
    rw [he'] at hb
    exact (Option.some.inj hb).symm
  | ρ :: rs, none, hs, ht => by
    have hs' := (List.pairwise_cons.1 hs).2
    have ih := fnd_spec h rs (fst ρ h) hs' fun σ hσ => ht σ (by simp [hσ])
    have e0 : fnd h (ρ :: rs) none = fnd h rs (fst ρ h) := rfl
    rw [e0]
    refine ⟨fun hn => ?_, fun e he => ?_⟩
    · have := ih.1 hn
      refine ⟨rfl, fun σ hσ => ?_⟩
      rcases List.mem_cons.1 hσ with rfl | hσ
      · exact this.1
      · exact this.2 σ hσ
    · obtain ⟨h1, h2, h3⟩ := ih.2 e he
      refine ⟨Or.inr ?_, (fun b' hb => by cases hb), fun σ hσ e' he' => ?_⟩
      · rcases h1 with h1 | ⟨σ, hσ, h1⟩
        · exact ⟨ρ, by simp, h1⟩
        · exact ⟨σ, by simp [hσ], h1⟩
      · rcases List.mem_cons.1 hσ with rfl | hσ
        · exact h2 e' he'
        · exact h3 σ hσ e' he'
  | ρ :: rs, some b, hs, ht => by
    have hs1 := (List.pairwise_cons.1 hs).1
    have hs' := (List.pairwise_cons.1 hs).2
    by_cases hlt : ρ.top < b.r
    · have e0 : fnd h (ρ :: rs) (some b) = some b := by show (if _ then _ else _) = _; rw [if_pos hlt]
      rw [e0]
      refine ⟨(fun hn => by cases hn), fun e he => ?_⟩
      cases he
      refine ⟨Or.inl rfl, fun b' hb => Or.inl (Option.some.inj hb).symm, fun σ hσ e' he' => Or.inr (ahd_iff.2 (Or.inl ?_))⟩
      have h1 := ht σ hσ e' he'
      have h2 : σ.top ≤ ρ.top := by
        rcases List.mem_cons.1 hσ with rfl | hσ
        · exact Int.le_refl _
        · exact hs1 σ hσ
      omega
    · obtain ⟨b2, hb2⟩ : ∃ b2 : En, nxt (fst ρ h) b = some b2 ∧ (b = b2 ∨ ahd b2 b = true) ∧ (b2 = b ∨ fst ρ h = some b2) ∧ ∀ e', fst ρ h = some e' → e' = b2 ∨ ahd b2 e' = true := by
        cases hf : fst ρ h with
        | none => exact ⟨b, rfl, Or.inl rfl, Or.inl rfl, (fun e' he' => by cases he')⟩
        | some e1 =>
          cases hc : ahd e1 b with
          | true => exact ⟨e1, by simp [nxt, hc], Or.inr hc, Or.inr rfl, fun e' he' => Or.inl (Option.some.inj he').symm⟩
          | false => exact ⟨b, by simp [nxt, hc], Or.inl rfl, Or.inl rfl, fun e' he' => by cases he'; exact ahd_total hc⟩
      obtain ⟨hb2, hb3, hb4, hb5⟩ := hb2
      have e0 : fnd h (ρ :: rs) (some b) = fnd h rs (some b2) := by
        show (if _ then _ else _) = _
        rw [if_neg hlt, hb2]
      have ih := fnd_spec h rs (some b2) hs' fun σ hσ => ht σ (by simp [hσ])
      rw [e0]
      refine ⟨(fun hn => by have := (ih.1 hn).1; cases this), fun e he => ?_⟩
      obtain ⟨h1, h2, h3⟩ := ih.2 e he
      have hbe := h2 b2 rfl
      have hchain : ∀ x, x = b2 ∨ ahd b2 x = true → x = e ∨ ahd e x = true := fun x hx => by
        rcases hx with rfl | hx
        · exact hbe
        · rcases hbe with rfl | hbe
          · exact Or.inr hx
          · exact Or.inr (ahd_trans hbe hx)
      refine ⟨?_, fun b' hb => ?_, fun σ hσ e' he' => ?_⟩
      · rcases h1 with h1 | ⟨σ, hσ, h1⟩
        · have : b2 = e := Option.some.inj h1
          subst this
          rcases hb4 with h4 | h4
          · exact Or.inl (by rw [h4])
          · exact Or.inr ⟨ρ, by simp, h4⟩
        · exact Or.inr ⟨σ, by simp [hσ], h1⟩
      · have : b = b' := Option.some.inj hb
        subst this
        exact hchain b (hb3.imp id id)
      · rcases List.mem_cons.1 hσ with rfl | hσ
        · exact hchain e' (hb5 e' he')
        · exact h3 σ hσ e' he'
set_option maxRecDepth 100000 in
theorem hit_iff {m h : Nat → Int} : hit m h = true ↔ mOk m = true ∧ ∀ k, k < 11 → bits .and .u64 (h k) (m (11 + k)) = m k := by
  unfold hit
  rw [Bool.and_eq_true, allU_iff]
  simp [miss]
/-- What is found: none hits, or it hits and is ahead of all others that do. -/
def Best (T : List Ru) (h : Nat → Int) (f : Option En) : Prop :=
  (f = none → ∀ u ∈ T, hit u.m h = false) ∧ ∀ e, f = some e → (∃ u ∈ T, e = ⟨u.r, u.k⟩ ∧ hit u.m h = true) ∧ ∀ u ∈ T, hit u.m h = true → ⟨u.r, u.k⟩ = e ∨ ahd e ⟨u.r, u.k⟩ = true
set_option maxRecDepth 100000 in
theorem Inv.first {T : List Ru} {ad : Int} {nm : Nat} {Gm : Lit → Option Value} {rs : List Ro} (hI : Inv T ad nm Gm rs) {h : Nat → Int} (hh : Wf h) {ρ : Ro} (hρ : ρ ∈ rs) (hρw : Wf ρ.mask) :
    (fst ρ h = none → ∀ u ∈ T, eqR 11 ρ.mask (mkk u) = true → hit u.m h = false) ∧ ∀ e, fst ρ h = some e → (∃ u ∈ T, e = ⟨u.r, u.k⟩ ∧ hit u.m h = true) ∧ ∀ u ∈ T, eqR 11 ρ.mask (mkk u) = true → hit u.m h = true → ⟨u.r, u.k⟩ = e ∨ ahd e ⟨u.r, u.k⟩ = true := by
  have hw := msk_wf hh hρw
  have key : ∀ u ∈ T, eqR 11 ρ.mask (mkk u) = true → (hit u.m h = true ↔ kl (msk h ρ.mask) = kl u.m) := fun u hu hm => by
    have hmk := eqR_iff.1 hm
    constructor
    · intro hhit
      have := (hit_iff.1 hhit).2
      refine kl_congr fun k hk => ?_
      show bits .and .u64 (h k) (ρ.mask k) = u.m k
      rw [hmk k hk]; exact this k hk
    · intro hk
      refine hit_iff.2 ⟨(hI.ok u hu).1, fun k hk' => ?_⟩
      have := kl_inj hw (hI.ok u hu).2 hk k hk'
      rw [← this]
      show _ = bits .and .u64 (h k) (ρ.mask k)
      rw [hmk k hk']; rfl
  have hmem : ∀ u ∈ T, eqR 11 ρ.mask (mkk u) = true → hit u.m h = true → (⟨u.r, u.k⟩ : En) ∈ ρ.E (kl (msk h ρ.mask)) := fun u hu hm hh' => (hI.mem ρ hρ _ _).2 ⟨u, hu, hm, (key u hu hm).1 hh', rfl⟩
  refine ⟨fun hn u hu hm => ?_, fun e he => ?_⟩
  · cases hc : hit u.m h with
    | false => rfl
    | true =>
      have h1 := hmem u hu hm hc
      have h2 : ρ.E (kl (msk h ρ.mask)) = [] := List.head?_eq_none_iff.1 hn
      rw [h2] at h1; cases h1
  · have he' : (ρ.E (kl (msk h ρ.mask))).head? = some e := he
    have hem : e ∈ ρ.E (kl (msk h ρ.mask)) := List.mem_of_mem_head? he'
    obtain ⟨u, hu, hm, hl, hee⟩ := (hI.mem ρ hρ _ _).1 hem
    refine ⟨⟨u, hu, hee, (key u hu hm).2 hl⟩, fun v hv hvm hvh => ?_⟩
    have hvm' := hmem v hv hvm hvh
    have ho := hI.ord ρ hρ (kl (msk h ρ.mask))
    cases hE : ρ.E (kl (msk h ρ.mask)) with
    | nil => rw [hE] at hem; cases hem
    | cons a l =>
      rw [hE] at ho hvm' he'
      have : a = e := by simpa using he'
      subst this
      rcases List.mem_cons.1 hvm' with h1 | h1
      · exact Or.inl h1
      · exact Or.inr ((List.pairwise_cons.1 ho).1 _ h1)
set_option maxRecDepth 100000 in
theorem Inv.best {T : List Ru} {ad : Int} {nm : Nat} {Gm : Lit → Option Value} {rs : List Ro} (hI : Inv T ad nm Gm rs) {h : Nat → Int} (hh : Wf h) (hw : ∀ ρ ∈ rs, Wf ρ.mask) : Best T h (fnd h rs none) := by
  have hs := fnd_spec h rs none hI.sort fun ρ hρ e he => hI.top ρ hρ (kl (msk h ρ.mask)) e (List.mem_of_mem_head? he)
  refine ⟨fun hn u hu => ?_, fun e he => ?_⟩
  · obtain ⟨ρ, hρ, hm⟩ := hI.has u hu
    exact (hI.first hh hρ (hw ρ hρ)).1 ((hs.1 hn).2 ρ hρ) u hu hm
  · obtain ⟨h1, -, h3⟩ := hs.2 e he
    rcases h1 with h1 | ⟨ρ, hρ, h1⟩
    · cases h1
    · refine ⟨((hI.first hh hρ (hw ρ hρ)).2 e h1).1, fun u hu hhit => ?_⟩
      obtain ⟨σ, hσ, hm⟩ := hI.has u hu
      have hf := hI.first hh hσ (hw σ hσ)
      cases hc : fst σ h with
      | none => rw [hf.1 hc u hu hm] at hhit; cases hhit
      | some e' =>
        have h4 := (hf.2 e' hc).2 u hu hm hhit
        have h5 := h3 σ hσ e' hc
        rcases h4 with h4 | h4
        · rw [h4]; exact h5
        · rcases h5 with rfl | h5
          · exact Or.inr h4
          · exact Or.inr (ahd_trans h5 h4)
/-- How many unlike masks there are: those that no earlier one has. -/
def cntF : List Ru → List Ru → Nat
  | _, [] => 0
  | p, u :: T => (if p.any (fun v => eqR 11 (mkk v) (mkk u)) then 0 else 1) + cntF (p ++ [u]) T
def nMask (T : List Ru) : Nat := cntF [] T
set_option maxRecDepth 100000 in
theorem cntF_app : ∀ (T : List Ru) (p : List Ru) (u : Ru), cntF p (T ++ [u]) = cntF p T + (if (p ++ T).any (fun v => eqR 11 (mkk v) (mkk u)) then 0 else 1)
  | [], p, u => by simp [cntF]
  | x :: T, p, u => by
    show _ + cntF (p ++ [x]) (T ++ [u]) = _ + cntF (p ++ [x]) T + _
    rw [cntF_app T (p ++ [x]) u, List.append_assoc]
    simp only [List.cons_append, List.nil_append]
    omega
set_option maxRecDepth 100000 in
/-- Rows of unlike masks, each of a rule's, each rule's among them: as many as unlike masks. -/
theorem rows_count : ∀ (n : Nat) (T : List Ru) (rs : List Ro), T.length = n → (∀ u ∈ T, ∃ ρ ∈ rs, eqR 11 ρ.mask (mkk u) = true) → (rs.Pairwise fun a b => eqR 11 a.mask b.mask = false) → (∀ ρ ∈ rs, ∃ u ∈ T, eqR 11 ρ.mask (mkk u) = true) → rs.length = nMask T
  | 0, T, rs, hT, _, _, h3 => by
    have hT0 : T = [] := List.length_eq_zero_iff.1 hT
    subst hT0
    cases rs with
    | nil => rfl
    | cons ρ rs => obtain ⟨u, hu, _⟩ := h3 ρ (by simp); cases hu
  | n + 1, T, rs, hT, h1, h2, h3 => by
    obtain ⟨T', u, rfl⟩ : ∃ T' u, T = T' ++ [u] := by
      rcases List.eq_nil_or_concat T with e | ⟨L, b, e⟩
      · rw [e] at hT; cases hT
      · exact ⟨L, b, by rw [e]; simp⟩
    have hT' : T'.length = n := by simpa using hT
    unfold nMask
    rw [cntF_app, List.nil_append]
    cases hc : T'.any (fun v => eqR 11 (mkk v) (mkk u)) with
    | true =>
      obtain ⟨v, hv, hvu⟩ := List.any_eq_true.1 hc
      have := rows_count n T' rs hT' (fun w hw => h1 w (by simp [hw])) h2 fun ρ hρ => by
        obtain ⟨w, hw, hm⟩ := h3 ρ hρ
        rcases List.mem_append.1 hw with hw | hw
        · exact ⟨w, hw, hm⟩
        · rw [List.mem_singleton.1 hw] at hm
          exact ⟨v, hv, eqR_trans hm (eqR_symm ▸ hvu)⟩
      simpa [nMask] using this
    | false =>
      have hno : ∀ v ∈ T', eqR 11 (mkk v) (mkk u) = false := fun v hv => by
        cases hx : eqR 11 (mkk v) (mkk u) with
        | false => rfl
        | true => rw [List.any_eq_true.2 ⟨v, hv, hx⟩] at hc; cases hc
      obtain ⟨ρ, hρ, hm⟩ := h1 u (by simp)
      obtain ⟨i, hi, rfl⟩ := List.getElem_of_mem hρ
      have hp := List.pairwise_iff_getElem.1 h2
      have := rows_count n T' (rs.eraseIdx i) hT' (fun w hw => by
        obtain ⟨σ, hσ, hm2⟩ := h1 w (by simp [hw])
        obtain ⟨j, hj, rfl⟩ := List.getElem_of_mem hσ
        refine ⟨rs[j], ?_, hm2⟩
        rw [List.mem_eraseIdx_iff_getElem]
        refine ⟨j, hj, fun e => ?_, rfl⟩
        subst e
        have := hno w hw
        rw [eqR_trans (eqR_symm ▸ hm2) hm] at this; cases this) (h2.eraseIdx i) fun σ hσ => by
        obtain ⟨w, hw, hm2⟩ := h3 σ (List.mem_of_mem_eraseIdx hσ)
        rcases List.mem_append.1 hw with hw | hw
        · exact ⟨w, hw, hm2⟩
        · rw [List.mem_singleton.1 hw] at hm2
          obtain ⟨j, hj, hji, e⟩ := List.mem_eraseIdx_iff_getElem.1 hσ
          subst e
          have hx : eqR 11 rs[j].mask rs[i].mask = true := eqR_trans hm2 (eqR_symm ▸ hm)
          rcases Nat.lt_or_gt_of_ne hji with h5 | h5
          · rw [hp j i hj hi h5] at hx; cases hx
          · rw [eqR_symm, hp i j hi hj h5] at hx; cases hx
      rw [List.length_eraseIdx_of_lt hi] at this
      simp only [Bool.false_eq_true, if_false]
      unfold nMask at this
      omega
set_option maxRecDepth 100000 in
theorem Inv.rows {T : List Ru} {ad : Int} {nm : Nat} {Gm : Lit → Option Value} {rs : List Ro} (hI : Inv T ad nm Gm rs) : rs.length = nMask T := rows_count T.length T rs rfl hI.has hI.apart hI.som
end Go.Proofs.YtdehlnaoehjehaaGreatDoor
namespace Go.Proofs.YtdehlnaoehjehaaGreatDoor
set_option maxRecDepth 100000
open Go.RowKit

def Tbl (S : Nat → Prop) (w : World) (v : Value) (T : List Ru) (ad : Int) : Prop := ∃ g o bm nm Gm vr rs, v = pv g ∧ TabM S o w g ad bm nm Gm vr rs ∧ Inv T ad nm Gm rs
set_option maxRecDepth 100000 in
theorem Tbl.carry {S S' : Nat → Prop} {w w' : World} {v : Value} {T : List Ru} {ad : Int} (h : Tbl S w v T ad) (hc : ∀ b, b < w.heap.size → S b → S' b ∧ w'.heap[b]? = w.heap[b]?) : Tbl S' w' v T ad := by
  obtain ⟨g, o, bm, nm, Gm, vr, rs, h1, h2, h3⟩ := h
  exact ⟨g, o, bm, nm, Gm, vr, rs, h1, h2.carry fun b hb hS _ => ⟨(hc b hb hS).1, rfl, (hc b hb hS).2⟩, h3⟩
set_option maxRecDepth 100000 in
theorem Tbl.form {S : Nat → Prop} {w : World} {v : Value} {T : List Ru} {ad : Int} (h : Tbl S w v T ad) : ∃ g, v = pv g := by
  obtain ⟨g, o, bm, nm, Gm, vr, rs, h1, h2, h3⟩ := h
  exact ⟨g, h1⟩
set_option maxRecDepth 100000 in
theorem tnew_any (w : World) : Calls Tryz.prog 73 #[] w fun e w' => ∃ v, e = .returned v ∧ Below w.heap.size w w' ∧ Tbl (fun b => w.heap.size ≤ b) w' v [] 0 := by
  have hmm := @run_makeMap Tryz.prog
  have HF : Hid (Below w.heap.size w ((w.alloc (.map #[] 0)).alloc (.cells #[.int .i64 0, .map (some w.heap.size), .slice none 0 0] 215)) ∧ Tbl (fun b => w.heap.size ≤ b) ((w.alloc (.map #[] 0)).alloc (.cells #[.int .i64 0, .map (some w.heap.size), .slice none 0 0] 215)) (pv (w.heap.size + 1)) [] 0) := by
    have h1 := heap_alloc_new (w.alloc (.map #[] 0)) (.cells #[.int .i64 0, .map (some w.heap.size), .slice none 0 0] 215)
    have e1 : (w.alloc (.map #[] 0)).heap.size = w.heap.size + 1 := by simp
    rw [e1] at h1
    refine ⟨((Below.refl _ _).alloc (Nat.le_refl _) _).alloc (by simp) _, w.heap.size + 1, fun b => if b = w.heap.size + 1 then .tab else .mat, w.heap.size, 0, fun _ => none, nilS, [], rfl, ⟨by show _ ≤ _; omega, by simp, h1, Nat.le_refl _, by simp, (Mp.new w 3).carry (heap_alloc_old _ _ (by simp)), Rw.nil _ _ _ _, (fun _ h => by cases h), List.Pairwise.nil⟩, Inv.nil⟩
  go_enter Tryz.func73, Tryz.ntmps73
  go_wp2
  go_ret
  exact ⟨_, rfl, HF.out.1, HF.out.2⟩
def adE (T : List Ru) (m : Nat → Int) : Int := if mOk m then (if 1024 ≤ T.length then 4 else 0) else 20
def adT (T : List Ru) (ad r : Int) (m : Nat → Int) : List Ru := if adE T m = 0 then T ++ [⟨ad + 1, r, m⟩] else T
def adA (T : List Ru) (ad : Int) (m : Nat → Int) : Int := if adE T m = 0 then ad + 1 else ad
def adN (T : List Ru) (ad : Int) (m : Nat → Int) : Int := if adE T m = 0 then ad + 1 else 0
set_option maxRecDepth 100000 in
theorem tAdd_any {S : Nat → Prop} (w : World) (v : Value) (T : List Ru) (ad r : Int) (m : Nat → Int) (cp : Value) (ck : Int) (h : Tbl S w v T ad) (hf : Fresh S w) (ht : Tab w) (hw : Wf m) (ha : ad < 2147483640) :
    Calls Tryz.prog 121 #[v, .agg (rc r m cp ck)] w fun e w' => e = .returned (.tuple #[.int .i64 (adN T ad m), .int .i64 (adE T m)]) ∧ Only S w w' ∧ Tbl S w' v (adT T ad r m) (adA T ad m) := by
  obtain ⟨g, o, bm, nm, Gm, vr, rs, rfl, hT, hI⟩ := id h
  cases hm : mOk m with
  | false =>
    have e0 : adE T m = 20 := by simp [adE, hm]
    unfold adN adT adA
    rw [e0]
    refine (tadd_bad w g r m cp ck ht hm).mono ?_
    rintro e w' ⟨rfl, hb⟩
    exact ⟨rfl, Only.of hb hf, h.carry fun b hb1 hS => ⟨hS, hb.block b hb1⟩⟩
  | true =>
    by_cases hn : 1024 ≤ T.length
    · have e0 : adE T m = 4 := by simp [adE, hm, hn]
      unfold adN adT adA
      rw [e0]
      refine (tadd_full w g ad bm nm Gm vr rs r m cp ck hT ht hm (by rw [hI.cnt]; exact hn)).mono ?_
      rintro e w' ⟨rfl, hb⟩
      exact ⟨rfl, Only.of hb hf, h.carry fun b hb1 hS => ⟨hS, hb.block b hb1⟩⟩
    · have e0 : adE T m = 0 := by simp [adE, hm, hn]
      unfold adN adT adA
      rw [e0]
      have hl := hI.len
      refine (tadd_ok w g ad bm nm Gm vr rs r m cp ck hT hf ht hm hw (by rw [hI.cnt]; omega) hI.ad0 (by omega) (by omega) (fun ρ hρ => ⟨by have := (hl.2 ρ hρ).1; omega, fun l => by have := (hl.2 ρ hρ).2 l; omega⟩)).mono ?_
      rintro e w' ⟨rfl, hO, o', vr', ρ, rs', v5, hou, hT'⟩
      exact ⟨rfl, hO, g, o', bm, _, _, vr', _, rfl, hT', hI.add (u := ⟨ad + 1, r, m⟩) rfl hm hw hou⟩
set_option maxRecDepth 100000 in
theorem tFind_any {S : Nat → Prop} (w : World) (v : Value) (T : List Ru) (ad : Int) (h : Nat → Int) (hT : Tbl S w v T ad) (hw : Wf h) (ha : ad < 2147483640) :
    Calls Tryz.prog 74 #[v, hv h] w fun e w' => ∃ f, Best T h f ∧ e = .returned (.tuple #[.int .i64 (eD f).k, .bool f.isSome]) ∧ Below w.heap.size w w' := by
  obtain ⟨g, o, bm, nm, Gm, vr, rs, rfl, hT, hI⟩ := hT
  refine (find_any w g ad bm nm Gm vr rs h hT hw (by have := hI.len.1; omega)).mono ?_
  rintro e w' ⟨rfl, hb⟩
  exact ⟨_, hI.best hw fun ρ hρ => (hT.all ρ hρ).wf, rfl, hb⟩
end Go.Proofs.YtdehlnaoehjehaaGreatDoor
namespace Go.Proofs.YtdehlnaoehjehaaGreatDoor
set_option maxRecDepth 100000
open Go.RowKit

section
variable {ops : Array Oper} {rest : List Oper} {o : Oper} {a : Act} {w : World} {Q : Exit → Act → World → Prop}
/-- A call of a closure, in a walk. -/
theorem callCl (f : FuncId) (y : Operand) (xs : List Operand) (ts : Array TypeId) (args caps : List Value) (hop : o.op = .call { callee := .value y, args := xs.toArray, argTypes := ts }) (hg : o.guard = none) (hy : a.eval y = .func (.func f) #[] caps.toArray) (hx : xs.map a.eval = args) (hE : ∀ (args : Array Value) w, (callFunc f args).run Tryz.prog w = .ok (.enter f args) w)
    (Φ : Ending → World → Prop) (hC : Calls Tryz.prog f (args ++ caps).toArray w Φ) (hK : ∀ e w', Φ e w' → (∃ v, e = .returned v ∧ wpList Tryz.prog ops Q rest (a.put o.dst v) w') ∨ ∃ ch, e = .panicked ch ∧ Q (.panic ch) a w') : wpList Tryz.prog ops Q (o :: rest) a w := by
  have hw : Region.wanted o (yielded ops a.tmps) = true := by simp [Region.wanted, hg]
  have hrun : (execOp a.eval o).run Tryz.prog w = .ok (.enter f (args ++ caps).toArray) w := by
    unfold execOp
    simp only [hop, resolve, invoke, Deferred.ofValue, hy, Sem.run_bind, Sem.run_pure, Result.andThen_ok, List.map_toArray, hx, List.append_toArray, List.nil_append, hE]
  unfold wpList
  rw [if_pos hw]
  refine Or.inl ?_
  show Oper.upon Tryz.prog o a _ Q ((execOp a.eval o).run Tryz.prog w)
  rw [hrun, Oper.upon_enter]
  refine hC.mono ?_
  intro e w' h
  rcases hK e w' h with ⟨v, rfl, hk⟩ | ⟨ch, rfl, hk⟩
  · exact hk
  · exact hk
end
/-- The closure. -/
abbrev cl1 (b : Nat) : Value := .func (.func 187) #[] #[.pointer (some ⟨b, 0, none⟩)]
theorem entD1 (args : Array Value) (w : World) : (callFunc 187 args).run Tryz.prog w = .ok (.enter 187 args) w := rfl
theorem drop1_any (e : En) (b : Nat) (id : Int) (w : World) (hb : w.cell? ⟨b, 0, none⟩ = some (.int .i64 id)) :
    Calls Tryz.prog 187 #[ev e, .pointer (some ⟨b, 0, none⟩)] w fun r w' => r = .returned (.bool (e.k == id)) ∧ Below w.heap.size w w' := by
  obtain ⟨r, k⟩ := e
  obtain ⟨W0, hW0⟩ : ∃ W0, W0 = w.alloc (.cells #[.int .i64 r, .int .i64 k] 217) := ⟨_, rfl⟩
  have HL : Hid (Below w.heap.size w W0) := by show Below _ _ _; rw [hW0]; exact (Below.refl _ _).alloc (Nat.le_refl _) _
  have hbl := cell_lt hb
  have hG : W0.heap[w.heap.size]? = some (.cells #[.int .i64 r, .int .i64 k] 217 (0, 0)) := by rw [hW0]; exact heap_alloc_new _ _
  have c1 : W0.cell? ⟨w.heap.size, 1, none⟩ = some (.int .i64 k) := by rw [cell_of_row _ _ _ _ _ _ hG]; rfl
  have c2 : W0.cell? ⟨b, 0, none⟩ = some (.int .i64 id) := by rw [HL.out.cell (p := ⟨b, 0, none⟩) hbl]; exact hb
  have HW0 := hid hW0
  clear hb hW0 hG
  go_enter Tryz.func187, Tryz.ntmps187
  go_upto_region 1 with fail
  rw [← HW0.out]
  clear HW0
  go_wp2
  go_ret
  exact ⟨rfl, HL.out⟩
/-- The first entry of a number. -/
def fi (l : List En) (id : Int) (q : Nat) : Prop := ∀ j (hj : j < l.length), j < q → (l[j].k == id) = false
/-- What IndexFunc answers. -/
def Ix (w : World) (l : List En) (id : Int) (r : Ending) (w' : World) : Prop := Below w.heap.size w w' ∧ ((r = .returned (.int .i64 (-1)) ∧ fi l id l.length) ∨ ∃ (q : Nat) (hq : q < l.length), r = .returned (.int .i64 q) ∧ fi l id q ∧ (l[q].k == id) = true)
theorem Ix.yes {w w' : World} {l : List En} {id : Int} (hb : Below w.heap.size w w') {q : Nat} (hq : q < l.length) (h1 : fi l id q) (h2 : (l[q].k == id) = true) : Ix w l id (.returned (.int .i64 q)) w' := ⟨hb, Or.inr ⟨q, hq, rfl, h1, h2⟩⟩
theorem Ix.no {w w' : World} {l : List En} {id : Int} (hb : Below w.heap.size w w') (h1 : fi l id l.length) : Ix w l id (.returned (.int .i64 (-1))) w' := ⟨hb, Or.inl ⟨rfl, h1⟩⟩
set_option maxHeartbeats 1600000 in
set_option maxRecDepth 100000 in
theorem index_any {S : Nat → Prop} (w : World) (v : Value) (l : List En) (b : Nat) (id : Int) (h : Rw S 2 217 w v l.length (ces l)) (hb : w.cell? ⟨b, 0, none⟩ = some (.int .i64 id)) (hn : l.length < 2147483647) :
    Calls Tryz.prog 213 #[v, cl1 b] w (Ix w l id) := by
  obtain ⟨ao, cap, rfl⟩ := h.form
  have hbl := cell_lt hb
  have H := hid h
  have HB := hid hb
  clear h hb
  go_enter Tryz.func213, Tryz.ntmps213
  go_upto_region 2 with fail
  go_loopw [8] (fun i wr => ∃ q : Nat, q ≤ l.length ∧ i = .int .i64 q ∧ Below w.heap.size w wr ∧ fi l id q) (fun i _ => l.length - (intOf i).toNat)
  case atStart => exact ⟨0, by omega, rfl, Below.refl _ _, fun j _ h => by omega⟩
  case round =>
    obtain ⟨q, hq, rfl, hlow, hfi⟩ := hrel
    generalize wr = wx at *
    have HLo := hid hlow
    have HFi := hid hfi
    clear hlow hfi
    by_cases hlt : q < l.length
    · have hql : decide ((q : Int) < (l.length : Int)) = true := decide_eq_true (by omega)
      rcases H.out with ⟨hx, ⟨_, hz0⟩ | ⟨g, o, cap', cur, he, hb1, hb2, hb3, hb4, hb5⟩⟩
      · omega
      obtain ⟨rfl, rfl⟩ : ao = some ⟨g, o, none⟩ ∧ cap = cap' := by simpa using he
      obtain ⟨⟨yr, yk⟩, hy⟩ : ∃ y : En, y = l[q] := ⟨_, rfl⟩
      have hgl := (Array.getElem?_eq_some_iff.1 hb2).1
      have hgx : wx.heap[g]? = some (.cells cur 217 (0, 0)) := (HLo.out.block g hgl).trans hb2
      have d0 : wx.cell? ⟨g, o + q * 2, none⟩ = some (.int .i64 yr) := by
        rw [cell_of_row _ _ _ _ _ _ hgx]
        have := cells_at hb5 (j := q * 2 + 0) (by omega)
        rw [ces_at l q 0 hlt (by omega), ← hy] at this
        exact this
      have d1 : wx.cell? ⟨g, o + q * 2 + 1, none⟩ = some (.int .i64 yk) := by
        rw [cell_of_row _ _ _ _ _ _ hgx]
        have := cells_at hb5 (j := q * 2 + 1) (by omega)
        rw [ces_at l q 1 hlt (by omega), ← hy] at this
        exact this
      have hr2 : wx.rangeAt g (o + q * 2) (#[.int .i64 yr, .int .i64 yk] : Array Value).toList := range2 d0 d1
      have HC := hid (drop1_any ⟨yr, yk⟩ b id wx (by rw [HLo.out.cell (p := ⟨b, 0, none⟩) hbl]; exact HB.out))
      have hw1 : IntKind.i64.wrap ((q : Int) + 1) = (q : Int) + 1 := by rw [IntKind.wrap_i64]; omega
      obtain ⟨c, hc⟩ : ∃ c, c = (yk == id) := ⟨_, rfl⟩
      have HC' : Hid (Calls Tryz.prog 187 #[ev ⟨yr, yk⟩, .pointer (some ⟨b, 0, none⟩)] wx fun r w' => r = .returned (.bool c) ∧ Below w.heap.size w w') := HC.out.mono fun r w' ⟨h1, h2⟩ => ⟨by rw [hc]; exact h1, HLo.out.trans (h2.mono HLo.out.size)⟩
      have HY := hid hy
      have HCc := hid hc
      clear hx he hb1 hb2 hb3 hb4 hb5 hgl hgx hy hc HC d0 d1
      cases c with
      | true =>
        go_wp2_with (first
          | (refine ldMid 217 (.tmp 14) rfl rfl g (o + q * 2) rfl #[.int .i64 yr, .int .i64 yk] _ Tryz.underlying217 rfl sizeE2 hr2 ?_)
          | (refine callCl 187 (.tmp 11) [.tmp 15] _ [ev ⟨yr, yk⟩] [.pointer (some ⟨b, 0, none⟩)] rfl rfl rfl rfl entD1 _ HC'.out ?_; rintro r w5 ⟨rfl, hb5⟩; refine Or.inl ⟨_, rfl, ?_⟩; have HB5 := hid hb5; clear hb5 HC'))
        go_ret
        exact Ix.yes HB5.out hlt HFi.out (by rw [← HY.out]; exact HCc.out.symm)
      | false =>
        go_wp2_with (first
          | (refine ldMid 217 (.tmp 14) rfl rfl g (o + q * 2) rfl #[.int .i64 yr, .int .i64 yk] _ Tryz.underlying217 rfl sizeE2 hr2 ?_)
          | (refine callCl 187 (.tmp 11) [.tmp 15] _ [ev ⟨yr, yk⟩] [.pointer (some ⟨b, 0, none⟩)] rfl rfl rfl rfl entD1 _ HC'.out ?_; rintro r w5 ⟨rfl, hb5⟩; refine Or.inl ⟨_, rfl, ?_⟩; have HB5 := hid hb5; clear hb5 HC'))
        go_roundw
        case rel =>
          refine ⟨q + 1, by omega, by go_num, HB5.out, fun j hj hjq => ?_⟩
          by_cases e : j = q
          · subst e; rw [← HY.out]; exact HCc.out.symm
          · exact HFi.out j hj (by omega)
        case measure => simp [intOf]; omega
    · obtain rfl : q = l.length := by omega
      have hql : decide ((l.length : Int) < (l.length : Int)) = false := by simp
      go_wp2
      go_ret
      exact Ix.no HLo.out HFi.out
end Go.Proofs.YtdehlnaoehjehaaGreatDoor
