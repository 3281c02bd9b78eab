/- Plain: where words are cut off, what is left is read as less, or refused at its end. -/
import Derived.Test.YtcifeankgnjndaaGreatDoorFJ6
namespace Go.Proofs.YtcifeankgnjndaaGreatDoor
set_option maxRecDepth 100000

theorem szs_app : ∀ (a b : List Tm), szs (a ++ b) = szs a + szs b
  | [], b => by rw [List.nil_append, szs]; omega
  | x :: a, b => by rw [List.cons_append, szs, szs, szs_app a b]; omega
theorem dps_app : ∀ (a b : List Tm), dps (a ++ b) = max (dps a) (dps b)
  | [], b => by rw [List.nil_append, dps]; omega
  | x :: a, b => by rw [List.cons_append, dps, dps, dps_app a b]; omega
theorem szs_one (t : Tm) : szs [t] = sz t := by rw [szs, szs]; omega
theorem dps_one (t : Tm) : dps [t] = dp t := by rw [dps, dps]; omega
theorem sz_ov (op : Nat) (ks : List Tm) : sz (ov op ks) = szs ks + 1 := by rw [sz]
theorem dp_ov (op : Nat) (ks : List Tm) : dp (ov op ks) = dps ks + 1 := by rw [dp]
/-- no greater, no deeper -/
def Le (t u : Tm) : Prop := sz t ≤ sz u ∧ dp t ≤ dp u
theorem Le.refl (t : Tm) : Le t t := ⟨Nat.le_refl _, Nat.le_refl _⟩
theorem Le.trans {a b c : Tm} (h : Le a b) (k : Le b c) : Le a c := ⟨Nat.le_trans h.1 k.1, Nat.le_trans h.2 k.2⟩
theorem Le.ov {t u : Tm} (h : Le t u) (op : Nat) : Le (YtcifeankgnjndaaGreatDoor.ov op [t]) (YtcifeankgnjndaaGreatDoor.ov op [u]) := by
  unfold Le; rw [sz_ov, sz_ov, dp_ov, dp_ov, szs_one, szs_one, dps_one, dps_one]
  have h1 := h.1; have h2 := h.2; omega
theorem Le.kid (t : Tm) (op : Nat) (ks : List Tm) : Le t (YtcifeankgnjndaaGreatDoor.ov op (t :: ks)) := by
  unfold Le; rw [sz_ov, dp_ov, szs, dps]; omega
/-- l2 is l1, cut off at k -/
structure Cut (l1 l2 : List Wd) (k : Nat) : Prop where
  same : ∀ i, i < k → wat l2 i = wat l1 i
  et : (wat l2 k).t = ⟨#[]⟩
  ek : (wat l2 k).k = 0
  len : l2.length = k + 1
section
variable {l1 l2 : List Wd} {k : Nat}
theorem Cut.tk (h : Cut l1 l2 k) {i : Nat} (hi : i < k) (q : ByteArray) : tk l2 i q = tk l1 i q := by unfold YtcifeankgnjndaaGreatDoor.tk; rw [h.same i hi]
theorem Cut.tkk (h : Cut l1 l2 k) {q : ByteArray} (hq : q ≠ ⟨#[]⟩) : YtcifeankgnjndaaGreatDoor.tk l2 k q = false := by unfold YtcifeankgnjndaaGreatDoor.tk; rw [h.et]; exact decide_eq_false fun e => hq e.symm
def Rel (k : Nat) (r1 r2 : Rd Tm) : Prop := ∀ t j, r1 = .ok t j → (j ≤ k → r2 = .ok t j) ∧ (k < j → r2 = .bad k ∨ ∃ t', r2 = .ok t' k ∧ Le t' t)
theorem Rel.map {r1 r2 : Rd Tm} (h : Rel k r1 r2) (op : Nat) : Rel k (r1.map fun t => ov op [t]) (r2.map fun t => ov op [t]) := by
  intro t j e
  cases r1 with
  | bad i => cases e
  | ok u i =>
    cases e
    obtain ⟨h1, h2⟩ := h u j rfl
    refine ⟨fun hj => by rw [h1 hj]; rfl, fun hj => ?_⟩
    rcases h2 hj with q | ⟨t', q, q2⟩
    · exact Or.inl (by rw [q]; rfl)
    · exact Or.inr ⟨_, by rw [q]; rfl, q2.ov op⟩
theorem Rel.exp (hc : Cut l1 l2 k) {r1 r2 : Rd Tm} (h : Rel k r1 r2) {q : ByteArray} (hq : q ≠ ⟨#[]⟩) : ∀ t j, r1.exp l1 q = .ok t j → (j ≤ k → r2.exp l2 q = .ok t j) ∧ (k < j → r2.exp l2 q = .bad k) := by
  intro t j e
  cases r1 with
  | bad i => cases e
  | ok u i =>
    have e' : (if YtcifeankgnjndaaGreatDoor.tk l1 i q = true then Rd.ok u (i + 1) else .bad i) = .ok t j := e
    split at e'
    · rename_i ht
      cases e'
      obtain ⟨h1, h2⟩ := h t i rfl
      refine ⟨fun hj => ?_, fun hj => ?_⟩
      · rw [h1 (by omega)]
        show (if YtcifeankgnjndaaGreatDoor.tk l2 i q = true then Rd.ok t (i + 1) else .bad i) = _
        rw [hc.tk (by omega), if_pos ht]
      · by_cases hik : i = k
        · subst hik
          rw [h1 (Nat.le_refl _)]
          show (if YtcifeankgnjndaaGreatDoor.tk l2 i q = true then Rd.ok t (i + 1) else .bad i) = _
          rw [hc.tkk hq, if_neg (by decide)]
        · rcases h2 (by omega) with q' | ⟨t', q', -⟩
          · rw [q']; rfl
          · rw [q']
            show (if YtcifeankgnjndaaGreatDoor.tk l2 k q = true then Rd.ok t' (k + 1) else .bad k) = _
            rw [hc.tkk hq, if_neg (by decide)]
    · cases e'
theorem rel_of_exp {r1 r2 : Rd Tm} (h : ∀ t j, r1 = .ok t j → (j ≤ k → r2 = .ok t j) ∧ (k < j → r2 = .bad k)) : Rel k r1 r2 := fun t j e => ⟨(h t j e).1, fun hj => Or.inl ((h t j e).2 hj)⟩
theorem pair_rel (hc : Cut l1 l2 k) (op : Nat) {sg : ByteArray} (hq : sg ≠ ⟨#[]⟩) {i : Nat} (hi : i ≤ k) : Rel k (pair l1 op sg i) (pair l2 op sg i) := by
  intro t j e
  have hfk : fdOf (wat l2 k).t = none := by rw [hc.et]; decide
  unfold pair at e
  by_cases h0 : i = k
  · subst h0
    have hj : i < j := by
      split at e
      · cases e
      · split at e
        · split at e
          · cases e; omega
          · cases e
        · cases e
    refine ⟨fun h => by omega, fun _ => Or.inl ?_⟩
    unfold pair; rw [hfk]
  · split at e
    · cases e
    · rename_i f hf
      split at e
      · rename_i ht
        split at e
        · rename_i hk
          cases e
          refine ⟨fun hj => ?_, fun hj => Or.inl ?_⟩
          · unfold pair
            rw [hc.same i (by omega), hf]
            show (if YtcifeankgnjndaaGreatDoor.tk l2 (i + 1) sg = true then _ else _) = _
            rw [hc.tk (by omega), if_pos ht, hc.same (i + 2) (by omega), if_pos hk]
          · unfold pair
            rw [hc.same i (by omega), hf]
            show (if YtcifeankgnjndaaGreatDoor.tk l2 (i + 1) sg = true then _ else _) = _
            by_cases h1 : i + 1 = k
            · rw [h1, hc.tkk hq, if_neg (by decide)]
            · have h2 : i + 2 = k := by omega
              rw [hc.tk (by omega), if_pos ht, h2, hc.ek, if_neg (by decide)]
        · cases e
      · cases e
theorem jnL_ext {l : List Wd} {sg : ByteArray} {part : Nat → Rd Tm} : ∀ f i acc ts j, jnL l sg part f i acc = .ok ts j → ∃ m, ts = acc ++ m
  | 0, i, acc, ts, j, h => by rw [jnL] at h; cases h; exact ⟨[], by simp⟩
  | f + 1, i, acc, ts, j, h => by
    rw [jnL] at h
    split at h
    · split at h
      · cases h
      · rename_i t' j' _
        obtain ⟨m, hm⟩ := jnL_ext f _ _ _ _ h
        exact ⟨[t'] ++ m, by rw [hm, List.append_assoc]⟩
    · cases h; exact ⟨[], by simp⟩
theorem jnL_rel (hc : Cut l1 l2 k) (hcl : Cl l1) {sg : ByteArray} (hq : sg ≠ ⟨#[]⟩) {p1 p2 : Nat → Rd Tm} (ha : Adv l1 p1) {b : Nat} (hp : ∀ i, b ≤ i → i ≤ k → Rel k (p1 i) (p2 i)) : ∀ f1 f2 i acc ts j, jnL l1 sg p1 f1 i acc = .ok ts j → b ≤ i → i ≤ k → i < l1.length → l1.length - i ≤ f1 → k + 1 - i ≤ f2 →
    (j ≤ k → jnL l2 sg p2 f2 i acc = .ok ts j) ∧ (k < j → jnL l2 sg p2 f2 i acc = .bad k ∨ ∃ ts', jnL l2 sg p2 f2 i acc = .ok ts' k ∧ szs ts' ≤ szs ts ∧ dps ts' ≤ dps ts)
  | 0, f2, i, acc, ts, j, h, hbi, hi, hl, hf, hf2 => by omega
  | f1 + 1, 0, i, acc, ts, j, h, hbi, hi, hl, hf, hf2 => by omega
  | f1 + 1, f2 + 1, i, acc, ts, j, h, hbi, hi, hl, hf, hf2 => by
    rw [jnL] at h
    by_cases ht : YtcifeankgnjndaaGreatDoor.tk l1 i sg = true
    · rw [if_pos ht] at h
      have hil := tk_lt hcl hl hq ht
      cases hq1 : p1 (i + 1) with
      | bad q => rw [hq1] at h; cases h
      | ok t j1 =>
        rw [hq1] at h
        have hj1 := (ha _ hil).1 t j1 hq1
        have hjj := (jnL_adv hcl hq ha f1 j1 _ hj1.2).1 ts j h
        by_cases hik : i = k
        · subst hik
          refine ⟨fun hj => by omega, fun _ => Or.inr ⟨acc, by rw [jnL, hc.tkk hq, if_neg (by decide)], ?_⟩⟩
          obtain ⟨m, hm⟩ := jnL_ext _ _ _ _ _ h
          rw [hm, List.append_assoc, szs_app, dps_app]; omega
        · have hR := hp (i + 1) (by omega) (by omega) t j1 hq1
          rw [jnL, hc.tk (by omega), if_pos ht]
          by_cases hjk : j1 ≤ k
          · rw [hR.1 hjk]
            exact jnL_rel hc hcl hq ha hp f1 f2 j1 (acc ++ [t]) ts j h (by omega) hjk hj1.2 (by omega) (by omega)
          · refine ⟨fun hj => by omega, fun _ => ?_⟩
            rcases hR.2 (by omega) with q | ⟨t', q, q2⟩
            · rw [q]; exact Or.inl rfl
            · rw [q]
              right
              refine ⟨acc ++ [t'], ?_, ?_⟩
              · show jnL l2 sg p2 f2 k (acc ++ [t']) = _
                cases f2 with
                | zero => rw [jnL]
                | succ f2 => rw [jnL, hc.tkk hq, if_neg (by decide)]
              · obtain ⟨m, hm⟩ := jnL_ext _ _ _ _ _ h
                have h1 := q2.1; have h2 := q2.2
                rw [hm, szs_app, dps_app, szs_app, dps_app, szs_app, dps_app, szs_one, szs_one, dps_one, dps_one]
                omega
    · rw [if_neg ht] at h
      cases h
      refine ⟨fun _ => ?_, fun hj => by omega⟩
      rw [jnL]
      by_cases hik : i = k
      · subst hik; rw [hc.tkk hq, if_neg (by decide)]
      · rw [hc.tk (by omega), if_neg ht]
theorem jnE0 {l : List Wd} {op : Nat} {sg : ByteArray} {part : Nat → Rd Tm} {i j : Nat} (h : part i = .bad j) : jn l op sg part i = .bad j := by unfold jn; rw [h]
theorem jnE1 {l : List Wd} {op : Nat} {sg : ByteArray} {part : Nat → Rd Tm} {i j : Nat} {t : Tm} (h : part i = .ok t j) (ht : YtcifeankgnjndaaGreatDoor.tk l j sg = false) : jn l op sg part i = .ok t j := by unfold jn; rw [h]; simp [ht]
theorem jnE2 {l : List Wd} {op : Nat} {sg : ByteArray} {part : Nat → Rd Tm} {i j : Nat} {t : Tm} (h : part i = .ok t j) (ht : YtcifeankgnjndaaGreatDoor.tk l j sg = true) : jn l op sg part i = (jnL l sg part l.length j [t]).map (fun ts => ov op ts) := by
  unfold jn; rw [h]; simp only [ht, if_true]
  cases jnL l sg part l.length j [t] <;> rfl
theorem jn_rel (hc : Cut l1 l2 k) (hcl : Cl l1) (hkl : k < l1.length) (op : Nat) {sg : ByteArray} (hq : sg ≠ ⟨#[]⟩) {p1 p2 : Nat → Rd Tm} (ha : Adv l1 p1) {i : Nat} (hp : ∀ i', i ≤ i' → i' ≤ k → Rel k (p1 i') (p2 i')) (hi : i ≤ k) : Rel k (jn l1 op sg p1 i) (jn l2 op sg p2 i) := by
  intro t j e
  cases h1 : p1 i with
  | bad q => rw [jnE0 h1] at e; cases e
  | ok u j1 =>
    have hj1 := (ha i (by omega)).1 u j1 h1
    obtain ⟨hR1, hR2⟩ := hp i (Nat.le_refl _) hi u j1 h1
    cases ht : YtcifeankgnjndaaGreatDoor.tk l1 j1 sg with
    | true =>
      rw [jnE2 h1 ht] at e
      cases h2 : jnL l1 sg p1 l1.length j1 [u] with
      | bad q => rw [h2] at e; cases e
      | ok ts q =>
        rw [h2] at e
        cases e
        have hqq := (jnL_adv hcl hq ha l1.length j1 [u] hj1.2).1 ts j h2
        obtain ⟨m, hm⟩ := jnL_ext _ _ _ _ _ h2
        have hLu : Le u (YtcifeankgnjndaaGreatDoor.ov op ts) := by rw [hm]; exact Le.kid u op m
        by_cases hjk : j1 < k
        · have hL := jnL_rel hc hcl hq ha hp l1.length l2.length j1 [u] ts j h2 (by omega) (by omega) hj1.2 (by omega) (by rw [hc.len]; omega)
          rw [jnE2 (hR1 (by omega)) (by rw [hc.tk hjk]; exact ht)]
          refine ⟨fun hj => by rw [hL.1 hj]; rfl, fun hj => ?_⟩
          rcases hL.2 hj with q' | ⟨ts', q', q2⟩
          · rw [q']; exact Or.inl rfl
          · rw [q']
            exact Or.inr ⟨_, rfl, by show Le (YtcifeankgnjndaaGreatDoor.ov op ts') (YtcifeankgnjndaaGreatDoor.ov op ts); unfold Le; rw [sz_ov, sz_ov, dp_ov, dp_ov]; omega⟩
        · refine ⟨fun hj => ?_, fun hj => ?_⟩
          · exfalso
            have hil := tk_lt hcl hj1.2 hq ht
            have hlen : l1.length = l1.length - 1 + 1 := by omega
            rw [hlen, jnL, if_pos ht] at h2
            cases h3 : p1 (j1 + 1) with
            | bad q => rw [h3] at h2; cases h2
            | ok v j2 =>
              rw [h3] at h2
              have hj2 := (ha _ hil).1 v j2 h3
              have := (jnL_adv hcl hq ha _ j2 _ hj2.2).1 ts j h2
              omega
          · by_cases hjk2 : j1 = k
            · subst hjk2
              rw [jnE1 (hR1 (Nat.le_refl _)) (hc.tkk hq)]
              exact Or.inr ⟨u, rfl, hLu⟩
            · rcases hR2 (by omega) with q' | ⟨t', q', q2⟩
              · rw [jnE0 q']; exact Or.inl rfl
              · rw [jnE1 q' (hc.tkk hq)]
                exact Or.inr ⟨t', rfl, q2.trans hLu⟩
    | false =>
      rw [jnE1 h1 ht] at e
      cases e
      refine ⟨fun hj => ?_, fun hj => ?_⟩
      · have : YtcifeankgnjndaaGreatDoor.tk l2 j sg = false := by
          by_cases hjk : j = k
          · subst hjk; exact hc.tkk hq
          · rw [hc.tk (by omega)]; exact ht
        rw [jnE1 (hR1 hj) this]
      · rcases hR2 hj with q' | ⟨t', q', q2⟩
        · rw [jnE0 q']; exact Or.inl rfl
        · rw [jnE1 q' (hc.tkk hq)]
          exact Or.inr ⟨t', rfl, q2⟩
theorem starL_ge {l : List Wd} : ∀ f i t u j, starL l f i t = .ok u j → Le t u ∧ i ≤ j
  | 0, i, t, u, j, h => by rw [starL] at h; cases h; exact ⟨Le.refl _, Nat.le_refl _⟩
  | f + 1, i, t, u, j, h => by
    rw [starL] at h
    split at h
    · obtain ⟨h1, h2⟩ := starL_ge f _ _ _ _ h
      exact ⟨(Le.kid t 10 []).trans h1, by omega⟩
    · cases h; exact ⟨Le.refl _, Nat.le_refl _⟩
theorem starL_rel (hc : Cut l1 l2 k) (hcl : Cl l1) : ∀ f1 f2 i t u j, starL l1 f1 i t = .ok u j → i ≤ k → i < l1.length → l1.length - i ≤ f1 → k + 1 - i ≤ f2 → (j ≤ k → starL l2 f2 i t = .ok u j) ∧ (k < j → ∃ t', starL l2 f2 i t = .ok t' k ∧ Le t' u)
  | 0, f2, i, t, u, j, h, hi, hl, hf, hf2 => by omega
  | f1 + 1, 0, i, t, u, j, h, hi, hl, hf, hf2 => by omega
  | f1 + 1, f2 + 1, i, t, u, j, h, hi, hl, hf, hf2 => by
    rw [starL] at h
    by_cases ht : YtcifeankgnjndaaGreatDoor.tk l1 i Sstar = true
    · rw [if_pos ht] at h
      have hil := tk_lt hcl hl (by decide) ht
      by_cases hik : i = k
      · subst hik
        obtain ⟨h1, h2⟩ := starL_ge _ _ _ _ _ h
        exact ⟨fun hj => by omega, fun _ => ⟨t, by rw [starL, hc.tkk (by decide), if_neg (by decide)], (Le.kid t 10 []).trans h1⟩⟩
      · rw [starL, hc.tk (by omega), if_pos ht]
        exact starL_rel hc hcl f1 f2 (i + 1) _ u j h (by omega) hil (by omega) (by omega)
    · rw [if_neg ht] at h
      cases h
      refine ⟨fun _ => ?_, fun hj => by omega⟩
      rw [starL]
      by_cases hik : i = k
      · subst hik; rw [hc.tkk (by decide), if_neg (by decide)]
      · rw [hc.tk (by omega), if_neg ht]
theorem star_rel (hc : Cut l1 l2 k) (hcl : Cl l1) (hkl : k < l1.length) {a1 a2 : Nat → Rd Tm} (ha : Adv l1 a1) {i : Nat} (hp : Rel k (a1 i) (a2 i)) (hi : i ≤ k) : Rel k (starF l1 a1 i) (starF l2 a2 i) := by
  intro t j e
  unfold starF at e ⊢
  cases h1 : a1 i with
  | bad q => rw [h1] at e; cases e
  | ok u j1 =>
    rw [h1] at e
    replace e : starL l1 l1.length j1 u = .ok t j := e
    have hj1 := (ha i (by omega)).1 u j1 h1
    obtain ⟨hR1, hR2⟩ := hp u j1 h1
    obtain ⟨hg1, hg2⟩ := starL_ge _ _ _ _ _ e
    by_cases hjk : j1 ≤ k
    · rw [hR1 hjk]
      have hL := starL_rel hc hcl l1.length l2.length j1 u t j e hjk hj1.2 (by omega) (by rw [hc.len]; omega)
      exact ⟨hL.1, fun hj => Or.inr (hL.2 hj)⟩
    · refine ⟨fun hj => by omega, fun _ => ?_⟩
      rcases hR2 (by omega) with q' | ⟨t', q', q2⟩
      · rw [q']; exact Or.inl rfl
      · rw [q']
        refine Or.inr ⟨t', ?_, q2.trans hg1⟩
        show starL l2 l2.length k t' = _
        rw [hc.len, starL, hc.tkk (by decide), if_neg (by decide)]
theorem not_rel (hc : Cut l1 l2 k) (hcl : Cl l1) {i : Nat} {d1 d2 n1 n2 : Nat → Rd Tm} (hd : ∀ i', i < i' → i' ≤ k → Rel k (d1 i') (d2 i')) (hn : ∀ i', i < i' → i' ≤ k → Rel k (n1 i') (n2 i')) (hda : Adv l1 d1) (hna : Adv l1 n1) (hkl : k < l1.length) (hi : i ≤ k) : Rel k (notF l1 d1 n1 i) (notF l2 d2 n2 i) := by
  by_cases hik : i = k
  · subst hik
    have h2 : notF l2 d2 n2 i = .bad i := by
      unfold notF
      rw [hc.tkk (by decide), if_neg (by decide), hc.tkk (by decide), if_neg (by decide), hc.tkk (by decide), if_neg (by decide), hc.tkk (by decide), if_neg (by decide)]
      unfold pair
      rw [hc.et, show fdOf ⟨#[]⟩ = none by decide]
    intro t j e
    have := (notF_adv hcl hda hna i hkl).1 t j e
    exact ⟨fun hj => by omega, fun _ => Or.inl h2⟩
  · unfold notF
    rw [hc.tk (by omega), hc.tk (by omega), hc.tk (by omega), hc.tk (by omega)]
    split
    · exact (hn (i + 1) (by omega) (by omega)).map 3
    · split
      · intro t j e; cases e; exact ⟨fun _ => rfl, fun hj => by omega⟩
      · split
        · intro t j e; cases e; exact ⟨fun _ => rfl, fun hj => by omega⟩
        · split
          · exact rel_of_exp ((hd (i + 1) (by omega) (by omega)).exp hc (by decide))
          · exact pair_rel hc 2 (by decide) hi
theorem ite_le {p a b b' : Tm} (h : Le b' b) : Le (iteT p a b') (iteT p a b) := by
  have h1 := h.1; have h2 := h.2
  unfold Le iteT
  simp only [sz_ov, dp_ov, szs, dps]
  omega
theorem atom_rel (hc : Cut l1 l2 k) (hcl : Cl l1) {i : Nat} {o1 o2 d1 d2 : Nat → Rd Tm} (ho : ∀ i', i < i' → i' ≤ k → Rel k (o1 i') (o2 i')) (hd : ∀ i', i < i' → i' ≤ k → Rel k (d1 i') (d2 i')) (hoa : Adv l1 o1) (hda : Adv l1 d1) (hkl : k < l1.length) (hi : i ≤ k) : Rel k (atomF l1 o1 d1 i) (atomF l2 o2 d2 i) := by
  by_cases hik : i = k
  · subst hik
    have h2 : atomF l2 o2 d2 i = .bad i := by
      unfold atomF
      rw [hc.tkk (by decide), if_neg (by decide), hc.tkk (by decide), if_neg (by decide), hc.tkk (by decide), if_neg (by decide), hc.tkk (by decide), if_neg (by decide), hc.tkk (by decide), if_neg (by decide)]
      unfold pair
      rw [hc.et, show fdOf ⟨#[]⟩ = none by decide]
    intro t j e
    have := (atomF_adv hcl hoa hda i hkl).1 t j e
    exact ⟨fun hj => by omega, fun _ => Or.inl h2⟩
  · unfold atomF
    rw [hc.tk (by omega), hc.tk (by omega), hc.tk (by omega), hc.tk (by omega), hc.tk (by omega)]
    split
    · exact (hd (i + 1) (by omega) (by omega)).map 6
    · split
      · intro t j e; cases e; exact ⟨fun _ => rfl, fun hj => by omega⟩
      · split
        · intro t j e; cases e; exact ⟨fun _ => rfl, fun hj => by omega⟩
        · split
          · rename_i hif
            have hil := tk_lt hcl (by omega) (by decide) hif
            intro t j e
            cases h1 : (d1 (i + 1)).exp l1 Qthen with
            | bad q => rw [h1] at e; cases e
            | ok p j1 =>
              rw [h1] at e
              replace e : ((o1 j1).exp l1 Qelse).bind (fun a k => (o1 k).map fun b => iteT p a b) = .ok t j := e
              obtain ⟨e1, e2⟩ := (hd (i + 1) (by omega) (by omega)).exp hc (by decide) p j1 h1
              have hj1 := (((hda (i + 1) hil).exp hcl (by decide)).1 p j1 h1)
              cases h2 : (o1 j1).exp l1 Qelse with
              | bad q => rw [h2] at e; cases e
              | ok a j2 =>
                rw [h2] at e
                replace e : (o1 j2).map (fun b => iteT p a b) = .ok t j := e
                have hj2 := (((hoa j1 hj1.2).exp hcl (by decide)).1 a j2 h2)
                cases h3 : o1 j2 with
                | bad q => rw [h3] at e; cases e
                | ok b j3 =>
                  rw [h3] at e
                  cases e
                  have hj3 := (hoa j2 hj2.2).1 b j h3
                  by_cases k1 : j1 ≤ k
                  · rw [e1 k1]
                    obtain ⟨f1, f2⟩ := (ho j1 (by omega) k1).exp hc (by decide) a j2 h2
                    by_cases k2 : j2 ≤ k
                    · obtain ⟨g1, g2⟩ := ho j2 (by omega) k2 b j h3
                      refine ⟨fun hj => ?_, fun hj => ?_⟩
                      · show ((o2 j1).exp l2 Qelse).bind (fun a k => (o2 k).map fun b => iteT p a b) = _
                        rw [f1 k2]
                        show (o2 j2).map (fun b => iteT p a b) = _
                        rw [g1 hj]; rfl
                      · rcases g2 hj with q' | ⟨t', q', q2⟩
                        · left
                          show ((o2 j1).exp l2 Qelse).bind (fun a k => (o2 k).map fun b => iteT p a b) = _
                          rw [f1 k2]
                          show (o2 j2).map (fun b => iteT p a b) = _
                          rw [q']; rfl
                        · right
                          refine ⟨iteT p a t', ?_, ite_le q2⟩
                          show ((o2 j1).exp l2 Qelse).bind (fun a k => (o2 k).map fun b => iteT p a b) = _
                          rw [f1 k2]
                          show (o2 j2).map (fun b => iteT p a b) = _
                          rw [q']; rfl
                    · refine ⟨fun hj => by omega, fun _ => Or.inl ?_⟩
                      show ((o2 j1).exp l2 Qelse).bind (fun a k => (o2 k).map fun b => iteT p a b) = _
                      rw [f2 (by omega)]; rfl
                  · refine ⟨fun hj => by omega, fun _ => Or.inl ?_⟩
                    rw [e2 (by omega)]; rfl
          · split
            · exact rel_of_exp ((ho (i + 1) (by omega) (by omega)).exp hc (by decide))
            · exact pair_rel hc 7 (by decide) hi
theorem ps_rel (hc : Cut l1 l2 k) (hcl : Cl l1) (hkl : k < l1.length) : ∀ n1 n2 i, i ≤ k → k + 1 - i ≤ n2 → Rel k ((ps l1 n1).pol i) ((ps l2 n2).pol i) ∧ Rel k ((ps l1 n1).pred i) ((ps l2 n2).pred i) ∧ Rel k ((ps l1 n1).nt i) ((ps l2 n2).nt i)
  | 0, n2, i, hi, hn => ⟨fun t j e => (by cases e), fun t j e => (by cases e), fun t j e => (by cases e)⟩
  | n1 + 1, 0, i, hi, hn => by omega
  | n1 + 1, n2 + 1, i, hi, hn => by
    obtain ⟨a1, a2, a3⟩ := ps_adv hcl n1
    have hN : ∀ i', i ≤ i' → i' ≤ k → Rel k (notF l1 (ps l1 n1).pred (ps l1 n1).nt i') (notF l2 (ps l2 n2).pred (ps l2 n2).nt i') := fun i' h1 h2 =>
      not_rel hc hcl (fun x x1 x2 => (ps_rel hc hcl hkl n1 n2 x x2 (by omega)).2.1) (fun x x1 x2 => (ps_rel hc hcl hkl n1 n2 x x2 (by omega)).2.2) a2 a3 hkl h2
    have hA : ∀ i', i ≤ i' → i' ≤ k → Rel k (starF l1 (atomF l1 (ps l1 n1).pol (ps l1 n1).pred) i') (starF l2 (atomF l2 (ps l2 n2).pol (ps l2 n2).pred) i') := fun i' h1 h2 =>
      star_rel hc hcl hkl (atomF_adv hcl a1 a2) (atom_rel hc hcl (fun x x1 x2 => (ps_rel hc hcl hkl n1 n2 x x2 (by omega)).1) (fun x x1 x2 => (ps_rel hc hcl hkl n1 n2 x x2 (by omega)).2.1) a1 a2 hkl h2) h2
    refine ⟨?_, ?_, hN i (Nat.le_refl _) hi⟩
    · exact jn_rel hc hcl hkl 8 (by decide) (jn_adv hcl _ (by decide) (starF_adv hcl (atomF_adv hcl a1 a2))) (fun x x1 x2 => jn_rel hc hcl hkl 9 (by decide) (starF_adv hcl (atomF_adv hcl a1 a2)) (fun y y1 y2 => hA y (by omega) y2) x2) hi
    · exact jn_rel hc hcl hkl 5 (by decide) (jn_adv hcl _ (by decide) (notF_adv hcl a2 a3)) (fun x x1 x2 => jn_rel hc hcl hkl 4 (by decide) (notF_adv hcl a2 a3) (fun y y1 y2 => hN y (by omega) y2) x2) hi
/-- queries that are no more -/
def QLe (a b : List Qy) : Prop := (a.map fun q => sz q.pd).sum ≤ (b.map fun q => sz q.pd).sum ∧ ∀ q ∈ a, ∃ q' ∈ b, dp q.pd ≤ dp q'.pd
theorem QLe.pre (a m : List Qy) : QLe a (a ++ m) := ⟨by simp, fun q hq => ⟨q, List.mem_append_left _ hq, Nat.le_refl _⟩⟩
theorem QLe.last {a m : List Qy} {q q' : Qy} (h : Le q.pd q'.pd) : QLe (a ++ [q]) (a ++ [q'] ++ m) := by
  have h1 := h.1
  refine ⟨by simp; omega, fun x hx => ?_⟩
  rcases List.mem_append.1 hx with hx | hx
  · exact ⟨x, by simp [hx], Nat.le_refl _⟩
  · rw [List.mem_singleton.1 hx]; exact ⟨q', by simp, h.2⟩
theorem qrs_ext {l : List Wd} {pred : Nat → Rd Tm} : ∀ f i acc qs j, qrs l pred f i acc = .ok qs j → ∃ m, qs = acc ++ m
  | 0, i, acc, ts, j, h => by rw [qrs] at h; cases h; exact ⟨[], by simp⟩
  | f + 1, i, acc, ts, j, h => by
    rw [qrs] at h
    split at h
    · split at h
      · cases h
      · rename_i t' j' _
        obtain ⟨m, hm⟩ := qrs_ext f _ _ _ _ h
        exact ⟨[t'] ++ m, by rw [hm, List.append_assoc]⟩
    · cases h; exact ⟨[], by simp⟩
theorem qry_rel (hc : Cut l1 l2 k) (hcl : Cl l1) (hkl : k < l1.length) {d1 d2 : Nat → Rd Tm} {i : Nat} (hda : Adv l1 d1) (hd : ∀ i', i < i' → i' ≤ k → Rel k (d1 i') (d2 i')) (hi : i ≤ k) : ∀ q j, qry l1 d1 i = .ok q j → (j ≤ k → i < j → qry l2 d2 i = .ok q j) ∧ (k < j → qry l2 d2 i = .bad k ∨ ∃ q', qry l2 d2 i = .ok q' k ∧ Le q'.pd q.pd) := by
  intro q j e
  unfold qry at e
  split at e
  · rename_i hk
    split at e
    · rename_i ht
      cases h1 : d1 (i + 2) with
      | bad x => rw [h1] at e; cases e
      | ok u j1 =>
        rw [h1] at e
        cases e
        by_cases hik : i = k
        · subst hik
          refine ⟨fun _ hj => by omega, fun _ => Or.inl ?_⟩
          unfold qry
          rw [if_neg (by rw [hc.ek]; intro hh; exact absurd hh.1 (by decide))]
        · have hw := hc.same i (by omega)
          by_cases hik1 : i + 1 = k
          · refine ⟨fun hj _ => ?_, fun _ => Or.inl ?_⟩
            · exfalso
              have hil := tk_lt hcl (i := i + 1) (by omega) (by decide) ht
              have := (hda _ hil).1 u j h1
              omega
            · unfold qry; rw [hw, if_pos hk, hik1, hc.tkk (by decide), if_neg (by decide)]
          · obtain ⟨g1, g2⟩ := hd (i + 2) (by omega) (by omega) u j h1
            refine ⟨fun hj _ => ?_, fun hj => ?_⟩
            · unfold qry; rw [hw, if_pos hk, hc.tk (by omega), if_pos ht, g1 hj]; rfl
            · rcases g2 hj with q' | ⟨t', q', q2⟩
              · left; unfold qry; rw [hw, if_pos hk, hc.tk (by omega), if_pos ht, q']; rfl
              · right; exact ⟨⟨(wat l1 i).t, t'⟩, by unfold qry; rw [hw, if_pos hk, hc.tk (by omega), if_pos ht, q']; rfl, q2⟩
    · cases e
  · cases e
theorem qrs_rel (hc : Cut l1 l2 k) (hcl : Cl l1) (hkl : k < l1.length) {d1 d2 : Nat → Rd Tm} (hda : Adv l1 d1) {b : Nat} (hd : ∀ i, b < i → i ≤ k → Rel k (d1 i) (d2 i)) : ∀ f1 f2 i acc qs j, qrs l1 d1 f1 i acc = .ok qs j → b ≤ i → i ≤ k → l1.length - i ≤ f1 → k + 1 - i ≤ f2 →
    (j ≤ k → qrs l2 d2 f2 i acc = .ok qs j) ∧ (k < j → qrs l2 d2 f2 i acc = .bad k ∨ ∃ qs', qrs l2 d2 f2 i acc = .ok qs' k ∧ QLe qs' qs)
  | 0, f2, i, acc, qs, j, h, hb, hi, hf, hf2 => by omega
  | f1 + 1, 0, i, acc, qs, j, h, hb, hi, hf, hf2 => by omega
  | f1 + 1, f2 + 1, i, acc, qs, j, h, hb, hi, hf, hf2 => by
    rw [qrs] at h
    by_cases ht : YtcifeankgnjndaaGreatDoor.tk l1 i Qcount = true
    · rw [if_pos ht] at h
      have hil := tk_lt hcl (by omega) (by decide) ht
      cases hq1 : qry l1 d1 (i + 1) with
      | bad q => rw [hq1] at h; cases h
      | ok x j1 =>
        rw [hq1] at h
        have hj1 := (qry_adv hcl hda _ hil).1 x j1 hq1
        have hjj := (qrs_adv hcl hda f1 j1 _ hj1.2).1 qs j h
        obtain ⟨m, hm⟩ := qrs_ext _ _ _ _ _ h
        by_cases hik : i = k
        · subst hik
          refine ⟨fun hj => by omega, fun _ => Or.inr ⟨acc, by rw [qrs, hc.tkk (by decide), if_neg (by decide)], ?_⟩⟩
          rw [hm, List.append_assoc]; exact QLe.pre _ _
        · have hR := qry_rel hc hcl hkl hda (i := i + 1) (fun i' h1 h2 => hd i' (by omega) h2) (by omega) x j1 hq1
          rw [qrs, hc.tk (by omega), if_pos ht]
          by_cases hjk : j1 ≤ k
          · rw [hR.1 hjk hj1.1]
            exact qrs_rel hc hcl hkl hda hd f1 f2 j1 (acc ++ [x]) qs j h (by omega) hjk (by omega) (by omega)
          · refine ⟨fun hj => by omega, fun _ => ?_⟩
            rcases hR.2 (by omega) with q | ⟨x', q, q2⟩
            · rw [q]; exact Or.inl rfl
            · rw [q]
              right
              refine ⟨acc ++ [x'], ?_, by rw [hm]; exact QLe.last q2⟩
              show qrs l2 d2 f2 k (acc ++ [x']) = _
              cases f2 with
              | zero => rw [qrs]
              | succ f2 => rw [qrs, hc.tkk (by decide), if_neg (by decide)]
    · rw [if_neg ht] at h
      cases h
      refine ⟨fun _ => ?_, fun hj => by omega⟩
      rw [qrs]
      by_cases hik : i = k
      · subst hik; rw [hc.tkk (by decide), if_neg (by decide)]
      · rw [hc.tk (by omega), if_neg ht]
theorem fits_le {p p' : Po} (h1 : Le p'.main p.main) (h2 : QLe p'.qs p.qs) (h : fitsB p = true) : fitsB p' = true := by
  unfold fitsB at h ⊢
  simp only [Bool.and_eq_true, decide_eq_true_eq, List.all_eq_true] at h ⊢
  have a1 := h1.1; have a2 := h1.2; have a3 := h2.1
  refine ⟨⟨by omega, by omega⟩, fun q hq => ?_⟩
  obtain ⟨q', hq', hle⟩ := h2.2 q hq
  have := h.2 q' hq'
  omega
theorem fil_cut (hc : Cut l1 l2 k) (hcl : Cl l1) (hkl : k < l1.length) {p : Po} {j : Nat} (h : fil l1 = .ok p j) : fil l2 = .bad k ∨ ∃ p' j', fil l2 = .ok p' j' ∧ (fitsB p = true → fitsB p' = true) := by
  unfold fil at h ⊢
  obtain ⟨a1, a2, a3⟩ := ps_adv hcl l1.length
  cases h1 : (ps l1 l1.length).pol 0 with
  | bad q => rw [h1] at h; cases h
  | ok m i =>
    rw [h1] at h
    replace h : (qrs l1 (ps l1 l1.length).pred l1.length i []).bind (fun qs j => if (wat l1 j).k = 0 then .ok ⟨m, qs⟩ j else .bad j) = .ok p j := h
    have hi := (a1 0 (by omega)).1 m i h1
    obtain ⟨r1, r2⟩ := (ps_rel hc hcl hkl l1.length l2.length 0 (by omega) (by rw [hc.len]; omega)).1 m i h1
    cases h2 : qrs l1 (ps l1 l1.length).pred l1.length i [] with
    | bad q => rw [h2] at h; cases h
    | ok qs j1 =>
      rw [h2] at h
      replace h : (if (wat l1 j1).k = 0 then Rd.ok ⟨m, qs⟩ j1 else .bad j1) = .ok p j := h
      split at h
      · rename_i hk0
        cases h
        have hjj := (qrs_adv hcl a2 l1.length i [] hi.2).1 qs j h2
        by_cases hik : i ≤ k
        · rw [r1 hik]
          obtain ⟨g1, g2⟩ := qrs_rel hc hcl hkl a2 (b := i) (fun x x1 x2 => (ps_rel hc hcl hkl l1.length l2.length x x2 (by rw [hc.len]; omega)).2.1) l1.length l2.length i [] qs j h2 (Nat.le_refl _) hik (by omega) (by rw [hc.len]; omega)
          by_cases hjk : j ≤ k
          · right
            refine ⟨⟨m, qs⟩, j, ?_, fun hf => hf⟩
            show (qrs l2 (ps l2 l2.length).pred l2.length i []).bind _ = _
            rw [g1 hjk]
            show (if (wat l2 j).k = 0 then _ else _) = _
            rw [if_pos]
            by_cases hjk2 : j = k
            · subst hjk2; exact hc.ek
            · rw [hc.same j (by omega)]; exact hk0
          · rcases g2 (by omega) with q | ⟨qs', q, q2⟩
            · left
              show (qrs l2 (ps l2 l2.length).pred l2.length i []).bind _ = _
              rw [q]; rfl
            · right
              refine ⟨⟨m, qs'⟩, k, ?_, fits_le (p := ⟨m, qs⟩) (Le.refl _) q2⟩
              show (qrs l2 (ps l2 l2.length).pred l2.length i []).bind _ = _
              rw [q]
              show (if (wat l2 k).k = 0 then _ else _) = _
              rw [if_pos hc.ek]
        · rcases r2 (by omega) with q | ⟨m', q, q2⟩
          · left; rw [q]; rfl
          · right
            refine ⟨⟨m', []⟩, k, ?_, fits_le (p := ⟨m, qs⟩) q2 ⟨by simp, fun x hx => by cases hx⟩⟩
            rw [q]
            show (qrs l2 (ps l2 l2.length).pred l2.length k []).bind _ = _
            rw [hc.len, qrs, hc.tkk (by decide), if_neg (by decide)]
            show (if (wat l2 k).k = 0 then _ else _) = _
            rw [if_pos hc.ek]
      · cases h
end
theorem bt_cut {s : ByteArray} {n i : Nat} (hn : n ≤ s.size) (hi : i < n) : bt (s.extract 0 n) i = bt s i := by
  have hs : (s.extract 0 n).size = n := by rw [ByteArray.size_extract]; omega
  rw [bt_in (by omega), bt_in (by omega)]
  congr 1
  show (s.extract 0 n).data[i]'_ = s.data[i]'_
  simp [ByteArray.data_extract]
theorem sh0 (x : Wd) : sh 0 0 x = x := by unfold sh; cases x; simp
theorem all_at {s : ByteArray} {l : List Wd} (h : all s = .ok l) {k : Nat} (hk : k < l.length) : (wat l k).at' ≤ s.size := by
  obtain ⟨ws, rfl, hS, -⟩ := all_stand h
  have hst : ∀ (a : Nat) (ws : List Wd), Stand s a ws → ∀ x ∈ ws, x.at' ≤ s.size := by
    intro a ws
    induction ws generalizing a with
    | nil => intro _ x hx; cases hx
    | cons y ws ih =>
      intro hs x hx
      rcases List.mem_cons.1 hx with rfl | hx
      · exact Nat.le_of_lt hs.2.1
      · exact ih _ hs.2.2.2.2 x hx
  have hm : wat (ws ++ [wEnd s]) k ∈ ws ++ [wEnd s] := by
    unfold wat
    rw [List.getD_eq_getElem?_getD, List.getElem?_eq_getElem hk]
    exact List.getElem_mem hk
  rcases List.mem_append.1 hm with hm | hm
  · exact hst 0 ws hS _ hm
  · rw [List.mem_singleton.1 hm]; exact Nat.le_refl _
/-- A TEXT CUT AHEAD OF A WORD. -/
theorem cut_scan {s : ByteArray} {l : List Wd} (h : all s = .ok l) {k : Nat} (hk : k < l.length) : all (s.extract 0 (wat l k).at') = .ok (l.take k ++ [⟨0, ⟨#[]⟩, 0, (wat l k).at'⟩]) := by
  have hn := all_at h hk
  have hs : (s.extract 0 (wat l k).at').size = (wat l k).at' := by rw [ByteArray.size_extract]; omega
  have h65 : s.size ≤ 65536 := by obtain ⟨_, _, _, h⟩ := all_stand h; exact h
  have hsc : scF s (s.size - 0) 0 [] = .ok l := by
    unfold all at h; rw [if_neg (by omega)] at h; exact h
  have := seg (s := s) (T := s.extract 0 (wat l k).at') (b := 0) (q := 0) (m := (wat l k).at') (fun i hi => by simp only [Nat.zero_add]; exact bt_cut hn hi) (Or.inr (by rw [Nat.zero_add]; exact bt_out (by omega))) (by omega) _ 0 [] l k hsc (by omega) (by simp) hk (by omega) (by omega) (by omega) []
  unfold all
  rw [if_neg (by omega)]
  rw [show (0 : Nat) + (0 - 0) = 0 from rfl] at this
  rw [this, sc_end (by omega)]
  simp only [List.length_nil, List.drop_zero, List.nil_append]
  rw [show sh 0 0 = id from funext sh0, List.map_id]
  congr 2
  unfold wEnd
  rw [hs]; rfl
theorem prs_ok {s : ByteArray} {l : List Wd} (h : all s = .ok l) : prs s = rdW l := by unfold prs; rw [h]
theorem prs_cut {s : ByteArray} {l : List Wd} {p : Po} (h : all s = .ok l) (hp : prs s = .ok p) (hcl : Cl l) {k : Nat} (hk : k < l.length) : prs (s.extract 0 (wat l k).at') = .no 160 (wat l k).at' ⟨#[]⟩ ∨ ∃ p', prs (s.extract 0 (wat l k).at') = .ok p' := by
  have hs := cut_scan h hk
  have hlen : (l.take k).length = k := by rw [List.length_take]; omega
  have hkk : wat (l.take k ++ [⟨0, ⟨#[]⟩, 0, (wat l k).at'⟩]) k = ⟨0, ⟨#[]⟩, 0, (wat l k).at'⟩ := by
    have := wat_last (l.take k) ⟨0, ⟨#[]⟩, 0, (wat l k).at'⟩
    rw [hlen] at this; exact this
  have hc : Cut l (l.take k ++ [⟨0, ⟨#[]⟩, 0, (wat l k).at'⟩]) k := by
    refine ⟨fun i hi => ?_, congrArg Wd.t hkk, congrArg Wd.k hkk, by rw [List.length_append, hlen]; rfl⟩
    show (l.take k ++ [_]).getD i wz = l.getD i wz
    rw [List.getD_eq_getElem?_getD, List.getD_eq_getElem?_getD, List.getElem?_append_left (by omega), List.getElem?_take, if_pos hi]
  rw [prs_ok h] at hp
  rw [prs_ok hs]
  unfold rdW at hp ⊢
  cases hf : fil l with
  | bad j => rw [hf] at hp; cases hp
  | ok p0 j =>
    rw [hf] at hp
    replace hp : (if fitsB p0 = true then Ans.ok p0 else .no 200 0 ⟨#[]⟩) = .ok p := hp
    split at hp
    · rename_i hfit
      cases hp
      rcases fil_cut hc hcl hk hf with q | ⟨p', j', q, q2⟩
      · left; simp only [q, hkk]
      · right; exact ⟨p', by simp only [q, q2 hfit, if_true]⟩
    · cases hp
end Go.Proofs.YtcifeankgnjndaaGreatDoor
