/- Plain: words that are read as something are read as that wherever they stand, with any word behind them that goes on with nothing. -/
import Derived.Test.YtdpmllfapjjihaaGreatDoorJ7
namespace Go.Proofs.YtdpmllfapjjihaaGreatDoor
set_option maxRecDepth 100000

/-- the first k words of l1 stand in l2 from d on; what stands behind them is no sign that goes on -/
structure Fol (l1 l2 : List Wd) (k d : Nat) : Prop where
  t : ∀ i, i < k → (wat l2 (i + d)).t = (wat l1 i).t
  kd : ∀ i, i < k → (wat l2 (i + d)).k = (wat l1 i).k
  n : ∀ i, i < k → (wat l2 (i + d)).n = (wat l1 i).n
  plus : tk l2 (k + d) Splus = false
  semi : tk l2 (k + d) Ssemi = false
  star : tk l2 (k + d) Sstar = false
  or : tk l2 (k + d) Sor = false
  and : tk l2 (k + d) Sand = false
  len : k + d < l2.length
/-- what is read up to k at most is read so there -/
def Flw (k d : Nat) (r1 r2 : Rd Tm) : Prop := ∀ t j, r1 = .ok t j → j ≤ k → r2 = .ok t (j + d)
section
variable {l1 l2 : List Wd} {k d : Nat}
theorem Fol.tk (h : Fol l1 l2 k d) {i : Nat} (hi : i < k) (q : ByteArray) : tk l2 (i + d) q = tk l1 i q := by unfold YtdpmllfapjjihaaGreatDoor.tk; rw [h.t i hi]
theorem Flw.map {r1 r2 : Rd Tm} (h : Flw k d r1 r2) (f : Tm → Tm) : Flw k d (r1.map f) (r2.map f) := by
  intro t j e hj
  cases r1 with
  | bad i => cases e
  | ok u i => cases e; rw [h u j rfl hj]; rfl
theorem Flw.exp (hc : Fol l1 l2 k d) {r1 r2 : Rd Tm} (h : Flw k d r1 r2) (q : ByteArray) : Flw k d (r1.exp l1 q) (r2.exp l2 q) := by
  intro t j e hj
  cases r1 with
  | bad i => cases e
  | ok u i =>
    have e' : (if YtdpmllfapjjihaaGreatDoor.tk l1 i q = true then Rd.ok u (i + 1) else .bad i) = .ok t j := e
    split at e'
    · rename_i ht
      cases e'
      rw [h t i rfl (by omega)]
      show (if YtdpmllfapjjihaaGreatDoor.tk l2 (i + d) q = true then Rd.ok t (i + d + 1) else .bad (i + d)) = _
      rw [hc.tk (by omega), if_pos ht, show i + d + 1 = i + 1 + d by omega]
    · cases e'
theorem pair_flw (hc : Fol l1 l2 k d) (op : Nat) (sg : ByteArray) (i : Nat) : Flw k d (pair l1 op sg i) (pair l2 op sg (i + d)) := by
  intro t j e hj
  unfold pair at e
  split at e
  · cases e
  · rename_i f hf
    split at e
    · rename_i ht
      split at e
      · rename_i hk
        cases e
        unfold pair
        rw [hc.t i (by omega), hf]
        show (if YtdpmllfapjjihaaGreatDoor.tk l2 (i + d + 1) sg = true then _ else _) = _
        rw [show i + d + 1 = i + 1 + d by omega, hc.tk (by omega), if_pos ht, show i + d + 2 = i + 2 + d by omega, hc.kd (i + 2) (by omega), if_pos hk, hc.n (i + 2) (by omega), show i + d + 3 = i + 3 + d by omega]
      · cases e
    · cases e
theorem jnL_flw (hc : Fol l1 l2 k d) (hcl : Cl l1) {sg : ByteArray} (hq : sg ≠ ⟨#[]⟩) (hs : YtdpmllfapjjihaaGreatDoor.tk l2 (k + d) sg = false) {p1 p2 : Nat → Rd Tm} (ha : Adv l1 p1) {b : Nat} (hp : ∀ i, b ≤ i → i ≤ k → Flw k d (p1 i) (p2 (i + d))) : ∀ f1 f2 i acc ts j, jnL l1 sg p1 f1 i acc = .ok ts j → b ≤ i → j ≤ k → i < l1.length → l1.length - i ≤ f1 → l2.length - (i + d) ≤ f2 → jnL l2 sg p2 f2 (i + d) acc = .ok ts (j + d)
  | 0, f2, i, acc, ts, j, h, hb, hj, hl, hf, hf2 => by omega
  | f1 + 1, f2, i, acc, ts, j, h, hb, hj, hl, hf, hf2 => by
    have hij := (jnL_adv hcl hq ha (f1 + 1) i acc hl).1 ts j h
    have := hc.len
    obtain ⟨f2, rfl⟩ : ∃ g, f2 = g + 1 := ⟨f2 - 1, by omega⟩
    rw [jnL] at h
    by_cases ht : YtdpmllfapjjihaaGreatDoor.tk l1 i sg = true
    · rw [if_pos ht] at h
      have hil := tk_lt hcl hl hq ht
      cases hq1 : p1 (i + 1) with
      | bad q => rw [hq1] at h; cases h
      | ok t j1 =>
        rw [hq1] at h
        have hj1 := (ha _ hil).1 t j1 hq1
        have hjj := (jnL_adv hcl hq ha f1 j1 _ hj1.2).1 ts j h
        rw [jnL, hc.tk (by omega), if_pos ht, show i + d + 1 = i + 1 + d by omega, hp (i + 1) (by omega) (by omega) t j1 hq1 (by omega)]
        exact jnL_flw hc hcl hq hs ha hp f1 f2 j1 (acc ++ [t]) ts j h (by omega) hj hj1.2 (by omega) (by omega)
    · rw [if_neg ht] at h
      cases h
      rw [jnL]
      by_cases hik : i = k
      · subst hik; rw [hs, if_neg (by decide)]
      · rw [hc.tk (by omega), if_neg ht]
theorem jn_flw (hc : Fol l1 l2 k d) (hcl : Cl l1) (op : Nat) {sg : ByteArray} (hq : sg ≠ ⟨#[]⟩) (hs : YtdpmllfapjjihaaGreatDoor.tk l2 (k + d) sg = false) {p1 p2 : Nat → Rd Tm} (ha : Adv l1 p1) {i : Nat} (hi : i < l1.length) (hp : ∀ i', i ≤ i' → i' ≤ k → Flw k d (p1 i') (p2 (i' + d))) : Flw k d (jn l1 op sg p1 i) (jn l2 op sg p2 (i + d)) := by
  intro t j e hj
  cases h1 : p1 i with
  | bad q => rw [jnE0 h1] at e; cases e
  | ok u j1 =>
    have hj1 := (ha i hi).1 u j1 h1
    cases ht : YtdpmllfapjjihaaGreatDoor.tk l1 j1 sg with
    | true =>
      rw [jnE2 h1 ht] at e
      cases h2 : jnL l1 sg p1 l1.length j1 [u] with
      | bad q => rw [h2] at e; cases e
      | ok ts q =>
        rw [h2] at e
        cases e
        have hqq := (jnL_adv hcl hq ha l1.length j1 [u] hj1.2).1 ts j h2
        have hlt : j1 < j := by
          have hil := tk_lt hcl hj1.2 hq ht
          have hlen : l1.length = l1.length - 1 + 1 := by omega
          rw [hlen, jnL, if_pos ht] at h2
          cases h3 : p1 (j1 + 1) with
          | bad q => rw [h3] at h2; cases h2
          | ok v j2 =>
            rw [h3] at h2
            have hj2 := (ha _ hil).1 v j2 h3
            have := (jnL_adv hcl hq ha _ j2 _ hj2.2).1 ts j h2
            omega
        rw [jnE2 (hp i (Nat.le_refl _) (by omega) u j1 h1 (by omega)) (by rw [hc.tk (by omega)]; exact ht), jnL_flw hc hcl hq hs ha hp l1.length l2.length j1 [u] ts j h2 (by omega) hj hj1.2 (by omega) (by omega)]
        rfl
    | false =>
      rw [jnE1 h1 ht] at e
      cases e
      have : YtdpmllfapjjihaaGreatDoor.tk l2 (j + d) sg = false := by
        by_cases hjk : j = k
        · subst hjk; exact hs
        · rw [hc.tk (by omega)]; exact ht
      rw [jnE1 (hp i (Nat.le_refl _) (by omega) t j h1 hj) this]
theorem starL_flw (hc : Fol l1 l2 k d) (hcl : Cl l1) : ∀ f1 f2 i t u j, starL l1 f1 i t = .ok u j → j ≤ k → i < l1.length → l1.length - i ≤ f1 → l2.length - (i + d) ≤ f2 → starL l2 f2 (i + d) t = .ok u (j + d)
  | 0, f2, i, t, u, j, h, hj, hl, hf, hf2 => by omega
  | f1 + 1, f2, i, t, u, j, h, hj, hl, hf, hf2 => by
    have hij := (starL_ge _ _ _ _ _ h).2
    have := hc.len
    obtain ⟨f2, rfl⟩ : ∃ g, f2 = g + 1 := ⟨f2 - 1, by omega⟩
    rw [starL] at h
    by_cases ht : YtdpmllfapjjihaaGreatDoor.tk l1 i Sstar = true
    · rw [if_pos ht] at h
      have hil := tk_lt hcl hl (by decide) ht
      have hij2 := (starL_ge _ _ _ _ _ h).2
      rw [starL, hc.tk (by omega), if_pos ht, show i + d + 1 = i + 1 + d by omega]
      exact starL_flw hc hcl f1 f2 (i + 1) _ u j h hj hil (by omega) (by omega)
    · rw [if_neg ht] at h
      cases h
      rw [starL]
      by_cases hik : i = k
      · subst hik; rw [hc.star, if_neg (by decide)]
      · rw [hc.tk (by omega), if_neg ht]
theorem star_flw (hc : Fol l1 l2 k d) (hcl : Cl l1) {a1 a2 : Nat → Rd Tm} (ha : Adv l1 a1) {i : Nat} (hi : i < l1.length) (hp : Flw k d (a1 i) (a2 (i + d))) : Flw k d (starF l1 a1 i) (starF l2 a2 (i + d)) := by
  intro t j e hj
  unfold starF at e ⊢
  cases h1 : a1 i with
  | bad q => rw [h1] at e; cases e
  | ok u j1 =>
    rw [h1] at e
    replace e : starL l1 l1.length j1 u = .ok t j := e
    have hj1 := (ha i hi).1 u j1 h1
    have hg2 := (starL_ge _ _ _ _ _ e).2
    rw [hp u j1 h1 (by omega)]
    exact starL_flw hc hcl l1.length l2.length j1 u t j e hj hj1.2 (by omega) (by omega)
theorem not_flw (hc : Fol l1 l2 k d) (hcl : Cl l1) {i : Nat} {d1 d2 n1 n2 : Nat → Rd Tm} (hd : ∀ i', i < i' → i' ≤ k → Flw k d (d1 i') (d2 (i' + d))) (hn : ∀ i', i < i' → i' ≤ k → Flw k d (n1 i') (n2 (i' + d))) (hda : Adv l1 d1) (hna : Adv l1 n1) (hi : i < l1.length) : Flw k d (notF l1 d1 n1 i) (notF l2 d2 n2 (i + d)) := by
  intro t j e hj
  have hij := (notF_adv hcl hda hna i hi).1 t j e
  revert e
  revert hj
  revert t j
  intro t j hij hj e
  have hik : i < k := by omega
  unfold notF at e ⊢
  rw [hc.tk hik, hc.tk hik, hc.tk hik, hc.tk hik]
  split at e
  · rename_i h; rw [if_pos h, show i + d + 1 = i + 1 + d by omega]; exact (hn (i + 1) (by omega) (by omega)).map _ t j e hj
  · rename_i h; rw [if_neg h]
    split at e
    · rename_i h; rw [if_pos h]; cases e; rw [show i + d + 1 = i + 1 + d by omega]
    · rename_i h; rw [if_neg h]
      split at e
      · rename_i h; rw [if_pos h]; cases e; rw [show i + d + 1 = i + 1 + d by omega]
      · rename_i h; rw [if_neg h]
        split at e
        · rename_i h; rw [if_pos h, show i + d + 1 = i + 1 + d by omega]; exact (hd (i + 1) (by omega) (by omega)).exp hc _ t j e hj
        · rename_i h; rw [if_neg h]; exact pair_flw hc 2 Seq i t j e hj
theorem atom_flw (hc : Fol l1 l2 k d) (hcl : Cl l1) {i : Nat} {o1 o2 d1 d2 : Nat → Rd Tm} (ho : ∀ i', i < i' → i' ≤ k → Flw k d (o1 i') (o2 (i' + d))) (hd : ∀ i', i < i' → i' ≤ k → Flw k d (d1 i') (d2 (i' + d))) (hoa : Adv l1 o1) (hda : Adv l1 d1) (hi : i < l1.length) : Flw k d (atomF l1 o1 d1 i) (atomF l2 o2 d2 (i + d)) := by
  intro t j e hj
  have hij := (atomF_adv hcl hoa hda i hi).1 t j e
  have hik : i < k := by omega
  unfold atomF at e ⊢
  rw [hc.tk hik, hc.tk hik, hc.tk hik, hc.tk hik, hc.tk hik]
  split at e
  · rename_i h; rw [if_pos h, show i + d + 1 = i + 1 + d by omega]; exact (hd (i + 1) (by omega) (by omega)).map _ t j e hj
  · rename_i h; rw [if_neg h]
    split at e
    · rename_i h; rw [if_pos h]; cases e; rw [show i + d + 1 = i + 1 + d by omega]
    · rename_i h; rw [if_neg h]
      split at e
      · rename_i h; rw [if_pos h]; cases e; rw [show i + d + 1 = i + 1 + d by omega]
      · rename_i h; rw [if_neg h]
        split at e
        · rename_i hif; rw [if_pos hif, show i + d + 1 = i + 1 + d by omega]
          have hil := tk_lt hcl hi (by decide) hif
          cases h1 : (d1 (i + 1)).exp l1 Qthen with
          | bad q => rw [h1] at e; cases e
          | ok p j1 =>
            rw [h1] at e
            replace e : ((o1 j1).exp l1 Qelse).bind (fun a k => (o1 k).map fun b => iteT p a b) = .ok t j := e
            have hj1 := (((hda (i + 1) hil).exp hcl (by decide)).1 p j1 h1)
            cases h2 : (o1 j1).exp l1 Qelse with
            | bad q => rw [h2] at e; cases e
            | ok a j2 =>
              rw [h2] at e
              replace e : (o1 j2).map (fun b => iteT p a b) = .ok t j := e
              have hj2 := (((hoa j1 hj1.2).exp hcl (by decide)).1 a j2 h2)
              cases h3 : o1 j2 with
              | bad q => rw [h3] at e; cases e
              | ok b j3 =>
                have hj3 := (hoa j2 hj2.2).1 b j3 h3
                rw [h3] at e
                cases e
                rw [(hd (i + 1) (by omega) (by omega)).exp hc Qthen p j1 h1 (by omega)]
                show ((o2 (j1 + d)).exp l2 Qelse).bind (fun a k => (o2 k).map fun b => iteT p a b) = _
                rw [(ho j1 (by omega) (by omega)).exp hc Qelse a j2 h2 (by omega)]
                show (o2 (j2 + d)).map (fun b => iteT p a b) = _
                rw [ho j2 (by omega) (by omega) b j h3 hj]; rfl
        · rename_i h; rw [if_neg h]
          split at e
          · rename_i h; rw [if_pos h, show i + d + 1 = i + 1 + d by omega]; exact (ho (i + 1) (by omega) (by omega)).exp hc _ t j e hj
          · rename_i h; rw [if_neg h]; exact pair_flw hc 7 Sset i t j e hj
/-- WHAT IS READ IS READ SO ELSEWHERE. -/
theorem ps_flw (hc : Fol l1 l2 k d) (hcl : Cl l1) (hkl : k < l1.length) : ∀ n1 n2 i, i ≤ k → l2.length - (i + d) ≤ n2 → Flw k d ((ps l1 n1).pol i) ((ps l2 n2).pol (i + d)) ∧ Flw k d ((ps l1 n1).pred i) ((ps l2 n2).pred (i + d)) ∧ Flw k d ((ps l1 n1).nt i) ((ps l2 n2).nt (i + d))
  | 0, n2, i, hi, hn => ⟨fun t j e => (by cases e), fun t j e => (by cases e), fun t j e => (by cases e)⟩
  | n1 + 1, 0, i, hi, hn => by have := hc.len; omega
  | n1 + 1, n2 + 1, i, hi, hn => by
    obtain ⟨a1, a2, a3⟩ := ps_adv hcl n1
    have hN : ∀ i', i ≤ i' → i' ≤ k → Flw k d (notF l1 (ps l1 n1).pred (ps l1 n1).nt i') (notF l2 (ps l2 n2).pred (ps l2 n2).nt (i' + d)) := fun i' h1 h2 =>
      not_flw hc hcl (fun x x1 x2 => (ps_flw hc hcl hkl n1 n2 x x2 (by omega)).2.1) (fun x x1 x2 => (ps_flw hc hcl hkl n1 n2 x x2 (by omega)).2.2) a2 a3 (by omega)
    have hA : ∀ i', i ≤ i' → i' ≤ k → Flw k d (starF l1 (atomF l1 (ps l1 n1).pol (ps l1 n1).pred) i') (starF l2 (atomF l2 (ps l2 n2).pol (ps l2 n2).pred) (i' + d)) := fun i' h1 h2 =>
      star_flw hc hcl (atomF_adv hcl a1 a2) (by omega) (atom_flw hc hcl (fun x x1 x2 => (ps_flw hc hcl hkl n1 n2 x x2 (by omega)).1) (fun x x1 x2 => (ps_flw hc hcl hkl n1 n2 x x2 (by omega)).2.1) a1 a2 (by omega))
    refine ⟨?_, ?_, hN i (Nat.le_refl _) hi⟩
    · exact jn_flw hc hcl 8 (by decide) hc.plus (jn_adv hcl _ (by decide) (starF_adv hcl (atomF_adv hcl a1 a2))) (by omega) (fun x x1 x2 => jn_flw hc hcl 9 (by decide) hc.semi (starF_adv hcl (atomF_adv hcl a1 a2)) (by omega) (fun y y1 y2 => hA y (by omega) y2))
    · exact jn_flw hc hcl 5 (by decide) hc.or (jn_adv hcl _ (by decide) (notF_adv hcl a2 a3)) (by omega) (fun x x1 x2 => jn_flw hc hcl 4 (by decide) hc.and (notF_adv hcl a2 a3) (by omega) (fun y y1 y2 => hN y (by omega) y2))
end
end Go.Proofs.YtdpmllfapjjihaaGreatDoor
