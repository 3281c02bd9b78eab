/- Plain: a word is the same word wherever its bytes stand with the same byte, or one that ends every word, behind them. -/
import Derived.Test.YtoncogkamlgjhaaGreatDoorFJ4
namespace Go.Proofs.YtoncogkamlgjhaaGreatDoor
set_option maxRecDepth 100000

/-- the bytes from p on in T are those from a up to e in s, and what stands behind them there ends the word as well -/
structure Agn (s : ByteArray) (a e : Nat) (T : ByteArray) (p : Nat) : Prop where
  le : a ≤ e
  same : ∀ i, i < e - a → bt T (p + i) = bt s (a + i)
  nx : bt T (p + (e - a)) = bt s e ∨ (isN (bt T (p + (e - a))) = false ∧ bt T (p + (e - a)) ≠ 46)
  prn : pr s a = none → pr T p = none
theorem Agn.at {s T : ByteArray} {a e p : Nat} (h : Agn s a e T p) {k : Nat} (h1 : a ≤ k) (h2 : k < e) : bt T (p + (k - a)) = bt s k := by
  rw [h.same (k - a) (by omega)]; congr 1; omega
theorem Agn.run {s T : ByteArray} {a e p : Nat} (h : Agn s a e T p) {q : Nat → Bool} (hq : q 256 = false) (hN : ∀ c, q c = true → isN c = true) {k : Nat} (h1 : a ≤ k) (h2 : rE q s k ≤ e) : rE q T (p + (k - a)) = p + (rE q s k - a) := by
  have hge := rE_ge q s k
  refine rE_eq hq (by omega) (fun j j1 j2 => ?_) ?_
  · have := h.at (k := j - p + a) (by omega) (by omega)
    rw [show p + (j - p + a - a) = j by omega] at this
    rw [this]; exact rE_all (k := k) (by omega) (by omega)
  · by_cases he : rE q s k < e
    · rw [h.at (by omega) he]; exact rE_no hq
    · have hee : rE q s k = e := by omega
      rw [hee]
      rcases h.nx with hn | ⟨hn, -⟩
      · rw [hn, ← hee]; exact rE_no hq
      · cases hqq : q (bt T (p + (e - a))) with
        | false => rfl
        | true => rw [hN _ hqq] at hn; cases hn
theorem Agn.cls {s T : ByteArray} {a e p : Nat} (h : Agn s a e T p) (hs : isN (bt s e) = false) (n : Nat) : cls T (p + (e - a)) n = ⟨2, p + (e - a), n, 0⟩ := by
  have : isN (bt T (p + (e - a))) = false := by
    rcases h.nx with hn | ⟨hn, -⟩
    · rw [hn]; exact hs
    · exact hn
  unfold YtoncogkamlgjhaaGreatDoor.cls; rw [if_neg (by rw [this]; decide)]
theorem DN (c : Nat) (h : isD c = true) : isN c = true := by unfold isN; rw [h]; simp
theorem HN (c : Nat) (h : isH c = true) : isN c = true := by rw [isH_iff] at h; rw [isN_iff]; omega
theorem NN (c : Nat) (h : isN c = true) : isN c = true := h
theorem Agn.dcv {s T : ByteArray} {a e p : Nat} (h : Agn s a e T p) {k : Nat} (h1 : a ≤ k) (h2 : rE isD s k ≤ e) : dcv T (p + (k - a)) = dcv s k := by
  have hge := rE_ge isD s k
  unfold YtoncogkamlgjhaaGreatDoor.dcv
  rw [h.run isD256 DN h1 h2, show p + (rE isD s k - a) - (p + (k - a)) = rE isD s k - k by omega]
  exact dn_congr _ _ _ _ (fun j hj => by have := h.at (k := k + j) (by omega) (by omega); rw [show p + (k + j - a) = p + (k - a) + j by omega] at this; exact this)
theorem Agn.badP {s T : ByteArray} {a e p : Nat} (h : Agn s a e T p) {k : Nat} (h1 : a ≤ k) (h2 : rE isD s k ≤ e) (hb : ¬ badP s k) : ¬ badP T (p + (k - a)) := by
  have hge := rE_ge isD s k
  unfold YtoncogkamlgjhaaGreatDoor.badP at hb ⊢
  have hk : k < e := by
    rcases Nat.lt_or_ge k e with h' | h'
    · exact h'
    · exact absurd (.inl (by omega)) hb
  rw [h.run isD256 DN h1 h2, h.dcv h1 h2, h.at h1 hk]
  intro hc; apply hb
  rcases hc with h' | h' | h'
  · exact .inl (by omega)
  · exact .inr (.inl h')
  · exact .inr (.inr ⟨by omega, h'.2⟩)
theorem Agn.dot {s T : ByteArray} {a e p : Nat} (h : Agn s a e T p) : ∀ f k n k' n', a ≤ k → dot s f k n = ⟨k', e, n', 0⟩ → dot T f (p + (k - a)) n = ⟨k', p + (e - a), n', 0⟩
  | 0, k, n, k', n', h1, hd => by
    rw [YtoncogkamlgjhaaGreatDoor.dot] at hd ⊢
    obtain ⟨rfl, rfl, rfl, hns⟩ := cls_ok hd
    exact h.cls hns _
  | f + 1, k, n, k', n', h1, hd => by
    rw [YtoncogkamlgjhaaGreatDoor.dot] at hd ⊢
    split at hd
    · rename_i hf
      rw [if_pos hf]
      split at hd
      · simp at hd
      · rename_i hb
        have hge := dot_ge _ _ _ _ _ _ hd
        have hk := rE_ge isD s k
        rw [if_neg (h.badP h1 hge hb), h.run isD256 DN h1 hge, h.dcv h1 hge]
        exact h.dot f _ _ _ _ (by omega) hd
    · rename_i hf
      rw [if_neg hf]
      split at hd
      · rename_i hc
        split at hd
        · simp at hd
        · rename_i hb
          have hge := dot_ge _ _ _ _ _ _ hd
          have hk := rE_ge isD s (k + 1)
          rw [h.at h1 (by omega), if_pos hc, show p + (k - a) + 1 = p + (k + 1 - a) by omega, if_neg (h.badP (by omega) hge hb), h.run isD256 DN (by omega) hge, h.dcv (by omega) hge]
          exact h.dot f _ _ _ _ (by omega) hd
      · simp at hd
theorem word_san {s T : ByteArray} {a p k e n : Nat} (hs : a < s.size) (ho : one s a = ⟨k, e, n, 0⟩) (h : Agn s a e T p) : one T p = ⟨k, p + (e - a), n, 0⟩ := by
  have ok := one_ok hs
  rw [ho] at ok
  have hgt : a < e := ok.gt
  have hb0 : bt T p = bt s a := by have := h.same 0 (by omega); simpa using this
  unfold one at ho ⊢
  rw [hb0]
  cases hp : pr s a with
  | some m =>
    rw [hp, if_pos (.inl rfl)] at ho
    unfold num at ho; rw [hp] at ho
    obtain ⟨rfl, rfl, rfl, hns⟩ := cls_ok ho
    have hp2 : pr T p = some n := by
      unfold pr at hp ⊢; rw [prF_congr 17 0 0 (fun j h1 h2 => h.same j (by omega))]; exact hp
    rw [hp2, if_pos (.inl rfl)]
    unfold num; rw [hp2]
    show cls T (p + 17) n = _
    have := h.cls hns n
    rw [show p + (a + 17 - a) = p + 17 by omega] at this ⊢
    exact this
  | none =>
    have hp2 := h.prn hp
    rw [hp] at ho
    rw [hp2]
    have hx0 : ¬ (bt s a = 48 ∧ bt s (a + 1) = 120) → ¬ (bt s a = 48 ∧ bt T (p + 1) = 120) := by
      intro hn hc; apply hn; refine ⟨hc.1, ?_⟩
      by_cases h2 : 1 < e - a
      · rw [← h.same 1 h2]; exact hc.2
      · rcases h.nx with hn | ⟨hn, -⟩
        · rw [show e - a = 1 by omega] at hn
          rw [show a + 1 = e by omega, ← hn]; exact hc.2
        · rw [show e - a = 1 by omega, hc.2] at hn; exact absurd hn (by decide)
    by_cases hD : isD (bt s a) = true
    · rw [if_pos (.inr hD)] at ho ⊢
      unfold num at ho ⊢; rw [hp] at ho; rw [hp2, hb0]
      show (if bt s a = 48 ∧ bt T (p + 1) = 120 then hex T p else if bt T (rE isD T p) = 46 then YtoncogkamlgjhaaGreatDoor.dot T 4 p 0 else dec T p) = _
      replace ho : (if bt s a = 48 ∧ bt s (a + 1) = 120 then hex s a else if bt s (rE isD s a) = 46 then YtoncogkamlgjhaaGreatDoor.dot s 4 a 0 else dec s a) = ⟨k, e, n, 0⟩ := ho
      by_cases hx : bt s a = 48 ∧ bt s (a + 1) = 120
      · rw [if_pos hx] at ho
        unfold hex at ho
        split at ho
        · simp at ho
        · rename_i hb
          obtain ⟨rfl, rfl, rfl, hns⟩ := cls_ok ho
          have hge := rE_ge isH s (a + 2)
          have hb1 : bt T (p + 1) = bt s (a + 1) := h.same 1 (by omega)
          rw [if_pos ⟨hx.1, by rw [hb1]; exact hx.2⟩]
          have hr := h.run isH256 HN (k := a + 2) (by omega) (Nat.le_refl _)
          rw [show p + (a + 2 - a) = p + 2 by omega] at hr
          unfold hex
          rw [hr, if_neg (by omega), show p + (rE isH s (a + 2) - a) - (p + 2) = rE isH s (a + 2) - (a + 2) by omega,
            hn_congr _ (a + 2) (p + 2) 0 (fun j hj => by have := h.at (k := a + 2 + j) (by omega) (by omega); rw [show p + (a + 2 + j - a) = p + 2 + j by omega] at this; exact this)]
          exact h.cls hns _
      · rw [if_neg hx] at ho
        rw [if_neg (hx0 hx)]
        by_cases h4 : bt s (rE isD s a) = 46
        · rw [if_pos h4] at ho
          have hge := rE_ge isD s a
          have hle : rE isD s a ≤ e := by
            rw [YtoncogkamlgjhaaGreatDoor.dot, if_pos rfl] at ho
            split at ho
            · simp at ho
            · exact dot_ge _ _ _ _ _ _ ho
          have hlt : rE isD s a < e := by
            rcases Nat.lt_or_ge (rE isD s a) e with h' | h'
            · exact h'
            · exfalso
              have he : rE isD s a = e := by omega
              rw [YtoncogkamlgjhaaGreatDoor.dot, if_pos rfl] at ho
              split at ho
              · simp at ho
              · rw [he] at ho h4
                rw [show (3 : Nat) = 2 + 1 from rfl, YtoncogkamlgjhaaGreatDoor.dot, if_neg (by decide), if_pos h4] at ho
                split at ho
                · simp at ho
                · have := dot_ge _ _ _ _ _ _ ho; have := rE_ge isD s (e + 1); omega
          have hr := h.run isD256 DN (k := a) (Nat.le_refl _) hle
          rw [Nat.sub_self, Nat.add_zero] at hr
          rw [hr, if_pos (by rw [h.at hge hlt]; exact h4)]
          have := h.dot 4 a 0 k n (Nat.le_refl _) ho
          rw [Nat.sub_self, Nat.add_zero] at this
          exact this
        · rw [if_neg h4] at ho
          unfold dec at ho
          split at ho
          · simp at ho
          · rename_i hbig
            split at ho
            · simp at ho
            · rename_i hz
              obtain ⟨rfl, rfl, rfl, hns⟩ := cls_ok ho
              have hr := h.run isD256 DN (k := a) (Nat.le_refl _) (Nat.le_refl _)
              have hd := h.dcv (k := a) (Nat.le_refl _) (Nat.le_refl _)
              rw [Nat.sub_self, Nat.add_zero] at hr hd
              rw [hr, if_neg (by
                rcases h.nx with hn | ⟨-, hn⟩
                · rw [hn]; exact h4
                · exact hn)]
              unfold dec
              rw [hd, if_neg hbig, hr, if_neg (by rw [hb0]; intro hc; exact hz ⟨by omega, hc.2⟩)]
              exact h.cls hns _
    · rw [if_neg (by rintro (h' | h'); exact absurd h' (by decide); exact hD h')] at ho ⊢
      by_cases hL : isL (bt s a) = true
      · rw [if_pos hL] at ho ⊢
        unfold nam at ho
        split at ho
        · simp at ho
        · rename_i h32
          simp at ho
          obtain ⟨rfl, rfl, rfl⟩ := ho
          have hr := h.run isN256 NN (k := a) (Nat.le_refl _) (Nat.le_refl _)
          rw [Nat.sub_self, Nat.add_zero] at hr
          unfold nam
          rw [hr, if_neg (by omega)]
      · rw [if_neg hL] at ho ⊢
        by_cases hc : bt s a = 58 ∧ bt s (a + 1) = 61
        · rw [if_pos hc] at ho
          simp at ho
          obtain ⟨rfl, rfl, rfl⟩ := ho
          rw [if_pos ⟨hc.1, by rw [h.same 1 (by omega)]; exact hc.2⟩, show a + 2 - a = 2 by omega]
        · rw [if_neg hc] at ho
          by_cases hg : bt s a ∈ sgn
          · rw [if_pos hg] at ho
            simp at ho
            obtain ⟨rfl, rfl, rfl⟩ := ho
            rw [if_neg (by intro h'; rw [h'.1] at hg; exact absurd hg (by decide)), if_pos hg, show a + 1 - a = 1 by omega]
          · rw [if_neg hg] at ho
            simp at ho
end Go.Proofs.YtoncogkamlgjhaaGreatDoor
