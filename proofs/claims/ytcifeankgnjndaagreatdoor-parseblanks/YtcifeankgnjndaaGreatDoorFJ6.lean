/- Plain: a word is the same word wherever its bytes stand with the same byte, or one that ends every word, behind them. -/
/- Plain: a run of a text's bytes, set into another text with its end or a line's end behind it, is told as the same words there. -/
import Derived.Test.YtcifeankgnjndaaGreatDoorFJ4
import Derived.Test.YtcifeankgnjndaaGreatDoorFA2
namespace Go.Proofs.YtcifeankgnjndaaGreatDoor
set_option maxRecDepth 100000

/-- the bytes from p on in T are those from a up to e in s, and what stands behind them there ends the word as well -/
structure Agn (s : ByteArray) (a e : Nat) (T : ByteArray) (p : Nat) : Prop where
  le : a ≤ e
  same : ∀ i, i < e - a → bt T (p + i) = bt s (a + i)
  nx : bt T (p + (e - a)) = bt s e ∨ (isN (bt T (p + (e - a))) = false ∧ bt T (p + (e - a)) ≠ 46)
  prn : pr s a = none → pr T p = none
theorem Agn.at {s T : ByteArray} {a e p : Nat} (h : Agn s a e T p) {k : Nat} (h1 : a ≤ k) (h2 : k < e) : bt T (p + (k - a)) = bt s k := by
  rw [h.same (k - a) (by omega)]; congr 1; omega
theorem Agn.run {s T : ByteArray} {a e p : Nat} (h : Agn s a e T p) {q : Nat → Bool} (hq : q 256 = false) (hN : ∀ c, q c = true → isN c = true) {k : Nat} (h1 : a ≤ k) (h2 : rE q s k ≤ e) : rE q T (p + (k - a)) = p + (rE q s k - a) := by
  have hge := rE_ge q s k
  refine rE_eq hq (by omega) (fun j j1 j2 => ?_) ?_
  · have := h.at (k := j - p + a) (by omega) (by omega)
    rw [show p + (j - p + a - a) = j by omega] at this
    rw [this]; exact rE_all (k := k) (by omega) (by omega)
  · by_cases he : rE q s k < e
    · rw [h.at (by omega) he]; exact rE_no hq
    · have hee : rE q s k = e := by omega
      rw [hee]
      rcases h.nx with hn | ⟨hn, -⟩
      · rw [hn, ← hee]; exact rE_no hq
      · cases hqq : q (bt T (p + (e - a))) with
        | false => rfl
        | true => rw [hN _ hqq] at hn; cases hn
theorem Agn.cls {s T : ByteArray} {a e p : Nat} (h : Agn s a e T p) (hs : isN (bt s e) = false) (n : Nat) : cls T (p + (e - a)) n = ⟨2, p + (e - a), n, 0⟩ := by
  have : isN (bt T (p + (e - a))) = false := by
    rcases h.nx with hn | ⟨hn, -⟩
    · rw [hn]; exact hs
    · exact hn
  unfold YtcifeankgnjndaaGreatDoor.cls; rw [if_neg (by rw [this]; decide)]
theorem DN (c : Nat) (h : isD c = true) : isN c = true := by unfold isN; rw [h]; simp
theorem HN (c : Nat) (h : isH c = true) : isN c = true := by rw [isH_iff] at h; rw [isN_iff]; omega
theorem NN (c : Nat) (h : isN c = true) : isN c = true := h
theorem Agn.dcv {s T : ByteArray} {a e p : Nat} (h : Agn s a e T p) {k : Nat} (h1 : a ≤ k) (h2 : rE isD s k ≤ e) : dcv T (p + (k - a)) = dcv s k := by
  have hge := rE_ge isD s k
  unfold YtcifeankgnjndaaGreatDoor.dcv
  rw [h.run isD256 DN h1 h2, show p + (rE isD s k - a) - (p + (k - a)) = rE isD s k - k by omega]
  exact dn_congr _ _ _ _ (fun j hj => by have := h.at (k := k + j) (by omega) (by omega); rw [show p + (k + j - a) = p + (k - a) + j by omega] at this; exact this)
theorem Agn.badP {s T : ByteArray} {a e p : Nat} (h : Agn s a e T p) {k : Nat} (h1 : a ≤ k) (h2 : rE isD s k ≤ e) (hb : ¬ badP s k) : ¬ badP T (p + (k - a)) := by
  have hge := rE_ge isD s k
  unfold YtcifeankgnjndaaGreatDoor.badP at hb ⊢
  have hk : k < e := by
    rcases Nat.lt_or_ge k e with h' | h'
    · exact h'
    · exact absurd (.inl (by omega)) hb
  rw [h.run isD256 DN h1 h2, h.dcv h1 h2, h.at h1 hk]
  intro hc; apply hb
  rcases hc with h' | h' | h'
  · exact .inl (by omega)
  · exact .inr (.inl h')
  · exact .inr (.inr ⟨by omega, h'.2⟩)
theorem Agn.dot {s T : ByteArray} {a e p : Nat} (h : Agn s a e T p) : ∀ f k n k' n', a ≤ k → dot s f k n = ⟨k', e, n', 0⟩ → dot T f (p + (k - a)) n = ⟨k', p + (e - a), n', 0⟩
  | 0, k, n, k', n', h1, hd => by
    rw [YtcifeankgnjndaaGreatDoor.dot] at hd ⊢
    obtain ⟨rfl, rfl, rfl, hns⟩ := cls_ok hd
    exact h.cls hns _
  | f + 1, k, n, k', n', h1, hd => by
    rw [YtcifeankgnjndaaGreatDoor.dot] at hd ⊢
    split at hd
    · rename_i hf
      rw [if_pos hf]
      split at hd
      · simp at hd
      · rename_i hb
        have hge := dot_ge _ _ _ _ _ _ hd
        have hk := rE_ge isD s k
        rw [if_neg (h.badP h1 hge hb), h.run isD256 DN h1 hge, h.dcv h1 hge]
        exact h.dot f _ _ _ _ (by omega) hd
    · rename_i hf
      rw [if_neg hf]
      split at hd
      · rename_i hc
        split at hd
        · simp at hd
        · rename_i hb
          have hge := dot_ge _ _ _ _ _ _ hd
          have hk := rE_ge isD s (k + 1)
          rw [h.at h1 (by omega), if_pos hc, show p + (k - a) + 1 = p + (k + 1 - a) by omega, if_neg (h.badP (by omega) hge hb), h.run isD256 DN (by omega) hge, h.dcv (by omega) hge]
          exact h.dot f _ _ _ _ (by omega) hd
      · simp at hd
theorem word_san {s T : ByteArray} {a p k e n : Nat} (hs : a < s.size) (ho : one s a = ⟨k, e, n, 0⟩) (h : Agn s a e T p) : one T p = ⟨k, p + (e - a), n, 0⟩ := by
  have ok := one_ok hs
  rw [ho] at ok
  have hgt : a < e := ok.gt
  have hb0 : bt T p = bt s a := by have := h.same 0 (by omega); simpa using this
  unfold one at ho ⊢
  rw [hb0]
  cases hp : pr s a with
  | some m =>
    rw [hp, if_pos (.inl rfl)] at ho
    unfold num at ho; rw [hp] at ho
    obtain ⟨rfl, rfl, rfl, hns⟩ := cls_ok ho
    have hp2 : pr T p = some n := by
      unfold pr at hp ⊢; rw [prF_congr 17 0 0 (fun j h1 h2 => h.same j (by omega))]; exact hp
    rw [hp2, if_pos (.inl rfl)]
    unfold num; rw [hp2]
    show cls T (p + 17) n = _
    have := h.cls hns n
    rw [show p + (a + 17 - a) = p + 17 by omega] at this ⊢
    exact this
  | none =>
    have hp2 := h.prn hp
    rw [hp] at ho
    rw [hp2]
    have hx0 : ¬ (bt s a = 48 ∧ bt s (a + 1) = 120) → ¬ (bt s a = 48 ∧ bt T (p + 1) = 120) := by
      intro hn hc; apply hn; refine ⟨hc.1, ?_⟩
      by_cases h2 : 1 < e - a
      · rw [← h.same 1 h2]; exact hc.2
      · rcases h.nx with hn | ⟨hn, -⟩
        · rw [show e - a = 1 by omega] at hn
          rw [show a + 1 = e by omega, ← hn]; exact hc.2
        · rw [show e - a = 1 by omega, hc.2] at hn; exact absurd hn (by decide)
    by_cases hD : isD (bt s a) = true
    · rw [if_pos (.inr hD)] at ho ⊢
      unfold num at ho ⊢; rw [hp] at ho; rw [hp2, hb0]
      show (if bt s a = 48 ∧ bt T (p + 1) = 120 then hex T p else if bt T (rE isD T p) = 46 then YtcifeankgnjndaaGreatDoor.dot T 4 p 0 else dec T p) = _
      replace ho : (if bt s a = 48 ∧ bt s (a + 1) = 120 then hex s a else if bt s (rE isD s a) = 46 then YtcifeankgnjndaaGreatDoor.dot s 4 a 0 else dec s a) = ⟨k, e, n, 0⟩ := ho
      by_cases hx : bt s a = 48 ∧ bt s (a + 1) = 120
      · rw [if_pos hx] at ho
        unfold hex at ho
        split at ho
        · simp at ho
        · rename_i hb
          obtain ⟨rfl, rfl, rfl, hns⟩ := cls_ok ho
          have hge := rE_ge isH s (a + 2)
          have hb1 : bt T (p + 1) = bt s (a + 1) := h.same 1 (by omega)
          rw [if_pos ⟨hx.1, by rw [hb1]; exact hx.2⟩]
          have hr := h.run isH256 HN (k := a + 2) (by omega) (Nat.le_refl _)
          rw [show p + (a + 2 - a) = p + 2 by omega] at hr
          unfold hex
          rw [hr, if_neg (by omega), show p + (rE isH s (a + 2) - a) - (p + 2) = rE isH s (a + 2) - (a + 2) by omega,
            hn_congr _ (a + 2) (p + 2) 0 (fun j hj => by have := h.at (k := a + 2 + j) (by omega) (by omega); rw [show p + (a + 2 + j - a) = p + 2 + j by omega] at this; exact this)]
          exact h.cls hns _
      · rw [if_neg hx] at ho
        rw [if_neg (hx0 hx)]
        by_cases h4 : bt s (rE isD s a) = 46
        · rw [if_pos h4] at ho
          have hge := rE_ge isD s a
          have hle : rE isD s a ≤ e := by
            rw [YtcifeankgnjndaaGreatDoor.dot, if_pos rfl] at ho
            split at ho
            · simp at ho
            · exact dot_ge _ _ _ _ _ _ ho
          have hlt : rE isD s a < e := by
            rcases Nat.lt_or_ge (rE isD s a) e with h' | h'
            · exact h'
            · exfalso
              have he : rE isD s a = e := by omega
              rw [YtcifeankgnjndaaGreatDoor.dot, if_pos rfl] at ho
              split at ho
              · simp at ho
              · rw [he] at ho h4
                rw [show (3 : Nat) = 2 + 1 from rfl, YtcifeankgnjndaaGreatDoor.dot, if_neg (by decide), if_pos h4] at ho
                split at ho
                · simp at ho
                · have := dot_ge _ _ _ _ _ _ ho; have := rE_ge isD s (e + 1); omega
          have hr := h.run isD256 DN (k := a) (Nat.le_refl _) hle
          rw [Nat.sub_self, Nat.add_zero] at hr
          rw [hr, if_pos (by rw [h.at hge hlt]; exact h4)]
          have := h.dot 4 a 0 k n (Nat.le_refl _) ho
          rw [Nat.sub_self, Nat.add_zero] at this
          exact this
        · rw [if_neg h4] at ho
          unfold dec at ho
          split at ho
          · simp at ho
          · rename_i hbig
            split at ho
            · simp at ho
            · rename_i hz
              obtain ⟨rfl, rfl, rfl, hns⟩ := cls_ok ho
              have hr := h.run isD256 DN (k := a) (Nat.le_refl _) (Nat.le_refl _)
              have hd := h.dcv (k := a) (Nat.le_refl _) (Nat.le_refl _)
              rw [Nat.sub_self, Nat.add_zero] at hr hd
              rw [hr, if_neg (by
                rcases h.nx with hn | ⟨-, hn⟩
                · rw [hn]; exact h4
                · exact hn)]
              unfold dec
              rw [hd, if_neg hbig, hr, if_neg (by rw [hb0]; intro hc; exact hz ⟨by omega, hc.2⟩)]
              exact h.cls hns _
    · rw [if_neg (by rintro (h' | h'); exact absurd h' (by decide); exact hD h')] at ho ⊢
      by_cases hL : isL (bt s a) = true
      · rw [if_pos hL] at ho ⊢
        unfold nam at ho
        split at ho
        · simp at ho
        · rename_i h32
          simp at ho
          obtain ⟨rfl, rfl, rfl⟩ := ho
          have hr := h.run isN256 NN (k := a) (Nat.le_refl _) (Nat.le_refl _)
          rw [Nat.sub_self, Nat.add_zero] at hr
          unfold nam
          rw [hr, if_neg (by omega)]
      · rw [if_neg hL] at ho ⊢
        by_cases hc : bt s a = 58 ∧ bt s (a + 1) = 61
        · rw [if_pos hc] at ho
          simp at ho
          obtain ⟨rfl, rfl, rfl⟩ := ho
          rw [if_pos ⟨hc.1, by rw [h.same 1 (by omega)]; exact hc.2⟩, show a + 2 - a = 2 by omega]
        · rw [if_neg hc] at ho
          by_cases hg : bt s a ∈ sgn
          · rw [if_pos hg] at ho
            simp at ho
            obtain ⟨rfl, rfl, rfl⟩ := ho
            rw [if_neg (by intro h'; rw [h'.1] at hg; exact absurd hg (by decide)), if_pos hg, show a + 1 - a = 1 by omega]
          · rw [if_neg hg] at ho
            simp at ho
end Go.Proofs.YtcifeankgnjndaaGreatDoor
namespace Go.Proofs.YtcifeankgnjndaaGreatDoor
set_option maxRecDepth 100000

theorem ext_same {s T : ByteArray} {a p n : Nat} (h : ∀ i, i < n → bt T (p + i) = bt s (a + i)) (hT : p + n ≤ T.size) (hs : a + n ≤ s.size) : T.extract p (p + n) = s.extract a (a + n) := by
  apply ByteArray.ext
  rw [ByteArray.data_extract, ByteArray.data_extract]
  have h1 : T.data.size = T.size := rfl
  have h2 : s.data.size = s.size := rfl
  apply Array.ext
  · rw [Array.size_extract, Array.size_extract]; omega
  · intro i hi1 hi2
    rw [Array.size_extract] at hi1
    rw [Array.getElem_extract, Array.getElem_extract]
    have := h i (by omega)
    rw [bt_in (by omega), bt_in (by omega)] at this
    exact UInt8.toNat_inj.1 this
theorem prF_cls {s : ByteArray} {a : Nat} : ∀ f i n m, prF s a f i n = some m → ∀ j, i ≤ j → j < i + f → isH (bt s (a + j)) = true ∨ bt s (a + j) = 58
  | 0, _, _, _, _, j, h1, h2 => by omega
  | f + 1, i, n, m, h, j, h1, h2 => by
    rw [prF] at h
    have go : ∀ n', prF s a f (i + 1) n' = some m → (isH (bt s (a + i)) = true ∨ bt s (a + i) = 58) → isH (bt s (a + j)) = true ∨ bt s (a + j) = 58 := by
      intro n' h' hi
      rcases Nat.lt_or_eq_of_le h1 with h0 | h0
      · exact prF_cls f (i + 1) n' m h' j (by omega) (by omega)
      · rw [← h0]; exact hi
    split at h
    · split at h
      · rename_i hc; exact go _ h (.inr hc)
      · exact absurd h (by simp)
    · split at h
      · rename_i hc; exact go _ h (.inl hc)
      · exact absurd h (by simp)
theorem wat_last (a : List Wd) (x : Wd) : wat (a ++ [x]) a.length = x := by unfold wat; rw [List.getD_eq_getElem?_getD, List.getElem?_append_right (Nat.le_refl _)]; simp
theorem wat_mid (a : List Wd) (x : Wd) (b : List Wd) : wat (a ++ x :: b) a.length = x := by unfold wat; rw [List.getD_eq_getElem?_getD, List.getElem?_append_right (Nat.le_refl _)]; simp
/-- what is told begins with what was told, and goes on behind -/
theorem scF_ge {s : ByteArray} : ∀ f a acc l, scF s f a acc = .ok l → a ≤ s.size → ∃ ws, l = acc ++ ws ∧ ∀ x ∈ ws, a ≤ x.at'
  | 0, a, acc, l, h, ha => by
    rw [scF] at h; cases h
    exact ⟨[wEnd s], rfl, fun x hx => by rw [List.mem_singleton.1 hx]; exact ha⟩
  | f + 1, a, acc, l, h, ha => by
    rw [scF] at h
    split at h
    · rename_i hlt
      split at h
      · obtain ⟨ws, h1, h2⟩ := scF_ge f _ _ _ h (by omega)
        exact ⟨ws, h1, fun x hx => by have := h2 x hx; omega⟩
      · split at h
        · rename_i hc
          have hg := rE_ge nNL s a
          obtain ⟨ws, h1, h2⟩ := scF_ge f _ _ _ h (rE_le ha)
          exact ⟨ws, h1, fun x hx => by have := h2 x hx; omega⟩
        · split at h
          · have ok := one_ok hlt
            obtain ⟨ws, h1, h2⟩ := scF_ge f _ _ _ h ok.le
            refine ⟨wdOf s a (one s a) :: ws, by rw [h1]; simp, fun x hx => ?_⟩
            rcases List.mem_cons.1 hx with rfl | hx
            · exact Nat.le_refl _
            · have := h2 x hx; have := ok.gt; omega
          · cases h
    · cases h
      exact ⟨[wEnd s], rfl, fun x hx => by rw [List.mem_singleton.1 hx]; exact ha⟩
theorem wat_ge {acc ws : List Wd} {k a : Nat} (h : ∀ x ∈ ws, a ≤ x.at') (h1 : acc.length ≤ k) (h2 : k < (acc ++ ws).length) : a ≤ (wat (acc ++ ws) k).at' := by
  have hk : k - acc.length < ws.length := by simp at h2; omega
  have : wat (acc ++ ws) k = ws[k - acc.length] := by
    unfold wat
    rw [List.getD_eq_getElem?_getD, List.getElem?_append_right h1, List.getElem?_eq_getElem hk]; rfl
  rw [this]
  exact h _ (List.getElem_mem hk)
/-- a word elsewhere -/
def sh (b q : Nat) (x : Wd) : Wd := ⟨x.k, x.t, x.n, x.at' - b + q⟩
section
variable {s T : ByteArray} {b q m : Nat}
theorem seg_byte (hseg : ∀ i, i < m → bt T (q + i) = bt s (b + i)) {a : Nat} (h1 : b ≤ a) (h2 : a < b + m) : bt T (q + (a - b)) = bt s a := by
  have := hseg (a - b) (by omega)
  rw [this]; congr 1; omega
theorem seg_agn (hseg : ∀ i, i < m → bt T (q + i) = bt s (b + i)) (hz : bt T (q + m) = 10 ∨ bt T (q + m) = 256) {a e : Nat} (h1 : b ≤ a) (h2 : a ≤ e) (h3 : e ≤ b + m) : Agn s a e T (q + (a - b)) := by
  refine ⟨h2, fun i hi => ?_, ?_, fun hp => ?_⟩
  · have := seg_byte hseg (a := a + i) (by omega) (by omega)
    rw [show q + (a - b) + i = q + (a + i - b) by omega]; exact this
  · by_cases he : e < b + m
    · left
      have := seg_byte hseg (a := e) (by omega) he
      rw [show q + (a - b) + (e - a) = q + (e - b) by omega]; exact this
    · right
      rw [show q + (a - b) + (e - a) = q + m by omega]
      rcases hz with h | h <;> rw [h] <;> decide
  · cases hq : pr T (q + (a - b)) with
    | none => rfl
    | some n =>
      have hin : a + 17 ≤ b + m := by
        rcases Nat.lt_or_ge (b + m) (a + 17) with hlt | hge
        · exfalso
          have := prF_cls 17 0 0 n hq (b + m - a) (by omega) (by omega)
          rw [show q + (a - b) + (b + m - a) = q + m by omega] at this
          rcases hz with h | h <;> rw [h] at this <;> revert this <;> decide
        · exact hge
      unfold pr at hp hq
      have hcg : prF T (q + (a - b)) 17 0 0 = prF s a 17 0 0 := prF_congr 17 0 0 (fun j j1 j2 => by
        have := seg_byte hseg (a := a + j) (by omega) (by omega)
        rw [show q + (a - b) + j = q + (a + j - b) by omega]; exact this)
      rw [hcg, hp] at hq; cases hq
theorem in_T (hseg : ∀ i, i < m → bt T (q + i) = bt s (b + i)) (hm : b + m ≤ s.size) {i : Nat} (hi : i < m) : q + i < T.size := in_of_bt (by rw [hseg i hi]; have := bt_lt (s := s) (i := b + i) (by omega); omega)
/-- A RUN OF BYTES IS TOLD ALIKE ELSEWHERE. -/
theorem seg (hseg : ∀ i, i < m → bt T (q + i) = bt s (b + i)) (hz : bt T (q + m) = 10 ∨ bt T (q + m) = 256) (hm : b + m ≤ s.size) : ∀ f a acc l k, scF s f a acc = .ok l → s.size - a ≤ f → acc.length ≤ k → k < l.length → (wat l k).at' = b + m → b ≤ a → a ≤ b + m →
    ∀ acc', sc T (q + (a - b)) acc' = sc T (q + m) (acc' ++ ((l.take k).drop acc.length).map (sh b q))
  | 0, a, acc, l, k, h, hf, hk1, hk2, hk3, ha1, ha2, acc' => by
    rw [scF] at h; cases h
    have hk : k = acc.length := by simp at hk2; omega
    subst hk
    rw [List.take_left, List.drop_length, List.map_nil, List.append_nil, show q + (a - b) = q + m by omega]
  | f + 1, a, acc, l, k, h, hf, hk1, hk2, hk3, ha1, ha2, acc' => by
    rw [scF] at h
    split at h
    · rename_i hlt
      split at h
      · rename_i hbk
        obtain ⟨ws, h1, h2⟩ := scF_ge f _ _ _ h (by omega)
        have hge : a + 1 ≤ b + m := by rw [← hk3, h1]; rw [h1] at hk2; exact wat_ge h2 hk1 hk2
        have hbt := seg_byte hseg ha1 (a := a) (by omega)
        rw [sc_blk (by rw [hbt]; exact hbk), show q + (a - b) + 1 = q + (a + 1 - b) by omega]
        exact seg hseg hz hm f (a + 1) acc l k h (by omega) hk1 hk2 hk3 (by omega) hge acc'
      · split at h
        · rename_i hc
          have hg : a + 1 ≤ rE nNL s a := by rw [rE_on nNL256 (by rw [hc]; decide)]; exact rE_ge _ _ _
          have hle := rE_le (p := nNL) (s := s) (k := a) (by omega)
          obtain ⟨ws, h1, h2⟩ := scF_ge f _ _ _ h hle
          have hge : rE nNL s a ≤ b + m := by rw [← hk3, h1]; rw [h1] at hk2; exact wat_ge h2 hk1 hk2
          have hbt := seg_byte hseg ha1 (a := a) (by omega)
          have hrT : rE nNL T (q + (a - b) + 1) = q + (rE nNL s a - b) := by
            refine rE_eq nNL256 (by omega) (fun j j1 j2 => ?_) ?_
            · have := seg_byte hseg (a := j - q + b) (by omega) (by omega)
              rw [show q + (j - q + b - b) = j by omega] at this
              rw [this]
              exact rE_all (k := a) (by omega) (by omega)
            · by_cases he : rE nNL s a < b + m
              · rw [seg_byte hseg (by omega) he]; exact rE_no nNL256
              · rw [show q + (rE nNL s a - b) = q + m by omega]
                rcases hz with h | h <;> rw [h] <;> decide
          rw [sc_rem (by rw [hbt]; exact hc), hrT]
          exact seg hseg hz hm f _ acc l k h (by omega) hk1 hk2 hk3 (by omega) hge acc'
        · rename_i hnb hn35
          split at h
          · rename_i hc0
            have ok := one_ok hlt
            obtain ⟨ws, h1, h2⟩ := scF_ge f _ _ _ h ok.le
            by_cases hk : k = acc.length
            · subst hk
              rw [h1, List.append_assoc, List.singleton_append, wat_mid] at hk3
              have hk3 : a = b + m := hk3
              have : (l.take acc.length).drop acc.length = [] := by rw [List.drop_eq_nil_iff, List.length_take]; omega
              rw [this, List.map_nil, List.append_nil, show q + (a - b) = q + m by omega]
            · have hge : (one s a).e ≤ b + m := by
                rw [← hk3, h1]
                rw [h1] at hk2
                exact wat_ge h2 (by simp; omega) hk2
              have hgt := ok.gt
              have hbt := seg_byte hseg ha1 (a := a) (by omega)
              have hA := seg_agn hseg hz ha1 (Nat.le_of_lt hgt) hge
              have hone : one s a = ⟨(one s a).k, (one s a).e, (one s a).n, 0⟩ := by
                cases ho : one s a with
                | mk k' e' n' c' => rw [ho] at hc0; simp only at hc0; rw [hc0]
              have hT := word_san hlt hone hA
              have hpT : q + (a - b) < T.size := in_T hseg hm (by omega)
              have hTe : (one T (q + (a - b))).e = q + ((one s a).e - b) := by rw [hT]; show q + (a - b) + ((one s a).e - a) = _; omega
              rw [sc_wd hpT (by rw [hbt]; simpa using hnb) (by rw [hbt]; exact hn35) (by rw [hT]), hTe]
              have hle2 : q + ((one s a).e - b) ≤ T.size := by
                have := in_T hseg hm (i := (one s a).e - b - 1) (by omega)
                omega
              have hw : wdOf T (q + (a - b)) (one T (q + (a - b))) = sh b q (wdOf s a (one s a)) := by
                unfold wdOf sh
                rw [hT]
                have hx := ext_same (s := s) (T := T) (a := a) (p := q + (a - b)) (n := (one s a).e - a) hA.same (by omega) (by have := ok.le; omega)
                rw [show a + ((one s a).e - a) = (one s a).e by omega] at hx
                simp only [hx]
                rw [show a - b + q = q + (a - b) by omega]
              rw [hw]
              have hih := seg hseg hz hm f _ (acc ++ [wdOf s a (one s a)]) l k h (by omega) (by simp; omega) hk2 hk3 (by omega) hge (acc' ++ [sh b q (wdOf s a (one s a))])
              rw [hih]
              have hdr : (l.take k).drop acc.length = wdOf s a (one s a) :: (l.take k).drop (acc ++ [wdOf s a (one s a)]).length := by
                have hl : acc.length < (l.take k).length := by rw [List.length_take]; omega
                rw [List.drop_eq_getElem_cons hl, List.length_append, List.length_singleton]
                congr 1
                rw [List.getElem_take]
                have hh : l[acc.length]? = some (wdOf s a (one s a)) := by
                  rw [h1, List.append_assoc, List.singleton_append, List.getElem?_append_right (Nat.le_refl _)]; simp
                have hl2 : acc.length < l.length := by omega
                rw [List.getElem?_eq_getElem hl2] at hh
                exact Option.some.inj hh
              rw [hdr, List.map_cons, List.append_assoc, List.singleton_append]
          · cases h
    · rename_i hnl
      cases h
      have hk : k = acc.length := by simp at hk2; omega
      subst hk
      rw [wat_last] at hk3
      have hk3 : s.size = b + m := hk3
      rw [List.take_left, List.drop_length, List.map_nil, List.append_nil, show q + (a - b) = q + m by omega]
end
end Go.Proofs.YtcifeankgnjndaaGreatDoor
