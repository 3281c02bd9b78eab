/- Plain: a word is the same word wherever its bytes stand with a blank behind them; words with blanks and remarks behind them are told as they were. -/
import Derived.Test.YtoncogkamlgjhaaGreatDoorFJ3
namespace Go.Proofs.YtoncogkamlgjhaaGreatDoor
set_option maxRecDepth 100000

/-- the bytes from p on in T are those from a up to e in s, and a blank stands behind them -/
structure Agr (s : ByteArray) (a e : Nat) (T : ByteArray) (p : Nat) : Prop where
  le : a ≤ e
  same : ∀ i, i < e - a → bt T (p + i) = bt s (a + i)
  sp : bt T (p + (e - a)) = 32
theorem prF_congr {s T : ByteArray} {a p : Nat} : ∀ f i n, (∀ j, i ≤ j → j < i + f → bt T (p + j) = bt s (a + j)) → prF T p f i n = prF s a f i n
  | 0, _, _, _ => rfl
  | f + 1, i, n, h => by
    rw [prF, prF, h i (by omega) (by omega)]
    rw [prF_congr f (i + 1) n (fun j h1 h2 => h j (by omega) (by omega)), prF_congr f (i + 1) _ (fun j h1 h2 => h j (by omega) (by omega))]
theorem prF_some {s : ByteArray} {a : Nat} : ∀ f i n m, prF s a f i n = some m → ∀ j, i ≤ j → j < i + f → bt s (a + j) ≠ 32
  | 0, _, _, _, _, j, h1, h2 => by omega
  | f + 1, i, n, m, h, j, h1, h2 => by
    rw [prF] at h
    have go : ∀ n', prF s a f (i + 1) n' = some m → bt s (a + i) ≠ 32 → bt s (a + j) ≠ 32 := by
      intro n' h' hi
      rcases Nat.lt_or_eq_of_le h1 with h0 | h0
      · exact prF_some f (i + 1) n' m h' j (by omega) (by omega)
      · rw [← h0]; exact hi
    split at h
    · split at h
      · rename_i hc; exact go _ h (by rw [hc]; decide)
      · exact absurd h (by simp)
    · split at h
      · rename_i hc; exact go _ h (fun e => by rw [e] at hc; exact absurd hc (by decide))
      · exact absurd h (by simp)
theorem Agr.pr_none {s T : ByteArray} {a e p : Nat} (h : Agr s a e T p) (hn : pr s a = none) : pr T p = none := by
  by_cases h17 : 17 ≤ e - a
  · unfold pr at hn ⊢; rw [prF_congr 17 0 0 (fun j h1 h2 => h.same j (by omega))]; exact hn
  · cases hp : pr T p with
    | none => rfl
    | some m => exact absurd h.sp (prF_some 17 0 0 m hp (e - a) (by omega) (by omega))
theorem Agr.at {s T : ByteArray} {a e p : Nat} (h : Agr s a e T p) {k : Nat} (h1 : a ≤ k) (h2 : k < e) : bt T (p + (k - a)) = bt s k := by
  rw [h.same (k - a) (by omega)]; congr 1; omega
theorem Agr.run {s T : ByteArray} {a e p : Nat} (h : Agr s a e T p) {q : Nat → Bool} (hq : q 256 = false) (h32 : q 32 = false) {k : Nat} (h1 : a ≤ k) (h2 : rE q s k ≤ e) : rE q T (p + (k - a)) = p + (rE q s k - a) := by
  have hge := rE_ge q s k
  refine rE_eq hq (by omega) (fun j j1 j2 => ?_) ?_
  · have := h.at (k := j - p + a) (by omega) (by omega)
    rw [show p + (j - p + a - a) = j by omega] at this
    rw [this]; exact rE_all (k := k) (by omega) (by omega)
  · by_cases he : rE q s k < e
    · rw [h.at (by omega) he]; exact rE_no hq
    · rw [show p + (rE q s k - a) = p + (e - a) by omega, h.sp]; exact h32
theorem hn_congr {s T : ByteArray} : ∀ f k k' n, (∀ j, j < f → bt T (k' + j) = bt s (k + j)) → hn T f k' n = hn s f k n
  | 0, _, _, _, _ => rfl
  | f + 1, k, k', n, h => by
    rw [hn, hn, show bt T k' = bt s k from h 0 (by omega)]
    exact hn_congr f _ _ _ (fun j hj => by have := h (j + 1) (by omega); rw [show k' + 1 + j = k' + (j + 1) by omega, show k + 1 + j = k + (j + 1) by omega]; exact this)
theorem dn_congr {s T : ByteArray} : ∀ f k k' n, (∀ j, j < f → bt T (k' + j) = bt s (k + j)) → dn T f k' n = dn s f k n
  | 0, _, _, _, _ => rfl
  | f + 1, k, k', n, h => by
    rw [dn, dn, show bt T k' = bt s k from h 0 (by omega)]
    exact dn_congr f _ _ _ (fun j hj => by have := h (j + 1) (by omega); rw [show k' + 1 + j = k' + (j + 1) by omega, show k + 1 + j = k + (j + 1) by omega]; exact this)
theorem Agr.dcv {s T : ByteArray} {a e p : Nat} (h : Agr s a e T p) {k : Nat} (h1 : a ≤ k) (h2 : rE isD s k ≤ e) : dcv T (p + (k - a)) = dcv s k := by
  have hge := rE_ge isD s k
  unfold YtoncogkamlgjhaaGreatDoor.dcv
  rw [h.run isD256 (by decide) h1 h2, show p + (rE isD s k - a) - (p + (k - a)) = rE isD s k - k by omega]
  exact dn_congr _ _ _ _ (fun j hj => by have := h.at (k := k + j) (by omega) (by omega); rw [show p + (k + j - a) = p + (k - a) + j by omega] at this; exact this)
theorem Agr.badP {s T : ByteArray} {a e p : Nat} (h : Agr s a e T p) {k : Nat} (h1 : a ≤ k) (h2 : rE isD s k ≤ e) (hb : ¬ badP s k) : ¬ badP T (p + (k - a)) := by
  have hge := rE_ge isD s k
  unfold YtoncogkamlgjhaaGreatDoor.badP at hb ⊢
  have hk : k < e := by
    rcases Nat.lt_or_ge k e with h' | h'
    · exact h'
    · exact absurd (.inl (by omega)) hb
  rw [h.run isD256 (by decide) h1 h2, h.dcv h1 h2, h.at h1 hk]
  intro hc; apply hb
  rcases hc with h' | h' | h'
  · exact .inl (by omega)
  · exact .inr (.inl h')
  · exact .inr (.inr ⟨by omega, h'.2⟩)
theorem cls_ok {s : ByteArray} {e n k' e' n' : Nat} (h : cls s e n = ⟨k', e', n', 0⟩) : k' = 2 ∧ e' = e ∧ n' = n ∧ isN (bt s e) = false := by
  unfold cls at h
  split at h
  · simp at h
  · rename_i hn; simp at h; exact ⟨h.1.symm, h.2.1.symm, h.2.2.symm, by simpa using hn⟩
theorem cls_32 {T : ByteArray} {e n : Nat} (h : bt T e = 32) : cls T e n = ⟨2, e, n, 0⟩ := by
  unfold cls; rw [if_neg (by rw [h]; decide)]
theorem dot_ge {s : ByteArray} : ∀ f k n k' e n', dot s f k n = ⟨k', e, n', 0⟩ → k ≤ e
  | 0, k, n, k', e, n', h => by rw [dot] at h; have := cls_ok h; omega
  | f + 1, k, n, k', e, n', h => by
    rw [dot] at h
    split at h
    · split at h
      · simp at h
      · have := dot_ge f _ _ _ _ _ h; have := rE_ge isD s k; omega
    · split at h
      · split at h
        · simp at h
        · have := dot_ge f _ _ _ _ _ h; have := rE_ge isD s (k + 1); omega
      · simp at h
theorem Agr.dot {s T : ByteArray} {a e p : Nat} (h : Agr s a e T p) : ∀ f k n k' n', a ≤ k → dot s f k n = ⟨k', e, n', 0⟩ → dot T f (p + (k - a)) n = ⟨k', p + (e - a), n', 0⟩
  | 0, k, n, k', n', h1, hd => by
    rw [YtoncogkamlgjhaaGreatDoor.dot] at hd ⊢
    obtain ⟨rfl, rfl, rfl, -⟩ := cls_ok hd
    exact cls_32 h.sp
  | f + 1, k, n, k', n', h1, hd => by
    rw [YtoncogkamlgjhaaGreatDoor.dot] at hd ⊢
    split at hd
    · rename_i hf
      rw [if_pos hf]
      split at hd
      · simp at hd
      · rename_i hb
        have hge := dot_ge _ _ _ _ _ _ hd
        have hk := rE_ge isD s k
        rw [if_neg (h.badP h1 hge hb), h.run isD256 (by decide) h1 hge, h.dcv h1 hge]
        exact h.dot f _ _ _ _ (by omega) hd
    · rename_i hf
      rw [if_neg hf]
      split at hd
      · rename_i hc
        split at hd
        · simp at hd
        · rename_i hb
          have hge := dot_ge _ _ _ _ _ _ hd
          have hk := rE_ge isD s (k + 1)
          rw [h.at h1 (by omega), if_pos hc, show p + (k - a) + 1 = p + (k + 1 - a) by omega, if_neg (h.badP (by omega) hge hb), h.run isD256 (by decide) (by omega) hge, h.dcv (by omega) hge]
          exact h.dot f _ _ _ _ (by omega) hd
      · simp at hd
theorem word_same {s T : ByteArray} {a p k e n : Nat} (hs : a < s.size) (ho : one s a = ⟨k, e, n, 0⟩) (h : Agr s a e T p) : one T p = ⟨k, p + (e - a), n, 0⟩ := by
  have ok := one_ok hs
  rw [ho] at ok
  have hgt : a < e := ok.gt
  have hb0 : bt T p = bt s a := by have := h.same 0 (by omega); simpa using this
  unfold one at ho ⊢
  rw [hb0]
  cases hp : pr s a with
  | some m =>
    rw [hp, if_pos (.inl rfl)] at ho
    unfold num at ho; rw [hp] at ho
    obtain ⟨rfl, rfl, rfl, -⟩ := cls_ok ho
    have hp2 : pr T p = some n := by
      unfold pr at hp ⊢; rw [prF_congr 17 0 0 (fun j h1 h2 => h.same j (by omega))]; exact hp
    rw [hp2, if_pos (.inl rfl)]
    unfold num; rw [hp2]
    show cls T (p + 17) n = _
    have := h.sp
    rw [show p + (a + 17 - a) = p + 17 by omega] at this ⊢
    exact cls_32 this
  | none =>
    have hp2 := h.pr_none hp
    rw [hp] at ho
    rw [hp2]
    have hx0 : ¬ (bt s a = 48 ∧ bt s (a + 1) = 120) → ¬ (bt s a = 48 ∧ bt T (p + 1) = 120) := by
      intro hn hc; apply hn; refine ⟨hc.1, ?_⟩
      by_cases h2 : 1 < e - a
      · rw [← h.same 1 h2]; exact hc.2
      · have := h.sp; rw [show e - a = 1 by omega] at this; omega
    by_cases hD : isD (bt s a) = true
    · rw [if_pos (.inr hD)] at ho ⊢
      unfold num at ho ⊢; rw [hp] at ho; rw [hp2, hb0]
      show (if bt s a = 48 ∧ bt T (p + 1) = 120 then hex T p else if bt T (rE isD T p) = 46 then YtoncogkamlgjhaaGreatDoor.dot T 4 p 0 else dec T p) = _
      replace ho : (if bt s a = 48 ∧ bt s (a + 1) = 120 then hex s a else if bt s (rE isD s a) = 46 then YtoncogkamlgjhaaGreatDoor.dot s 4 a 0 else dec s a) = ⟨k, e, n, 0⟩ := ho
      by_cases hx : bt s a = 48 ∧ bt s (a + 1) = 120
      · rw [if_pos hx] at ho
        unfold hex at ho
        split at ho
        · simp at ho
        · rename_i hb
          obtain ⟨rfl, rfl, rfl, -⟩ := cls_ok ho
          have hge := rE_ge isH s (a + 2)
          have hb1 : bt T (p + 1) = bt s (a + 1) := h.same 1 (by omega)
          rw [if_pos ⟨hx.1, by rw [hb1]; exact hx.2⟩]
          have hr := h.run isH256 (by decide) (k := a + 2) (by omega) (Nat.le_refl _)
          rw [show p + (a + 2 - a) = p + 2 by omega] at hr
          unfold hex
          rw [hr, if_neg (by omega), show p + (rE isH s (a + 2) - a) - (p + 2) = rE isH s (a + 2) - (a + 2) by omega,
            hn_congr _ (a + 2) (p + 2) 0 (fun j hj => by have := h.at (k := a + 2 + j) (by omega) (by omega); rw [show p + (a + 2 + j - a) = p + 2 + j by omega] at this; exact this)]
          exact cls_32 h.sp
      · rw [if_neg hx] at ho
        rw [if_neg (hx0 hx)]
        by_cases h4 : bt s (rE isD s a) = 46
        · rw [if_pos h4] at ho
          have hge := rE_ge isD s a
          have hle : rE isD s a ≤ e := by
            rw [YtoncogkamlgjhaaGreatDoor.dot, if_pos rfl] at ho
            split at ho
            · simp at ho
            · exact dot_ge _ _ _ _ _ _ ho
          have hlt : rE isD s a < e := by
            rcases Nat.lt_or_ge (rE isD s a) e with h' | h'
            · exact h'
            · exfalso
              have he : rE isD s a = e := by omega
              rw [YtoncogkamlgjhaaGreatDoor.dot, if_pos rfl] at ho
              split at ho
              · simp at ho
              · rw [he] at ho h4
                rw [show (3 : Nat) = 2 + 1 from rfl, YtoncogkamlgjhaaGreatDoor.dot, if_neg (by decide), if_pos h4] at ho
                split at ho
                · simp at ho
                · have := dot_ge _ _ _ _ _ _ ho; have := rE_ge isD s (e + 1); omega
          have hr := h.run isD256 (by decide) (k := a) (Nat.le_refl _) hle
          rw [Nat.sub_self, Nat.add_zero] at hr
          rw [hr, if_pos (by rw [h.at hge hlt]; exact h4)]
          have := h.dot 4 a 0 k n (Nat.le_refl _) ho
          rw [Nat.sub_self, Nat.add_zero] at this
          exact this
        · rw [if_neg h4] at ho
          unfold dec at ho
          split at ho
          · simp at ho
          · rename_i hbig
            split at ho
            · simp at ho
            · rename_i hz
              obtain ⟨rfl, rfl, rfl, -⟩ := cls_ok ho
              have hr := h.run isD256 (by decide) (k := a) (Nat.le_refl _) (Nat.le_refl _)
              have hd := h.dcv (k := a) (Nat.le_refl _) (Nat.le_refl _)
              rw [Nat.sub_self, Nat.add_zero] at hr hd
              rw [hr, if_neg (by rw [h.sp]; decide)]
              unfold dec
              rw [hd, if_neg hbig, hr, if_neg (by rw [hb0]; intro hc; exact hz ⟨by omega, hc.2⟩)]
              exact cls_32 h.sp
    · rw [if_neg (by rintro (h' | h'); exact absurd h' (by decide); exact hD h')] at ho ⊢
      by_cases hL : isL (bt s a) = true
      · rw [if_pos hL] at ho ⊢
        unfold nam at ho
        split at ho
        · simp at ho
        · rename_i h32
          simp at ho
          obtain ⟨rfl, rfl, rfl⟩ := ho
          have hr := h.run isN256 (by decide) (k := a) (Nat.le_refl _) (Nat.le_refl _)
          rw [Nat.sub_self, Nat.add_zero] at hr
          unfold nam
          rw [hr, if_neg (by omega)]
      · rw [if_neg hL] at ho ⊢
        by_cases hc : bt s a = 58 ∧ bt s (a + 1) = 61
        · rw [if_pos hc] at ho
          simp at ho
          obtain ⟨rfl, rfl, rfl⟩ := ho
          rw [if_pos ⟨hc.1, by rw [h.same 1 (by omega)]; exact hc.2⟩, show a + 2 - a = 2 by omega]
        · rw [if_neg hc] at ho
          by_cases hg : bt s a ∈ sgn
          · rw [if_pos hg] at ho
            simp at ho
            obtain ⟨rfl, rfl, rfl⟩ := ho
            rw [if_neg (by intro h'; rw [h'.1] at hg; exact absurd hg (by decide)), if_pos hg, show a + 1 - a = 1 by omega]
          · rw [if_neg hg] at ho
            simp at ho
theorem bt_list (s : ByteArray) (i : Nat) : bt s i = ((s.data.toList[i]?).map (·.toNat)).getD 256 := by
  by_cases h : i < s.size
  · rw [bt_in h]
    have hd : i < s.data.size := h
    rw [Array.getElem?_toList, Array.getElem?_eq_getElem hd]; rfl
  · rw [bt_out h]
    have hd : ¬ i < s.data.size := h
    rw [Array.getElem?_toList, Array.getElem?_eq_none (by omega)]; rfl
theorem size_list (s : ByteArray) : s.size = s.data.toList.length := by cases s; simp [ByteArray.size]
def sepB : ByteArray := ⟨#[32, 35, 32, 120, 10, 9]⟩
/-- words with a blank, a remark and blanks behind each -/
def bldL : List Wd → List UInt8
  | [] => []
  | x :: l => x.t.data.toList ++ sepB.data.toList ++ bldL l
/-- the words, as they stand there -/
def shf : Nat → List Wd → List Wd
  | _, [] => []
  | p, x :: l => ⟨x.k, x.t, x.n, p⟩ :: shf (p + x.t.size + 6) l
theorem first_ok {s : ByteArray} {a k e n : Nat} (_hs : a < s.size) (ho : one s a = ⟨k, e, n, 0⟩) : blk (bt s a) = false ∧ bt s a ≠ 35 := by
  have key : bt s a = 32 ∨ bt s a = 9 ∨ bt s a = 10 ∨ bt s a = 13 ∨ bt s a = 35 → False := by
    intro hb
    have hp : pr s a = none := by
      cases hp : pr s a with
      | none => rfl
      | some m => have := pr_H hp; rw [isH_iff] at this; omega
    have hD : isD (bt s a) = false := by cases h : isD (bt s a); rfl; rw [isD_iff] at h; omega
    have hL : isL (bt s a) = false := by cases h : isL (bt s a); rfl; rw [isL_iff] at h; omega
    unfold one at ho
    rw [hp, hD, hL, if_neg (by simp), if_neg (by simp), if_neg (by omega), if_neg (by simp [sgn]; omega)] at ho
    simp at ho
  constructor
  · cases h : blk (bt s a)
    · rfl
    · rw [blk_iff] at h; exact absurd (key (by omega)) id
  · intro h; exact key (by omega)
theorem sc_built {s : ByteArray} : ∀ (todo : List Wd) (T : ByteArray) (pre : List UInt8) (a : Nat) (acc : List Wd), T.data.toList = pre ++ bldL todo → Stand s a todo →
    sc T pre.length acc = .ok (acc ++ shf pre.length todo ++ [wEnd T])
  | [], T, pre, a, acc, hT, _ => by
    rw [sc_end (by rw [size_list, hT]; simp [bldL])]; simp [shf]
  | x :: l, T, pre, a, acc, hT, hst => by
    obtain ⟨-, h2, h3, h4, h5⟩ := hst
    have ok := one_ok h2
    rw [h3] at ok
    have hgt : x.at' < x.at' + x.t.size := ok.gt
    have hle : x.at' + x.t.size ≤ s.size := ok.le
    have htl : x.t.data.toList.length = x.t.size := (size_list _).symm
    have hbl : bldL (x :: l) = x.t.data.toList ++ (sepB.data.toList ++ bldL l) := by simp [bldL]
    have hb : ∀ i, bt T (pre.length + i) = (((x.t.data.toList ++ (sepB.data.toList ++ bldL l))[i]?).map (·.toNat)).getD 256 := fun i => by
      rw [bt_list, hT, hbl, List.getElem?_append_right (by omega)]; simp
    have hin : ∀ i, i < x.t.size → bt T (pre.length + i) = bt s (x.at' + i) := fun i hi => by
      rw [hb, List.getElem?_append_left (by omega), ← bt_list]
      conv => lhs; rw [h4]
      rw [bt_list, bt_list]
      have e1 : (s.extract x.at' (x.at' + x.t.size)).data.toList = (s.data.toList.drop x.at').take (x.t.size) := by
        rw [ByteArray.data_extract, Array.toList_extract]; simp [List.extract]
      rw [e1, List.getElem?_take, if_pos hi, List.getElem?_drop]
    have hsp : ∀ j, j < 6 → bt T (pre.length + x.t.size + j) = ((sepB.data.toList[j]?).map (·.toNat)).getD 256 := fun j hj => by
      rw [Nat.add_assoc, hb, List.getElem?_append_right (by omega), htl, show x.t.size + j - x.t.size = j by omega, List.getElem?_append_left (by simp [sepB]; omega)]
    have s0 : bt T (pre.length + x.t.size) = 32 := hsp 0 (by omega)
    have s1 : bt T (pre.length + x.t.size + 1) = 35 := hsp 1 (by omega)
    have s2 : bt T (pre.length + x.t.size + 2) = 32 := hsp 2 (by omega)
    have s3 : bt T (pre.length + x.t.size + 3) = 120 := hsp 3 (by omega)
    have s4 : bt T (pre.length + x.t.size + 4) = 10 := hsp 4 (by omega)
    have s5 : bt T (pre.length + x.t.size + 5) = 9 := hsp 5 (by omega)
    have hag : Agr s x.at' (x.at' + x.t.size) T pre.length := ⟨by omega, fun i hi => hin i (by omega), by rw [show x.at' + x.t.size - x.at' = x.t.size by omega]; exact s0⟩
    have hone := word_same h2 h3 hag
    rw [show x.at' + x.t.size - x.at' = x.t.size by omega] at hone
    obtain ⟨f1, f2⟩ := first_ok h2 h3
    have hb0 : bt T pre.length = bt s x.at' := by have := hin 0 (by omega); simpa using this
    have hTs : pre.length < T.size := in_of_bt (by rw [hb0]; have := bt_lt h2; omega)
    have hex : T.extract pre.length (pre.length + x.t.size) = x.t := by
      apply ByteArray.ext
      apply Array.toList_inj.1
      rw [ByteArray.data_extract, Array.toList_extract]
      show (T.data.toList.drop pre.length).take (pre.length + x.t.size - pre.length) = _
      rw [hT, hbl, List.drop_left, show pre.length + x.t.size - pre.length = x.t.data.toList.length by omega, List.take_left]
    rw [sc_wd hTs (by rw [hb0]; exact f1) (by rw [hb0]; exact f2) (by rw [hone]), hone]
    have hw : wdOf T pre.length ⟨x.k, pre.length + x.t.size, x.n, 0⟩ = ⟨x.k, x.t, x.n, pre.length⟩ := by unfold wdOf; rw [hex]
    rw [hw]
    show sc T (pre.length + x.t.size) _ = _
    rw [sc_blk (by rw [s0]; decide), sc_rem s1]
    have hr : rE nNL T (pre.length + x.t.size + 1 + 1) = pre.length + x.t.size + 4 := by
      refine rE_eq nNL256 (by omega) (fun j j1 j2 => ?_) (by rw [s4]; decide)
      rcases (show j = pre.length + x.t.size + 2 ∨ j = pre.length + x.t.size + 3 by omega) with rfl | rfl
      · rw [s2]; decide
      · rw [s3]; decide
    rw [hr, sc_blk (by rw [s4]; decide), sc_blk (a := pre.length + x.t.size + 4 + 1) (by rw [s5]; decide)]
    have hpl : (pre ++ (x.t.data.toList ++ sepB.data.toList)).length = pre.length + x.t.size + 6 := by
      rw [List.length_append, List.length_append, htl]; simp [sepB]; omega
    have := sc_built l T (pre ++ (x.t.data.toList ++ sepB.data.toList)) _ (acc ++ [⟨x.k, x.t, x.n, pre.length⟩]) (by rw [hT]; simp [bldL]) h5
    rw [hpl] at this
    rw [show pre.length + x.t.size + 4 + 1 + 1 = pre.length + x.t.size + 6 by omega, this]
    simp [shf]
theorem all_built {s T : ByteArray} {ws : List Wd} (hst : Stand s 0 ws) (hT : T.data.toList = bldL ws) (hle : T.size ≤ 65536) : all T = .ok (shf 0 ws ++ [wEnd T]) := by
  unfold all; rw [if_neg (by omega)]
  have := sc_built ws T [] 0 [] (by simpa using hT) hst
  simpa using this
theorem shf_len : ∀ (p : Nat) (l : List Wd), (shf p l).length = l.length
  | _, [] => rfl
  | p, x :: l => by rw [shf, List.length_cons, shf_len, List.length_cons]
theorem shf_at : ∀ (p : Nat) (l : List Wd) (i : Nat) (h : i < l.length), ∃ q, (shf p l)[i]'(by rw [shf_len]; exact h) = ⟨l[i].k, l[i].t, l[i].n, q⟩
  | p, x :: l, 0, _ => ⟨p, rfl⟩
  | p, x :: l, i + 1, h => shf_at (p + x.t.size + 6) l i (by simpa using h)
end Go.Proofs.YtoncogkamlgjhaaGreatDoor
