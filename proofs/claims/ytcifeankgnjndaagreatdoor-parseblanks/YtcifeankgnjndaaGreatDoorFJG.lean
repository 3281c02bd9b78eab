/- Plain: what words are read as does not hang on their places. -/
/- Plain: two texts whose bytes agree from a place each up to the next blank: what ends a word in one ends it in the other. -/
/- Plain: no blank stands within a word. -/
/- Plain: a text with its blanks made longer is told as the same words. -/
/- Plain: a text with its blanks made longer says the same. -/
import Derived.Test.YtcifeankgnjndaaGreatDoorFJ7
namespace Go.Proofs.YtcifeankgnjndaaGreatDoor
set_option maxRecDepth 100000

/-- the same words, at other places -/
structure Sim (l1 l2 : List Wd) : Prop where
  len : l2.length = l1.length
  t : ∀ i, (wat l2 i).t = (wat l1 i).t
  k : ∀ i, (wat l2 i).k = (wat l1 i).k
  n : ∀ i, (wat l2 i).n = (wat l1 i).n
section
variable {l1 l2 : List Wd}
theorem tk_sim (h : Sim l1 l2) : tk l2 = tk l1 := by funext i q; unfold tk; rw [h.t]
theorem pair_sim (h : Sim l1 l2) : pair l2 = pair l1 := by funext op sg i; unfold pair; rw [h.t, tk_sim h, h.k, h.n]
theorem jnL_sim (h : Sim l1 l2) (sg : ByteArray) (p : Nat → Rd Tm) : ∀ f i acc, jnL l2 sg p f i acc = jnL l1 sg p f i acc
  | 0, i, acc => rfl
  | f + 1, i, acc => by
    rw [jnL, jnL, tk_sim h]
    split
    · cases p (i + 1) with
      | bad j => rfl
      | ok t j => exact jnL_sim h sg p f j _
    · rfl
theorem jn_sim (h : Sim l1 l2) : jn l2 = jn l1 := by
  funext op sg p i
  unfold jn
  rw [tk_sim h, h.len]
  cases p i with
  | bad j => rfl
  | ok t j => simp only [jnL_sim h]
theorem starL_sim (h : Sim l1 l2) : ∀ f i t, starL l2 f i t = starL l1 f i t
  | 0, i, t => rfl
  | f + 1, i, t => by
    rw [starL, starL, tk_sim h]
    split
    · exact starL_sim h f _ _
    · rfl
theorem starF_sim (h : Sim l1 l2) : starF l2 = starF l1 := by
  funext p i
  unfold starF
  rw [h.len]
  cases p i with
  | bad j => rfl
  | ok t j => exact starL_sim h _ _ _
theorem exp_sim (h : Sim l1 l2) {α : Type} (q : ByteArray) (r : Rd α) : r.exp l2 q = r.exp l1 q := by
  cases r with
  | bad j => rfl
  | ok t j => unfold Rd.exp; rw [tk_sim h]
theorem atomF_sim (h : Sim l1 l2) : atomF l2 = atomF l1 := by
  funext p d i
  unfold atomF
  simp only [tk_sim h, exp_sim h, pair_sim h]
theorem notF_sim (h : Sim l1 l2) : notF l2 = notF l1 := by
  funext d n i
  unfold notF
  simp only [tk_sim h, exp_sim h, pair_sim h]
theorem ps_sim (h : Sim l1 l2) : ∀ n, ps l2 n = ps l1 n
  | 0 => rfl
  | n + 1 => by
    rw [ps, ps, ps_sim h n, atomF_sim h, notF_sim h]
    unfold polF predF seqF andF
    rw [jn_sim h, starF_sim h]
theorem qry_sim (h : Sim l1 l2) : qry l2 = qry l1 := by
  funext p i
  unfold qry
  rw [h.k, h.t, tk_sim h]
theorem qrs_sim (h : Sim l1 l2) (p : Nat → Rd Tm) : ∀ f i acc, qrs l2 p f i acc = qrs l1 p f i acc
  | 0, i, acc => rfl
  | f + 1, i, acc => by
    rw [qrs, qrs, tk_sim h, qry_sim h]
    split
    · cases qry l1 p (i + 1) with
      | bad j => rfl
      | ok t j => exact qrs_sim h p f j _
    · rfl
theorem fil_sim (h : Sim l1 l2) : fil l2 = fil l1 := by
  unfold fil
  simp only [h.len, ps_sim h, qrs_sim h, h.k]
/-- two texts of the same words: both are taken, as one policy, or both are refused -/
theorem rdW_sim (h : Sim l1 l2) : (∃ p, rdW l1 = .ok p ∧ rdW l2 = .ok p) ∨ ∃ c a t c' a' t', rdW l1 = .no c a t ∧ rdW l2 = .no c' a' t' := by
  unfold rdW
  rw [fil_sim h]
  cases fil l1 with
  | bad i => exact Or.inr ⟨_, _, _, _, _, _, rfl, rfl⟩
  | ok p j =>
    by_cases hf : fitsB p = true
    · exact Or.inl ⟨p, by simp only [hf, if_true], by simp only [hf, if_true]⟩
    · exact Or.inr ⟨200, 0, ⟨#[]⟩, 200, 0, ⟨#[]⟩, by simp only [hf]; rfl, by simp only [hf]; rfl⟩
end
end Go.Proofs.YtcifeankgnjndaaGreatDoor
namespace Go.Proofs.YtcifeankgnjndaaGreatDoor
set_option maxRecDepth 100000

/-- a blank of the two that are made longer, or the end -/
def stp (c : Nat) : Bool := decide (c = 32) || decide (c = 10) || decide (c = 256)
/-- the bytes agree up to the next of these, and there -/
def Al (s T : ByteArray) (a p : Nat) : Prop := ∀ i, (∀ j, j < i → stp (bt s (a + j)) = false) → bt T (p + i) = bt s (a + i)
theorem Al.symm {s T : ByteArray} {a p : Nat} (h : Al s T a p) : Al T s p a := by
  intro i hi
  have key : ∀ n, n ≤ i → ∀ j, j < n → stp (bt s (a + j)) = false := by
    intro n
    induction n with
    | zero => intro _ j hj; omega
    | succ n ih =>
      intro hn j hj
      have hj' := ih (by omega)
      by_cases hjn : j < n
      · exact hj' j hjn
      · obtain rfl : j = n := by omega
        rw [← h j hj']; exact hi j (by omega)
  exact (h i (key i (Nat.le_refl _))).symm
theorem Al.agn {s T : ByteArray} {a e p : Nat} (h : Al s T a p) (hae : a ≤ e) (hn : ∀ j, a ≤ j → j < e → stp (bt s j) = false) : Agn s a e T p := by
  refine ⟨hae, fun i hi => h i fun j hj => hn (a + j) (by omega) (by omega), Or.inl ?_, fun hp => ?_⟩
  · have := h (e - a) fun j hj => hn (a + j) (by omega) (by omega)
    rw [show a + (e - a) = e by omega] at this
    exact this
  · cases hq : pr T p with
    | none => rfl
    | some n =>
      have hb : ∀ n', n' ≤ 17 → ∀ j, j < n' → bt T (p + j) = bt s (a + j) ∧ stp (bt s (a + j)) = false := by
        intro n'
        induction n' with
        | zero => intro _ j hj; omega
        | succ n' ih =>
          intro hn' j hj
          have hj' := ih (by omega)
          by_cases hjn : j < n'
          · exact hj' j hjn
          · obtain rfl : j = n' := by omega
            have e1 := h j fun k hk => (hj' k hk).2
            refine ⟨e1, ?_⟩
            have hc := prF_cls 17 0 0 n hq j (by omega) (by omega)
            rw [e1] at hc
            cases hst : stp (bt s (a + j)) with
            | false => rfl
            | true =>
              exfalso
              unfold stp at hst
              simp only [Bool.or_eq_true, decide_eq_true_eq] at hst
              rcases hst with (hst | hst) | hst <;> rw [hst] at hc <;> revert hc <;> decide
      unfold pr at hp hq
      rw [prF_congr (s := s) (a := a) 17 0 0 (fun j _ j2 => (hb 17 (Nat.le_refl _) j (by omega)).1), hp] at hq
      cases hq
/-- one step further -/
theorem Al.next {s T : ByteArray} {a p : Nat} (h : Al s T a p) (hs : stp (bt s a) = false) : Al s T (a + 1) (p + 1) := by
  intro i hi
  have := h (i + 1) fun j hj => by
    cases j with
    | zero => exact hs
    | succ j => have := hi j (by omega); rw [show a + 1 + j = a + (j + 1) by omega] at this; exact this
  rw [show p + 1 + i = p + (i + 1) by omega, show a + 1 + i = a + (i + 1) by omega]
  exact this
end Go.Proofs.YtcifeankgnjndaaGreatDoor
namespace Go.Proofs.YtcifeankgnjndaaGreatDoor
set_option maxRecDepth 100000

theorem stp_no {c : Nat} (h : c ≠ 32 ∧ c ≠ 10 ∧ c ≠ 256) : stp c = false := by unfold stp; simp; omega
theorem stp_D {c : Nat} (h : isD c = true) : stp c = false := by rw [isD_iff] at h; exact stp_no (by omega)
theorem stp_H {c : Nat} (h : isH c = true) : stp c = false := by rw [isH_iff] at h; exact stp_no (by omega)
theorem stp_N {c : Nat} (h : isN c = true) : stp c = false := by rw [isN_iff] at h; exact stp_no (by omega)
theorem dot_nb {s : ByteArray} {a : Nat} : ∀ f k n k' e n', dot s f k n = ⟨k', e, n', 0⟩ → (∀ j, a ≤ j → j < k → stp (bt s j) = false) → ∀ j, a ≤ j → j < e → stp (bt s j) = false
  | 0, k, n, k', e, n', ho, h => by
    rw [dot] at ho
    obtain ⟨rfl, rfl, rfl, -⟩ := cls_ok ho
    exact h
  | f + 1, k, n, k', e, n', ho, h => by
    have go : ∀ k1, (∀ j, a ≤ j → j < k1 → stp (bt s j) = false) → ∀ j, a ≤ j → j < rE isD s k1 → stp (bt s j) = false := fun k1 h1 j j1 j2 => by
      by_cases hj : j < k1
      · exact h1 j j1 hj
      · exact stp_D (rE_all (k := k1) (by omega) j2)
    rw [dot] at ho
    split at ho
    · split at ho
      · simp at ho
      · exact dot_nb f _ _ k' e n' ho (go k h)
    · split at ho
      · rename_i hc
        split at ho
        · simp at ho
        · refine dot_nb f _ _ k' e n' ho (go (k + 1) fun j j1 j2 => ?_)
          by_cases hj : j < k
          · exact h j j1 hj
          · obtain rfl : j = k := by omega
            rw [hc]; decide
      · simp at ho
theorem one_nb {s : ByteArray} {a k e n : Nat} (ho : one s a = ⟨k, e, n, 0⟩) : ∀ j, a ≤ j → j < e → stp (bt s j) = false := by
  intro j j1 j2
  unfold one at ho
  split at ho
  · unfold num at ho
    split at ho
    · rename_i m hm
      obtain ⟨rfl, rfl, rfl, -⟩ := cls_ok ho
      have := prF_cls 17 0 0 n hm (j - a) (by omega) (by omega)
      rw [show a + (j - a) = j by omega] at this
      rcases this with h | h
      · exact stp_H h
      · rw [h]; decide
    · split at ho
      · rename_i hx
        unfold hex at ho
        split at ho
        · simp at ho
        · obtain ⟨rfl, rfl, rfl, -⟩ := cls_ok ho
          by_cases e1 : j = a
          · subst e1; rw [hx.1]; decide
          · by_cases e2 : j = a + 1
            · subst e2; rw [hx.2]; decide
            · exact stp_H (rE_all (k := a + 2) (by omega) j2)
      · split at ho
        · exact dot_nb 4 a 0 k e n ho (fun i i1 i2 => by omega) j j1 j2
        · unfold dec at ho
          split at ho
          · simp at ho
          · split at ho
            · simp at ho
            · obtain ⟨rfl, rfl, rfl, -⟩ := cls_ok ho
              exact stp_D (rE_all j1 j2)
  · split at ho
    · unfold nam at ho
      split at ho
      · simp at ho
      · cases ho
        exact stp_N (rE_all j1 j2)
    · split at ho
      · rename_i hc
        cases ho
        by_cases e1 : j = a
        · subst e1; rw [hc.1]; decide
        · obtain rfl : j = a + 1 := by omega
          rw [hc.2]; decide
      · split at ho
        · rename_i hc
          cases ho
          obtain rfl : j = a := by omega
          exact stp_no (by simp [sgn] at hc; omega)
        · simp at ho
/-- a word in one of two texts that agree is that word in the other; what is none in one is none in the other -/
theorem one_al {s T : ByteArray} {a p k e n : Nat} (hs : a < s.size) (h : Al s T a p) (ho : one s a = ⟨k, e, n, 0⟩) : one T p = ⟨k, p + (e - a), n, 0⟩ :=
  word_san hs ho (h.agn (by have := (one_ok hs).gt; rw [ho] at this; exact Nat.le_of_lt this) (one_nb ho))
theorem one_al_no {s T : ByteArray} {a p : Nat} (hT : p < T.size) (h : Al s T a p) (ho : (one s a).c ≠ 0) : (one T p).c ≠ 0 := by
  intro hc
  cases hx : one T p with
  | mk k e n c =>
    rw [hx] at hc
    obtain rfl : c = 0 := hc
    have := one_al hT h.symm hx
    rw [this] at ho
    exact ho rfl
end Go.Proofs.YtcifeankgnjndaaGreatDoor
namespace Go.Proofs.YtcifeankgnjndaaGreatDoor
set_option maxRecDepth 100000

/-- each blank made longer -/
def lng (r : List UInt8) : List UInt8 → List UInt8
  | [] => []
  | c :: cs => c :: ((if c = 32 ∨ c = 10 then [9, 32, 35] ++ (r ++ [10, 32]) else []) ++ lng r cs)
/-- a list's byte -/
def blj (l : List UInt8) (i : Nat) : Nat := ((l[i]?).map (·.toNat)).getD 256
theorem bl_app (x y : List UInt8) (i : Nat) : blj (x ++ y) (x.length + i) = blj y i := by unfold blj; rw [List.getElem?_append_right (by omega), Nat.add_sub_cancel_left]
theorem bl_left {x : List UInt8} (y : List UInt8) {i : Nat} (h : i < x.length) : blj (x ++ y) i = blj x i := by unfold blj; rw [List.getElem?_append_left h]
theorem bl_s (c : UInt8) (l : List UInt8) (i : Nat) : blj (c :: l) (i + 1) = blj l i := by unfold blj; rw [List.getElem?_cons_succ]
theorem lng_app (r x y : List UInt8) : lng r (x ++ y) = lng r x ++ lng r y := by
  induction x with
  | nil => rfl
  | cons c x ih => rw [List.cons_append, lng, lng, ih]; simp
theorem stp_c {c : UInt8} (h : stp c.toNat = false) : ¬ (c = 32 ∨ c = 10) := by
  rintro (rfl | rfl) <;> revert h <;> decide
theorem lng_al (r : List UInt8) : ∀ (cs : List UInt8) (i : Nat), (∀ j, j < i → stp (blj cs j) = false) → blj (lng r cs) i = blj cs i
  | [], i, _ => rfl
  | c :: cs, 0, _ => rfl
  | c :: cs, i + 1, h => by
    have h0 : stp c.toNat = false := h 0 (by omega)
    rw [lng, if_neg (stp_c h0), List.nil_append, bl_s, bl_s]
    exact lng_al r cs i fun j hj => by have := h (j + 1) (by omega); rw [bl_s] at this; exact this
section
variable {s T : ByteArray} {r : List UInt8}
def pos (s : ByteArray) (r : List UInt8) (a : Nat) : Nat := (lng r (s.data.toList.take a)).length
theorem bt_T (hT : T.data.toList = lng r s.data.toList) (a i : Nat) : bt T (pos s r a + i) = blj (lng r (s.data.toList.drop a)) i := by
  have : bt T (pos s r a + i) = blj (lng r (s.data.toList.take a) ++ lng r (s.data.toList.drop a)) (pos s r a + i) := by
    rw [← lng_app, List.take_append_drop, ← hT]; exact bt_list T _
  rw [this]; exact bl_app _ _ _
theorem bt_S (a i : Nat) : bt s (a + i) = blj (s.data.toList.drop a) i := by rw [bt_list]; unfold blj; rw [List.getElem?_drop]
theorem al_T (hT : T.data.toList = lng r s.data.toList) (a : Nat) : Al s T a (pos s r a) := by
  intro i hi
  rw [bt_T hT, bt_S]
  exact lng_al r _ i fun j hj => by rw [← bt_S]; exact hi j hj
theorem pos_s {a : Nat} (h : a < s.size) : pos s r (a + 1) = pos s r a + (1 + (if bt s a = 32 ∨ bt s a = 10 then r.length + 5 else 0)) := by
  have hl : a < s.data.toList.length := by rw [← size_list]; exact h
  have hb : bt s a = (s.data.toList[a]).toNat := by rw [bt_list, List.getElem?_eq_getElem hl]; rfl
  unfold pos
  rw [List.take_succ_eq_append_getElem hl, lng_app, List.length_append, lng, lng, List.append_nil, List.length_cons, hb]
  generalize s.data.toList[a] = c
  by_cases hc : c = 32 ∨ c = 10
  · rw [if_pos hc, if_pos (by rcases hc with rfl | rfl; exact Or.inl rfl; exact Or.inr rfl)]; simp; omega
  · rw [if_neg hc, if_neg (fun hh => hc (by rcases hh with hh | hh; exact Or.inl (UInt8.toNat_inj.1 hh); exact Or.inr (UInt8.toNat_inj.1 hh)))]; simp
theorem pos_run {a : Nat} : ∀ n, (∀ j, a ≤ j → j < a + n → stp (bt s j) = false) → pos s r (a + n) = pos s r a + n
  | 0, _ => rfl
  | n + 1, h => by
    have hn := h (a + n) (by omega) (by omega)
    have hin : a + n < s.size := in_of_bt (fun e => by rw [e] at hn; exact absurd hn (by decide))
    rw [show a + (n + 1) = a + n + 1 by omega, pos_s hin, pos_run n (fun j j1 j2 => h j j1 (by omega)), if_neg (fun hh => by rcases hh with hh | hh <;> rw [hh] at hn <;> exact absurd hn (by decide))]
    omega
theorem pos_end (hT : T.data.toList = lng r s.data.toList) : pos s r s.size = T.size := by
  unfold pos; rw [size_list, List.take_length, ← hT, size_list]
end
end Go.Proofs.YtcifeankgnjndaaGreatDoor
namespace Go.Proofs.YtcifeankgnjndaaGreatDoor
set_option maxRecDepth 100000

/-- a word without its place -/
def er (x : Wd) : Nat × ByteArray × Nat := (x.k, x.t, x.n)
theorem sim_of {l l' : List Wd} (h : l.map er = l'.map er) : Sim l l' := by
  have hl : l'.length = l.length := by have := congrArg List.length h; simpa using this.symm
  have hw : ∀ i, er (wat l' i) = er (wat l i) := fun i => by
    have := congrArg (fun m => m[i]?) h
    simp only [List.getElem?_map] at this
    unfold wat
    rw [List.getD_eq_getElem?_getD, List.getD_eq_getElem?_getD]
    cases h1 : l[i]? with
    | none => rw [h1] at this; cases h2 : l'[i]? with
      | none => rfl
      | some y => rw [h2] at this; cases this
    | some x => rw [h1] at this; cases h2 : l'[i]? with
      | none => rw [h2] at this; cases this
      | some y => rw [h2] at this; exact (Option.some.inj this).symm
  exact ⟨hl, fun i => congrArg (fun x => x.2.1) (hw i), fun i => congrArg (fun x => x.1) (hw i), fun i => congrArg (fun x => x.2.2) (hw i)⟩
section
variable {s T : ByteArray} {r : List UInt8}
/-- behind a blank that is made longer -/
theorem sc_ins (hT : T.data.toList = lng r s.data.toList) (hr : ∀ c ∈ r, c ≠ 10) {a : Nat} (ha : a < s.size) (hc : bt s a = 32 ∨ bt s a = 10) (acc : List Wd) : sc T (pos s r a + 1) acc = sc T (pos s r (a + 1)) acc := by
  have hl : a < s.data.toList.length := by rw [← size_list]; exact ha
  have hb : bt s a = (s.data.toList[a]).toNat := by rw [bt_list, List.getElem?_eq_getElem hl]; rfl
  have hd : s.data.toList.drop a = s.data.toList[a] :: s.data.toList.drop (a + 1) := List.drop_eq_getElem_cons hl
  have hc' : s.data.toList[a] = 32 ∨ s.data.toList[a] = 10 := by
    rw [hb] at hc
    rcases hc with h | h
    · exact Or.inl (UInt8.toNat_inj.1 h)
    · exact Or.inr (UInt8.toNat_inj.1 h)
  have hB : ∀ i, bt T (pos s r a + (i + 1)) = blj ([9, 32, 35] ++ (r ++ [10, 32]) ++ lng r (s.data.toList.drop (a + 1))) i := fun i => by
    rw [bt_T hT, hd, lng, if_pos hc', bl_s]
  have b1 : bt T (pos s r a + 1) = 9 := hB 0
  have b2 : bt T (pos s r a + 1 + 1) = 32 := hB 1
  have b3 : bt T (pos s r a + 1 + 1 + 1) = 35 := hB 2
  have hR : ∀ i, bt T (pos s r a + 4 + i) = blj (r ++ ([10, 32] ++ lng r (s.data.toList.drop (a + 1)))) i := fun i => by
    rw [show pos s r a + 4 + i = pos s r a + (3 + i + 1) by omega, hB, List.append_assoc, List.append_assoc]
    exact bl_app [9, 32, 35] _ i
  have b4 : bt T (pos s r a + 4 + r.length) = 10 := by
    rw [hR, show r.length = r.length + 0 from rfl, bl_app]; rfl
  have b5 : bt T (pos s r a + 4 + r.length + 1) = 32 := by
    rw [show pos s r a + 4 + r.length + 1 = pos s r a + 4 + (r.length + 1) by omega, hR, bl_app]; rfl
  have hre : rE nNL T (pos s r a + 1 + 1 + 1 + 1) = pos s r a + 4 + r.length := by
    refine rE_eq nNL256 (by omega) (fun j j1 j2 => ?_) (by rw [b4]; decide)
    obtain ⟨i, rfl⟩ : ∃ i, j = pos s r a + 4 + i := ⟨j - (pos s r a + 4), by omega⟩
    have hi : i < r.length := by omega
    rw [hR, bl_left _ hi]
    unfold blj
    rw [List.getElem?_eq_getElem hi]
    have hne := hr _ (List.getElem_mem hi)
    have hlt := (r[i]).toNat_lt
    show nNL (r[i]).toNat = true
    have : (r[i]).toNat ≠ 10 := fun h => hne (UInt8.toNat_inj.1 h)
    unfold nNL
    simp
    exact ⟨this, hlt⟩
  rw [sc_blk (by rw [b1]; decide), sc_blk (by rw [b2]; decide), sc_rem b3, hre, sc_blk (by rw [b4]; decide), sc_blk (by rw [b5]; decide), pos_s ha, if_pos hc]
  congr 1
  omega
theorem sc_lng (hT : T.data.toList = lng r s.data.toList) (hr : ∀ c ∈ r, c ≠ 10) (h35 : ∀ i, bt s i ≠ 35) : ∀ n a acc acc', s.size - a ≤ n → a ≤ s.size → acc.map er = acc'.map er →
    (∃ l l', sc s a acc = .ok l ∧ sc T (pos s r a) acc' = .ok l' ∧ l.map er = l'.map er) ∨ ∃ c x t c' x' t', sc s a acc = .no c x t ∧ sc T (pos s r a) acc' = .no c' x' t' := by
  intro n
  induction n with
  | zero =>
    intro a acc acc' hn ha he
    obtain rfl : a = s.size := by omega
    refine Or.inl ⟨_, _, sc_end (by omega), sc_end (by rw [pos_end hT]; omega), ?_⟩
    rw [List.map_append, List.map_append, he]; rfl
  | succ n ih =>
    intro a acc acc' hn ha he
    by_cases hlt : a < s.size
    · have hal := al_T hT a
      have hb0 : bt T (pos s r a) = bt s a := by have := hal 0 (fun j hj => by omega); simpa using this
      have hpT : pos s r a < T.size := in_of_bt (by rw [hb0]; have := bt_lt (s := s) (i := a) hlt; omega)
      by_cases hbk : blk (bt s a) = true
      · rw [sc_blk hbk, sc_blk (a := pos s r a) (by rw [hb0]; exact hbk)]
        have hnx : sc T (pos s r a + 1) acc' = sc T (pos s r (a + 1)) acc' := by
          by_cases hc : bt s a = 32 ∨ bt s a = 10
          · exact sc_ins hT hr hlt hc acc'
          · rw [pos_s hlt, if_neg hc]
        rw [hnx]
        exact ih (a + 1) acc acc' (by omega) (by omega) he
      · have hbf : blk (bt s a) = false := by simpa using hbk
        by_cases hc : (one s a).c = 0
        · cases ho : one s a with
          | mk k e m c =>
            rw [ho] at hc
            obtain rfl : c = 0 := hc
            have oks := one_ok hlt
            rw [ho] at oks
            have hgt : a < e := oks.gt
            have hle : e ≤ s.size := oks.le
            have ho2 := one_al hlt hal ho
            have okT := one_ok hpT
            rw [ho2] at okT
            have hle2 : pos s r a + (e - a) ≤ T.size := okT.le
            have hnb := one_nb ho
            have hpe : pos s r e = pos s r a + (e - a) := by
              have := pos_run (s := s) (r := r) (a := a) (e - a) (fun j j1 j2 => hnb j j1 (by omega))
              rw [show a + (e - a) = e by omega] at this
              exact this
            have hext : T.extract (pos s r a) (pos s r a + (e - a)) = s.extract a (a + (e - a)) := ext_same (fun i hi => hal i fun j hj => hnb (a + j) (by omega) (by omega)) hle2 (by omega)
            rw [show a + (e - a) = e by omega] at hext
            rw [sc_wd hlt hbf (h35 a) (by rw [ho]), sc_wd hpT (by rw [hb0]; exact hbf) (by rw [hb0]; exact h35 a) (by rw [ho2]), ho, ho2]
            show (∃ l l', sc s e _ = .ok l ∧ sc T (pos s r a + (e - a)) _ = .ok l' ∧ _) ∨ ∃ c x t c' x' t', sc s e _ = .no c x t ∧ sc T (pos s r a + (e - a)) _ = .no c' x' t'
            rw [← hpe]
            refine ih e _ _ (by omega) hle ?_
            rw [List.map_append, List.map_append, he]
            congr 1
            show [(k, s.extract a e, m)] = [(k, T.extract (pos s r a) (pos s r e), m)]
            rw [hpe, hext]
        · exact Or.inr ⟨_, _, _, _, _, _, sc_no hlt hbf (h35 a) hc, sc_no hpT (by rw [hb0]; exact hbf) (by rw [hb0]; exact h35 a) (one_al_no hpT hal hc)⟩
    · obtain rfl : a = s.size := by omega
      refine Or.inl ⟨_, _, sc_end (by omega), sc_end (by rw [pos_end hT]; omega), ?_⟩
      rw [List.map_append, List.map_append, he]; rfl
/-- BLANKS AND REMARKS MAKE NO DIFFERENCE. -/
theorem prs_lng (hT : T.data.toList = lng r s.data.toList) (hr : ∀ c ∈ r, c ≠ 10) (h35 : ∀ i, bt s i ≠ 35) (hs : s.size ≤ 65536) (hs' : T.size ≤ 65536) : (∃ p, prs s = .ok p ∧ prs T = .ok p) ∨ ∃ c a t c' a' t', prs s = .no c a t ∧ prs T = .no c' a' t' := by
  have h0 : pos s r 0 = 0 := rfl
  have h := sc_lng hT hr h35 s.size 0 [] [] (by omega) (by omega) rfl
  rw [h0] at h
  unfold prs all
  rw [if_neg (by omega), if_neg (by omega)]
  rcases h with ⟨l, l', h1, h2, h3⟩ | ⟨c, x, t, c', x', t', h1, h2⟩
  · rw [h1, h2]
    exact rdW_sim (sim_of h3)
  · rw [h1, h2]
    exact Or.inr ⟨_, _, _, _, _, _, rfl, rfl⟩
end
end Go.Proofs.YtcifeankgnjndaaGreatDoor
