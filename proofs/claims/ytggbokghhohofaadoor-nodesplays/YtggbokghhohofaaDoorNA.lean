/-
  Plain: which settings are some; the order of settings and of rows; a row in order; rows in order, each once (canon); what is left of a list where of those side by side that are alike one stays (cpt). No condition.
-/
import Derived.Test.YtggbokghhohofaaDoorA1
import Derived.Sort.LotA
namespace Go.Proofs.YtggbokghhohofaaDoor
open Go.RowKit

def wdt : Nat → Nat
  | 0 => 48 | 1 => 48 | 2 => 16 | 3 => 12 | 4 => 32 | 5 => 32 | 6 => 8 | 7 => 16 | 8 => 16 | 9 => 16 | 10 => 16 | _ => 0
def fitB (fd n : Int) : Bool := decide (0 ≤ fd) && decide (fd < 11) && decide (n / 2 ^ wdt fd.toNat = 0)
def okS (a : Ac) : Bool := decide (a.dw = 0) && fitB a.fd a.n
def cmpI (x y : Int) : Int := if x < y then -1 else if y < x then 1 else 0
def orI (x y : Int) : Int := if x = 0 then y else x
def cmpF (a b : Ac) : Int := cmpI a.fd b.fd
def cmpS (a b : Ac) : Int := orI (cmpI a.fd b.fd) (cmpI a.n b.n)
def cmpR : List Ac → List Ac → Int
  | [], [] => 0
  | [], _ :: _ => -1
  | _ :: _, [] => 1
  | a :: l, b :: m => if cmpS a b = 0 then cmpR l m else cmpS a b
def ltP (a b : Ac) : Prop := a.fd < b.fd ∨ (a.fd = b.fd ∧ a.n < b.n)
theorem cmpI_lt {x y : Int} : cmpI x y < 0 ↔ x < y := by unfold cmpI; split <;> (try split) <;> omega
theorem cmpI_eq {x y : Int} : cmpI x y = 0 ↔ x = y := by unfold cmpI; split <;> (try split) <;> omega
theorem cmpS_cases (a b : Ac) : (ltP a b ∧ cmpS a b = -1) ∨ ((a.fd = b.fd ∧ a.n = b.n) ∧ cmpS a b = 0) ∨ (ltP b a ∧ cmpS a b = 1) := by
  unfold cmpS orI cmpI ltP
  rcases Int.lt_trichotomy a.fd b.fd with h | h | h <;> rcases Int.lt_trichotomy a.n b.n with h2 | h2 | h2 <;> simp [h, h2] <;> omega
def ltR : List Ac → List Ac → Prop
  | _, [] => False
  | [], _ :: _ => True
  | a :: l, b :: m => ltP a b ∨ ((a.fd = b.fd ∧ a.n = b.n) ∧ ltR l m)
def eqR (l m : List Ac) : Prop := l.map (fun a => (a.fd, a.n)) = m.map (fun a => (a.fd, a.n))
theorem cmpR_cases : ∀ l m : List Ac, (ltR l m ∧ cmpR l m = -1) ∨ (eqR l m ∧ cmpR l m = 0) ∨ (ltR m l ∧ cmpR l m = 1)
  | [], [] => by simp [cmpR, eqR]
  | [], _ :: _ => by simp [cmpR, ltR]
  | _ :: _, [] => by simp [cmpR, ltR]
  | a :: l, b :: m => by
    have ih := cmpR_cases l m
    rcases cmpS_cases a b with ⟨h, e⟩ | ⟨h, e⟩ | ⟨h, e⟩
    · exact Or.inl ⟨Or.inl h, by simp [cmpR, e]⟩
    · have he : cmpR (a :: l) (b :: m) = cmpR l m := by simp [cmpR, e]
      rw [he]
      rcases ih with ⟨h1, h2⟩ | ⟨h1, h2⟩ | ⟨h1, h2⟩
      · exact Or.inl ⟨Or.inr ⟨h, h1⟩, h2⟩
      · exact Or.inr (Or.inl ⟨by unfold eqR at *; simp [h.1, h.2, h1], h2⟩)
      · exact Or.inr (Or.inr ⟨Or.inr ⟨⟨h.1.symm, h.2.symm⟩, h1⟩, h2⟩)
    · exact Or.inr (Or.inr ⟨Or.inl h, by simp [cmpR, e]⟩)
theorem ltR_irrefl : ∀ l, ¬ ltR l l
  | [], h => by simp [ltR] at h
  | a :: l, h => by
    rcases h with h | h
    · unfold ltP at h; omega
    · exact ltR_irrefl l h.2
theorem ltR_trans : ∀ {a b c : List Ac}, ltR a b → ltR b c → ltR a c
  | _, _, [], _, h2 => by simp [ltR] at h2
  | _, [], _, h1, _ => by simp [ltR] at h1
  | [], _ :: _, _ :: _, _, _ => trivial
  | a :: l, b :: m, c :: n, h1, h2 => by
    rcases h1 with h1 | ⟨h1, h3⟩ <;> rcases h2 with h2 | ⟨h2, h4⟩
    · exact Or.inl (by unfold ltP at *; omega)
    · exact Or.inl (by unfold ltP at *; omega)
    · exact Or.inl (by unfold ltP at *; omega)
    · exact Or.inr ⟨by omega, ltR_trans h3 h4⟩
theorem eqR_cons {a b : Ac} {l m : List Ac} : eqR (a :: l) (b :: m) ↔ (a.fd = b.fd ∧ a.n = b.n) ∧ eqR l m := by unfold eqR; simp
theorem ltR_eqL : ∀ {a b c : List Ac}, eqR a b → ltR b c → ltR a c
  | _, _, [], _, h2 => by simp [ltR] at h2
  | [], [], _ :: _, _, _ => trivial
  | [], _ :: _, _, h, _ => by simp [eqR] at h
  | _ :: _, [], _, h, _ => by simp [eqR] at h
  | a :: l, b :: m, c :: n, h1, h2 => by
    obtain ⟨h3, h4⟩ := eqR_cons.1 h1
    rcases h2 with h2 | ⟨h2, h5⟩
    · exact Or.inl (by unfold ltP at *; omega)
    · exact Or.inr ⟨by omega, ltR_eqL h4 h5⟩
theorem ltR_eqR : ∀ {a b c : List Ac}, ltR a b → eqR b c → ltR a c
  | _, [], _, h1, _ => by simp [ltR] at h1
  | _, _ :: _, [], _, h => by simp [eqR] at h
  | [], _ :: _, _ :: _, _, _ => trivial
  | a :: l, b :: m, c :: n, h1, h2 => by
    obtain ⟨h3, h4⟩ := eqR_cons.1 h2
    rcases h1 with h1 | ⟨h1, h5⟩
    · exact Or.inl (by unfold ltP at *; omega)
    · exact Or.inr ⟨by omega, ltR_eqR h5 h4⟩
theorem ltR_iff {l m : List Ac} : cmpR l m < 0 ↔ ltR l m := by
  rcases cmpR_cases l m with ⟨h, e⟩ | ⟨h, e⟩ | ⟨h, e⟩
  · simp [h, e]
  · rw [e]; simp; exact fun h2 => ltR_irrefl l (ltR_eqR h2 (by unfold eqR at *; exact h.symm))
  · rw [e]; simp; exact fun h2 => ltR_irrefl l (ltR_trans h2 h)
theorem eqR_iff {l m : List Ac} : cmpR l m = 0 ↔ eqR l m := by
  rcases cmpR_cases l m with ⟨h, e⟩ | ⟨h, e⟩ | ⟨h, e⟩
  · rw [e]; simp; exact fun h2 => ltR_irrefl l (ltR_eqR h (by unfold eqR at *; exact h2.symm))
  · simp [h, e]
  · rw [e]; simp; exact fun h2 => ltR_irrefl m (ltR_eqR h h2)
theorem ltR_or (l m : List Ac) : ltR l m ∨ eqR l m ∨ ltR m l := by
  rcases cmpR_cases l m with ⟨h, _⟩ | ⟨h, _⟩ | ⟨h, _⟩
  · exact Or.inl h
  · exact Or.inr (Or.inl h)
  · exact Or.inr (Or.inr h)
theorem ltR_neg {x y z : List Ac} (h1 : ¬ ltR x y) (h2 : ¬ ltR y z) : ¬ ltR x z := fun h => by
  rcases ltR_or x y with h3 | h3 | h3
  · exact h1 h3
  · exact h2 (ltR_eqL (by unfold eqR at *; exact h3.symm) h)
  · exact h2 (ltR_trans h3 h)
/-- a row of settings of which no field stands twice, by rising fields -/
def srt (l : List Ac) : List Ac := l.mergeSort fun a b => decide (a.fd ≤ b.fd)
theorem srt_perm (l : List Ac) : (srt l).Perm l := List.mergeSort_perm _ _
theorem srt_sorted (l : List Ac) : (srt l).Pairwise fun a b => a.fd ≤ b.fd := by
  have := List.pairwise_mergeSort (le := fun (a b : Ac) => decide (a.fd ≤ b.fd)) (fun a b c h1 h2 => by simp at *; omega) (fun a b => by simp; omega) l
  exact this.imp fun h => by simpa using h
theorem nodup_perm {l m : List Ac} (hp : l.Perm m) (h : (m.map (·.fd)).Nodup) : (l.map (·.fd)).Nodup := (hp.map (·.fd)).nodup_iff.2 h
theorem srt_strict {l : List Ac} (h : (l.map (·.fd)).Nodup) : (srt l).Pairwise fun a b => a.fd < b.fd := by
  have h1 := nodup_perm (srt_perm l) h
  have h2 : (srt l).Pairwise fun a b => a.fd ≠ b.fd := (List.pairwise_map.1 h1)
  exact ((srt_sorted l).and h2).imp fun h => by omega
theorem srt_uniq {l m : List Ac} (hn : (m.map (·.fd)).Nodup) (hp : l.Perm m) (hs : l.Pairwise fun a b => a.fd ≤ b.fd) : l = srt m := by
  have h1 : l.Pairwise fun a b => a.fd < b.fd := by
    have h2 : l.Pairwise fun a b => a.fd ≠ b.fd := (List.pairwise_map.1 (nodup_perm hp hn))
    exact (hs.and h2).imp fun h => by omega
  exact List.Perm.eq_of_pairwise (fun a b _ _ h1 h2 => by omega) h1 (srt_strict hn) (hp.trans (srt_perm m).symm)
/-- of those side by side that are alike one stays -/
def cptA {α : Type} (q : α → α → Bool) : α → List α → List α
  | _, [] => []
  | p, b :: l => if q b p then cptA q b l else b :: cptA q b l
def cpt {α : Type} (q : α → α → Bool) : List α → List α
  | [] => []
  | a :: l => a :: cptA q a l
theorem cptA_le {α : Type} (q : α → α → Bool) : ∀ (p : α) (l : List α), (cptA q p l).length ≤ l.length
  | _, [] => Nat.le_refl _
  | p, b :: l => by
    have := cptA_le q b l
    unfold cptA; split <;> simp <;> omega
theorem cpt_le {α : Type} (q : α → α → Bool) (l : List α) : (cpt q l).length ≤ l.length := by
  cases l with
  | nil => simp [cpt]
  | cons a l => have := cptA_le q a l; simp [cpt]; omega
theorem cptA_mem {α : Type} (q : α → α → Bool) : ∀ (p : α) (l : List α) (x : α), x ∈ cptA q p l → x ∈ l
  | _, [], _, h => h
  | p, b :: l, x, h => by
    unfold cptA at h
    split at h
    · exact List.mem_cons_of_mem _ (cptA_mem q b l x h)
    · rcases List.mem_cons.1 h with rfl | h
      · exact List.mem_cons_self
      · exact List.mem_cons_of_mem _ (cptA_mem q b l x h)
theorem cpt_mem {α : Type} (q : α → α → Bool) (l : List α) (x : α) (h : x ∈ cpt q l) : x ∈ l := by
  cases l with
  | nil => exact h
  | cons a l =>
    rcases List.mem_cons.1 h with rfl | h
    · exact List.mem_cons_self
    · exact List.mem_cons_of_mem _ (cptA_mem q a l x h)
def adj {α : Type} (q : α → α → Bool) : α → List α → Bool
  | _, [] => false
  | p, b :: l => q b p || adj q b l
theorem cptA_same {α : Type} (q : α → α → Bool) : ∀ (p : α) (l : List α), adj q p l = false → cptA q p l = l
  | _, [], _ => rfl
  | p, b :: l, h => by
    simp only [adj, Bool.or_eq_false_iff] at h
    rw [cptA, h.1, cptA_same q b l h.2]; rfl
theorem cptA_less {α : Type} (q : α → α → Bool) : ∀ (p : α) (l : List α), adj q p l = true → (cptA q p l).length < l.length
  | _, [], h => by cases h
  | p, b :: l, h => by
    unfold cptA
    split
    · have := cptA_le q b l; simp; omega
    · rename_i hq
      simp only [adj, hq, Bool.false_or] at h
      have := cptA_less q b l h
      simp; exact this
/-- settings by rising fields: of each field one stays -/
theorem cpt_row {l m : List Ac} (hp : l.Perm m) (hs : l.Pairwise fun a b => a.fd ≤ b.fd) : if (m.map (·.fd)).Nodup then cpt (fun a b => decide (cmpF a b = 0)) l = srt m else (cpt (fun a b => decide (cmpF a b = 0)) l).length < m.length := by
  have key : ∀ (p : Ac) (l : List Ac), (p :: l).Pairwise (fun a b => a.fd ≤ b.fd) → (adj (fun a b => decide (cmpF a b = 0)) p l = false ↔ ((p :: l).map (·.fd)).Nodup) := by
    intro p l
    induction l generalizing p with
    | nil => simp [adj]
    | cons b l ih =>
      intro h
      have h2 := List.pairwise_cons.1 h
      have h3 := List.pairwise_cons.1 h2.2
      have := ih b h2.2
      simp only [adj, Bool.or_eq_false_iff, this]
      rw [List.map_cons (l := b :: l), List.nodup_cons]
      have e : (decide (cmpF b p = 0) = false) ↔ p.fd ∉ (b :: l).map (·.fd) := by
        have hpb := h2.1 b List.mem_cons_self
        simp only [cmpF, cmpI_eq, decide_eq_false_iff_not, List.map_cons, List.mem_cons, List.mem_map, not_or, not_exists, not_and]
        constructor
        · intro hne
          refine ⟨fun e => hne e.symm, fun x hx e => ?_⟩
          have := h3.1 x hx; omega
        · intro h4 e; exact h4.1 e.symm
      rw [e]
  split
  · rename_i hn
    have hu := srt_uniq hn hp hs
    have hl : (l.map (·.fd)).Nodup := nodup_perm hp hn
    rw [← hu]
    cases l with
    | nil => rfl
    | cons a l =>
      rw [cpt, cptA_same _ _ _ ((key a l hs).2 hl)]
  · rename_i hn
    have hl : ¬ (l.map (·.fd)).Nodup := fun h => hn (nodup_perm hp.symm h)
    rw [← hp.length_eq]
    cases l with
    | nil => exact absurd (by simp) hl
    | cons a l =>
      have h1 : adj (fun a b => decide (cmpF a b = 0)) a l = true := by
        by_cases e : adj (fun a b => decide (cmpF a b = 0)) a l = true
        · exact e
        · exact absurd ((key a l hs).1 (by simpa using e)) hl
      have := cptA_less _ _ _ h1
      simp [cpt]; exact this
/-- a row among rows in order, each once -/
def insR (r : List Ac) : List (List Ac) → List (List Ac)
  | [] => [r]
  | x :: l => if cmpR x r < 0 then x :: insR r l else if cmpR x r = 0 then x :: l else r :: x :: l
def canon (L : List (List Ac)) : List (List Ac) := L.foldl (fun acc r => insR r acc) []
/-- settings of one kind -/
def Kd (L : List (List Ac)) : Prop := ∀ r ∈ L, ∀ a ∈ r, a.dw = 0
theorem eqR_eq : ∀ {l m : List Ac}, (∀ a ∈ l, a.dw = 0) → (∀ a ∈ m, a.dw = 0) → eqR l m → l = m
  | [], [], _, _, _ => rfl
  | [], _ :: _, _, _, h => by simp [eqR] at h
  | _ :: _, [], _, _, h => by simp [eqR] at h
  | a :: l, b :: m, h1, h2, h => by
    obtain ⟨h3, h4⟩ := eqR_cons.1 h
    have e1 := h1 a List.mem_cons_self
    have e2 := h2 b List.mem_cons_self
    have := eqR_eq (fun x hx => h1 x (List.mem_cons_of_mem _ hx)) (fun x hx => h2 x (List.mem_cons_of_mem _ hx)) h4
    obtain ⟨d, f, n⟩ := a
    obtain ⟨d', f', n'⟩ := b
    simp at h3 e1 e2
    obtain ⟨rfl, rfl⟩ := h3
    rw [e1, e2, this]
theorem insR_mem {r : List Ac} : ∀ {l : List (List Ac)}, Kd (r :: l) → ∀ x, x ∈ insR r l ↔ x = r ∨ x ∈ l
  | [], _, x => by simp [insR]
  | y :: l, hk, x => by
    have ih := insR_mem (r := r) (l := l) (fun z hz => hk z (by rcases List.mem_cons.1 hz with h | h <;> simp [h]))
    unfold insR
    split
    · simp only [List.mem_cons, ih x]
      constructor
      · rintro (h | h | h) <;> simp [h]
      · rintro (h | h | h) <;> simp [h]
    · split
      · rename_i h
        have : y = r := eqR_eq (hk y (by simp)) (hk r (by simp)) (eqR_iff.1 h)
        simp [this]
      · simp
theorem insR_sorted {r : List Ac} : ∀ {l : List (List Ac)}, Kd (r :: l) → l.Pairwise ltR → (insR r l).Pairwise ltR
  | [], _, _ => by simp [insR]
  | y :: l, hk, h => by
    have hk2 : Kd (r :: l) := fun z hz => hk z (by rcases List.mem_cons.1 hz with h | h <;> simp [h])
    have h2 := List.pairwise_cons.1 h
    unfold insR
    split
    · rename_i hlt
      refine List.pairwise_cons.2 ⟨fun z hz => ?_, insR_sorted hk2 h2.2⟩
      rcases (insR_mem hk2 z).1 hz with rfl | hz
      · exact ltR_iff.1 hlt
      · exact h2.1 z hz
    · split
      · exact h
      · rename_i h3 h4
        have h5 : ltR r y := by
          rcases ltR_or y r with h6 | h6 | h6
          · exact absurd (ltR_iff.2 h6) h3
          · exact absurd (eqR_iff.2 h6) h4
          · exact h6
        refine List.pairwise_cons.2 ⟨fun z hz => ?_, h⟩
        rcases List.mem_cons.1 hz with rfl | hz
        · exact h5
        · exact ltR_trans h5 (h2.1 z hz)
theorem canon_aux : ∀ (L acc : List (List Ac)), Kd (L ++ acc) → acc.Pairwise ltR → (L.foldl (fun acc r => insR r acc) acc).Pairwise ltR ∧ ∀ x, x ∈ L.foldl (fun acc r => insR r acc) acc ↔ x ∈ L ∨ x ∈ acc
  | [], acc, _, h => ⟨h, fun x => by simp⟩
  | r :: L, acc, hk, h => by
    have hk1 : Kd (r :: acc) := fun z hz => hk z (by rcases List.mem_cons.1 hz with h | h <;> simp [h])
    have hm := fun x => insR_mem hk1 x
    have ih := canon_aux L (insR r acc) (fun z hz => by
      rcases List.mem_append.1 hz with h1 | h1
      · exact hk z (by simp [h1])
      · rcases (hm z).1 h1 with rfl | h2
        · exact hk _ (by simp)
        · exact hk z (by simp [h2])) (insR_sorted hk1 h)
    refine ⟨ih.1, fun x => ?_⟩
    rw [List.foldl_cons, ih.2 x, hm x, List.mem_cons]
    constructor
    · rintro (h | h | h) <;> simp [h]
    · rintro ((h | h) | h) <;> simp [h]
theorem canon_sorted {L : List (List Ac)} (hk : Kd L) : (canon L).Pairwise ltR := (canon_aux L [] (by simpa using hk) List.Pairwise.nil).1
theorem canon_mem {L : List (List Ac)} (hk : Kd L) (x : List Ac) : x ∈ canon L ↔ x ∈ L := by have := (canon_aux L [] (by simpa using hk) List.Pairwise.nil).2 x; simpa [canon] using this
theorem strict_uniq {l m : List (List Ac)} (hl : l.Pairwise ltR) (hm : m.Pairwise ltR) (h : ∀ x, x ∈ l ↔ x ∈ m) : l = m := by
  have n1 : l.Nodup := hl.imp fun h e => by subst e; exact ltR_irrefl _ h
  have n2 : m.Nodup := hm.imp fun h e => by subst e; exact ltR_irrefl _ h
  exact List.Perm.eq_of_pairwise (fun a b _ _ h1 h2 => absurd (ltR_trans h1 h2) (ltR_irrefl a)) hl hm ((List.perm_ext_iff_of_nodup n1 n2).2 h)
/-- rows by order: of each one stays -/
theorem cpt_rows {l m : List (List Ac)} (hk : Kd m) (hp : l.Perm m) (hs : l.Pairwise fun a b => ¬ ltR b a) : cpt (fun a b => decide (cmpR a b = 0)) l = canon m := by
  have hkl : Kd l := fun r hr => hk r (hp.mem_iff.1 hr)
  have key : ∀ (p : List Ac) (l : List (List Ac)), Kd (p :: l) → (p :: l).Pairwise (fun a b => ¬ ltR b a) → (p :: cptA (fun a b => decide (cmpR a b = 0)) p l).Pairwise ltR ∧ ∀ x, x ∈ p :: cptA (fun a b => decide (cmpR a b = 0)) p l ↔ x ∈ p :: l := by
    intro p l
    induction l generalizing p with
    | nil => intro _ _; simp [cptA]
    | cons b l ih =>
      intro hk h
      have h2 := List.pairwise_cons.1 h
      have hkb : Kd (b :: l) := fun z hz => hk z (List.mem_cons_of_mem _ hz)
      have ihb := ih b hkb h2.2
      have h3 := List.pairwise_cons.1 ihb.1
      unfold cptA
      by_cases e : cmpR b p = 0
      · have hbp : b = p := eqR_eq (hk b (by simp)) (hk p (by simp)) (eqR_iff.1 e)
        subst hbp
        simp only [e, decide_true, if_true]
        exact ⟨ihb.1, fun x => by rw [ihb.2 x]; simp⟩
      · simp only [e, decide_false, Bool.false_eq_true, if_false]
        have hpb : ltR p b := by
          rcases ltR_or b p with h6 | h6 | h6
          · exact absurd h6 (h2.1 b List.mem_cons_self)
          · exact absurd (eqR_iff.2 h6) e
          · exact h6
        refine ⟨List.pairwise_cons.2 ⟨fun z hz => ?_, ihb.1⟩, fun x => ?_⟩
        · rcases List.mem_cons.1 hz with rfl | hz
          · exact hpb
          · exact ltR_trans hpb (h3.1 z hz)
        · rw [List.mem_cons, ihb.2 x, List.mem_cons (l := b :: l)]
  have hc := canon_sorted hk
  cases l with
  | nil =>
    have : m = [] := List.Perm.eq_nil hp.symm
    subst this; rfl
  | cons a l =>
    have := key a l hkl hs
    exact strict_uniq this.1 hc fun x => by rw [show cpt (fun a b => decide (cmpR a b = 0)) (a :: l) = a :: cptA (fun a b => decide (cmpR a b = 0)) a l from rfl, this.2 x, canon_mem hk, hp.mem_iff]
/-- Rows as a leaf has them. -/
def rowOk (r : List Ac) : Bool := r.all okS && decide ((r.map (·.fd)).Nodup)
def nrows (L : List (List Ac)) : Option (List (List Ac)) := if L.all rowOk then some (canon (L.map srt)) else none
end Go.Proofs.YtggbokghhohofaaDoor
