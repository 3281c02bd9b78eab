/-
  Plain: which terms are some; a term's plain form, as the program and as the document tell it: it is one of its side, no greater, no deeper, and its own plain form; both are the same. No condition.
-/
import Derived.Test.YtjallmncajhamaaDoorT1
namespace Go.Proofs.YtjallmncajhamaaDoor

def Tm.ks : Tm → List Tm
  | .mk _ _ _ ks => ks
/-- the Op of a term, or of what it filters -/
def hdk : List Tm → Nat
  | [] => 6
  | k :: _ => k.op
def hd (t : Tm) : Nat := if t.op = 6 then hdk t.ks else t.op
theorem hd_six (fd n : Nat) (ks : List Tm) : hd (.mk 6 fd n ks) = hdk ks := rfl
theorem hd_not {t : Tm} (h : t.op ≠ 6) : hd t = t.op := by unfold hd; rw [if_neg h]
def lst1 : Nat → Nat
  | 3 => 1 | 4 => 1 | 5 => 1 | 6 => 1 | 8 => 1 | 9 => 1 | 10 => 1 | _ => 0
def sett (fd : Nat) : Bool := decide (fd = 0) || decide (fd = 1) || decide (fd = 4) || decide (fd = 5) || decide (fd = 7) || decide (fd = 8) || decide (fd = 9)
/-- Field and N of an Op -/
def nwT (op fd n : Nat) : Bool :=
  if op = 2 then decide (fd ≤ 10) && decide (fd ≠ 3) && decide (n < 2 ^ wdt fd)
  else if op = 7 then sett fd && decide (n < 2 ^ wdt fd) && (decide (fd ≠ 9) || decide (n ≠ 0))
  else decide (fd = 0) && decide (n = 0)
def sideT (b : Bool) (op : Nat) : Bool := if b = true then decide (op ≤ 5) else decide (6 ≤ op) && decide (op ≤ 10)
mutual
/-- which terms are predicates, which policies -/
def oneT (b : Bool) : Tm → Bool
  | .mk op fd n ks => sideT b op && decide (lst1 op ≤ ks.length) && decide (ks.length ≤ mst op) && nwT op fd n && oneKs (decide (op ≤ 6)) ks
def oneKs (b : Bool) : List Tm → Bool
  | [] => true
  | t :: ts => oneT b t && oneKs b ts
end
theorem oneKs_iff {b : Bool} : ∀ {ks : List Tm}, oneKs b ks = true ↔ ∀ t ∈ ks, oneT b t = true
  | [] => by rw [oneKs]; simp
  | a :: ks => by rw [oneKs, Bool.and_eq_true, oneKs_iff (ks := ks)]; simp
theorem oneT_iff {b : Bool} {op fd n : Nat} {ks : List Tm} : oneT b (.mk op fd n ks) = true ↔ sideT b op = true ∧ lst1 op ≤ ks.length ∧ ks.length ≤ mst op ∧ nwT op fd n = true ∧ ∀ k ∈ ks, oneT (decide (op ≤ 6)) k = true := by
  rw [oneT]
  simp only [Bool.and_eq_true, decide_eq_true_eq, oneKs_iff, and_assoc]
theorem sideT_t {op : Nat} : sideT true op = true ↔ op ≤ 5 := by unfold sideT; simp
theorem sideT_f {op : Nat} : sideT false op = true ↔ 6 ≤ op ∧ op ≤ 10 := by unfold sideT; simp
theorem oneT_side {b : Bool} {t : Tm} (h : oneT b t = true) : sideT b t.op = true := by
  obtain ⟨op, fd, n, ks⟩ := t
  exact (oneT_iff.1 h).1

/-! the plain form -/
/-- what changes nothing in a row, what ends oneT (11: nothing does) -/
def iop : Nat → Nat
  | 4 => 1 | 5 => 0 | 8 => 0 | 9 => 1 | _ => 12
def eop : Nat → Nat
  | 4 => 0 | 5 => 1 | 9 => 0 | _ => 11
abbrev leaf (op : Nat) : Tm := .mk op 0 0 []
def sayT (what op : Nat) : Tm := if 6 ≤ op then .mk 6 0 0 [leaf what] else leaf what
def gth (op : Nat) (ks : List Tm) : List Tm := ks.flatMap fun k => if k.op = op then k.ks else if hd k = iop op then [] else [k]
def fin1 (op : Nat) : List Tm → Tm
  | [] => sayT (iop op) op
  | [x] => x
  | a :: b :: l => .mk op 0 0 (a :: b :: l)
def jnd (op : Nat) (ks : List Tm) : Tm := if ks.any (fun k => decide (hd k = eop op)) = true then sayT (eop op) op else fin1 op (gth op ks)
def plN (k : Tm) : Tm := if k.op = 3 then (match k.ks with | [] => k | x :: _ => x) else if k.op = 1 then leaf 0 else if k.op = 0 then leaf 1 else .mk 3 0 0 [k]
def plS (k : Tm) : Tm := if k.op = 10 then k else if k.op = 6 then .mk 6 0 0 [leaf 1] else .mk 10 0 0 [k]
def isRow (op : Nat) : Bool := decide (op = 4) || decide (op = 5) || decide (op = 8) || decide (op = 9)
theorem isRow_iff {op : Nat} : isRow op = true ↔ op = 4 ∨ op = 5 ∨ op = 8 ∨ op = 9 := by unfold isRow; simp [or_assoc]
def plK (op fd n : Nat) (ks : List Tm) : Tm :=
  if op = 3 then (match ks with | [] => .mk op fd n ks | k :: _ => plN k)
  else if isRow op = true then jnd op ks
  else if op = 10 then (match ks with | [] => .mk op fd n ks | k :: _ => plS k)
  else .mk op fd n ks
mutual
def pl : Tm → Tm
  | .mk op fd n ks => plK op fd n (pls ks)
def pls : List Tm → List Tm
  | [] => []
  | t :: ts => pl t :: pls ts
end
theorem pls_map : ∀ ks : List Tm, pls ks = ks.map pl
  | [] => by rw [pls]; rfl
  | t :: ts => by rw [pls, pls_map ts]; rfl
theorem pl_mk (op fd n : Nat) (ks : List Tm) : pl (.mk op fd n ks) = plK op fd n (ks.map pl) := by rw [pl, pls_map]

/-! normal forms -/
def nfK (op : Nat) (ks : List Tm) : Prop :=
  (op = 3 → ∀ k ∈ ks, k.op ≠ 0 ∧ k.op ≠ 1 ∧ k.op ≠ 3) ∧ (isRow op = true → 2 ≤ ks.length ∧ ∀ k ∈ ks, k.op ≠ op ∧ hd k ≠ iop op ∧ hd k ≠ eop op) ∧ (op = 10 → ∀ k ∈ ks, k.op ≠ 6 ∧ k.op ≠ 10)
inductive Nf : Tm → Prop
  | mk (op fd n : Nat) (ks : List Tm) (hk : ∀ k ∈ ks, Nf k) (h : nfK op ks) : Nf (.mk op fd n ks)
theorem Nf.kids {op fd n : Nat} {ks : List Tm} (h : Nf (.mk op fd n ks)) : (∀ k ∈ ks, Nf k) ∧ nfK op ks := by cases h; exact ⟨by assumption, by assumption⟩
/-- a good one: of its side, normal, no greater than s, no deeper than d -/
structure Gd (b : Bool) (s d : Nat) (t : Tm) : Prop where
  o : oneT b t = true
  nf : Nf t
  s : sz t ≤ s
  d : dp t ≤ d
theorem sz_leaf (op : Nat) : sz (leaf op) = 1 := by rw [sz, szs]
theorem dp_leaf (op : Nat) : dp (leaf op) = 1 := by rw [dp, dps]
theorem sz_one (op fd n : Nat) (k : Tm) : sz (.mk op fd n [k]) = sz k + 1 := by rw [sz, szs, szs, Nat.add_zero]
theorem dp_one (op fd n : Nat) (k : Tm) : dp (.mk op fd n [k]) = dp k + 1 := by rw [dp, dps, dps, Nat.max_zero]
theorem nfK_none {op : Nat} (ks : List Tm) (h3 : op ≠ 3) (hr : isRow op = false) (h10 : op ≠ 10) : nfK op ks :=
  And.intro (fun h => absurd h h3) (And.intro (fun h => by rw [hr] at h; cases h) (fun h => absurd h h10))
theorem gd_leaf {op s d : Nat} (ho : op ≤ 1) (hs : 1 ≤ s) (hd' : 1 ≤ d) : Gd true s d (leaf op) := by
  refine ⟨?_, Nf.mk _ _ _ _ (by simp) (nfK_none _ (by omega) ?_ (by omega)), by rw [sz_leaf]; exact hs, by rw [dp_leaf]; exact hd'⟩
  · have : op = 0 ∨ op = 1 := by omega
    rcases this with rfl | rfl <;> rfl
  · have : op = 0 ∨ op = 1 := by omega
    rcases this with rfl | rfl <;> rfl
theorem gd_fil {k : Tm} {s d : Nat} (h : Gd true s d k) : Gd false (s + 1) (d + 1) (.mk 6 0 0 [k]) := by
  refine ⟨oneT_iff.2 ⟨rfl, by simp [lst1], by simp [mst], rfl, fun x hx => ?_⟩, Nf.mk _ _ _ _ (fun x hx => ?_) (nfK_none _ (by omega) rfl (by omega)), by rw [sz_one]; have := h.s; omega, by rw [dp_one]; have := h.d; omega⟩
  · obtain rfl := List.mem_singleton.1 hx; exact h.o
  · obtain rfl := List.mem_singleton.1 hx; exact h.nf
theorem row_side {r : Nat} (hr : isRow r = true) : (r ≤ 5 ∧ (r = 4 ∨ r = 5)) ∨ (6 ≤ r ∧ (r = 8 ∨ r = 9)) := by
  rcases isRow_iff.1 hr with rfl | rfl | rfl | rfl <;> simp
theorem gd_say {r w : Nat} (hr : isRow r = true) (hw : w ≤ 1) {s d : Nat} (hs : 2 ≤ s) (hd' : 2 ≤ d) : Gd (decide (r ≤ 5)) s d (sayT w r) := by
  unfold sayT
  rcases row_side hr with ⟨h, -⟩ | ⟨h, -⟩
  · rw [if_neg (by omega), decide_eq_true h]
    exact gd_leaf hw (by omega) (by omega)
  · rw [if_pos h, decide_eq_false (by omega)]
    have h1 : Gd false (1 + 1) (1 + 1) (.mk 6 0 0 [leaf w]) := gd_fil (gd_leaf hw (Nat.le_refl _) (Nat.le_refl _))
    exact ⟨h1.o, h1.nf, by have := h1.s; omega, by have := h1.d; omega⟩
theorem row_kids {r : Nat} (hr : isRow r = true) : decide (r ≤ 6) = decide (r ≤ 5) := by
  rcases isRow_iff.1 hr with rfl | rfl | rfl | rfl <;> rfl
/-- what stands in the parts that are left -/
theorem gth_mem {r : Nat} (hr : isRow r = true) {ks : List Tm} (hk : ∀ k ∈ ks, oneT (decide (r ≤ 5)) k = true ∧ Nf k) {x : Tm} (hx : x ∈ gth r ks) : oneT (decide (r ≤ 5)) x = true ∧ Nf x ∧ x.op ≠ r ∧ hd x ≠ iop r ∧ ((∀ k ∈ ks, hd k ≠ eop r) → hd x ≠ eop r) := by
  unfold gth at hx
  obtain ⟨k, hk1, hk2⟩ := List.mem_flatMap.1 hx
  obtain ⟨o1, n1⟩ := hk k hk1
  by_cases he : k.op = r
  · rw [if_pos he] at hk2
    obtain ⟨op, fd, n, ks'⟩ := k
    obtain rfl : op = r := he
    obtain ⟨n2, n3⟩ := n1.kids
    have o2 := (oneT_iff.1 o1).2.2.2.2 x hk2
    rw [row_kids hr] at o2
    obtain ⟨a, b, c⟩ := (n3.2.1 hr).2 x hk2
    exact ⟨o2, n2 x hk2, a, b, fun _ => c⟩
  · rw [if_neg he] at hk2
    by_cases hi : hd k = iop r
    · rw [if_pos hi] at hk2; cases hk2
    · rw [if_neg hi] at hk2
      obtain rfl := List.mem_singleton.1 hk2
      exact ⟨o1, n1, he, hi, fun h => h _ hk1⟩
theorem gth_sz (r : Nat) : ∀ ks : List Tm, szs (gth r ks) ≤ szs ks
  | [] => by simp [gth]
  | k :: ks => by
    have ih := gth_sz r ks
    have e : gth r (k :: ks) = (if k.op = r then k.ks else if hd k = iop r then [] else [k]) ++ gth r ks := by simp [gth]
    rw [e, szs_app, szs]
    split
    · obtain ⟨op, fd, n, ks'⟩ := k
      rw [sz]; show szs ks' + _ ≤ _; omega
    · split
      · rw [szs]; omega
      · rw [szs, szs]; omega
theorem gth_dp (r : Nat) : ∀ ks : List Tm, dps (gth r ks) ≤ dps ks
  | [] => by simp [gth]
  | k :: ks => by
    have ih := gth_dp r ks
    have e : gth r (k :: ks) = (if k.op = r then k.ks else if hd k = iop r then [] else [k]) ++ gth r ks := by simp [gth]
    rw [e, dps_app, dps]
    split
    · obtain ⟨op, fd, n, ks'⟩ := k
      rw [dp]; show max (dps ks') _ ≤ _; omega
    · split
      · rw [dps]; omega
      · rw [dps, dps]; omega
theorem len_le_szs (ks : List Tm) : ks.length ≤ szs ks := by
  have := len_szs ks ks.length (Nat.le_refl _)
  rwa [List.take_length] at this
theorem gd_jnd {r : Nat} (hr : isRow r = true) {ks : List Tm} (hn : ks ≠ []) (hk : ∀ k ∈ ks, oneT (decide (r ≤ 5)) k = true ∧ Nf k) (hs : szs ks + 1 ≤ 4096) : Gd (decide (r ≤ 5)) (szs ks + 1) (dps ks + 1) (jnd r ks) := by
  obtain ⟨k0, ks0, rfl⟩ := List.exists_cons_of_ne_nil hn
  have h1 : 1 ≤ szs (k0 :: ks0) := by rw [szs]; have := sz_pos k0; omega
  have h2 : 1 ≤ dps (k0 :: ks0) := by rw [dps]; have := dp_pos k0; omega
  generalize k0 :: ks0 = ks at hk hs h1 h2 ⊢
  have hi1 : iop r ≤ 1 := by rcases isRow_iff.1 hr with rfl | rfl | rfl | rfl <;> decide
  unfold jnd
  by_cases ha : ks.any (fun k => decide (hd k = eop r)) = true
  · rw [if_pos ha]
    have he : eop r ≤ 1 := by
      rcases isRow_iff.1 hr with rfl | rfl | rfl | rfl
      · decide
      · decide
      · exfalso
        obtain ⟨k, hk1, hk2⟩ := List.any_eq_true.1 ha
        have h3 : hd k = 11 := by simpa [eop] using hk2
        obtain ⟨op, fd, n, ks'⟩ := k
        have h4 := (hk _ hk1).1
        have h5 := sideT_f.1 (oneT_side h4)
        by_cases h6 : op = 6
        · subst h6
          rw [hd_six] at h3
          cases ks' with
          | nil => simp [hdk] at h3
          | cons q ks' =>
            have h7 := (oneT_iff.1 h4).2.2.2.2 q (List.mem_cons_self ..)
            have h8 := sideT_t.1 (oneT_side h7)
            simp only [hdk] at h3
            omega
        · rw [hd_not (t := .mk op fd n ks') h6] at h3
          have : op ≤ 10 := h5.2
          have : op = 11 := h3
          omega
      · decide
    exact gd_say hr he (by omega) (by omega)
  · rw [if_neg ha]
    have hne : ∀ k ∈ ks, hd k ≠ eop r := fun k hk1 e => ha (List.any_eq_true.2 ⟨k, hk1, by simpa using e⟩)
    have hm : ∀ x ∈ gth r ks, oneT (decide (r ≤ 5)) x = true ∧ Nf x ∧ x.op ≠ r ∧ hd x ≠ iop r ∧ hd x ≠ eop r := fun x hx => by
      obtain ⟨a, b, c, d, e⟩ := gth_mem hr hk hx
      exact ⟨a, b, c, d, e hne⟩
    have hs1 := gth_sz r ks
    have hd1 := gth_dp r ks
    generalize gth r ks = l at hm hs1 hd1
    match l with
    | [] => exact gd_say hr hi1 (by omega) (by omega)
    | [x] =>
      obtain ⟨a, b, -⟩ := hm x (List.mem_cons_self ..)
      have h3 : sz x ≤ szs [x] := szs_mem (List.mem_cons_self ..)
      have h4 : dp x ≤ dps [x] := dps_mem (List.mem_cons_self ..)
      exact ⟨a, b, by show sz x ≤ _; omega, by show dp x ≤ _; omega⟩
    | x :: y :: l =>
      have hl := len_le_szs (x :: y :: l)
      refine ⟨?_, ?_, ?_, ?_⟩
      · refine oneT_iff.2 ⟨?_, ?_, ?_, ?_, fun k hk => ?_⟩
        · rcases isRow_iff.1 hr with rfl | rfl | rfl | rfl <;> rfl
        · rcases isRow_iff.1 hr with rfl | rfl | rfl | rfl <;> simp [lst1]
        · have : mst r = 4096 := by rcases isRow_iff.1 hr with rfl | rfl | rfl | rfl <;> rfl
          omega
        · rcases isRow_iff.1 hr with rfl | rfl | rfl | rfl <;> rfl
        · rw [row_kids hr]; exact (hm k hk).1
      · refine Nf.mk _ _ _ _ (fun k hk => (hm k hk).2.1) ⟨fun e => ?_, fun _ => ⟨by simp, fun k hk => (hm k hk).2.2⟩, fun e => ?_⟩
        · subst e; cases hr
        · subst e; cases hr
      · show sz (.mk r 0 0 _) ≤ _; rw [sz]; omega
      · show dp (.mk r 0 0 _) ≤ _; rw [dp]; omega
theorem len_one {ks : List Tm} (h1 : 1 ≤ ks.length) (h2 : ks.length ≤ 1) : ∃ k, ks = [k] := by
  match ks, h1, h2 with
  | [k], _, _ => exact ⟨k, rfl⟩
  | [], h, _ => simp at h
  | _ :: _ :: _, _, h => simp at h
theorem gd_not {k : Tm} {s d : Nat} (h : Gd true s d k) : Gd true (s + 1) (d + 1) (plN k) := by
  have hp := sz_pos k
  have hq := dp_pos k
  have h3 := h.s
  have h4 := h.d
  unfold plN
  by_cases e3 : k.op = 3
  · rw [if_pos e3]
    obtain ⟨op, fd, n, ks⟩ := k
    obtain rfl : op = 3 := e3
    obtain ⟨-, l1, l2, -, o⟩ := oneT_iff.1 h.o
    obtain ⟨x, rfl⟩ := len_one l1 l2
    show Gd _ _ _ x
    rw [sz_one] at h3
    rw [dp_one] at h4
    exact ⟨o x (List.mem_cons_self ..), h.nf.kids.1 x (List.mem_cons_self ..), by omega, by omega⟩
  · rw [if_neg e3]
    by_cases e1 : k.op = 1
    · rw [if_pos e1]; exact gd_leaf (by omega) (by omega) (by omega)
    · rw [if_neg e1]
      by_cases e0 : k.op = 0
      · rw [if_pos e0]; exact gd_leaf (by omega) (by omega) (by omega)
      · rw [if_neg e0]
        refine ⟨oneT_iff.2 ⟨rfl, by simp [lst1], by simp [mst], rfl, fun x hx => ?_⟩, Nf.mk _ _ _ _ (fun x hx => ?_) ⟨fun _ x hx => ?_, (fun h => by cases h), (fun h => by cases h)⟩, by rw [sz_one]; omega, by rw [dp_one]; omega⟩
        · obtain rfl := List.mem_singleton.1 hx; exact h.o
        · obtain rfl := List.mem_singleton.1 hx; exact h.nf
        · obtain rfl := List.mem_singleton.1 hx; exact ⟨e0, e1, e3⟩
theorem gd_star {k : Tm} {s d : Nat} (h : Gd false s d k) : Gd false (s + 1) (d + 1) (plS k) := by
  have hp := sz_pos k
  have hq := dp_pos k
  have h3 := h.s
  have h4 := h.d
  unfold plS
  by_cases e3 : k.op = 10
  · rw [if_pos e3]; exact ⟨h.o, h.nf, by omega, by omega⟩
  · rw [if_neg e3]
    by_cases e6 : k.op = 6
    · rw [if_pos e6]; exact gd_fil (gd_leaf (by omega) (by omega) (by omega))
    · rw [if_neg e6]
      refine ⟨oneT_iff.2 ⟨rfl, by simp [lst1], by simp [mst], rfl, fun x hx => ?_⟩, Nf.mk _ _ _ _ (fun x hx => ?_) ⟨(fun h => by cases h), (fun h => by cases h), fun _ x hx => ?_⟩, by rw [sz_one]; omega, by rw [dp_one]; omega⟩
      · obtain rfl := List.mem_singleton.1 hx; exact h.o
      · obtain rfl := List.mem_singleton.1 hx; exact h.nf
      · obtain rfl := List.mem_singleton.1 hx; exact ⟨e6, e3⟩
theorem side_op {op : Nat} {b : Bool} (h : sideT b op = true) : b = decide (op ≤ 5) := by
  cases b
  · have := sideT_f.1 h; rw [decide_eq_false (by omega)]
  · have := sideT_t.1 h; rw [decide_eq_true (by omega)]
/-- kids that are good -/
theorem gd_kids {b : Bool} {op fd n : Nat} {ks ls : List Tm} (h : oneT b (.mk op fd n ks) = true) (hl : ls.length = ks.length) (hk : ∀ k ∈ ls, oneT (decide (op ≤ 6)) k = true ∧ Nf k) (hs : szs ls + 1 ≤ 4096) : Gd b (szs ls + 1) (dps ls + 1) (plK op fd n ls) := by
  obtain ⟨s1, l1, l2, n1, -⟩ := oneT_iff.1 h
  rw [← hl] at l1 l2
  obtain rfl := side_op s1
  unfold plK
  by_cases e3 : op = 3
  · subst e3
    rw [if_pos rfl]
    obtain ⟨k, rfl⟩ := len_one l1 l2
    obtain ⟨o, nf⟩ := hk k (List.mem_cons_self ..)
    have e1 : szs [k] = sz k := by rw [szs, szs]; omega
    have e2 : dps [k] = dp k := by rw [dps, dps, Nat.max_zero]
    rw [e1, e2]
    exact gd_not ⟨o, nf, Nat.le_refl _, Nat.le_refl _⟩
  rw [if_neg e3]
  by_cases hr : isRow op = true
  · rw [if_pos hr]
    have hn : ls ≠ [] := by
      rintro rfl
      rcases isRow_iff.1 hr with rfl | rfl | rfl | rfl <;> simp [lst1] at l1
    exact gd_jnd hr hn (fun k hk1 => by have := hk k hk1; rw [row_kids hr] at this; exact this) hs
  rw [if_neg hr]
  by_cases e10 : op = 10
  · subst e10
    rw [if_pos rfl]
    obtain ⟨k, rfl⟩ := len_one l1 l2
    obtain ⟨o, nf⟩ := hk k (List.mem_cons_self ..)
    have e1 : szs [k] = sz k := by rw [szs, szs]; omega
    have e2 : dps [k] = dp k := by rw [dps, dps, Nat.max_zero]
    rw [e1, e2]
    exact gd_star ⟨o, nf, Nat.le_refl _, Nat.le_refl _⟩
  rw [if_neg e10]
  exact ⟨oneT_iff.2 ⟨s1, l1, l2, n1, fun k hk1 => (hk k hk1).1⟩, Nf.mk _ _ _ _ (fun k hk1 => (hk k hk1).2) (nfK_none _ e3 (by simpa using hr) e10), Nat.le_of_eq (by rw [sz]), Nat.le_of_eq (by rw [dp])⟩
mutual
/-- THE PLAIN FORM is one of its side, normal, no greater, no deeper. -/
theorem gd_pl (b : Bool) : ∀ t : Tm, oneT b t = true → sz t ≤ 4096 → Gd b (sz t) (dp t) (pl t)
  | .mk op fd n ks, h, hs => by
    rw [sz] at hs
    have hk := (oneT_iff.1 h).2.2.2.2
    obtain ⟨g1, g2, g3⟩ := gd_pls _ ks hk (by omega)
    have g := gd_kids (ls := pls ks) h (by rw [pls_map, List.length_map]) g1 (by omega)
    rw [pl]
    exact ⟨g.o, g.nf, by rw [sz]; have := g.s; omega, by rw [dp]; have := g.d; omega⟩
theorem gd_pls (b : Bool) : ∀ ks : List Tm, (∀ k ∈ ks, oneT b k = true) → szs ks ≤ 4096 → (∀ k ∈ pls ks, oneT b k = true ∧ Nf k) ∧ szs (pls ks) ≤ szs ks ∧ dps (pls ks) ≤ dps ks
  | [], _, _ => by rw [pls]; exact ⟨fun k hk => (by cases hk), Nat.le_refl _, Nat.le_refl _⟩
  | t :: ts, h, hs => by
    rw [szs] at hs
    have g := gd_pl b t (h t (List.mem_cons_self ..)) (by omega)
    obtain ⟨g1, g2, g3⟩ := gd_pls b ts (fun k hk => h k (List.mem_cons_of_mem _ hk)) (by omega)
    rw [pls]
    refine ⟨fun k hk => ?_, ?_, ?_⟩
    · rcases List.mem_cons.1 hk with rfl | hk
      · exact ⟨g.o, g.nf⟩
      · exact g1 k hk
    · rw [szs, szs]; have := g.s; omega
    · rw [dps, dps]; have := g.d; omega
end
theorem gth_self {r : Nat} : ∀ {ks : List Tm}, (∀ k ∈ ks, k.op ≠ r ∧ hd k ≠ iop r) → gth r ks = ks
  | [], _ => rfl
  | k :: ks, h => by
    have h1 := h k (List.mem_cons_self ..)
    have ih := gth_self (ks := ks) fun x hx => h x (List.mem_cons_of_mem _ hx)
    have e : gth r (k :: ks) = (if k.op = r then k.ks else if hd k = iop r then [] else [k]) ++ gth r ks := by simp [gth]
    rw [e, ih, if_neg h1.1, if_neg h1.2]
    rfl
mutual
/-- a normal form is its own plain form -/
theorem pl_nf (b : Bool) : ∀ t : Tm, oneT b t = true → Nf t → pl t = t
  | .mk op fd n ks, h, hn => by
    obtain ⟨n1, n2⟩ := hn.kids
    obtain ⟨s1, l1, l2, w, o⟩ := oneT_iff.1 h
    rw [pl, pls_nf _ ks o n1]
    unfold plK
    by_cases e3 : op = 3
    · subst e3
      obtain ⟨k, rfl⟩ := len_one l1 l2
      obtain ⟨a, b, c⟩ := n2.1 rfl k (List.mem_cons_self ..)
      have hw : fd = 0 ∧ n = 0 := by simpa [nwT] using w
      rw [if_pos rfl]
      show plN k = _
      unfold plN
      rw [if_neg c, if_neg b, if_neg a, hw.1, hw.2]
    rw [if_neg e3]
    by_cases hr : isRow op = true
    · rw [if_pos hr]
      obtain ⟨a, b⟩ := n2.2.1 hr
      have hw : fd = 0 ∧ n = 0 := by rcases isRow_iff.1 hr with rfl | rfl | rfl | rfl <;> simpa [nwT] using w
      unfold jnd
      rw [if_neg (by intro h; obtain ⟨k, h1, h2⟩ := List.any_eq_true.1 h; exact (b k h1).2.2 (by simpa using h2)), gth_self fun k hk => ⟨(b k hk).1, (b k hk).2.1⟩, hw.1, hw.2]
      match ks, a with
      | _ :: _ :: _, _ => rfl
    rw [if_neg hr]
    by_cases e10 : op = 10
    · subst e10
      obtain ⟨k, rfl⟩ := len_one l1 l2
      obtain ⟨a, b⟩ := n2.2.2 rfl k (List.mem_cons_self ..)
      have hw : fd = 0 ∧ n = 0 := by simpa [nwT] using w
      rw [if_pos rfl]
      show plS k = _
      unfold plS
      rw [if_neg b, if_neg a, hw.1, hw.2]
    rw [if_neg e10]
theorem pls_nf (b : Bool) : ∀ ks : List Tm, (∀ k ∈ ks, oneT b k = true) → (∀ k ∈ ks, Nf k) → pls ks = ks
  | [], _, _ => by rw [pls]
  | t :: ts, h, hn => by
    rw [pls, pl_nf b t (h t (List.mem_cons_self ..)) (hn t (List.mem_cons_self ..)), pls_nf b ts (fun k hk => h k (List.mem_cons_of_mem _ hk)) (fun k hk => hn k (List.mem_cons_of_mem _ hk))]
end
theorem pl_pl {b : Bool} {t : Tm} (h : oneT b t = true) (hs : sz t ≤ 4096) : pl (pl t) = pl t := by
  have g := gd_pl b t h hs
  exact pl_nf b _ g.o g.nf

/-! the document's plain form -/
def saysD (flt : Bool) (what : Nat) (k : Tm) : Bool := if flt = true then decide (k.op = 6) && decide (hdk k.ks = what) else decide (k.op = what)
def flt (r : Nat) (ls : List Tm) : List Tm := ls.flatMap fun k => if k.op = r then k.ks else [k]
/-- what is left, whether one says all -/
def outD (r no : Nat) (f : Bool) (ls : List Tm) : List Tm := (flt r ls).filter fun k => !saysD f no k
def fndD (r all : Nat) (f : Bool) (ls : List Tm) : Bool := (flt r ls).any (saysD f all)
theorem saysD_hd {r what : Nat} (hr : isRow r = true) (hw : what ≤ 1) {k : Tm} (h : oneT (decide (r ≤ 5)) k = true) : saysD (decide (6 ≤ r)) what k = decide (hd k = what) := by
  have hs := oneT_side h
  unfold saysD
  rcases row_side hr with ⟨a, -⟩ | ⟨a, -⟩
  · rw [decide_eq_true a] at hs
    have := sideT_t.1 hs
    rw [if_neg (by simp; omega), hd_not (by omega)]
  · rw [decide_eq_false (by omega)] at hs
    have h6 := sideT_f.1 hs
    rw [if_pos (by simp; omega)]
    by_cases e : k.op = 6
    · rw [decide_eq_true e, Bool.true_and]; unfold hd; rw [if_pos e]
    · rw [decide_eq_false e, Bool.false_and, hd_not e, decide_eq_false (by omega)]
theorem flt_cons (r : Nat) (k : Tm) (ls : List Tm) : flt r (k :: ls) = (if k.op = r then k.ks else [k]) ++ flt r ls := by simp [flt]
theorem gth_cons (r : Nat) (k : Tm) (ls : List Tm) : gth r (k :: ls) = (if k.op = r then k.ks else if hd k = iop r then [] else [k]) ++ gth r ls := by simp [gth]
/-- both gather the same -/
theorem outD_gth {r : Nat} (hr : isRow r = true) : ∀ {ls : List Tm}, (∀ k ∈ ls, oneT (decide (r ≤ 5)) k = true ∧ Nf k) → outD r (iop r) (decide (6 ≤ r)) ls = gth r ls ∧ ∀ all, all ≤ 1 → (all = eop r) → fndD r all (decide (6 ≤ r)) ls = ls.any fun k => decide (hd k = eop r)
  | [], _ => ⟨rfl, fun _ _ _ => rfl⟩
  | k :: ls, h => by
    have hi1 : iop r ≤ 1 := by rcases isRow_iff.1 hr with rfl | rfl | rfl | rfl <;> decide
    obtain ⟨i1, i2⟩ := outD_gth hr (ls := ls) fun x hx => h x (List.mem_cons_of_mem _ hx)
    obtain ⟨o1, n1⟩ := h k (List.mem_cons_self ..)
    unfold outD at i1 ⊢
    unfold fndD at i2 ⊢
    rw [flt_cons, gth_cons, List.filter_append, i1]
    by_cases e : k.op = r
    · obtain ⟨op, fd, n, ks⟩ := k
      replace e : op = r := e
      subst e
      obtain ⟨m1, m2⟩ := n1.kids
      have hm := (m2.2.1 hr).2
      have ho : ∀ x ∈ ks, oneT (decide (op ≤ 5)) x = true := fun x hx => by have := (oneT_iff.1 o1).2.2.2.2 x hx; rwa [row_kids hr] at this
      have hkx : hd (.mk op fd n ks) = op := hd_not (show op ≠ 6 by rcases isRow_iff.1 hr with rfl | rfl | rfl | rfl <;> decide)
      refine ⟨?_, fun all ha hae => ?_⟩
      · rw [if_pos (show (Tm.mk op fd n ks).op = op from rfl), if_pos (show (Tm.mk op fd n ks).op = op from rfl)]
        congr 1
        show ks.filter _ = ks
        rw [List.filter_eq_self]
        intro x hx
        rw [saysD_hd hr hi1 (ho x hx), decide_eq_false (hm x hx).2.1]
        rfl
      · rw [if_pos (show (Tm.mk op fd n ks).op = op from rfl), List.any_append, i2 all ha hae, List.any_cons, hkx]
        have h1 : List.any ks (saysD (decide (6 ≤ op)) all) = false := by
          rw [List.any_eq_false]
          intro x hx
          rw [saysD_hd hr ha (ho x hx), hae, decide_eq_false (hm x hx).2.2]
          decide
        show (List.any ks _ || _) = _
        rw [h1, decide_eq_false (show op ≠ eop op by rcases isRow_iff.1 hr with rfl | rfl | rfl | rfl <;> decide)]
    · rw [if_neg e, if_neg e]
      refine ⟨?_, fun all ha hae => ?_⟩
      · by_cases e2 : hd k = iop r
        · rw [if_pos e2, List.filter_cons, saysD_hd hr hi1 o1, decide_eq_true e2]; rfl
        · rw [if_neg e2, List.filter_cons, saysD_hd hr hi1 o1, decide_eq_false e2]; rfl
      · rw [List.any_append, i2 all ha hae, List.any_cons, List.any_cons, List.any_nil, Bool.or_false, saysD_hd hr ha o1, hae]
end Go.Proofs.YtjallmncajhamaaDoor
