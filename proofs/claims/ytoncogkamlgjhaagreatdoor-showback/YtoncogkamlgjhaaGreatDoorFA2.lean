/- Plain: terms; how words are read as a policy, by the grammar of the document: what is read and where the next word is, or the word that can't stand there. -/
/- Plain: a reading goes on, and stays within the words, whose last one is the end. -/
import Derived.Test.YtoncogkamlgjhaaGreatDoorFJ2
namespace Go.Proofs.YtoncogkamlgjhaaGreatDoor
set_option maxRecDepth 100000

/-- a term -/
inductive Tm
  | mk (op fd n : Nat) (kids : List Tm)
/-- what is read, and the place behind it; or the place of the word that can't stand -/
inductive Rd (α : Type)
  | ok (x : α) (i : Nat)
  | bad (i : Nat)
abbrev wz : Wd := ⟨0, ⟨#[]⟩, 0, 0⟩
def wat (l : List Wd) (i : Nat) : Wd := l.getD i wz

abbrev Qcount : ByteArray := ⟨#[99, 111, 117, 110, 116]⟩
abbrev Qfilter : ByteArray := ⟨#[102, 105, 108, 116, 101, 114]⟩
abbrev Qid : ByteArray := ⟨#[105, 100]⟩
abbrev Qdrop : ByteArray := ⟨#[100, 114, 111, 112]⟩
abbrev Qif : ByteArray := ⟨#[105, 102]⟩
abbrev Qthen : ByteArray := ⟨#[116, 104, 101, 110]⟩
abbrev Qelse : ByteArray := ⟨#[101, 108, 115, 101]⟩
abbrev Qtrue : ByteArray := ⟨#[116, 114, 117, 101]⟩
abbrev Qfalse : ByteArray := ⟨#[102, 97, 108, 115, 101]⟩
abbrev Qsrc : ByteArray := ⟨#[115, 114, 99]⟩
abbrev Qdst : ByteArray := ⟨#[100, 115, 116]⟩
abbrev Qkind : ByteArray := ⟨#[107, 105, 110, 100]⟩
abbrev Qvlan : ByteArray := ⟨#[118, 108, 97, 110]⟩
abbrev Qfrom : ByteArray := ⟨#[102, 114, 111, 109]⟩
abbrev Qto : ByteArray := ⟨#[116, 111]⟩
abbrev Qproto : ByteArray := ⟨#[112, 114, 111, 116, 111]⟩
abbrev Qsport : ByteArray := ⟨#[115, 112, 111, 114, 116]⟩
abbrev Qdport : ByteArray := ⟨#[100, 112, 111, 114, 116]⟩
abbrev Qport : ByteArray := ⟨#[112, 111, 114, 116]⟩
abbrev Qswitch : ByteArray := ⟨#[115, 119, 105, 116, 99, 104]⟩
abbrev Splus : ByteArray := ⟨#[43]⟩
abbrev Ssemi : ByteArray := ⟨#[59]⟩
abbrev Sstar : ByteArray := ⟨#[42]⟩
abbrev Sor : ByteArray := ⟨#[124]⟩
abbrev Sand : ByteArray := ⟨#[38]⟩
abbrev Snot : ByteArray := ⟨#[33]⟩
abbrev Slp : ByteArray := ⟨#[40]⟩
abbrev Srp : ByteArray := ⟨#[41]⟩
abbrev Seq : ByteArray := ⟨#[61]⟩
abbrev Sset : ByteArray := ⟨#[58, 61]⟩
def fdT : List (ByteArray × Nat) := [(Qsrc, 0), (Qdst, 1), (Qkind, 2), (Qvlan, 3), (Qfrom, 4), (Qto, 5), (Qproto, 6), (Qsport, 7), (Qdport, 8), (Qport, 9), (Qswitch, 10)]
def kwT : List ByteArray := [Qcount, Qfilter, Qid, Qdrop, Qif, Qthen, Qelse, Qtrue, Qfalse]
/-- the field of a name -/
def fdOf (t : ByteArray) : Option Nat := (fdT.find? fun p => decide (t = p.1)).map (·.2)
def isKw (t : ByteArray) : Bool := kwT.any (fun q => decide (t = q)) || (fdOf t).isSome
/-- whether that text stands at a place -/
def tk (l : List Wd) (i : Nat) (q : ByteArray) : Bool := decide ((wat l i).t = q)

/-- a field, a sign, a number -/
def pair (l : List Wd) (op : Nat) (sg : ByteArray) (i : Nat) : Rd Tm :=
  match fdOf (wat l i).t with
  | none => .bad i
  | some f => if tk l (i + 1) sg = true then (if (wat l (i + 2)).k = 2 then .ok (.mk op f (wat l (i + 2)).n []) (i + 3) else .bad (i + 2)) else .bad (i + 1)
/-- parts with a sign between -/
def jnL (l : List Wd) (sg : ByteArray) (part : Nat → Rd Tm) : Nat → Nat → List Tm → Rd (List Tm)
  | 0, i, acc => .ok acc i
  | f + 1, i, acc => if tk l i sg = true then (match part (i + 1) with | .bad j => .bad j | .ok t j => jnL l sg part f j (acc ++ [t])) else .ok acc i
def jn (l : List Wd) (op : Nat) (sg : ByteArray) (part : Nat → Rd Tm) (i : Nat) : Rd Tm :=
  match part i with
  | .bad j => .bad j
  | .ok t j => if tk l j sg = true then (match jnL l sg part l.length j [t] with | .bad k => .bad k | .ok ts k => .ok (.mk op 0 0 ts) k) else .ok t j
abbrev ov (op : Nat) (ts : List Tm) : Tm := .mk op 0 0 ts
def starL (l : List Wd) : Nat → Nat → Tm → Rd Tm
  | 0, i, t => .ok t i
  | f + 1, i, t => if tk l i Sstar = true then starL l f (i + 1) (ov 10 [t]) else .ok t i
def starF (l : List Wd) (at' : Nat → Rd Tm) (i : Nat) : Rd Tm :=
  match at' i with
  | .bad j => .bad j
  | .ok t j => starL l l.length j t
/-- what a reading is made into -/
def Rd.map {α β : Type} (f : α → β) : Rd α → Rd β
  | .ok x i => .ok (f x) i
  | .bad i => .bad i
/-- and then a word -/
def Rd.exp {α : Type} (l : List Wd) (q : ByteArray) : Rd α → Rd α
  | .ok x i => if tk l i q = true then .ok x (i + 1) else .bad i
  | .bad i => .bad i
def Rd.bind {α β : Type} (f : α → Nat → Rd β) : Rd α → Rd β
  | .ok x i => f x i
  | .bad i => .bad i
def iteT (p a b : Tm) : Tm := ov 8 [ov 9 [ov 6 [p], a], ov 9 [ov 6 [ov 3 [p]], b]]
def atomF (l : List Wd) (pol pred : Nat → Rd Tm) (i : Nat) : Rd Tm :=
  if tk l i Qfilter = true then (pred (i + 1)).map fun t => ov 6 [t]
  else if tk l i Qid = true then .ok (ov 6 [ov 1 []]) (i + 1)
  else if tk l i Qdrop = true then .ok (ov 6 [ov 0 []]) (i + 1)
  else if tk l i Qif = true then ((pred (i + 1)).exp l Qthen).bind fun p j => ((pol j).exp l Qelse).bind fun a k => (pol k).map fun b => iteT p a b
  else if tk l i Slp = true then (pol (i + 1)).exp l Srp
  else pair l 7 Sset i
def notF (l : List Wd) (pred nt : Nat → Rd Tm) (i : Nat) : Rd Tm :=
  if tk l i Snot = true then (nt (i + 1)).map fun t => ov 3 [t]
  else if tk l i Qtrue = true then .ok (ov 1 []) (i + 1)
  else if tk l i Qfalse = true then .ok (ov 0 []) (i + 1)
  else if tk l i Slp = true then (pred (i + 1)).exp l Srp
  else pair l 2 Seq i
/-- the three that call one another, with n words left -/
structure Ps where
  (pol pred nt : Nat → Rd Tm)
def andF (l : List Wd) (nt : Nat → Rd Tm) : Nat → Rd Tm := jn l 4 Sand nt
def predF (l : List Wd) (nt : Nat → Rd Tm) : Nat → Rd Tm := jn l 5 Sor (andF l nt)
def seqF (l : List Wd) (at' : Nat → Rd Tm) : Nat → Rd Tm := jn l 9 Ssemi (starF l at')
def polF (l : List Wd) (at' : Nat → Rd Tm) : Nat → Rd Tm := jn l 8 Splus (seqF l at')
def ps (l : List Wd) : Nat → Ps
  | 0 => ⟨fun i => .bad i, fun i => .bad i, fun i => .bad i⟩
  | n + 1 => ⟨polF l (atomF l (ps l n).pol (ps l n).pred), predF l (notF l (ps l n).pred (ps l n).nt), notF l (ps l n).pred (ps l n).nt⟩
/-- a query -/
structure Qy where
  nm : ByteArray
  pd : Tm
structure Po where
  main : Tm
  qs : List Qy
def qry (l : List Wd) (pred : Nat → Rd Tm) (i : Nat) : Rd Qy :=
  if (wat l i).k = 1 ∧ isKw (wat l i).t = false then (if tk l (i + 1) Seq = true then (pred (i + 2)).map fun t => ⟨(wat l i).t, t⟩ else .bad (i + 1)) else .bad i
def qrs (l : List Wd) (pred : Nat → Rd Tm) : Nat → Nat → List Qy → Rd (List Qy)
  | 0, i, acc => .ok acc i
  | f + 1, i, acc => if tk l i Qcount = true then (match qry l pred (i + 1) with | .bad j => .bad j | .ok q j => qrs l pred f j (acc ++ [q])) else .ok acc i
/-- a file, from a place on -/
def fil (l : List Wd) : Rd Po :=
  ((ps l l.length).pol 0).bind fun m i => (qrs l (ps l l.length).pred l.length i []).bind fun qs j => if (wat l j).k = 0 then .ok ⟨m, qs⟩ j else .bad j
mutual
def sz : Tm → Nat
  | .mk _ _ _ ks => szs ks + 1
def szs : List Tm → Nat
  | [] => 0
  | t :: ts => sz t + szs ts
end
mutual
def dp : Tm → Nat
  | .mk _ _ _ ks => dps ks + 1
def dps : List Tm → Nat
  | [] => 0
  | t :: ts => max (dp t) (dps ts)
end
def fitsB (p : Po) : Bool := decide (sz p.main + (p.qs.map fun q => sz q.pd).sum ≤ 4096) && decide (dp p.main ≤ 128) && p.qs.all fun q => decide (dp q.pd ≤ 128)
/-- what a text is read as -/
inductive Ans
  | ok (p : Po)
  | no (c a : Nat) (t : ByteArray)
def rdW (l : List Wd) : Ans :=
  match fil l with
  | .bad i => .no 160 (wat l i).at' (wat l i).t
  | .ok p _ => if fitsB p = true then .ok p else .no 200 0 ⟨#[]⟩
def prs (s : ByteArray) : Ans :=
  match all s with
  | .no c a t => .no c a t
  | .ok l => rdW l
end Go.Proofs.YtoncogkamlgjhaaGreatDoor
namespace Go.Proofs.YtoncogkamlgjhaaGreatDoor
set_option maxRecDepth 100000

/-- words with their end -/
structure Cl (l : List Wd) : Prop where
  pos : 0 < l.length
  et : (wat l (l.length - 1)).t = ⟨#[]⟩
  ek : (wat l (l.length - 1)).k = 0
theorem tk_lt {l : List Wd} (hc : Cl l) {i : Nat} {q : ByteArray} (hi : i < l.length) (hq : q ≠ ⟨#[]⟩) (h : tk l i q = true) : i + 1 < l.length := by
  rcases Nat.lt_or_ge (i + 1) l.length with h1 | h1
  · exact h1
  · have : i = l.length - 1 := by omega
    subst this
    unfold tk at h
    rw [hc.et] at h
    exact absurd (of_decide_eq_true h).symm hq
theorem fd_lt {l : List Wd} (hc : Cl l) {i f : Nat} (hi : i < l.length) (h : fdOf (wat l i).t = some f) : i + 1 < l.length := by
  rcases Nat.lt_or_ge (i + 1) l.length with h1 | h1
  · exact h1
  · have : i = l.length - 1 := by omega
    subst this
    rw [hc.et, show fdOf ⟨#[]⟩ = none by decide] at h
    cases h
theorem k_lt {l : List Wd} (hc : Cl l) {i : Nat} (hi : i < l.length) (h : (wat l i).k ≠ 0) : i + 1 < l.length := by
  rcases Nat.lt_or_ge (i + 1) l.length with h1 | h1
  · exact h1
  · have : i = l.length - 1 := by omega
    subst this
    exact absurd hc.ek h
/-- a reading from i goes on -/
def Adw {α : Type} (l : List Wd) (i : Nat) (r : Rd α) : Prop := (∀ t j, r = .ok t j → i < j ∧ j < l.length) ∧ ∀ j, r = .bad j → i ≤ j ∧ j < l.length
def Adv {α : Type} (l : List Wd) (P : Nat → Rd α) : Prop := ∀ i, i < l.length → Adw l i (P i)
/-- the same, but it may stay -/
def Adz {α : Type} (l : List Wd) (i : Nat) (r : Rd α) : Prop := (∀ t j, r = .ok t j → i ≤ j ∧ j < l.length) ∧ ∀ j, r = .bad j → i ≤ j ∧ j < l.length
theorem Adw.ok {α : Type} {l : List Wd} {i j : Nat} {x : α} (h1 : i < j) (h2 : j < l.length) : Adw l i (Rd.ok x j) := ⟨fun _ _ h => by cases h; exact ⟨h1, h2⟩, fun _ h => by cases h⟩
theorem Adw.bad {α : Type} {l : List Wd} {i j : Nat} (h1 : i ≤ j) (h2 : j < l.length) : Adw (α := α) l i (Rd.bad j) := ⟨fun _ _ h => (by cases h), fun _ h => by cases h; exact ⟨h1, h2⟩⟩
theorem Adz.ok {α : Type} {l : List Wd} {i j : Nat} {x : α} (h1 : i ≤ j) (h2 : j < l.length) : Adz l i (Rd.ok x j) := ⟨fun _ _ h => by cases h; exact ⟨h1, h2⟩, fun _ h => by cases h⟩
theorem Adz.bad {α : Type} {l : List Wd} {i j : Nat} (h1 : i ≤ j) (h2 : j < l.length) : Adz (α := α) l i (Rd.bad j) := ⟨fun _ _ h => (by cases h), fun _ h => by cases h; exact ⟨h1, h2⟩⟩
theorem Adw.wk {α : Type} {l : List Wd} {i k : Nat} {r : Rd α} (h : Adw l i r) (hk : k ≤ i) : Adw l k r :=
  ⟨fun t j e => by have := h.1 t j e; omega, fun j e => by have := h.2 j e; omega⟩
theorem Adz.wk {α : Type} {l : List Wd} {i k : Nat} {r : Rd α} (h : Adz l i r) (hk : k ≤ i) : Adz l k r :=
  ⟨fun t j e => by have := h.1 t j e; omega, fun j e => by have := h.2 j e; omega⟩
theorem Adz.st {α : Type} {l : List Wd} {i k : Nat} {r : Rd α} (h : Adz l i r) (hk : k < i) : Adw l k r :=
  ⟨fun t j e => by have := h.1 t j e; omega, fun j e => by have := h.2 j e; omega⟩
theorem Adw.zz {α : Type} {l : List Wd} {i : Nat} {r : Rd α} (h : Adw l i r) : Adz l i r :=
  ⟨fun t j e => by have := h.1 t j e; omega, fun j e => by have := h.2 j e; omega⟩
theorem Adw.map {α β : Type} {l : List Wd} {i : Nat} {r : Rd α} (h : Adw l i r) (f : α → β) : Adw l i (r.map f) := by
  cases r with
  | ok x j => exact .ok (h.1 x j rfl).1 (h.1 x j rfl).2
  | bad j => exact .bad (h.2 j rfl).1 (h.2 j rfl).2
theorem Adw.exp {α : Type} {l : List Wd} (hc : Cl l) {i : Nat} {r : Rd α} (h : Adw l i r) {q : ByteArray} (hq : q ≠ ⟨#[]⟩) : Adw l i (r.exp l q) := by
  cases r with
  | ok x j =>
    have := h.1 x j rfl
    unfold Rd.exp; simp only
    split
    · rename_i ht
      have := tk_lt hc this.2 hq ht
      exact .ok (by omega) this
    · exact .bad (by omega) this.2
  | bad j => exact .bad (h.2 j rfl).1 (h.2 j rfl).2
theorem Adw.bind {α β : Type} {l : List Wd} {i : Nat} {r : Rd α} (h : Adw l i r) {f : α → Nat → Rd β} (hf : ∀ x j, i < j → j < l.length → Adw l i (f x j)) : Adw l i (r.bind f) := by
  cases r with
  | ok x j => exact hf x j (h.1 x j rfl).1 (h.1 x j rfl).2
  | bad j => exact .bad (h.2 j rfl).1 (h.2 j rfl).2
theorem pair_adv {l : List Wd} (hc : Cl l) (op : Nat) {sg : ByteArray} (hq : sg ≠ ⟨#[]⟩) : Adv l (pair l op sg) := by
  intro i hi
  unfold pair
  split
  · exact .bad (Nat.le_refl _) hi
  · rename_i f hf
    have h1 := fd_lt hc hi hf
    split
    · rename_i ht
      have h2 := tk_lt hc h1 hq ht
      split
      · rename_i hk
        have := k_lt hc h2 (by rw [hk]; decide)
        exact .ok (by omega) this
      · exact .bad (by omega) h2
    · exact .bad (by omega) h1
theorem jnL_adv {l : List Wd} (hc : Cl l) {sg : ByteArray} (hq : sg ≠ ⟨#[]⟩) {part : Nat → Rd Tm} (hp : Adv l part) : ∀ f i acc, i < l.length → Adz l i (jnL l sg part f i acc)
  | 0, i, acc, hi => .ok (Nat.le_refl _) hi
  | f + 1, i, acc, hi => by
    rw [jnL]
    split
    · rename_i ht
      have h1 := tk_lt hc hi hq ht
      have h2 := hp _ h1
      split
      · rename_i j hj
        have := h2.2 j hj
        exact .bad (by omega) this.2
      · rename_i t j hj
        have := h2.1 t j hj
        exact (jnL_adv hc hq hp f j _ this.2).wk (by omega)
    · exact .ok (Nat.le_refl _) hi
theorem jn_adv {l : List Wd} (hc : Cl l) (op : Nat) {sg : ByteArray} (hq : sg ≠ ⟨#[]⟩) {part : Nat → Rd Tm} (hp : Adv l part) : Adv l (jn l op sg part) := by
  intro i hi
  have h1 := hp i hi
  unfold jn
  split
  · rename_i j hj
    have := h1.2 j hj
    exact .bad this.1 this.2
  · rename_i t j hj
    have h2 := h1.1 t j hj
    split
    · have h3 := jnL_adv hc hq hp l.length j [t] h2.2
      split
      · rename_i k hk
        have := h3.2 k hk
        exact .bad (by omega) this.2
      · rename_i ts k hk
        have := h3.1 ts k hk
        exact .ok (by omega) this.2
    · exact .ok h2.1 h2.2
theorem starL_adv {l : List Wd} (hc : Cl l) : ∀ f i t, i < l.length → ∃ t' j, starL l f i t = .ok t' j ∧ i ≤ j ∧ j < l.length
  | 0, i, t, hi => ⟨t, i, rfl, Nat.le_refl _, hi⟩
  | f + 1, i, t, hi => by
    rw [starL]
    split
    · rename_i ht
      have h1 := tk_lt hc hi (by decide) ht
      obtain ⟨t', j, e, h2, h3⟩ := starL_adv hc f (i + 1) (ov 10 [t]) h1
      exact ⟨t', j, e, by omega, h3⟩
    · exact ⟨t, i, rfl, Nat.le_refl _, hi⟩
theorem starF_adv {l : List Wd} (hc : Cl l) {at' : Nat → Rd Tm} (hp : Adv l at') : Adv l (starF l at') := by
  intro i hi
  have h1 := hp i hi
  unfold starF
  split
  · rename_i j hj
    have := h1.2 j hj
    exact .bad this.1 this.2
  · rename_i t j hj
    have h2 := h1.1 t j hj
    obtain ⟨t', k, e, h3, h4⟩ := starL_adv hc l.length j t h2.2
    rw [e]
    exact .ok (by omega) h4
theorem atomF_adv {l : List Wd} (hc : Cl l) {pol pred : Nat → Rd Tm} (h1 : Adv l pol) (h2 : Adv l pred) : Adv l (atomF l pol pred) := by
  intro i hi
  unfold atomF
  split
  · rename_i ht
    exact ((h2 _ (tk_lt hc hi (by decide) ht)).map _).wk (by omega)
  · split
    · rename_i ht
      exact .ok (by omega) (tk_lt hc hi (by decide) ht)
    · split
      · rename_i ht
        exact .ok (by omega) (tk_lt hc hi (by decide) ht)
      · split
        · rename_i ht
          refine (((h2 _ (tk_lt hc hi (by decide) ht)).exp hc (by decide)).wk (by omega)).bind fun p j hj hl => ?_
          refine (((h1 j hl).exp hc (by decide)).wk (by omega)).bind fun a k hk hl => ?_
          exact ((h1 k hl).map _).wk (by omega)
        · split
          · rename_i ht
            exact ((h1 _ (tk_lt hc hi (by decide) ht)).exp hc (by decide)).wk (by omega)
          · exact pair_adv hc _ (by decide) i hi
theorem notF_adv {l : List Wd} (hc : Cl l) {pred nt : Nat → Rd Tm} (h1 : Adv l pred) (h2 : Adv l nt) : Adv l (notF l pred nt) := by
  intro i hi
  unfold notF
  split
  · rename_i ht
    exact ((h2 _ (tk_lt hc hi (by decide) ht)).map _).wk (by omega)
  · split
    · rename_i ht
      exact .ok (by omega) (tk_lt hc hi (by decide) ht)
    · split
      · rename_i ht
        exact .ok (by omega) (tk_lt hc hi (by decide) ht)
      · split
        · rename_i ht
          exact ((h1 _ (tk_lt hc hi (by decide) ht)).exp hc (by decide)).wk (by omega)
        · exact pair_adv hc _ (by decide) i hi
theorem predF_adv {l : List Wd} (hc : Cl l) {nt : Nat → Rd Tm} (h : Adv l nt) : Adv l (predF l nt) := jn_adv hc _ (by decide) (jn_adv hc _ (by decide) h)
theorem polF_adv {l : List Wd} (hc : Cl l) {at' : Nat → Rd Tm} (h : Adv l at') : Adv l (polF l at') := jn_adv hc _ (by decide) (jn_adv hc _ (by decide) (starF_adv hc h))
theorem ps_adv {l : List Wd} (hc : Cl l) : ∀ n, Adv l (ps l n).pol ∧ Adv l (ps l n).pred ∧ Adv l (ps l n).nt
  | 0 => ⟨fun i hi => .bad (Nat.le_refl _) hi, fun i hi => .bad (Nat.le_refl _) hi, fun i hi => .bad (Nat.le_refl _) hi⟩
  | n + 1 => by
    obtain ⟨h1, h2, h3⟩ := ps_adv hc n
    exact ⟨polF_adv hc (atomF_adv hc h1 h2), predF_adv hc (notF_adv hc h2 h3), notF_adv hc h2 h3⟩
theorem qry_adv {l : List Wd} (hc : Cl l) {pred : Nat → Rd Tm} (hp : Adv l pred) : Adv l (qry l pred) := by
  intro i hi
  unfold qry
  split
  · rename_i hk
    have h1 := k_lt hc hi (by omega)
    split
    · rename_i ht
      have h2 := tk_lt hc h1 (by decide) ht
      exact ((hp _ h2).map _).wk (by omega)
    · exact .bad (by omega) h1
  · exact .bad (Nat.le_refl _) hi
theorem qrs_adv {l : List Wd} (hc : Cl l) {pred : Nat → Rd Tm} (hp : Adv l pred) : ∀ f i acc, i < l.length → Adz l i (qrs l pred f i acc)
  | 0, i, acc, hi => .ok (Nat.le_refl _) hi
  | f + 1, i, acc, hi => by
    rw [qrs]
    split
    · rename_i ht
      have h1 := tk_lt hc hi (by decide) ht
      have h2 := qry_adv hc hp _ h1
      split
      · rename_i j hj
        have := h2.2 j hj
        exact .bad (by omega) this.2
      · rename_i t j hj
        have := h2.1 t j hj
        exact (qrs_adv hc hp f j _ this.2).wk (by omega)
    · exact .ok (Nat.le_refl _) hi
end Go.Proofs.YtoncogkamlgjhaaGreatDoor
