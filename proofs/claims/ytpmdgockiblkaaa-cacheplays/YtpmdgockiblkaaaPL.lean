/-
  Plain: headers (Hdr), a cache as a list of places (Cs); Get, Put, Turn, Held as functions of it; what they keep. No condition.
-/
import Derived.Test.YtpmdgockiblkaaaEQ
namespace Go.Proofs.Ytpmdgockiblkaaa
open Go.RowKit

/-- A header. -/
structure Hdr where
  f : Nat → Int
  wf : Wf f
  out : ∀ k, 11 ≤ k → f k = 0
theorem Hdr.eq {a b : Hdr} (h : ∀ k, k < 11 → a.f k = b.f k) : a = b := by
  obtain ⟨f, h1, h2⟩ := a
  obtain ⟨g, h3, h4⟩ := b
  have : f = g := by
    funext k
    by_cases hk : k < 11
    · exact h k hk
    · rw [h2 k (by omega), h4 k (by omega)]
  subst this; rfl
noncomputable instance : DecidableEq Hdr := fun a b => Classical.propDecidable (a = b)
def toH (f : Nat → Int) (h : Wf f) : Hdr := ⟨fun k => if k < 11 then f k else 0, fun k => by
  show (Lit.int .u64 (if k < 11 then f k else 0)).wf = true
  split
  · exact h k
  · exact zero_wf, fun k hk => if_neg (by omega)⟩
theorem toH_hv (f : Nat → Int) (h : Wf f) : row 11 f = row 11 (toH f h).f := row_congr fun k hk => by simp [toH, hk]
theorem toH_hd {H : Type} (f : Nat → Int) (h : Wf f) : (hd f : DataW H) = hd (toH f h).f := hd_congr fun k hk => by simp [toH, hk]
theorem kl_eq {a b : Hdr} (h : kl a.f = kl b.f) : a = b := Hdr.eq (kl_inj a.wf b.wf h)
theorem eqR_hdr (a b : Hdr) : eqR 11 a.f b.f = decide (a = b) := by
  by_cases h : a = b
  · subst h; rw [decide_eq_true rfl]; exact eqR_iff.2 fun _ _ => rfl
  · rw [decide_eq_false h]
    cases e : eqR 11 a.f b.f
    · rfl
    · exact absurd (Hdr.eq (eqR_iff.1 e)) h
/-- What stands at a place. -/
structure Et where
  h : Hdr
  id : Int
  gen : Int
  mark : Bool
structure Cs where
  now : Int
  hand : Nat
  es : List (Option Et)
noncomputable def isH (h : Hdr) (o : Option Et) : Bool := match o with | some e => decide (e.h = h) | none => false
noncomputable def fnd (es : List (Option Et)) (h : Hdr) : Option Nat := es.findIdx? (isH h)
theorem fnd_some {es : List (Option Et)} {h : Hdr} {i : Nat} (hf : fnd es h = some i) : ∃ e, es[i]? = some (some e) ∧ e.h = h := by
  unfold fnd at hf
  rw [List.findIdx?_eq_some_iff_getElem] at hf
  obtain ⟨hi, h1, _⟩ := hf
  cases he : es[i] with
  | none => rw [he] at h1; simp [isH] at h1
  | some e =>
    rw [he] at h1
    exact ⟨e, by rw [List.getElem?_eq_getElem hi, he], by simpa [isH] using h1⟩
theorem fnd_none {es : List (Option Et)} {h : Hdr} (hf : fnd es h = none) : ∀ (i : Nat) (e : Et), es[i]? = some (some e) → e.h ≠ h := by
  intro i e he hh
  unfold fnd at hf
  rw [List.findIdx?_eq_none_iff] at hf
  have := hf (some e) (List.mem_of_getElem? he)
  simp [isH, hh] at this
/-- No two places have one header. -/
def Dis (es : List (Option Et)) : Prop := ∀ (i j : Nat) (e e' : Et), es[i]? = some (some e) → es[j]? = some (some e') → e.h = e'.h → i = j
theorem Dis.fnd {es : List (Option Et)} (hD : Dis es) {i : Nat} {e : Et} (he : es[i]? = some (some e)) : fnd es e.h = some i := by
  cases hf : Go.Proofs.Ytpmdgockiblkaaa.fnd es e.h with
  | none => exact absurd rfl (fnd_none hf i e he)
  | some j =>
    obtain ⟨e', h1, h2⟩ := fnd_some hf
    rw [hD j i e' e h1 he h2]
theorem fnd_no {es : List (Option Et)} {h : Hdr} (hn : ∀ (i : Nat) (e : Et), es[i]? = some (some e) → e.h ≠ h) : fnd es h = none := by
  cases hf : fnd es h with
  | none => rfl
  | some j =>
    obtain ⟨e', h1, h2⟩ := fnd_some hf
    exact absurd h2 (hn j e' h1)
theorem set_at {α : Type} {l : List α} {i j : Nat} {x y : α} (h : (l.set i x)[j]? = some y) : (j = i ∧ i < l.length ∧ y = x) ∨ (j ≠ i ∧ l[j]? = some y) := by
  rw [List.getElem?_set] at h
  by_cases e : i = j
  · subst e
    rw [if_pos rfl] at h
    split at h
    · left; cases h; exact ⟨rfl, by assumption, rfl⟩
    · cases h
  · rw [if_neg e] at h; exact Or.inr ⟨fun e' => e e'.symm, h⟩
theorem Dis.set {es : List (Option Et)} (hD : Dis es) {i : Nat} {x : Et} (hx : ∀ (j : Nat) (e' : Et), j ≠ i → es[j]? = some (some e') → e'.h ≠ x.h) : Dis (es.set i (some x)) := by
  intro a b e e' ha hb he
  rcases set_at ha with ⟨rfl, h1, h2⟩ | ⟨h1, h2⟩ <;> rcases set_at hb with ⟨rfl, h3, h4⟩ | ⟨h3, h4⟩
  · rfl
  · cases h2; exact absurd he.symm (hx b e' h3 h4)
  · cases h4; exact absurd he (hx a e h1 h2)
  · exact hD a b e e' h2 h4 he
theorem Dis.none {es : List (Option Et)} (hD : Dis es) (i : Nat) : Dis (es.set i none) := by
  intro a b e e' ha hb he
  rcases set_at ha with ⟨_, _, h2⟩ | ⟨_, h2⟩
  · cases h2
  rcases set_at hb with ⟨_, _, h4⟩ | ⟨_, h4⟩
  · cases h4
  exact hD a b e e' h2 h4 he
theorem Dis.upd {es : List (Option Et)} (hD : Dis es) {i : Nat} {e x : Et} (he : es[i]? = some (some e)) (hx : x.h = e.h) : Dis (es.set i (some x)) :=
  hD.set fun j e' hj h1 h2 => hj (hD j i e' e h1 he (h2.trans hx))

noncomputable def getS (c : Cs) (h : Hdr) : Cs := match fnd c.es h with
  | none => c
  | some i => match c.es[i]? with
    | some (some e) => if e.gen = c.now then { c with es := c.es.set i (some { e with mark := true }) } else { c with es := c.es.set i none }
    | _ => c
noncomputable def getI (c : Cs) (h : Hdr) : Int := match fnd c.es h with
  | none => 0
  | some i => match c.es[i]? with
    | some (some e) => if e.gen = c.now then e.id else 0
    | _ => 0
noncomputable def getB (c : Cs) (h : Hdr) : Bool := match fnd c.es h with
  | none => false
  | some i => match c.es[i]? with
    | some (some e) => decide (e.gen = c.now)
    | _ => false
theorem get_none {c : Cs} {h : Hdr} (hf : fnd c.es h = none) : getS c h = c ∧ getI c h = 0 ∧ getB c h = false := by
  simp [getS, getI, getB, hf]
theorem get_hit {c : Cs} {h : Hdr} {i : Nat} {e : Et} (hf : fnd c.es h = some i) (he : c.es[i]? = some (some e)) (hg : e.gen = c.now) : getS c h = { c with es := c.es.set i (some { e with mark := true }) } ∧ getI c h = e.id ∧ getB c h = true := by
  simp [getS, getI, getB, hf, he, hg]
theorem get_old {c : Cs} {h : Hdr} {i : Nat} {e : Et} (hf : fnd c.es h = some i) (he : c.es[i]? = some (some e)) (hg : e.gen ≠ c.now) : getS c h = { c with es := c.es.set i none } ∧ getI c h = 0 ∧ getB c h = false := by
  simp [getS, getI, getB, hf, he, hg]
/-- Whether the hand goes on. -/
def fr (now : Int) (es : List (Option Et)) (k : Nat) : Bool := match es[k]? with | some (some e) => e.mark && decide (e.gen = now) | _ => false
def unm (es : List (Option Et)) (k : Nat) : List (Option Et) := match es[k]? with | some (some e) => es.set k (some { e with mark := false }) | _ => es
def mk1 (o : Option Et) : Bool := match o with | some e => e.mark | none => false
def marks (es : List (Option Et)) : Nat := es.countP mk1
theorem unm_at {es : List (Option Et)} {k : Nat} {e : Et} (he : es[k]? = some (some e)) : unm es k = es.set k (some { e with mark := false }) := by simp [unm, he]
theorem unm_len (es : List (Option Et)) (k : Nat) : (unm es k).length = es.length := by unfold unm; split <;> simp
theorem countP_set {α : Type} (p : α → Bool) : ∀ (l : List α) (i : Nat) (x y : α), l[i]? = some x → (l.set i y).countP p + (if p x then 1 else 0) = l.countP p + (if p y then 1 else 0)
  | [], i, x, y, h => by simp at h
  | a :: l, 0, x, y, h => by
    simp at h; subst h
    simp only [List.set_cons_zero, List.countP_cons]; omega
  | a :: l, i + 1, x, y, h => by
    have := countP_set p l i x y (by simpa using h)
    simp only [List.set_cons_succ, List.countP_cons]; omega
theorem fr_some {now : Int} {es : List (Option Et)} {k : Nat} (h : fr now es k = true) : ∃ e, es[k]? = some (some e) ∧ e.mark = true ∧ e.gen = now := by
  unfold fr at h
  split at h
  · rename_i e he
    simp at h
    exact ⟨e, he, h.1, h.2⟩
  · cases h
theorem marks_unm {now : Int} {es : List (Option Et)} {k : Nat} (h : fr now es k = true) : marks es = marks (unm es k) + 1 := by
  obtain ⟨e, he, h1, h2⟩ := fr_some h
  have := countP_set mk1 es k (some e) (some { e with mark := false }) he
  rw [unm_at he]
  simp [mk1, h1] at this
  unfold marks; omega
def rnd (now : Int) : Nat → List (Option Et) → Nat → List (Option Et) × Nat
  | 0, es, k => (es, k)
  | n + 1, es, k => if fr now es k then rnd now n (unm es k) ((k + 1) % es.length) else (es, k)
/-- Where the hand stops, and what it leaves. -/
def rn (now : Int) (es : List (Option Et)) (k : Nat) : List (Option Et) × Nat := rnd now (marks es) es k
theorem rn_go {now : Int} {es : List (Option Et)} {k : Nat} (h : fr now es k = true) : rn now es k = rn now (unm es k) ((k + 1) % es.length) := by
  unfold rn
  rw [marks_unm h]
  show (if fr now es k then _ else _) = _
  rw [if_pos h]
theorem rn_stop {now : Int} {es : List (Option Et)} {k : Nat} (h : fr now es k = false) : rn now es k = (es, k) := by
  unfold rn
  cases marks es with
  | zero => rfl
  | succ n => show (if fr now es k then _ else _) = _; rw [if_neg (by rw [h]; simp)]
noncomputable def putS (c : Cs) (h : Hdr) (id : Int) : Cs := if c.es = [] then c else match fnd c.es h with
  | some i => (match c.es[i]? with | some (some e) => { c with es := c.es.set i (some { e with id := id, gen := c.now }) } | _ => c)
  | none => match c.es.findIdx? Option.isNone with
    | some i => { c with es := c.es.set i (some ⟨h, id, c.now, false⟩) }
    | none => { c with es := (rn c.now c.es c.hand).1.set (rn c.now c.es c.hand).2 (some ⟨h, id, c.now, false⟩), hand := ((rn c.now c.es c.hand).2 + 1) % c.es.length }
theorem put_nil {c : Cs} (h : Hdr) (id : Int) (hc : c.es = []) : putS c h id = c := by simp [putS, hc]
theorem put_in {c : Cs} {h : Hdr} {id : Int} {i : Nat} {e : Et} (hf : fnd c.es h = some i) (he : c.es[i]? = some (some e)) : putS c h id = { c with es := c.es.set i (some { e with id := id, gen := c.now }) } := by
  have : c.es ≠ [] := fun e' => by rw [e'] at he; simp at he
  simp [putS, hf, he, this]
theorem put_free {c : Cs} {h : Hdr} {id : Int} {i : Nat} (hf : fnd c.es h = none) (hi : c.es.findIdx? Option.isNone = some i) : putS c h id = { c with es := c.es.set i (some ⟨h, id, c.now, false⟩) } := by
  have : c.es ≠ [] := fun e' => by rw [e'] at hi; simp at hi
  simp [putS, hf, hi, this]
theorem put_full {c : Cs} {h : Hdr} {id : Int} (hc : c.es ≠ []) (hf : fnd c.es h = none) (hi : c.es.findIdx? Option.isNone = none) : putS c h id = { c with es := (rn c.now c.es c.hand).1.set (rn c.now c.es c.hand).2 (some ⟨h, id, c.now, false⟩), hand := ((rn c.now c.es c.hand).2 + 1) % c.es.length } := by
  simp [putS, hf, hi, hc]
def turnS (c : Cs) : Cs := { c with now := c.now + 1 }
def hl1 (now : Int) (o : Option Et) : Bool := match o with | some e => decide (e.gen = now) | none => false
def heldS (c : Cs) : Nat := c.es.countP (hl1 c.now)
/-- How many places are taken. -/
def cnt (es : List (Option Et)) : Nat := es.countP Option.isSome
theorem free_iff (es : List (Option Et)) : (cnt es < es.length) ↔ (es.findIdx? Option.isNone).isSome = true := by
  have h := List.countP_le_length (p := Option.isSome) (l := es)
  constructor
  · intro hl
    cases hf : es.findIdx? Option.isNone with
    | some i => rfl
    | none =>
      rw [List.findIdx?_eq_none_iff] at hf
      have : es.countP Option.isSome = es.length := by
        rw [List.countP_eq_length]
        intro o ho
        have := hf o ho
        cases o <;> simp_all
      unfold cnt at hl; omega
  · intro hs
    obtain ⟨i, hi⟩ := Option.isSome_iff_exists.1 hs
    rw [List.findIdx?_eq_some_iff_getElem] at hi
    obtain ⟨h1, h2, _⟩ := hi
    rcases Nat.lt_or_ge (cnt es) es.length with hl | hl
    · exact hl
    · have : es.countP Option.isSome = es.length := by unfold cnt at hl; omega
      rw [List.countP_eq_length] at this
      have h4 := this es[i] (List.getElem_mem h1)
      rw [Option.isNone_iff_eq_none] at h2
      rw [h2] at h4; cases h4
theorem free_at {es : List (Option Et)} {i : Nat} (h : es.findIdx? Option.isNone = some i) : es[i]? = some none ∧ ∀ j, j < i → ∃ e, es[j]? = some (some e) := by
  rw [List.findIdx?_eq_some_iff_getElem] at h
  obtain ⟨h1, h2, h3⟩ := h
  constructor
  · rw [List.getElem?_eq_getElem h1]
    cases he : es[i] <;> simp_all
  · intro j hj
    have := h3 j hj
    rw [List.getElem?_eq_getElem (by omega)]
    cases he : es[j] <;> simp_all
theorem full_at {es : List (Option Et)} (h : es.findIdx? Option.isNone = none) (i : Nat) (hi : i < es.length) : ∃ e, es[i]? = some (some e) := by
  rw [List.findIdx?_eq_none_iff] at h
  have := h es[i] (List.getElem_mem hi)
  rw [List.getElem?_eq_getElem hi]
  cases he : es[i] <;> simp_all
end Go.Proofs.Ytpmdgockiblkaaa
