/-
  Plain: what Get and Put leave of the entries; what the statements of caches need. No condition.
-/
import Derived.Test.YtpmdgockiblkaaaWK
namespace Go.Proofs.Ytpmdgockiblkaaa
open Go.RowKit

/-- Alike but for the mark. -/
def Lk (e e' : Et) : Prop := e'.h = e.h ∧ e'.id = e.id ∧ e'.gen = e.gen
theorem Lk.refl (e : Et) : Lk e e := ⟨rfl, rfl, rfl⟩
theorem Lk.trans {a b c : Et} (h : Lk a b) (k : Lk b c) : Lk a c := ⟨k.1.trans h.1, k.2.1.trans h.2.1, k.2.2.trans h.2.2⟩
theorem unm_mem {es : List (Option Et)} {k p : Nat} {e' : Et} (h : (unm es k)[p]? = some (some e')) : ∃ e, es[p]? = some (some e) ∧ Lk e e' := by
  unfold unm at h
  split at h
  · rename_i e he
    rcases set_at h with ⟨rfl, _, hy⟩ | ⟨_, hy⟩
    · cases hy; exact ⟨e, he, rfl, rfl, rfl⟩
    · exact ⟨e', hy, Lk.refl _⟩
  · exact ⟨e', h, Lk.refl _⟩
theorem rn_mem (now : Int) : ∀ (n : Nat) (es : List (Option Et)) (k : Nat), marks es = n → ∀ {p : Nat} {e' : Et}, (rn now es k).1[p]? = some (some e') → ∃ e, es[p]? = some (some e) ∧ Lk e e'
  | n, es, k, hm, p, e', h => by
    cases hf : fr now es k with
    | false => rw [rn_stop hf] at h; exact ⟨e', h, Lk.refl _⟩
    | true =>
      have h1 := marks_unm hf
      match n, hm with
      | 0, hm => omega
      | n + 1, hm =>
        rw [rn_go hf] at h
        obtain ⟨e, a1, a2⟩ := rn_mem now n _ _ (by omega) h
        obtain ⟨e0, b1, b2⟩ := unm_mem a1
        exact ⟨e0, b1, b2.trans a2⟩
theorem get_mem {c : Cs} {h : Hdr} {p : Nat} {e' : Et} (hp : (getS c h).es[p]? = some (some e')) : ∃ e, c.es[p]? = some (some e) ∧ Lk e e' := by
  cases hf : fnd c.es h with
  | none => rw [(get_none hf).1] at hp; exact ⟨e', hp, Lk.refl _⟩
  | some i =>
    obtain ⟨e, he, -⟩ := fnd_some hf
    by_cases hg : e.gen = c.now
    · rw [(get_hit hf he hg).1] at hp
      rcases set_at hp with ⟨rfl, _, hy⟩ | ⟨_, hy⟩
      · cases hy; exact ⟨e, he, rfl, rfl, rfl⟩
      · exact ⟨e', hy, Lk.refl _⟩
    · rw [(get_old hf he hg).1] at hp
      rcases set_at hp with ⟨_, _, hy⟩ | ⟨_, hy⟩
      · cases hy
      · exact ⟨e', hy, Lk.refl _⟩
theorem get_len (c : Cs) (h : Hdr) : (getS c h).es.length = c.es.length ∧ (getS c h).now = c.now ∧ (getS c h).hand = c.hand := by
  cases hf : fnd c.es h with
  | none => rw [(get_none hf).1]; exact ⟨rfl, rfl, rfl⟩
  | some i =>
    obtain ⟨e, he, -⟩ := fnd_some hf
    by_cases hg : e.gen = c.now
    · rw [(get_hit hf he hg).1]; simp
    · rw [(get_old hf he hg).1]; simp
theorem put_len (c : Cs) (h : Hdr) (id : Int) : (putS c h id).es.length = c.es.length ∧ (putS c h id).now = c.now := by
  by_cases hc : c.es = []
  · rw [put_nil h id hc]; exact ⟨rfl, rfl⟩
  cases hf : fnd c.es h with
  | some i =>
    obtain ⟨e, he, -⟩ := fnd_some hf
    rw [put_in hf he]; simp
  | none =>
    cases hi : c.es.findIdx? Option.isNone with
    | some i => rw [put_free hf hi]; simp
    | none => rw [put_full hc hf hi]; simp [(rn_len c.now _ c.es c.hand rfl).1]
theorem len_pos {es : List (Option Et)} (h : es ≠ []) : 0 < es.length := List.length_pos_iff.2 h
theorem Hk.get {c : Cs} (hk : Hk c) (h : Hdr) : Hk (getS c h) := by
  obtain ⟨a1, a2, a3⟩ := get_len c h
  refine ⟨fun hne => ?_, by rw [a1]; exact hk.2⟩
  rw [a1, a3]
  exact hk.1 fun e => by have := len_pos hne; rw [a1, e] at this; simp at this
theorem Hk.put {c : Cs} (hk : Hk c) (h : Hdr) (id : Int) : Hk (putS c h id) := by
  obtain ⟨a1, a2⟩ := put_len c h id
  refine ⟨fun hne => ?_, by rw [a1]; exact hk.2⟩
  have hp := len_pos hne
  rw [a1] at hp
  have hc : c.es ≠ [] := List.length_pos_iff.1 hp
  rw [a1]
  cases hf : fnd c.es h with
  | some i =>
    obtain ⟨e, he, -⟩ := fnd_some hf
    rw [put_in hf he]; exact hk.1 hc
  | none =>
    cases hi : c.es.findIdx? Option.isNone with
    | some i => rw [put_free hf hi]; exact hk.1 hc
    | none => rw [put_full hc hf hi]; exact Nat.mod_lt _ hp
theorem Hk.turn {c : Cs} (hk : Hk c) : Hk (turnS c) := hk
theorem Hk.new (n : Nat) (hn : n ≤ 1024) : Hk (newC n) := ⟨fun h => by have := len_pos h; simpa [newC] using this, by simpa [newC] using hn⟩
/-- What Put leaves. -/
theorem put_mem {c : Cs} {h : Hdr} {id : Int} (_hk : Hk c) (hD : Dis c.es) {p : Nat} {e' : Et} (hp : (putS c h id).es[p]? = some (some e')) : (e'.h = h ∧ e'.id = id ∧ e'.gen = c.now) ∨ (e'.h ≠ h ∧ ∃ e, c.es[p]? = some (some e) ∧ Lk e e') := by
  by_cases hc : c.es = []
  · rw [put_nil h id hc, hc] at hp; simp at hp
  cases hf : fnd c.es h with
  | some i =>
    obtain ⟨e, he, heh⟩ := fnd_some hf
    rw [put_in hf he] at hp
    rcases set_at hp with ⟨rfl, _, hy⟩ | ⟨hne, hy⟩
    · cases hy; exact Or.inl ⟨heh, rfl, rfl⟩
    · exact Or.inr ⟨fun e1 => hne (hD p i e' e hy he (e1.trans heh.symm)), e', hy, Lk.refl _⟩
  | none =>
    have hn := fnd_none hf
    cases hi : c.es.findIdx? Option.isNone with
    | some i =>
      rw [put_free hf hi] at hp
      rcases set_at hp with ⟨rfl, _, hy⟩ | ⟨hne, hy⟩
      · cases hy; exact Or.inl ⟨rfl, rfl, rfl⟩
      · exact Or.inr ⟨hn p e' hy, e', hy, Lk.refl _⟩
    | none =>
      rw [put_full hc hf hi] at hp
      rcases set_at hp with ⟨rfl, _, hy⟩ | ⟨hne, hy⟩
      · cases hy; exact Or.inl ⟨rfl, rfl, rfl⟩
      · obtain ⟨e, b1, b2⟩ := rn_mem c.now _ c.es c.hand rfl hy
        exact Or.inr ⟨by rw [b2.1]; exact hn p e b1, e, b1, b2⟩
/-- Behind Put the header is there. -/
theorem put_has {c : Cs} {h : Hdr} {id : Int} (hk : Hk c) (hc : c.es ≠ []) : ∃ (p : Nat) (e : Et), (putS c h id).es[p]? = some (some e) ∧ e.h = h ∧ e.id = id ∧ e.gen = c.now := by
  cases hf : fnd c.es h with
  | some i =>
    obtain ⟨e, he, heh⟩ := fnd_some hf
    rw [put_in hf he]
    exact ⟨i, _, List.getElem?_set_self (List.getElem?_eq_some_iff.1 he).1, heh, rfl, rfl⟩
  | none =>
    cases hi : c.es.findIdx? Option.isNone with
    | some i =>
      rw [put_free hf hi]
      exact ⟨i, _, List.getElem?_set_self (List.getElem?_eq_some_iff.1 (free_at hi).1).1, rfl, rfl, rfl⟩
    | none =>
      rw [put_full hc hf hi]
      have h1 := rn_len c.now _ c.es c.hand rfl
      exact ⟨_, _, List.getElem?_set_self (by rw [h1.1]; exact h1.2.1 (hk.1 hc)), rfl, rfl, rfl⟩
/-- What Get tells of a header that is there. -/
theorem get_of {c : Cs} (hD : Dis c.es) {p : Nat} {e : Et} (he : c.es[p]? = some (some e)) (hg : e.gen = c.now) : getI c e.h = e.id ∧ getB c e.h = true := by
  have := get_hit (hD.fnd he) he hg
  exact this.2
theorem get_yes {c : Cs} {h : Hdr} (hb : getB c h = true) : ∃ (p : Nat) (e : Et), c.es[p]? = some (some e) ∧ e.h = h ∧ e.gen = c.now ∧ getI c h = e.id := by
  cases hf : fnd c.es h with
  | none => rw [(get_none hf).2.2] at hb; cases hb
  | some i =>
    obtain ⟨e, he, heh⟩ := fnd_some hf
    by_cases hg : e.gen = c.now
    · exact ⟨i, e, he, heh, hg, (get_hit hf he hg).2.1⟩
    · rw [(get_old hf he hg).2.2] at hb; cases hb
theorem get_not {c : Cs} {h : Hdr} (hb : getB c h = false) : getI c h = 0 := by
  cases hf : fnd c.es h with
  | none => exact (get_none hf).2.1
  | some i =>
    obtain ⟨e, he, heh⟩ := fnd_some hf
    by_cases hg : e.gen = c.now
    · rw [(get_hit hf he hg).2.2] at hb; cases hb
    · exact (get_old hf he hg).2.1
theorem held_le (c : Cs) : heldS c ≤ c.es.length := List.countP_le_length
theorem held_zero {c : Cs} (h : ∀ (p : Nat) (e : Et), c.es[p]? = some (some e) → e.gen ≠ c.now) : heldS c = 0 := by
  unfold heldS
  rw [List.countP_eq_zero]
  intro o ho
  obtain ⟨p, hp, rfl⟩ := List.getElem_of_mem ho
  cases he : c.es[p] with
  | none => simp [hl1]
  | some e => simp [hl1, h p e (by rw [List.getElem?_eq_getElem hp, he])]
/-- CacheStays: the header stands, and no other one is marked. -/
structure St (c : Cs) (h : Hdr) (m : Bool) : Prop where
  two : 2 ≤ c.es.length
  ex : ∃ (p : Nat) (e : Et), c.es[p]? = some (some e) ∧ e.h = h ∧ e.id = 7 ∧ e.gen = c.now ∧ (m = true → e.mark = true) ∧ ∀ (i : Nat) (e' : Et), i ≠ p → c.es[i]? = some (some e') → e'.mark = false
theorem St.get {c : Cs} {h : Hdr} {m : Bool} (hS : St c h m) (hD : Dis c.es) : getI c h = 7 ∧ getB c h = true ∧ St (getS c h) h true := by
  obtain ⟨p, e, he, rfl, hi, hg, -, ho⟩ := hS.ex
  obtain ⟨g1, g2, g3⟩ := get_hit (hD.fnd he) he hg
  have hpl : p < c.es.length := (List.getElem?_eq_some_iff.1 he).1
  refine ⟨by rw [g2, hi], g3, ⟨by rw [g1]; simpa using hS.two, ?_⟩⟩
  rw [g1]
  refine ⟨p, { e with mark := true }, List.getElem?_set_self hpl, rfl, hi, hg, fun _ => rfl, fun i e' hne h1 => ?_⟩
  rcases set_at h1 with ⟨h2, _⟩ | ⟨_, h2⟩
  · exact absurd h2 hne
  · exact ho i e' hne h2
theorem St.put {c : Cs} {h x : Hdr} {id : Int} (hS : St c h true) (_hD : Dis c.es) (hk : Hk c) (hx : x ≠ h) : St (putS c x id) h false := by
  obtain ⟨p, e, he, heh, hi, hg, hm, ho⟩ := hS.ex
  have hmk := hm rfl
  have hpl : p < c.es.length := (List.getElem?_eq_some_iff.1 he).1
  have hc : c.es ≠ [] := List.length_pos_iff.1 (by omega)
  refine ⟨by rw [(put_len c x id).1]; exact hS.two, ?_⟩
  cases hf : fnd c.es x with
  | some i =>
    obtain ⟨y, hy, hyh⟩ := fnd_some hf
    have hip : i ≠ p := fun e1 => by rw [e1, he] at hy; cases hy; exact hx (hyh.symm.trans heh)
    rw [put_in hf hy]
    refine ⟨p, e, by rw [List.getElem?_set_ne hip]; exact he, heh, hi, hg, (fun h => by cases h), fun j e' hne h1 => ?_⟩
    rcases set_at h1 with ⟨rfl, _, h2⟩ | ⟨_, h2⟩
    · cases h2; exact ho j y hne hy
    · exact ho j e' hne h2
  | none =>
    cases hfi : c.es.findIdx? Option.isNone with
    | some i =>
      have hip : i ≠ p := fun e1 => by have := (free_at hfi).1; rw [e1, he] at this; cases this
      rw [put_free hf hfi]
      refine ⟨p, e, by rw [List.getElem?_set_ne hip]; exact he, heh, hi, hg, (fun h => by cases h), fun j e' hne h1 => ?_⟩
      rcases set_at h1 with ⟨rfl, _, h2⟩ | ⟨_, h2⟩
      · cases h2; rfl
      · exact ho j e' hne h2
    | none =>
      rw [put_full hc hf hfi]
      have hh := hk.1 hc
      obtain ⟨y, hy⟩ := full_at hfi c.hand hh
      by_cases hhp : c.hand = p
      · have hfr : fr c.now c.es c.hand = true := by rw [hhp, fr_at he]; simp [hmk, hg]
        have hk2 : (c.hand + 1) % c.es.length < c.es.length := Nat.mod_lt _ (by omega)
        have hk3 : (c.hand + 1) % c.es.length ≠ p := by
          have h2 := hS.two
          by_cases h3 : c.hand + 1 = c.es.length
          · rw [h3, Nat.mod_self]; omega
          · rw [Nat.mod_eq_of_lt (by omega)]; omega
        have hun : unm c.es c.hand = c.es.set p (some { e with mark := false }) := by rw [hhp, unm_at he]
        obtain ⟨z, hz⟩ := full_at hfi _ hk2
        have hst : fr c.now (unm c.es c.hand) ((c.hand + 1) % c.es.length) = false := by
          have hz' : (unm c.es c.hand)[(c.hand + 1) % c.es.length]? = some (some z) := by rw [hun, List.getElem?_set_ne (fun e => hk3 e.symm)]; exact hz
          rw [fr_at hz', ho _ z hk3 hz]; rfl
        have hrn : rn c.now c.es c.hand = (c.es.set p (some { e with mark := false }), (c.hand + 1) % c.es.length) := by rw [rn_go hfr, rn_stop hst, hun]
        rw [hrn]
        refine ⟨p, { e with mark := false }, by show ((c.es.set p _).set _ _)[p]? = _; rw [List.getElem?_set_ne hk3, List.getElem?_set_self hpl], heh, hi, hg, (fun h => by cases h), fun j e' hne h1 => ?_⟩
        rcases set_at h1 with ⟨_, _, h2⟩ | ⟨_, h2⟩
        · cases h2; rfl
        · rcases set_at h2 with ⟨h3, _⟩ | ⟨_, h3⟩
          · exact absurd h3 hne
          · exact ho j e' hne h3
      · have hst : fr c.now c.es c.hand = false := by rw [fr_at hy, ho _ y hhp hy]; rfl
        rw [rn_stop hst]
        refine ⟨p, e, by show (c.es.set c.hand _)[p]? = _; rw [List.getElem?_set_ne hhp]; exact he, heh, hi, hg, (fun h => by cases h), fun j e' hne h1 => ?_⟩
        rcases set_at h1 with ⟨_, _, h2⟩ | ⟨_, h2⟩
        · cases h2; rfl
        · exact ho j e' hne h2
theorem St.start {n : Nat} (hn : 2 ≤ n) (hl : n ≤ 1024) (h : Hdr) : St (putS (newC n) h 7) h false := by
  have hf : fnd (newC n).es h = none := fnd_no fun i e he => by
    have := List.mem_of_getElem? he
    simp [newC] at this
  have h0 : (newC n).es.findIdx? Option.isNone = some 0 := by
    obtain ⟨m, rfl⟩ : ∃ m, n = m + 1 := ⟨n - 1, by omega⟩
    simp [newC, List.replicate_succ, List.findIdx?_cons]
  refine ⟨by rw [(put_len _ h 7).1]; simpa [newC] using hn, ?_⟩
  rw [put_free hf h0]
  refine ⟨0, ⟨h, 7, (newC n).now, false⟩, List.getElem?_set_self (by simp [newC]; omega), rfl, rfl, rfl, (fun h => by cases h), fun j e' hne h1 => ?_⟩
  rcases set_at h1 with ⟨h2, _⟩ | ⟨_, h2⟩
  · exact absurd h2 hne
  · have := List.mem_of_getElem? h2
    simp [newC] at this
end Go.Proofs.Ytpmdgockiblkaaa
