/-
  Plain facts of two ends of one epoch: what came is a beginning of what was sent, whatever of what was told comes, as often and in whatever order. No program's function is spoken of.
-/
import Derived.Test.YtijjcopglbcoiaaL1
namespace Go.Proofs.Ytijjcopglbcoiaa
open Seal

/-- ms are messages of P from the number g on. -/
def Sub (P : List (List Int)) (g : Nat) (ms : List (List Int)) : Prop := ∀ i, i < ms.length → P[g + i]? = ms[i]?
/-- What came: x was told, new was not yet. -/
structure Rel (P x : List (List Int)) (e : E) : Prop where
  all : x ++ e.new = P.take e.come
  le : e.come ≤ P.length
theorem rel_ad {P x : List (List Int)} : ∀ (ms : List (List Int)) (e : E) (g : Nat), Rel P x e → Sub P g ms → Rel P x (ad e g ms) ∧ e.come ≤ (ad e g ms).come ∧ (g ≤ e.come → g + ms.length ≤ (ad e g ms).come) ∧ (ad e g ms).ep = e.ep ∧ (ad e g ms).sent = e.sent ∧ (ad e g ms).got = e.got
  | [], e, g, h, _ => ⟨h, Nat.le_refl _, by intro h; simpa [ad] using h, rfl, rfl, rfl⟩
  | m :: r, e, g, h, hs => by
    have hs' : Sub P (g + 1) r := fun i hi => by
      have := hs (i + 1) (by simp; omega)
      rw [show g + 1 + i = g + (i + 1) by omega, this]; simp
    have h0 : P[g]? = some m := by simpa using hs 0 (by simp)
    have hg : g < P.length := (List.getElem?_eq_some_iff.1 h0).1
    by_cases hc : g = e.come
    · have e1 : ad e g (m :: r) = ad { e with new := e.new ++ [m], come := e.come + 1 } (g + 1) r := by
        show ad (if g = e.come then _ else _) (g + 1) r = _
        rw [if_pos hc]
      have h1 : Rel P x { e with new := e.new ++ [m], come := e.come + 1 } := by
        refine ⟨?_, by show e.come + 1 ≤ _; omega⟩
        show x ++ (e.new ++ [m]) = P.take (e.come + 1)
        rw [← List.append_assoc, h.all, List.take_add_one, ← hc, h0]; rfl
      have ih := rel_ad r _ (g + 1) h1 hs'
      rw [e1]
      refine ⟨ih.1, ?_, fun _ => ?_, ih.2.2.2.1, ih.2.2.2.2.1, ih.2.2.2.2.2⟩
      · exact Nat.le_trans (Nat.le_succ _) ih.2.1
      · have := ih.2.2.1 (by show g + 1 ≤ e.come + 1; omega)
        rw [List.length_cons]; omega
    · have e1 : ad e g (m :: r) = ad e (g + 1) r := by
        show ad (if g = e.come then _ else _) (g + 1) r = _
        rw [if_neg hc]
      have ih := rel_ad r e (g + 1) h hs'
      rw [e1]
      refine ⟨ih.1, ih.2.1, fun hle => ?_, ih.2.2.2⟩
      have := ih.2.2.1 (by omega)
      rw [List.length_cons]; omega

/-- One way of a line: A sends P, what came at B is x and B's new. -/
structure Dir (P x : List (List Int)) (A B : E) : Prop where
  sent : A.sent = P.drop A.got
  got : A.got ≤ B.come
  rel : Rel P x B
/-- A datagram that A may have told. -/
def Good (P : List (List Int)) (A : E) (d : List Int) : Prop := ∃ c g ms, d = dat (bodyOf A.ep c g ms) ∧ c ≤ A.come ∧ g ≤ A.got ∧ Sub P g ms ∧ ms.length ≤ 32 ∧ AllB ms ∧ (∀ m ∈ ms, m.length ≤ 8192) ∧ c < 4294967296 ∧ g < 4294967296 ∧ A.ep < 4294967296
theorem Good.mono {P : List (List Int)} {A A' : E} {d : List Int} (h : Good P A d) (he : A'.ep = A.ep) (hc : A.come ≤ A'.come) (hg : A.got ≤ A'.got) : Good P A' d := by
  obtain ⟨c, g, ms, h1, h2, h3, h4⟩ := h
  exact ⟨c, g, ms, by rw [he]; exact h1, by omega, by omega, by rw [he]; exact h4⟩
theorem sub_take {P : List (List Int)} {g n : Nat} : Sub P g ((P.drop g).take n) := fun i hi => by
  rw [List.getElem?_take]
  have : i < n := by rw [List.length_take] at hi; omega
  rw [if_pos this, List.getElem?_drop]
theorem Good.tick {P : List (List Int)} {A : E} (hs : A.sent = P.drop A.got) (hb : AllB P) (hm : ∀ m ∈ P, m.length ≤ 8192) (hc : A.come < 4294967296) (hg : A.got < 4294967296) (he : A.ep < 4294967296) : Good P A (tkL A) := by
  have hw : win A = (P.drop A.got).take (win A).length := by rw [← hs]; exact win_pre A
  refine ⟨A.come, A.got, win A, rfl, Nat.le_refl _, Nat.le_refl _, by rw [hw]; exact sub_take, win_le A, ?_, ?_, hc, hg, he⟩
  · rw [hw]; exact (hb.drop _).take _
  · intro m h
    rw [hw] at h
    exact hm m (List.mem_of_mem_drop (List.mem_of_mem_take h))
/-- A datagram of A's comes to B. -/
theorem Dir.take {P Q x y : List (List Int)} {A B : E} {d : List Int} (h1 : Dir P x A B) (h2 : Dir Q y B A) (he : B.ep = A.ep) (hd : Good P A d) (hl : B.got + B.sent.length ≤ Q.length) :
    taE d = 0 ∧ Dir P x A (taS B d) ∧ Dir Q y (taS B d) A ∧ (taS B d).ep = B.ep ∧ B.come ≤ (taS B d).come ∧ B.got ≤ (taS B d).got ∧ (taS B d).got + (taS B d).sent.length ≤ Q.length := by
  obtain ⟨c, g, ms, rfl, hc, hg, hs, hl32, hB, hm, c32, g32, e32⟩ := hd
  have ht := take_dat hB hl32 hm e32 c32 g32 B
  have hh : hear B A.ep c g ms = ad (gt B c) g ms := by
    unfold hear; rw [if_neg (by omega), show rs B A.ep = B from if_neg (by omega)]
  have hgt : (gt B c).ep = B.ep ∧ (gt B c).come = B.come ∧ (gt B c).new = B.new ∧ B.got ≤ (gt B c).got ∧ (gt B c).got ≤ A.come ∧ (gt B c).sent = Q.drop (gt B c).got ∧ (gt B c).got + (gt B c).sent.length ≤ Q.length := by
    unfold gt
    split
    · rename_i h
      refine ⟨rfl, rfl, rfl, by show B.got ≤ c; omega, hc, ?_, ?_⟩
      · show B.sent.drop (c - B.got) = Q.drop c
        rw [h2.sent, List.drop_drop, show B.got + (c - B.got) = c by omega]
      · show c + (B.sent.drop (c - B.got)).length ≤ _
        rw [List.length_drop]; omega
    · exact ⟨rfl, rfl, rfl, Nat.le_refl _, h2.got, h2.sent, hl⟩
  have hrel : Rel P x (gt B c) := ⟨by rw [hgt.2.1, hgt.2.2.1]; exact h1.rel.all, by rw [hgt.2.1]; exact h1.rel.le⟩
  have ha := rel_ad ms (gt B c) g hrel hs
  rw [ht.1, ht.2, hh]
  refine ⟨rfl, ⟨h1.sent, ?_, ha.1⟩, ⟨?_, ?_, h2.rel⟩, ?_, ?_, ?_, ?_⟩
  · have := ha.2.1; rw [hgt.2.1] at this; have := h1.got; omega
  · rw [ha.2.2.2.2.1, ha.2.2.2.2.2]; exact hgt.2.2.2.2.2.1
  · rw [ha.2.2.2.2.2]; exact hgt.2.2.2.2.1
  · rw [ha.2.2.2.1]; exact hgt.1
  · have := ha.2.1; rw [hgt.2.1] at this; exact this
  · rw [ha.2.2.2.2.2]; exact hgt.2.2.2.1
  · rw [ha.2.2.2.2.1, ha.2.2.2.2.2]; exact hgt.2.2.2.2.2.2
/-- Came is asked. -/
theorem Dir.came {P x : List (List Int)} {A B : E} (h : Dir P x A B) : Dir P (x ++ B.new) A (cmS B) := ⟨h.sent, h.got, by show (x ++ B.new) ++ [] = _; rw [List.append_nil]; exact h.rel.all, h.rel.le⟩
theorem Dir.other {P x : List (List Int)} {A B : E} (h : Dir P x A B) : Dir P x (cmS A) B := ⟨h.sent, h.got, h.rel⟩
end Go.Proofs.Ytijjcopglbcoiaa
