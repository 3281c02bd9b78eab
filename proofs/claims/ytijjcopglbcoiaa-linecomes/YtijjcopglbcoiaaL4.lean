/-
  Plain facts: what a round of LineComes makes of two ends. No program's function is spoken of.
-/
import Derived.Test.YtijjcopglbcoiaaL3
namespace Go.Proofs.Ytijjcopglbcoiaa
open Seal

/-- Two ends of the epoch 1 behind t rounds. -/
structure Two (K t : Nat) (P Q X Y : List (List Int)) (ea eb : E) (la lb : Nat) : Prop where
  da : Dir P X ea eb
  db : Dir Q Y eb ea
  ep : ea.ep = 1 ∧ eb.ep = 1
  na : ea.got + ea.sent.length = P.length
  nb : eb.got + eb.sent.length = Q.length
  pa : Pr K t P.length ea.got eb.come la lb
  pb : Pr K t Q.length eb.got ea.come lb la
theorem Two.round {K t : Nat} {P Q X Y : List (List Int)} {ea eb ea' eb' : E} {la lb la' lb' : Nat} (h : Two K t P Q X Y ea eb la lb) (hp : AllB P) (hq : AllB Q) (hpl : P.length ≤ 40 ∧ ∀ m ∈ P, m.length ≤ 4096) (hql : Q.length ≤ 40 ∧ ∀ m ∈ Q, m.length ≤ 4096)
    (hA : (la' = 0 ∧ eb' = taS eb (tkL ea)) ∨ (la' = la + 1 ∧ la + 1 < K ∧ eb' = eb)) (hB : (lb' = 0 ∧ ea' = taS ea (tkL eb)) ∨ (lb' = lb + 1 ∧ lb + 1 < K ∧ ea' = ea)) : Two K (t + 1) P Q X Y ea' eb' la' lb' := by
  have c1 := h.da.rel.le; have c2 := h.db.rel.le; have g1 := h.da.got; have g2 := h.db.got
  have e1 := h.ep.1; have e2 := h.ep.2
  have G1 : Good P ea (tkL ea) := Good.tick h.da.sent hp (fun m hm => by have := hpl.2 m hm; omega) (by omega) (by omega) (by omega)
  have G2 : Good Q eb (tkL eb) := Good.tick h.db.sent hq (fun m hm => by have := hql.2 m hm; omega) (by omega) (by omega) (by omega)
  have T1 := take_tick h.da h.db (by omega) hp hpl.2 (by omega) (by omega) (by omega) h.nb
  have T2 := take_tick h.db h.da (by omega) hq hql.2 (by omega) (by omega) (by omega) h.na
  -- the way there
  have S1 : Dir P X ea eb' ∧ Dir Q Y eb' ea ∧ eb'.ep = 1 ∧ eb.come ≤ eb'.come ∧ eb.got ≤ eb'.got ∧ eb'.got + eb'.sent.length = Q.length := by
    rcases hA with ⟨_, rfl⟩ | ⟨_, _, rfl⟩
    · have D := Dir.take h.da h.db (by omega) G1 (by rw [h.nb]; exact Nat.le_refl _)
      exact ⟨D.2.1, D.2.2.1, by rw [D.2.2.2.1]; exact e2, D.2.2.2.2.1, D.2.2.2.2.2.1, T1.2.2⟩
    · exact ⟨h.da, h.db, e2, Nat.le_refl _, Nat.le_refl _, h.nb⟩
  obtain ⟨s1, s2, s3, s4, s5, s6⟩ := S1
  have S2 : Dir Q Y eb' ea' ∧ Dir P X ea' eb' ∧ ea'.ep = 1 ∧ ea.come ≤ ea'.come ∧ ea.got ≤ ea'.got ∧ ea'.got + ea'.sent.length = P.length := by
    rcases hB with ⟨_, rfl⟩ | ⟨_, _, rfl⟩
    · have D := Dir.take s2 s1 (by omega) (G2.mono (by omega) s4 s5) (by rw [h.na]; exact Nat.le_refl _)
      exact ⟨D.2.1, D.2.2.1, by rw [D.2.2.2.1]; exact e1, D.2.2.2.2.1, D.2.2.2.2.2.1, T2.2.2⟩
    · exact ⟨s2, s1, e1, Nat.le_refl _, Nat.le_refl _, h.na⟩
  obtain ⟨t1, t2, t3, t4, t5, t6⟩ := S2
  refine ⟨t2, t1, ⟨t3, s3⟩, t6, s6, ?_, ?_⟩
  · refine h.pa.step s4 t2.rel.le ?_ ?_
    · rcases hA with ⟨ha, rfl⟩ | ⟨ha, hk, rfl⟩
      · exact Or.inl ⟨ha, T1.1⟩
      · exact Or.inr ⟨ha, hk, rfl⟩
    · rcases hB with ⟨hb, rfl⟩ | ⟨hb, hk, rfl⟩
      · exact Or.inl ⟨hb, T2.2.1⟩
      · exact Or.inr ⟨hb, hk, rfl⟩
  · refine h.pb.step t4 t1.rel.le ?_ ?_
    · rcases hB with ⟨hb, rfl⟩ | ⟨hb, hk, rfl⟩
      · exact Or.inl ⟨hb, T2.1⟩
      · exact Or.inr ⟨hb, hk, rfl⟩
    · rcases hA with ⟨ha, rfl⟩ | ⟨ha, hk, rfl⟩
      · exact Or.inl ⟨ha, T1.2.1⟩
      · exact Or.inr ⟨ha, hk, rfl⟩
/-- Came is asked at both ends. -/
theorem Two.came {K t : Nat} {P Q X Y : List (List Int)} {ea eb : E} {la lb : Nat} (h : Two K t P Q X Y ea eb la lb) : Two K t P Q (X ++ eb.new) (Y ++ ea.new) (cmS ea) (cmS eb) la lb :=
  ⟨h.da.came.other, h.db.other.came, h.ep, h.na, h.nb, h.pa, h.pb⟩
theorem Two.start {K : Nat} {P Q : List (List Int)} (hk : 0 < K) : Two K 0 P Q [] [] ⟨1, P, 0, 0, []⟩ ⟨1, Q, 0, 0, []⟩ 0 0 :=
  ⟨⟨rfl, Nat.le_refl _, rfl, Nat.zero_le _⟩, ⟨rfl, Nat.le_refl _, rfl, Nat.zero_le _⟩, ⟨rfl, rfl⟩, by simp, by simp, Pr.start hk, Pr.start hk⟩
end Go.Proofs.Ytijjcopglbcoiaa
