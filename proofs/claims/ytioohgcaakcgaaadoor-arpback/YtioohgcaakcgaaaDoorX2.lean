/-
  Plain facts on bytes: a packet that can be built is read of its bytes as it was, with Port and Switch 0; bytes that are read as a packet are that packet's. No program is spoken of.
-/
import Derived.Test.YtioohgcaakcgaaaDoorX1
namespace Go.Proofs.YtioohgcaakcgaaaDoor
open Go.RowKit

theorem headL_congr {h g : Nat → Int} (h4 : h 4 = g 4) (h5 : h 5 = g 5) (h6 : h 6 = g 6) (len sum : Int) : headL h len sum = headL g len sum := by
  unfold headL; rw [h4, h5, h6]
theorem hsum_congr {h g : Nat → Int} (h4 : h 4 = g 4) (h5 : h 5 = g 5) (h6 : h 6 = g 6) (len : Int) : hsum h len = hsum g len := by
  unfold hsum; rw [headL_congr h4 h5 h6]
theorem hsum_bd (h : Nat → Int) (len : Int) : 0 ≤ hsum h len ∧ hsum h len ≤ 65535 := sumL_bd (headL_isB h len 0)
theorem arpL_len (h : Nat → Int) (op : Int) : (arpL h op).length = 28 := by simp only [arpL, List.length_append, dg_len]
theorem portsL_len (h : Nat → Int) (len : Int) : ((portsL h len).length : Int) = psz (h 6) := by
  unfold portsL psz
  split
  · simp only [List.length_append, dg_len]; rfl
  · split
    · simp only [List.length_append, dg_len]; rfl
    · rfl
theorem isOp_one {bs : List Int} (h : isOp bs = true) : bs = [1] ∨ bs = [2] := by
  unfold isOp at h
  simpa using h
def ipH (E : Nat → Int) (p f t : Int) : Nat → Int := upd (upd (upd E 6 p) 4 f) 5 t
theorem ipH_other (E : Nat → Int) (p f t : Int) (k : Nat) (h4 : k ≠ 4) (h5 : k ≠ 5) (h6 : k ≠ 6) : ipH E p f t k = E k := by
  unfold ipH
  rw [upd_other _ _ _ _ h5, upd_other _ _ _ _ h4, upd_other _ _ _ _ h6]
/-- ip reads a head. -/
theorem pIp_headL (E h : Nat → Int) (h0 : ∀ k, 0 ≤ h k) (h6 : h 6 < 256) (h4 : h 4 < 4294967296) (h5 : h 5 < 4294967296) (L : Int) (r : List Int) (hL : L = 20 + r.length) (hb : L < 65536) :
    pIp E (headL h L (hsum h L) ++ r) = some (ipH E (h 6) (h 4) (h 5), r) := by
  have hlen : ((headL h L (hsum h L) ++ r).length : Int) = L := by rw [List.length_append, headL_len]; omega
  have hs := hsum_bd h L
  have hq : hsum h L = hsum (ipH E (h 6) (h 4) (h 5)) L := hsum_congr rfl rfl rfl L
  have a1 : ∀ r, ex 2 17664 (dg 17664 2 ++ r) = some r := ex_dg (by omega) (by rw [p16]; omega)
  have a2 : ∀ r, ex 2 L (dg L 2 ++ r) = some r := ex_dg (by omega) (by rw [p16]; omega)
  have a3 : ∀ r, ex 4 0 (dg 0 4 ++ r) = some r := ex_dg (by omega) (by rw [p32]; omega)
  have a4 : ∀ r, ex 1 64 (dg 64 1 ++ r) = some r := ex_dg (by omega) (by rw [p8]; omega)
  have a5 : ∀ r, tk 1 (dg (h 6) 1 ++ r) = some (h 6, r) := tk_dg (h0 6) (by rw [p8]; omega)
  have a6 : ∀ r, tk 2 (dg (hsum h L) 2 ++ r) = some (hsum h L, r) := tk_dg hs.1 (by rw [p16]; omega)
  have a7 : ∀ r, tk 4 (dg (h 4) 4 ++ r) = some (h 4, r) := tk_dg (h0 4) (by rw [p32]; omega)
  have a8 : ∀ r, tk 4 (dg (h 5) 4 ++ r) = some (h 5, r) := tk_dg (h0 5) (by rw [p32]; omega)
  unfold pIp
  rw [hlen]
  have e : headL h L (hsum h L) ++ r = dg 17664 2 ++ (dg L 2 ++ (dg 0 4 ++ (dg 64 1 ++ (dg (h 6) 1 ++ (dg (hsum h L) 2 ++ (dg (h 4) 4 ++ (dg (h 5) 4 ++ r))))))) := by
    simp only [headL, List.append_assoc]
  rw [e]
  simp only [a1, a2, a3, a4, a5, a6, a7, a8, Option.bind_some]
  exact if_pos hq
/-- What ip reads is a head. -/
theorem pIp_inv {E F : Nat → Int} {l r : List Int} (hl : IsB l) (e : pIp E l = some (F, r)) :
    ∃ p f t : Int, F = ipH E p f t ∧ l = headL F l.length (hsum F l.length) ++ r ∧ IsB r ∧ 0 ≤ p ∧ p < 256 ∧ 0 ≤ f ∧ f < 4294967296 ∧ 0 ≤ t ∧ t < 4294967296 := by
  unfold pIp at e
  simp only [Option.bind_eq_some_iff] at e
  obtain ⟨a1, e1, a2, e2, a3, e3, a4, e4, ⟨p, r5⟩, e5, ⟨s, r6⟩, e6, ⟨f, r7⟩, e7, ⟨t, r8⟩, e8, e9⟩ := e
  obtain ⟨x1, c1⟩ := ex_inv hl e1
  obtain ⟨x2, c2⟩ := ex_inv c1 e2
  obtain ⟨x3, c3⟩ := ex_inv c2 e3
  obtain ⟨x4, c4⟩ := ex_inv c3 e4
  obtain ⟨x5, b5, d5, c5⟩ := tk_inv c4 e5
  obtain ⟨x6, b6, d6, c6⟩ := tk_inv c5 e6
  obtain ⟨x7, b7, d7, c7⟩ := tk_inv c6 e7
  obtain ⟨x8, b8, d8, c8⟩ := tk_inv c7 e8
  rw [p8] at d5
  rw [p32] at d7 d8
  split at e9
  · rename_i hs
    simp only [Option.some.injEq, Prod.mk.injEq] at e9
    obtain ⟨rfl, rfl⟩ := e9
    refine ⟨p, f, t, rfl, ?_, c8, b5, d5, b7, d7, b8, d8⟩
    have hs' : s = hsum (ipH E p f t) l.length := hs
    have e : headL (ipH E p f t) l.length (hsum (ipH E p f t) l.length) = dg 17664 2 ++ (dg l.length 2 ++ (dg 0 4 ++ (dg 64 1 ++ (dg p 1 ++ (dg s 2 ++ (dg f 4 ++ dg t 4)))))) := by
      rw [← hs']; rfl
    show l = headL (ipH E p f t) l.length (hsum (ipH E p f t) l.length) ++ r8
    rw [e]
    have : l = dg 17664 2 ++ (dg l.length 2 ++ (dg 0 4 ++ (dg 64 1 ++ (dg p 1 ++ (dg s 2 ++ (dg f 4 ++ (dg t 4 ++ r8))))))) := by
      rw [← x8, ← x7, ← x6, ← x5, ← x4, ← x3, ← x2, ← x1]
    rw [List.append_assoc, List.append_assoc, List.append_assoc, List.append_assoc, List.append_assoc, List.append_assoc, List.append_assoc]
    exact this
  · cases e9
def poH (E : Nat → Int) (s d : Int) : Nat → Int := upd (upd E 7 s) 8 d
theorem poH_other (E : Nat → Int) (s d : Int) (k : Nat) (h7 : k ≠ 7) (h8 : k ≠ 8) : poH E s d k = E k := by
  unfold poH
  rw [upd_other _ _ _ _ h8, upd_other _ _ _ _ h7]
/-- ports reads the ports. -/
theorem pPorts_portsL (E h : Nat → Int) (h0 : ∀ k, 0 ≤ h k) (h6 : E 6 = h 6) (h7 : h 7 < 65536) (h8 : h 8 < 65536) (hz : E 7 = 0 ∧ E 8 = 0) (hz' : h 6 ≠ 6 → h 6 ≠ 17 → h 7 = 0 ∧ h 8 = 0) (L : Int) (r : List Int) (hL : L = psz (h 6) + r.length) (hb : L < 65536) :
    ∃ F, pPorts E (portsL h L ++ r) = some (F, r) ∧ F 7 = h 7 ∧ F 8 = h 8 ∧ ∀ k, k ≠ 7 → k ≠ 8 → F k = E k := by
  have hlen : ((portsL h L ++ r).length : Int) = L := by
    rw [List.length_append]
    have := portsL_len h L
    omega
  have hL0 : 0 ≤ L := by have := psz_bd (h 6); omega
  have a1 : ∀ r, tk 2 (dg (h 7) 2 ++ r) = some (h 7, r) := tk_dg (h0 7) (by rw [p16]; omega)
  have a2 : ∀ r, tk 2 (dg (h 8) 2 ++ r) = some (h 8, r) := tk_dg (h0 8) (by rw [p16]; omega)
  have a3 : ∀ r, ex 8 0 (dg 0 8 ++ r) = some r := ex_dg (by omega) (by rw [p64]; omega)
  have a4 : ∀ r, ex 2 20496 (dg 20496 2 ++ r) = some r := ex_dg (by omega) (by rw [p16]; omega)
  have a5 : ∀ r, ex 6 0 (dg 0 6 ++ r) = some r := ex_dg (by omega) (by rw [p48]; omega)
  have a6 : ∀ r, ex 2 L (dg L 2 ++ r) = some r := ex_dg hL0 (by rw [p16]; omega)
  have a7 : ∀ r, ex 2 0 (dg 0 2 ++ r) = some r := ex_dg (by omega) (by rw [p16]; omega)
  unfold pPorts
  rw [hlen, h6]
  by_cases c6 : h 6 = 6
  · refine ⟨poH E (h 7) (h 8), ?_, rfl, rfl, fun k k7 k8 => poH_other E _ _ k k7 k8⟩
    simp only [portsL, if_pos c6, List.append_assoc, a1, a2, a3, a4, a5, Option.bind_some, poH]
  · by_cases c17 : h 6 = 17
    · refine ⟨poH E (h 7) (h 8), ?_, rfl, rfl, fun k k7 k8 => poH_other E _ _ k k7 k8⟩
      simp only [portsL, if_neg c6, if_pos c17, List.append_assoc, a1, a2, a6, a7, Option.bind_some, poH]
    · obtain ⟨z7, z8⟩ := hz' c6 c17
      refine ⟨E, ?_, by rw [hz.1, z7], by rw [hz.2, z8], fun k _ _ => rfl⟩
      simp only [portsL, if_neg c6, if_neg c17, List.nil_append]
theorem pPorts_inv {E F : Nat → Int} {l r : List Int} (hl : IsB l) (hz : E 7 = 0 ∧ E 8 = 0) (e : pPorts E l = some (F, r)) :
    l = portsL F l.length ++ r ∧ IsB r ∧ (∀ k, k ≠ 7 → k ≠ 8 → F k = E k) ∧ 0 ≤ F 7 ∧ F 7 < 65536 ∧ 0 ≤ F 8 ∧ F 8 < 65536 ∧ (F 6 ≠ 6 → F 6 ≠ 17 → F 7 = 0 ∧ F 8 = 0) := by
  unfold pPorts at e
  split at e
  · rename_i c6
    simp only [Option.bind_eq_some_iff, Option.some.injEq, Prod.mk.injEq] at e
    obtain ⟨⟨s, r1⟩, e1, ⟨d, r2⟩, e2, a1, e3, a2, e4, a3, e5, rfl, rfl⟩ := e
    obtain ⟨x1, b1, d1, c1⟩ := tk_inv hl e1
    obtain ⟨x2, b2, d2, c2⟩ := tk_inv c1 e2
    obtain ⟨x3, c3⟩ := ex_inv c2 e3
    obtain ⟨x4, c4⟩ := ex_inv c3 e4
    obtain ⟨x5, c5⟩ := ex_inv c4 e5
    rw [p16] at d1 d2
    refine ⟨?_, c5, fun k k7 k8 => poH_other E s d k k7 k8, b1, d1, b2, d2, fun h => absurd (show poH E s d 6 = 6 from c6) h⟩
    have e6 : poH E s d 6 = 6 := c6
    show l = portsL (poH E s d) l.length ++ a3
    have : portsL (poH E s d) l.length = dg s 2 ++ (dg d 2 ++ (dg 0 8 ++ (dg 20496 2 ++ dg 0 6))) := by
      unfold portsL; rw [if_pos e6]; rfl
    rw [this]
    simp only [List.append_assoc]
    rw [← x5, ← x4, ← x3, ← x2, ← x1]
  · rename_i c6
    split at e
    · rename_i c17
      simp only [Option.bind_eq_some_iff, Option.some.injEq, Prod.mk.injEq] at e
      obtain ⟨⟨s, r1⟩, e1, ⟨d, r2⟩, e2, a1, e3, a2, e4, rfl, rfl⟩ := e
      obtain ⟨x1, b1, d1, c1⟩ := tk_inv hl e1
      obtain ⟨x2, b2, d2, c2⟩ := tk_inv c1 e2
      obtain ⟨x3, c3⟩ := ex_inv c2 e3
      obtain ⟨x4, c4⟩ := ex_inv c3 e4
      rw [p16] at d1 d2
      refine ⟨?_, c4, fun k k7 k8 => poH_other E s d k k7 k8, b1, d1, b2, d2, fun _ h => absurd (show poH E s d 6 = 17 from c17) h⟩
      have n6 : ¬ poH E s d 6 = 6 := c6
      have e17 : poH E s d 6 = 17 := c17
      show l = portsL (poH E s d) l.length ++ a2
      have : portsL (poH E s d) l.length = dg s 2 ++ (dg d 2 ++ (dg l.length 2 ++ dg 0 2)) := by
        unfold portsL; rw [if_neg n6, if_pos e17]; rfl
      rw [this]
      simp only [List.append_assoc]
      rw [← x4, ← x3, ← x2, ← x1]
    · rename_i c17
      simp only [Option.some.injEq, Prod.mk.injEq] at e
      obtain ⟨rfl, rfl⟩ := e
      refine ⟨?_, hl, fun _ _ _ => rfl, by omega, by omega, by omega, by omega, fun _ _ => hz⟩
      unfold portsL; rw [if_neg c6, if_neg c17]; rfl
end Go.Proofs.YtioohgcaakcgaaaDoor
