/-
  Plain facts on bytes: a packet that can be built is read of its bytes as it was, with Port and Switch 0; bytes that are read as a packet are that packet's, and it can be built. No program is spoken of.
-/
import Derived.Test.YtioohgcaakcgaaaDoorX2
namespace Go.Proofs.YtioohgcaakcgaaaDoor
open Go.RowKit

/-- A packet that can be built. -/
structure Can (h : Nat → Int) (bs : List Int) : Prop where
  nn : ∀ k, 0 ≤ h k
  vd : Vd h
  isB : IsB bs
  op : h 2 = 2054 → isOp bs = true
  short : (bs.length : Int) ≤ 1500 - ahead h
theorem can_of {h : Nat → Int} {bs : List Int} (h0 : ∀ k, 0 ≤ h k) (hB : IsB bs) (e : bErr h bs = 0) : Can h bs := by
  unfold bErr at e
  split at e
  · omega
  · rename_i hok
    split at e
    · omega
    · rename_i hop
      split at e
      · omega
      · refine ⟨h0, (hOk_iff h0).1 (by simpa using hok), hB, fun ha => ?_, by omega⟩
        cases hq : isOp bs
        · exact absurd ⟨ha, hq⟩ hop
        · rfl
theorem can_err {h : Nat → Int} {bs : List Int} (c : Can h bs) : bErr h bs = 0 := by
  unfold bErr
  have h1 := (hOk_iff c.nn).2 c.vd
  have h3 := c.short
  rw [if_neg (by simp [h1]), if_neg (by rintro ⟨ha, hb⟩; rw [c.op ha] at hb; cases hb), if_neg (by omega)]
theorem can_out {h : Nat → Int} {bs : List Int} (c : Can h bs) : bOut h bs = pktL h bs := by
  unfold bOut; rw [if_pos (can_err c)]
theorem can_isB {h : Nat → Int} {bs : List Int} (c : Can h bs) : IsB (pktL h bs) := by
  unfold pktL
  refine IsB.app ?_ ?_
  · unfold ethL tagL
    refine (dg_isB _ _).app ((dg_isB _ _).app (IsB.app ?_ (dg_isB _ _)))
    split
    · exact IsB.nil
    · exact (dg_isB _ _).app (dg_isB _ _)
  · split
    · exact (dg_isB _ _).app ((dg_isB _ _).app ((dg_isB _ _).app ((dg_isB _ _).app ((dg_isB _ _).app (dg_isB _ _)))))
    · split
      · refine IsB.app ((headL_isB _ _ _).app ?_) c.isB
        unfold portsL
        split
        · exact (dg_isB _ _).app ((dg_isB _ _).app ((dg_isB _ _).app ((dg_isB _ _).app (dg_isB _ _))))
        · split
          · exact (dg_isB _ _).app ((dg_isB _ _).app ((dg_isB _ _).app (dg_isB _ _)))
          · exact IsB.nil
      · exact c.isB
theorem eleven {P : Nat → Prop} (h0 : P 0) (h1 : P 1) (h2 : P 2) (h3 : P 3) (h4 : P 4) (h5 : P 5) (h6 : P 6) (h7 : P 7) (h8 : P 8) (h9 : P 9) (h10 : P 10) : ∀ k, k < 11 → P k := by
  intro k hk
  have : k = 0 ∨ k = 1 ∨ k = 2 ∨ k = 3 ∨ k = 4 ∨ k = 5 ∨ k = 6 ∨ k = 7 ∨ k = 8 ∨ k = 9 ∨ k = 10 := by omega
  rcases this with rfl | rfl | rfl | rfl | rfl | rfl | rfl | rfl | rfl | rfl | rfl <;> assumption
/-- The header with Port and Switch 0. -/
def bare (h : Nat → Int) : Nat → Int := fun k => if k < 9 then h k else 0

/-- A PACKET THAT CAN BE BUILT IS READ OF ITS BYTES. -/
theorem parse_build {h : Nat → Int} {bs : List Int} (c : Can h bs) : ∃ F, pPkt (pktL h bs) = some (F, bs) ∧ ∀ k, k < 11 → F k = bare h k := by
  have hv := c.vd
  unfold Vd at hv
  obtain ⟨e0, e1, e2, e3⟩ := ethOf_low h
  have hh := ethOf_high h
  have hE := fun r => pEth_ethL c.nn c.vd r
  have hs := c.short
  unfold pPkt pktL
  rw [hE]
  simp only [Option.bind_some, e2]
  by_cases k1 : h 2 = 2054
  · simp only [if_pos k1]
    rw [if_pos (by rw [arpL_len]; omega)]
    obtain ⟨op, hop, rfl⟩ : ∃ op : Int, (op = 1 ∨ op = 2) ∧ bs = [op] := by
      rcases isOp_one (c.op k1) with rfl | rfl
      · exact ⟨1, Or.inl rfl, rfl⟩
      · exact ⟨2, Or.inr rfl, rfl⟩
    refine ⟨upd (upd (ethOf h) 4 (h 4)) 5 (h 5), ?_, eleven e0 e1 e2 e3 rfl rfl ?_ ?_ ?_ ?_ ?_⟩
    · have t1 : tgt (upd (ethOf h) 4 (h 4)) op = tgt h op := by
        unfold tgt
        rw [show upd (ethOf h) 4 (h 4) 1 = ethOf h 1 from rfl, e1]
      have t2 : 0 ≤ tgt h op ∧ tgt h op < 281474976710656 := by
        unfold tgt
        have := c.nn 1
        split <;> omega
      have a1 : ∀ r, ex 6 4429186564 (dg 4429186564 6 ++ r) = some r := ex_dg (by omega) (by rw [p48]; omega)
      have a2 : ∀ r, tk 2 (dg op 2 ++ r) = some (op, r) := tk_dg (by omega) (by rw [p16]; omega)
      have a3 : ∀ r, ex 6 (h 0) (dg (h 0) 6 ++ r) = some r := ex_dg (c.nn 0) (by rw [p48]; omega)
      have a4 : ∀ r, tk 4 (dg (h 4) 4 ++ r) = some (h 4, r) := tk_dg (c.nn 4) (by rw [p32]; omega)
      have a5 : ∀ r, ex 6 (tgt h op) (dg (tgt h op) 6 ++ r) = some r := ex_dg t2.1 (by rw [p48]; omega)
      have a6 : tk 4 (dg (h 5) 4) = some (h 5, []) := by
        have := tk_dg (c.nn 5) (k := 4) (by rw [p32]; omega) []
        simpa using this
      simp only [pArp, arpL, List.getD_cons_zero, a1, a2, Option.bind_some, if_pos hop, e0, a3, a4, t1, a5, a6, if_true]
    · rw [upd_other _ _ _ _ (by omega), upd_other _ _ _ _ (by omega), hh 6 (by omega)]; show 0 = h 6; omega
    · rw [upd_other _ _ _ _ (by omega), upd_other _ _ _ _ (by omega), hh 7 (by omega)]; show 0 = h 7; omega
    · rw [upd_other _ _ _ _ (by omega), upd_other _ _ _ _ (by omega), hh 8 (by omega)]; show 0 = h 8; omega
    · rw [upd_other _ _ _ _ (by omega), upd_other _ _ _ _ (by omega), hh 9 (by omega)]; rfl
    · rw [upd_other _ _ _ _ (by omega), upd_other _ _ _ _ (by omega), hh 10 (by omega)]; rfl
  · simp only [if_neg k1]
    by_cases k2 : h 2 = 2048
    · simp only [if_pos k2]
      have ha : ahead h = 20 + psz (h 6) := by unfold ahead; rw [if_neg k1, if_pos k2]
      have hp := psz_bd (h 6)
      obtain ⟨L, hL⟩ : ∃ L, L = ahead h + (bs.length : Int) := ⟨_, rfl⟩
      rw [← hL]
      have hpl := portsL_len h (L - 20)
      have hlen : ((ipL h L ++ bs).length : Int) = L := by
        unfold ipL
        simp only [List.length_append, headL_len]
        omega
      rw [if_pos (by omega)]
      have e : ipL h L ++ bs = headL h L (hsum h L) ++ (portsL h (L - 20) ++ bs) := by unfold ipL; rw [List.append_assoc]
      rw [e, pIp_headL (ethOf h) h c.nn (by omega) (by omega) (by omega) L _ (by rw [List.length_append]; omega) (by omega)]
      simp only [Option.bind_some]
      have z7 : ipH (ethOf h) (h 6) (h 4) (h 5) 7 = 0 := by rw [ipH_other _ _ _ _ _ (by omega) (by omega) (by omega), hh 7 (by omega)]
      have z8 : ipH (ethOf h) (h 6) (h 4) (h 5) 8 = 0 := by rw [ipH_other _ _ _ _ _ (by omega) (by omega) (by omega), hh 8 (by omega)]
      obtain ⟨F, hF, f7, f8, fo⟩ := pPorts_portsL (ipH (ethOf h) (h 6) (h 4) (h 5)) h c.nn rfl (by omega) (by omega) ⟨z7, z8⟩ (fun a b => by omega) (L - 20) bs (by omega) (by omega)
      have fo' : ∀ k, k ≠ 4 → k ≠ 5 → k ≠ 6 → k ≠ 7 → k ≠ 8 → F k = ethOf h k := fun k k4 k5 k6 k7 k8 => by rw [fo k k7 k8, ipH_other _ _ _ _ _ k4 k5 k6]
      refine ⟨F, hF, eleven ?_ ?_ ?_ ?_ ?_ ?_ ?_ f7 f8 ?_ ?_⟩
      · rw [fo' 0 (by omega) (by omega) (by omega) (by omega) (by omega)]; exact e0
      · rw [fo' 1 (by omega) (by omega) (by omega) (by omega) (by omega)]; exact e1
      · rw [fo' 2 (by omega) (by omega) (by omega) (by omega) (by omega)]; exact e2
      · rw [fo' 3 (by omega) (by omega) (by omega) (by omega) (by omega)]; exact e3
      · rw [fo 4 (by omega) (by omega)]; rfl
      · rw [fo 5 (by omega) (by omega)]; rfl
      · rw [fo 6 (by omega) (by omega)]; rfl
      · rw [fo' 9 (by omega) (by omega) (by omega) (by omega) (by omega), hh 9 (by omega)]; rfl
      · rw [fo' 10 (by omega) (by omega) (by omega) (by omega) (by omega), hh 10 (by omega)]; rfl
    · simp only [if_neg k2]
      have ha : ahead h = 0 := by unfold ahead; rw [if_neg k1, if_neg k2]
      rw [if_pos (by omega)]
      refine ⟨ethOf h, rfl, eleven e0 e1 e2 e3 ?_ ?_ ?_ ?_ ?_ (hh 9 (by omega)) (hh 10 (by omega))⟩
      · rw [hh 4 (by omega)]; show 0 = h 4; omega
      · rw [hh 5 (by omega)]; show 0 = h 5; omega
      · rw [hh 6 (by omega)]; show 0 = h 6; omega
      · rw [hh 7 (by omega)]; show 0 = h 7; omega
      · rw [hh 8 (by omega)]; show 0 = h 8; omega

theorem ethL_congr {h g : Nat → Int} (h0 : h 0 = g 0) (h1 : h 1 = g 1) (h2 : h 2 = g 2) (h3 : h 3 = g 3) : ethL h = ethL g := by
  unfold ethL tagL; rw [h0, h1, h2, h3]
/-- BYTES THAT ARE READ ARE THE PACKET's, AND IT CAN BE BUILT. -/
theorem build_parse {l b : List Int} {F : Nat → Int} (hl : IsB l) (e : pPkt l = some (F, b)) : Can F b ∧ pktL F b = l ∧ F 9 = 0 ∧ F 10 = 0 := by
  unfold pPkt at e
  simp only [Option.bind_eq_some_iff] at e
  obtain ⟨⟨E, r⟩, e1, e2⟩ := e
  obtain ⟨x1, hr, hnn, hV, hz⟩ := pEth_inv hl e1
  have hV' := hV
  unfold Vd at hV'
  simp only at e2
  split at e2
  · rename_i hlen
    split at e2
    · rename_i k1
      unfold pArp at e2
      simp only [Option.bind_eq_some_iff] at e2
      obtain ⟨a1, g1, ⟨op, r2⟩, g2, g3⟩ := e2
      obtain ⟨y1, c1⟩ := ex_inv hr g1
      obtain ⟨y2, _, _, c2⟩ := tk_inv c1 g2
      simp only at g3
      split at g3
      · rename_i hop
        simp only [Option.bind_eq_some_iff] at g3
        obtain ⟨a2, g3, ⟨f, r4⟩, g4, a3, g5, ⟨t, r6⟩, g6, g7⟩ := g3
        obtain ⟨y3, c3⟩ := ex_inv c2 g3
        obtain ⟨y4, b4, d4, c4⟩ := tk_inv c3 g4
        obtain ⟨y5, c5⟩ := ex_inv c4 g5
        obtain ⟨y6, b6, d6, c6⟩ := tk_inv c5 g6
        rw [p32] at d4 d6
        simp only at g7
        split at g7
        · rename_i hnil
          simp only [Option.some.injEq, Prod.mk.injEq] at g7
          obtain ⟨rfl, rfl⟩ := g7
          have o : ∀ k, k ≠ 4 → k ≠ 5 → upd (upd E 4 f) 5 t k = E k := fun k k4 k5 => by rw [upd_other _ _ _ _ k5, upd_other _ _ _ _ k4]
          have w0 := o 0 (by omega) (by omega); have w1 := o 1 (by omega) (by omega); have w2 := o 2 (by omega) (by omega); have w3 := o 3 (by omega) (by omega)
          have w6 := o 6 (by omega) (by omega); have w7 := o 7 (by omega) (by omega); have w8 := o 8 (by omega) (by omega); have w9 := o 9 (by omega) (by omega); have w10 := o 10 (by omega) (by omega)
          have w4 : upd (upd E 4 f) 5 t 4 = f := rfl
          have w5 : upd (upd E 4 f) 5 t 5 = t := rfl
          have k1' : upd (upd E 4 f) 5 t 2 = 2054 := by rw [w2]; exact k1
          refine ⟨⟨fun k => ?_, ?_, ?_, fun _ => ?_, ?_⟩, ?_, by rw [w9, hz 9 (by omega)], by rw [w10, hz 10 (by omega)]⟩
          · by_cases k4 : k = 4
            · subst k4; rw [w4]; exact b4
            · by_cases k5 : k = 5
              · subst k5; rw [w5]; exact b6
              · rw [o k k4 k5]; exact hnn k
          · unfold Vd
            rw [w0, w1, w2, w3, w4, w5, w6, w7, w8, w9, w10]
            omega
          · exact IsB.cons (by omega) (by omega) IsB.nil
          · rcases hop with rfl | rfl <;> rfl
          · unfold ahead
            rw [if_pos k1']; simp
          · unfold pktL
            rw [if_pos k1', x1, ethL_congr w0 w1 w2 w3]
            have ht : tgt (upd (upd E 4 f) 5 t) op = tgt (upd E 4 f) op := rfl
            have : arpL (upd (upd E 4 f) 5 t) ([op].getD 0 0) = r := by
              show arpL (upd (upd E 4 f) 5 t) op = r
              unfold arpL
              rw [ht, w0, w4, w5, y1, y2, y3, y4, y5, y6, hnil, List.append_nil]
            rw [this]
        · cases g7
      · cases g3
    · rename_i k1
      split at e2
      · rename_i k2
        simp only [Option.bind_eq_some_iff] at e2
        obtain ⟨⟨G, r2⟩, g1, g2⟩ := e2
        obtain ⟨p, f, t, rfl, y1, c1, bp, dp, bf, df, bt, dt⟩ := pIp_inv hr g1
        have z : ipH E p f t 7 = 0 ∧ ipH E p f t 8 = 0 := ⟨by rw [ipH_other _ _ _ _ _ (by omega) (by omega) (by omega), hz 7 (by omega)], by rw [ipH_other _ _ _ _ _ (by omega) (by omega) (by omega), hz 8 (by omega)]⟩
        obtain ⟨y2, c2, o, b7, d7, b8, d8, hbar⟩ := pPorts_inv c1 z g2
        have o' : ∀ k, k ≠ 4 → k ≠ 5 → k ≠ 6 → k ≠ 7 → k ≠ 8 → F k = E k := fun k k4 k5 k6 k7 k8 => by rw [o k k7 k8, ipH_other _ _ _ _ _ k4 k5 k6]
        have w0 := o' 0 (by omega) (by omega) (by omega) (by omega) (by omega); have w1 := o' 1 (by omega) (by omega) (by omega) (by omega) (by omega)
        have w2 := o' 2 (by omega) (by omega) (by omega) (by omega) (by omega); have w3 := o' 3 (by omega) (by omega) (by omega) (by omega) (by omega)
        have w9 := o' 9 (by omega) (by omega) (by omega) (by omega) (by omega); have w10 := o' 10 (by omega) (by omega) (by omega) (by omega) (by omega)
        have w4 : F 4 = f := by rw [o 4 (by omega) (by omega)]; rfl
        have w5 : F 5 = t := by rw [o 5 (by omega) (by omega)]; rfl
        have w6 : F 6 = p := by rw [o 6 (by omega) (by omega)]; rfl
        have k1' : ¬ F 2 = 2054 := by rw [w2]; exact k1
        have k2' : F 2 = 2048 := by rw [w2]; exact k2
        have ha : ahead F = 20 + psz (F 6) := by unfold ahead; rw [if_neg k1', if_pos k2']
        have hl1 : r.length = 20 + r2.length := by
          have := congrArg List.length y1
          rw [List.length_append, headL_len] at this
          exact this
        have hl2 : (r2.length : Int) = psz (F 6) + b.length := by
          have := congrArg List.length y2
          rw [List.length_append] at this
          have hp := portsL_len F r2.length
          omega
        have hL : ahead F + (b.length : Int) = r.length := by omega
        refine ⟨⟨fun k => ?_, ?_, c2, fun h => absurd h k1', by omega⟩, ?_, by rw [w9, hz 9 (by omega)], by rw [w10, hz 10 (by omega)]⟩
        · by_cases k4 : k = 4
          · subst k4; rw [w4]; exact bf
          · by_cases k5 : k = 5
            · subst k5; rw [w5]; exact bt
            · by_cases k6 : k = 6
              · subst k6; rw [w6]; exact bp
              · by_cases k7 : k = 7
                · subst k7; exact b7
                · by_cases k8 : k = 8
                  · subst k8; exact b8
                  · rw [o' k k4 k5 k6 k7 k8]; exact hnn k
        · unfold Vd
          rw [w0, w1, w2, w3, w4, w5, w9, w10]
          rw [w6] at hbar ⊢
          refine ⟨by omega, by omega, by omega, by omega, by omega, by omega, by omega, by omega, by omega, by omega, by omega, by omega, by omega, fun h => absurd k2 h, fun h => absurd k2 h, hbar⟩
        · unfold pktL
          rw [if_neg k1', if_pos k2', x1, ethL_congr w0 w1 w2 w3, hL]
          unfold ipL
          have q1 : headL F r.length (hsum F r.length) = headL (ipH E p f t) r.length (hsum (ipH E p f t) r.length) := by
            have a4 : F 4 = ipH E p f t 4 := by rw [w4]; rfl
            have a5 : F 5 = ipH E p f t 5 := by rw [w5]; rfl
            have a6 : F 6 = ipH E p f t 6 := by rw [w6]; rfl
            rw [hsum_congr a4 a5 a6, headL_congr a4 a5 a6]
          rw [q1, show (r.length : Int) - 20 = r2.length by omega, List.append_assoc, ← y2, ← y1]
      · rename_i k2
        simp only [Option.some.injEq, Prod.mk.injEq] at e2
        obtain ⟨rfl, rfl⟩ := e2
        have ha : ahead E = 0 := by unfold ahead; rw [if_neg k1, if_neg k2]
        refine ⟨⟨hnn, hV, hr, fun h => absurd h k1, by omega⟩, ?_, hz 9 (by omega), hz 10 (by omega)⟩
        unfold pktL
        rw [if_neg k1, if_neg k2, x1]
  · cases e2
end Go.Proofs.YtioohgcaakcgaaaDoor
