/-
  Plain facts on bytes: bytes that are read as a packet have its numbers at their places, and are read as what is found there. No program is spoken of.
-/
import Derived.Test.YtgjglbailgeneaaDoorG1
namespace Go.Proofs.YtgjglbailgeneaaDoor
open Go.RowKit

/-- The numbers of bytes that are read as a packet. -/
structure Facts (l b : List Int) (F : Nat → Int) : Prop where
  least : 14 ≤ l.length
  most : l.length ≤ 1518
  dst : gt l 0 6 = F 1
  src : gt l 6 6 = F 0
  plain : F 3 = 0 → gt l 12 2 = F 2
  tag : F 3 ≠ 0 → 18 ≤ l.length ∧ gt l 12 2 = 33024 ∧ gt l 14 2 = F 3 ∧ gt l 16 2 = F 2
  kind : F 2 ≠ 33024
  arp : F 2 = 2054 → afterKind F + 28 ≤ l.length ∧ gt l (afterKind F + 14) 4 = F 4 ∧ gt l (afterKind F + 24) 4 = F 5 ∧ b = [l.getD (afterKind F + 7) 0]
  ip : F 2 = 2048 → afterKind F + 20 ≤ l.length ∧ gt l (afterKind F + 9) 1 = F 6 ∧ gt l (afterKind F + 12) 4 = F 4 ∧ gt l (afterKind F + 16) 4 = F 5 ∧ afterKind F + 20 + (psz (F 6)).toNat ≤ l.length ∧
    (0 < psz (F 6) → gt l (afterKind F + 20) 2 = F 7 ∧ gt l (afterKind F + 20 + 2) 2 = F 8) ∧ b = l.drop (afterKind F + 20 + (psz (F 6)).toNat)
  other : F 2 ≠ 2054 → F 2 ≠ 2048 → b = l.drop (afterKind F)
  rest : (F 2 ≠ 2054 → F 2 ≠ 2048 → F 4 = 0 ∧ F 5 = 0) ∧ (F 2 ≠ 2048 → F 6 = 0 ∧ F 7 = 0 ∧ F 8 = 0) ∧ (¬ 0 < psz (F 6) → F 7 = 0 ∧ F 8 = 0) ∧ F 9 = 0 ∧ F 10 = 0
theorem gt_eth (h : Nat → Int) (r : List Int) (a k : Nat) : gt (ethL h ++ r) (afterKind h + a) k = gt r a k := by
  rw [← ethL_at]; exact gt_skip _ _ _ _
theorem facts_of {l b : List Int} {F : Nat → Int} (hl : IsB l) (e : pPkt l = some (F, b)) : Facts l b F := by
  obtain ⟨c, hk, f9, f10⟩ := build_parse hl e
  have hV := c.vd
  have hV' := hV
  unfold Vd at hV'
  have hs := c.short
  have hE := ethL_at F
  have ha14 : afterKind F = 14 ∨ afterKind F = 18 := by unfold afterKind; split <;> simp
  have hat : (F 3 = 0 → afterKind F = 14) ∧ (F 3 ≠ 0 → afterKind F = 18) := by
    unfold afterKind
    exact ⟨fun h => by rw [if_pos h], fun h => by rw [if_neg h]⟩
  have hps := psz_bd (F 6)
  -- what stands behind Kind
  obtain ⟨r, hr, hrl⟩ : ∃ r, l = ethL F ++ r ∧ r = (if F 2 = 2054 then arpL F (b.getD 0 0) else if F 2 = 2048 then ipL F (ahead F + b.length) ++ b else b) := ⟨_, hk.symm, rfl⟩
  obtain ⟨g1, g2, g3, g4⟩ := eth_gts c.nn hV r
  rw [← hr] at g1 g2 g3 g4
  have hlen : l.length = afterKind F + r.length := by rw [hr, List.length_append, hE]
  have hrlen : r.length ≤ 1500 := by
    rw [hrl]
    split
    · rw [arpL_len]; omega
    · split
      · rename_i k1 k2
        have hp := portsL_len F (ahead F + b.length - 20)
        have ha : ahead F = 20 + psz (F 6) := by unfold ahead; rw [if_neg k1, if_pos k2]
        unfold ipL
        simp only [List.length_append, headL_len]
        omega
      · rename_i k1 k2
        have ha : ahead F = 0 := by unfold ahead; rw [if_neg k1, if_neg k2]
        omega
  refine ⟨by omega, by omega, g1, g2, g3, fun h3 => ⟨by have := hat.2 h3; omega, g4 h3⟩, by omega, fun k1 => ?_, fun k2 => ?_, fun k1 k2 => ?_, ⟨fun a b => by omega, fun a => by omega, fun a => ?_, f9, f10⟩⟩
  · rw [if_pos k1] at hrl
    obtain ⟨op, hop, hb⟩ : ∃ op : Int, (op = 1 ∨ op = 2) ∧ b = [op] := by
      rcases isOp_one (c.op k1) with hb | hb
      · exact ⟨1, Or.inl rfl, hb⟩
      · exact ⟨2, Or.inr rfl, hb⟩
    rw [hb] at hrl
    have hrl' : r = arpL F op := hrl
    obtain ⟨q1, q2, q3⟩ := arp_gts c.nn hV hop
    have hr28 : r.length = 28 := by rw [hrl', arpL_len]
    refine ⟨by omega, ?_, ?_, ?_⟩
    · rw [hr, gt_eth, hrl', q1]
    · rw [hr, gt_eth, hrl', q2]
    · rw [hb, hr]
      simp only [List.getD_eq_getElem?_getD] at q3 ⊢
      rw [List.getElem?_append_right (by omega), hE, Nat.add_sub_cancel_left, hrl', q3]
  · have k1 : ¬ F 2 = 2054 := by omega
    rw [if_neg k1, if_pos k2] at hrl
    have ha : ahead F = 20 + psz (F 6) := by unfold ahead; rw [if_neg k1, if_pos k2]
    have hp := portsL_len F (ahead F + b.length - 20)
    have e1 : r = headL F (ahead F + b.length) (hsum F (ahead F + b.length)) ++ (portsL F (ahead F + b.length - 20) ++ b) := by rw [hrl]; unfold ipL; rw [List.append_assoc]
    obtain ⟨q1, q2, q3⟩ := head_gts c.nn hV (ahead F + b.length) (hsum F (ahead F + b.length)) (portsL F (ahead F + b.length - 20) ++ b)
    rw [← e1] at q1 q2 q3
    have hrl2 : (r.length : Int) = 20 + psz (F 6) + b.length := by
      rw [e1]; simp only [List.length_append, headL_len]; omega
    have g20 : ∀ a k, gt r (20 + a) k = gt (portsL F (ahead F + b.length - 20) ++ b) a k := fun a k => by
      rw [e1]
      have := gt_skip (headL F (ahead F + b.length) (hsum F (ahead F + b.length))) (portsL F (ahead F + b.length - 20) ++ b) a k
      rw [headL_len] at this
      exact this
    refine ⟨by omega, by rw [hr, gt_eth, q1], by rw [hr, gt_eth, q2], by rw [hr, gt_eth, q3], by omega, fun hpp => ?_, ?_⟩
    · obtain ⟨w1, w2⟩ := ports_gts c.nn hV hpp (ahead F + b.length - 20) b
      refine ⟨?_, ?_⟩
      · rw [hr, gt_eth]
        have := g20 0 2
        rw [Nat.add_zero] at this
        rw [this, w1]
      · rw [Nat.add_assoc, hr, gt_eth, g20 2 2, w2]
    · rw [hr, Nat.add_assoc, ← hE, List.drop_length_add_append, e1]
      have hx : 20 + (psz (F 6)).toNat = (headL F (ahead F + b.length) (hsum F (ahead F + b.length)) ++ portsL F (ahead F + b.length - 20)).length := by
        rw [List.length_append, headL_len]; omega
      rw [hx, ← List.append_assoc, List.drop_left]
  · rw [if_neg k1, if_neg k2] at hrl
    rw [hr, ← hE, List.drop_left, hrl]
  · have : F 6 ≠ 6 ∧ F 6 ≠ 17 := by
      unfold psz at a
      refine ⟨fun h => a (by rw [if_pos h]; omega), fun h => a (by rw [if_neg (by omega), if_pos h]; omega)⟩
    omega

theorem pkt_congr {h g : Nat → Int} (e : ∀ k, k < 11 → h k = g k) (bs : List Int) : pktL h bs = pktL g bs ∧ (Can h bs → (∀ k, 0 ≤ g k) → Can g bs) := by
  have e0 := e 0 (by omega); have e1 := e 1 (by omega); have e2 := e 2 (by omega); have e3 := e 3 (by omega); have e4 := e 4 (by omega); have e5 := e 5 (by omega)
  have e6 := e 6 (by omega); have e7 := e 7 (by omega); have e8 := e 8 (by omega); have e9 := e 9 (by omega); have e10 := e 10 (by omega)
  have ea : ahead h = ahead g := by unfold ahead; rw [e2, e6]
  refine ⟨?_, fun c hn => ⟨hn, ?_, c.isB, fun q => c.op (by rw [e2]; exact q), by rw [← ea]; exact c.short⟩⟩
  · unfold pktL ipL
    rw [ethL_congr e0 e1 e2 e3, ea, hsum_congr e4 e5 e6, headL_congr e4 e5 e6, e2]
    have ep : ∀ n, portsL h n = portsL g n := fun n => by unfold portsL; rw [e6, e7, e8]
    have er : ∀ n, arpL h n = arpL g n := fun n => by unfold arpL tgt; rw [e0, e1, e4, e5]
    rw [ep, er]
  · have := c.vd
    unfold Vd at *
    rw [e0, e1, e2, e3, e4, e5, e6, e7, e8, e9, e10] at this
    exact this
/-- What is found at the places is a packet of these bytes. -/
theorem dec_yes {l body : List Int} {C : Nat → Int} (hn : ∀ k, 0 ≤ C k) (hB : IsB body) (c9 : C 9 = 0) (c10 : C 10 = 0) (he : bErr C body = 0) (ho : bOut C body = l) :
    prE l = 0 ∧ row 11 (prH l) = row 11 C ∧ prB l = body := by
  have c := can_of hn hB he
  rw [can_out c] at ho
  obtain ⟨F, hF, hk⟩ := parse_build c
  rw [ho] at hF
  obtain ⟨e1, e2, e3⟩ := prE_some hF
  refine ⟨e1, ?_, e3⟩
  rw [e2]
  refine row_congr fun k hk' => ?_
  rw [hk k hk']
  unfold bare
  split
  · rfl
  · have : k = 9 ∨ k = 10 := by omega
    rcases this with rfl | rfl
    · exact c9.symm
    · exact c10.symm
theorem dec_no {l body : List Int} {C : Nat → Int} (hl : IsB l) (hn : ∀ k, 0 ≤ C k) (hc : ∀ F b, Facts l b F → (∀ k, k < 11 → F k = C k) ∧ b = body) (h : ¬ (bErr C body = 0 ∧ bOut C body = l)) : pPkt l = none := by
  cases hp : pPkt l with
  | none => rfl
  | some q =>
    obtain ⟨F, b⟩ := q
    obtain ⟨hk, rfl⟩ := hc F b (facts_of hl hp)
    obtain ⟨c, hpk, _⟩ := build_parse hl hp
    obtain ⟨q1, q2⟩ := pkt_congr hk b
    have c2 := q2 c hn
    exact absurd ⟨can_err c2, by rw [can_out c2, ← q1]; exact hpk⟩ h
theorem dec_out {l : List Int} (hl : IsB l) (h : ∀ F b, ¬ Facts l b F) : pPkt l = none := by
  cases hp : pPkt l with
  | none => rfl
  | some q => exact absurd (facts_of hl hp) (h q.1 q.2)
end Go.Proofs.YtgjglbailgeneaaDoor
