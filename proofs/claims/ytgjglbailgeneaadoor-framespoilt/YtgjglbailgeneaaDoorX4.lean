/-
  Plain facts on bytes: an IPv4 head with one byte changed is none any more. No program is spoken of.
-/
import Derived.Test.YtgjglbailgeneaaDoorX3
import Derived.Test.YtgjglbailgeneaaDoorD6
import Derived.Laws.BitsAllLaws
namespace Go.Proofs.YtgjglbailgeneaaDoor
open Go.RowKit

theorem xor8 {x y : Int} (hx : 0 ≤ x ∧ x < 256) (hy : 0 ≤ y ∧ y < 256) : (0 ≤ bits .xor .u8 x y ∧ bits .xor .u8 x y < 256) ∧ (y ≠ 0 → bits .xor .u8 x y ≠ x) := by
  have e : bits .xor .u8 x y = IntKind.u8.wrap ((BitVec.ofInt 8 x ^^^ BitVec.ofInt 8 y).toNat : Int) := rfl
  have hlt := (BitVec.ofInt 8 x ^^^ BitVec.ofInt 8 y).isLt
  rw [e, IntKind.wrap_u8, Int.emod_eq_of_lt (by omega) (by omega)]
  refine ⟨⟨by omega, by omega⟩, fun hne h => hne ?_⟩
  obtain ⟨a, rfl⟩ := Int.eq_ofNat_of_zero_le hx.1
  obtain ⟨b, rfl⟩ := Int.eq_ofNat_of_zero_le hy.1
  have h1 : (BitVec.ofInt 8 (a : Int) ^^^ BitVec.ofInt 8 (b : Int)).toNat = a := by exact_mod_cast h
  simp only [BitVec.ofInt_natCast, BitVec.toNat_xor, BitVec.toNat_ofNat] at h1
  rw [Nat.mod_eq_of_lt (by omega), Nat.mod_eq_of_lt (by omega)] at h1
  have h2 : a ^^^ b = a ^^^ 0 := by rw [h1, Nat.xor_zero]
  have h3 : b = 0 := by
    have := congrArg (fun z => a ^^^ z) h2
    simpa [← Nat.xor_assoc] using this
  omega

theorem totTo_two {a : List Int} (h : a.length % 2 = 0) (b : List Int) : ∀ j, totTo (a ++ b) (a.length + j) = totTo a a.length + totTo b j
  | 0 => by
    rw [Nat.add_zero]
    have : ∀ k, k ≤ a.length → totTo (a ++ b) k = totTo a k := by
      intro k
      induction k with
      | zero => intro _; rfl
      | succ k ih =>
        intro hk
        have e : (a ++ b).getD k 0 = a.getD k 0 := by
          simp only [List.getD_eq_getElem?_getD]
          rw [List.getElem?_append_left (by omega)]
        simp only [totTo, ih (by omega), e]
    rw [this _ (Nat.le_refl _)]
    simp [totTo]
  | j + 1 => by
    have ih := totTo_two h b j
    have e : (a ++ b).getD (a.length + j) 0 = b.getD j 0 := by
      simp only [List.getD_eq_getElem?_getD]
      rw [List.getElem?_append_right (by omega)]
      simp
    rw [show a.length + (j + 1) = a.length + j + 1 from rfl]
    simp only [totTo, ih, e]
    by_cases hj : j % 2 = 0
    · rw [if_pos hj, if_pos (by omega)]; omega
    · rw [if_neg hj, if_neg (by omega)]; omega
theorem tot_app {a : List Int} (h : a.length % 2 = 0) (b : List Int) : tot (a ++ b) = tot a + tot b := by
  unfold tot
  rw [List.length_append]
  exact totTo_two h b b.length
theorem tot_dg2 {s : Int} (h0 : 0 ≤ s) (h1 : s < 65536) : tot (dg s 2) = s := by
  simp only [tot, dg, List.length_cons, List.length_nil, totTo]
  simp
  omega
theorem tot_head (h : Nat → Int) (len s : Int) (h0 : 0 ≤ s) (h1 : s < 65536) : tot (headL h len s) = tot (headL h len 0) + s := by
  have k : ∀ s, 0 ≤ s → s < 65536 → tot (headL h len s) = tot (dg 17664 2 ++ (dg len 2 ++ (dg 0 4 ++ (dg 64 1 ++ dg (h 6) 1)))) + (s + tot (dg (h 4) 4 ++ dg (h 5) 4)) := fun s h0 h1 => by
    have e : headL h len s = (dg 17664 2 ++ (dg len 2 ++ (dg 0 4 ++ (dg 64 1 ++ dg (h 6) 1)))) ++ (dg s 2 ++ (dg (h 4) 4 ++ dg (h 5) 4)) := by
      simp only [headL, List.append_assoc]
    have hA : (dg 17664 2 ++ (dg len 2 ++ (dg 0 4 ++ (dg 64 1 ++ dg (h 6) 1)))).length % 2 = 0 := by
      simp only [List.length_append, dg_len]
    rw [e, tot_app hA, tot_app (a := dg s 2) (by rw [dg_len]), tot_dg2 h0 h1]
  rw [k s h0 h1, k 0 (by omega) (by omega)]
  omega
theorem head_mod (h : Nat → Int) (len : Int) : tot (headL h len (hsum h len)) % 65535 = 0 := by
  have hb := hsum_bd h len
  have h0 : 0 ≤ tot (headL h len 0) := (totTo_bd (headL_isB h len 0) _).1
  rw [tot_head h len _ hb.1 (by omega)]
  unfold hsum sumL at *
  generalize tot (headL h len 0) = t at *
  unfold fold16 at *
  by_cases e : t = 0
  · rw [if_pos e]; omega
  · rw [if_neg e]; omega
def cf (i : Nat) : Int := if i % 2 = 0 then 256 else 1
theorem totTo_succ (l : List Int) (k : Nat) : totTo l (k + 1) = totTo l k + l.getD k 0 * cf k := by
  unfold cf
  simp only [totTo]
  split <;> omega
theorem totTo_set (l : List Int) (i : Nat) (v : Int) (hi : i < l.length) : ∀ k, k ≤ l.length → totTo (l.set i v) k = totTo l k + (if i < k then (v - l.getD i 0) * cf i else 0)
  | 0, _ => by simp [totTo]
  | k + 1, hk => by
    have ih := totTo_set l i v hi k (by omega)
    rw [totTo_succ, totTo_succ, ih]
    by_cases e : i = k
    · subst e
      have q : (l.set i v).getD i 0 = v := by simp [List.getD_eq_getElem?_getD, hi]
      rw [q, if_neg (by omega), if_pos (by omega), Int.sub_mul]
      omega
    · have q : (l.set i v).getD k 0 = l.getD k 0 := by
        simp only [List.getD_eq_getElem?_getD, List.getElem?_set_ne e]
      rw [q]
      by_cases hlt : i < k
      · rw [if_pos hlt, if_pos (by omega)]; omega
      · rw [if_neg hlt, if_neg (by omega)]; omega
theorem tot_set (l : List Int) (i : Nat) (v : Int) (hi : i < l.length) : tot (l.set i v) = tot l + (v - l.getD i 0) * cf i := by
  unfold tot
  rw [List.length_set, totTo_set l i v hi _ (Nat.le_refl _), if_pos hi]
theorem IsB.set {l : List Int} (h : IsB l) (i : Nat) {v : Int} (h0 : 0 ≤ v) (h1 : v < 256) : IsB (l.set i v) := fun y hy => by
  rcases List.mem_or_eq_of_mem_set hy with hy | rfl
  · exact h y hy
  · exact ⟨h0, h1⟩

/-- AN IPv4 HEAD WITH ONE BYTE CHANGED IS NONE. -/
theorem spoilt {h : Nat → Int} {bs : List Int} (c : Can h bs) (k2 : h 2 = 2048) (i : Nat) (hi : i < 20) (v : Int) (h0 : 0 ≤ v) (h1 : v < 256) (hne : v ≠ (pktL h bs).getD ((ethL h).length + i) 0) :
    prE ((pktL h bs).set ((ethL h).length + i) v) = 30 := by
  have hv := c.vd
  unfold Vd at hv
  have hs := c.short
  have ha : ahead h = 20 + psz (h 6) := by unfold ahead; rw [if_neg (by omega), if_pos k2]
  have hp := psz_bd (h 6)
  obtain ⟨L, hL⟩ : ∃ L, L = ahead h + (bs.length : Int) := ⟨_, rfl⟩
  have hpl := portsL_len h (L - 20)
  obtain ⟨hd, hhd⟩ : ∃ hd, hd = headL h L (hsum h L) := ⟨_, rfl⟩
  have hdl : hd.length = 20 := by rw [hhd, headL_len]
  have hpk : pktL h bs = ethL h ++ (hd ++ (portsL h (L - 20) ++ bs)) := by
    unfold pktL ipL
    rw [if_neg (by omega), if_pos k2, ← hL, List.append_assoc, hhd]
  have hg : (pktL h bs).getD ((ethL h).length + i) 0 = hd.getD i 0 := by
    rw [hpk]
    simp only [List.getD_eq_getElem?_getD]
    rw [List.getElem?_append_right (by omega), List.getElem?_append_left (by omega)]
    simp
  have hset : (pktL h bs).set ((ethL h).length + i) v = ethL h ++ (hd.set i v ++ (portsL h (L - 20) ++ bs)) := by
    rw [hpk, List.set_append_right _ _ (by omega), List.set_append_left _ _ (by omega)]
    simp
  rw [hset]
  rw [hg] at hne
  have hB : IsB (hd.set i v ++ (portsL h (L - 20) ++ bs)) := by
    have := can_isB c
    rw [hpk] at this
    exact ((this.right.left).set i h0 h1).app this.right.right
  have hlen : ((hd.set i v ++ (portsL h (L - 20) ++ bs)).length : Int) = L := by
    simp only [List.length_append, List.length_set, hdl]
    omega
  have hd0 : tot hd % 65535 = 0 := by rw [hhd]; exact head_mod h L
  have hbx := (show IsB hd by rw [hhd]; exact headL_isB _ _ _).at i
  have hn : pPkt (ethL h ++ (hd.set i v ++ (portsL h (L - 20) ++ bs))) = none := by
    unfold pPkt
    rw [pEth_ethL c.nn c.vd]
    obtain ⟨_, _, e2, _⟩ := ethOf_low h
    simp only [Option.bind_some, e2]
    rw [if_pos (by omega), if_neg (by omega), if_pos k2]
    cases hq : pIp (ethOf h) (hd.set i v ++ (portsL h (L - 20) ++ bs)) with
    | none => rfl
    | some q =>
      obtain ⟨F, r2⟩ := q
      obtain ⟨_, _, _, _, y1, _⟩ := pIp_inv hB hq
      have := (List.append_inj y1 (by rw [List.length_set, hdl, headL_len])).1
      have h2 := head_mod F ((hd.set i v ++ (portsL h (L - 20) ++ bs)).length : Int)
      rw [← this, tot_set hd i v (by omega)] at h2
      exfalso
      generalize tot hd = t at *
      generalize hd.getD i 0 = x at *
      unfold cf at h2
      split at h2 <;> omega
  exact (prE_none hn).1
end Go.Proofs.YtgjglbailgeneaaDoor
