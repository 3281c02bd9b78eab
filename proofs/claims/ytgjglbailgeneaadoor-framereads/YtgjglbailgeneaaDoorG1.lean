/-
  Proved here: the document's Get answers the number of so many bytes at a place (gt); and, plain: where the numbers of a packet's bytes lie. Condition of Get: the bytes are there, 8 at most.
-/
import Derived.Test.YtgjglbailgeneaaDoorX3
import Derived.Test.YtgjglbailgeneaaDoorD6
namespace Go.Proofs.YtgjglbailgeneaaDoor
open Go.RowKit

/-- The number of k bytes at place a. -/
def gt (l : List Int) (a k : Nat) : Int := num ((l.drop a).take k)
theorem gt_skip (x y : List Int) (a k : Nat) : gt (x ++ y) (x.length + a) k = gt y a k := by
  unfold gt
  rw [List.drop_append, List.drop_of_length_le (by omega)]
  simp
theorem gt_dg {n : Int} {k : Nat} (h0 : 0 ≤ n) (h1 : n < 2 ^ (8 * k)) (r : List Int) : gt (dg n k ++ r) 0 k = n := by
  unfold gt
  rw [List.drop_zero, List.take_append_of_le_length (by simp [dg_len]), List.take_of_length_le (by simp [dg_len]), num_dg h0 h1]
theorem gt_at {x : List Int} {n : Int} {a k : Nat} (hx : x.length = a) (h0 : 0 ≤ n) (h1 : n < 2 ^ (8 * k)) (r : List Int) : gt (x ++ (dg n k ++ r)) a k = n := by
  subst hx
  have := gt_skip x (dg n k ++ r) 0 k
  rw [Nat.add_zero] at this
  rw [this, gt_dg h0 h1]
theorem gt_bd {l : List Int} (hl : IsB l) (a k : Nat) (h : k ≤ 8) : 0 ≤ gt l a k ∧ gt l a k < 18446744073709551616 := by
  have h1 := num_bd ((hl.drop a).take k)
  have h2 : ((l.drop a).take k).length ≤ 8 := by simp; omega
  have h3 : (2 : Int) ^ (8 * ((l.drop a).take k).length) ≤ 2 ^ 64 := by
    have : 8 * ((l.drop a).take k).length ≤ 64 := by omega
    exact_mod_cast Nat.pow_le_pow_right (by decide : 0 < 2) this
  have h4 : (2 : Int) ^ 64 = 18446744073709551616 := by decide
  unfold gt
  omega

set_option maxHeartbeats 400000 in
/-- WHAT Get ANSWERS. -/
theorem get_any (B a k : Nat) (v : Value) (bs : List Int) (w : World) (hs : Sl B w v bs) (h : a + k ≤ bs.length) (h8 : k ≤ 8) :
    Calls Tryd.prog 19 #[v, .int .i64 a, .int .i64 k] w fun e w' => e = .returned (.int .u64 (gt bs a k)) ∧ w' = w := by
  have hB := hs.isB
  have hlen := hs.len
  obtain ⟨ao, cap, rfl, _, _, _, _, hcells⟩ := hs
  have HC : Hid (bs ≠ [] → ∃ b o, b < B ∧ ao = some ⟨b, o, none⟩ ∧ ∀ j, j < bs.length → w.cell? ⟨b, o + j, none⟩ = some (.int .u8 (bs.getD j 0))) := hcells
  have HB : Hid (IsB (bs.drop a)) := hB.drop a
  clear hcells
  unfold gt
  obtain ⟨ds, hds⟩ : ∃ ds, ds = bs.drop a := ⟨_, rfl⟩
  have hdl : k ≤ ds.length := by rw [hds, List.length_drop]; omega
  have hat : ∀ j, ds.getD j 0 = bs.getD (a + j) 0 := fun j => by
    rw [hds]; simp only [List.getD_eq_getElem?_getD, List.getElem?_drop]
  rw [← hds] at HB ⊢
  have HAT : Hid (∀ j, ds.getD j 0 = bs.getD (a + j) 0) := hat
  clear hds hat
  go_enter Tryd.func19, Tryd.ntmps19
  go_wp2
  go_loop [7, 8] (fun n i => ∃ j : Nat, j ≤ k ∧ i = .int .i64 j ∧ n = .int .u64 (num (ds.take j))) (fun _ i => k - (intOf i).toNat)
  case atStart => exact ⟨0, by omega, rfl, rfl⟩
  case round =>
    obtain ⟨j, hj, rfl, rfl⟩ := hrel
    by_cases hlt : j < k
    · obtain ⟨b, o, _, rfl, hcl⟩ := HC.out (fun e => by subst e; simp at h; omega)
      obtain ⟨x, hx⟩ : ∃ x, x = ds.getD j 0 := ⟨_, rfl⟩
      obtain ⟨m, hm⟩ : ∃ m, m = num (ds.take j) := ⟨_, rfl⟩
      have hc1 := hcl (a + j) (by omega)
      rw [← HAT.out j, ← hx] at hc1
      have hx0 := HB.out.at j
      have hm0 := num_take_bd HB.out j (by omega)
      rw [← hx] at hx0
      rw [← hm] at hm0 ⊢
      have HR := (show Hid (bits .or .u64 (m * 256) x = num (ds.take (j + 1))) from by
        show _ = _
        rw [or_byte hm0.1 hm0.2 hx0.1 hx0.2, num_take ds j (by omega), hx, hm])
      clear hx hm hcl HC
      go_wp2
      go_round
      case rel => exact ⟨j + 1, by omega, by go_num, by rw [HR.out]⟩
      case measure => simp [intOf]; omega
    · obtain rfl : j = k := by omega
      clear HC
      go_wp2
      go_ret
      exact ⟨rfl, rfl⟩

/-- Where what stands behind Kind begins. -/
def afterKind (h : Nat → Int) : Nat := if h 3 = 0 then 14 else 18
theorem ethL_at (h : Nat → Int) : (ethL h).length = afterKind h := by
  unfold ethL tagL afterKind
  split <;> simp [dg_len]
/-- The numbers up to Kind. -/
theorem eth_gts {h : Nat → Int} (h0 : ∀ k, 0 ≤ h k) (hv : Vd h) (r : List Int) :
    gt (ethL h ++ r) 0 6 = h 1 ∧ gt (ethL h ++ r) 6 6 = h 0 ∧ (h 3 = 0 → gt (ethL h ++ r) 12 2 = h 2) ∧ (h 3 ≠ 0 → gt (ethL h ++ r) 12 2 = 33024 ∧ gt (ethL h ++ r) 14 2 = h 3 ∧ gt (ethL h ++ r) 16 2 = h 2) := by
  unfold Vd at hv
  have e1 : ethL h ++ r = dg (h 1) 6 ++ (dg (h 0) 6 ++ (tagL h ++ (dg (h 2) 2 ++ r))) := by simp only [ethL, List.append_assoc]
  rw [e1]
  refine ⟨gt_dg (h0 1) (by rw [p48]; omega) _, gt_at (dg_len _ _) (h0 0) (by rw [p48]; omega) _, fun h3 => ?_, fun h3 => ?_⟩
  · have : tagL h = [] := by simp [tagL, h3]
    rw [this, List.nil_append, ← List.append_assoc]
    exact gt_at (by simp [dg_len]) (h0 2) (by rw [p16]; omega) _
  · have : tagL h = dg 33024 2 ++ dg (h 3) 2 := by simp [tagL, h3]
    rw [this, ← List.append_assoc]
    refine ⟨?_, ?_, ?_⟩
    · rw [List.append_assoc (dg 33024 2)]
      exact gt_at (by simp [dg_len]) (by omega) (by rw [p16]; omega) _
    · rw [List.append_assoc (dg 33024 2), ← List.append_assoc (dg (h 1) 6 ++ dg (h 0) 6)]
      exact gt_at (by simp [dg_len]) (h0 3) (by rw [p16]; omega) _
    · rw [← List.append_assoc (dg (h 1) 6 ++ dg (h 0) 6)]
      exact gt_at (by simp [dg_len]) (h0 2) (by rw [p16]; omega) _
theorem arp_gts {h : Nat → Int} {op : Int} (h0 : ∀ k, 0 ≤ h k) (hv : Vd h) (hop : op = 1 ∨ op = 2) : gt (arpL h op) 14 4 = h 4 ∧ gt (arpL h op) 24 4 = h 5 ∧ (arpL h op).getD 7 0 = op := by
  unfold Vd at hv
  refine ⟨?_, ?_, ?_⟩
  · have : arpL h op = (dg 4429186564 6 ++ (dg op 2 ++ dg (h 0) 6)) ++ (dg (h 4) 4 ++ (dg (tgt h op) 6 ++ dg (h 5) 4)) := by simp only [arpL, List.append_assoc]
    rw [this]
    exact gt_at (by simp [dg_len]) (h0 4) (by rw [p32]; omega) _
  · have : arpL h op = (dg 4429186564 6 ++ (dg op 2 ++ (dg (h 0) 6 ++ (dg (h 4) 4 ++ dg (tgt h op) 6)))) ++ (dg (h 5) 4 ++ []) := by simp only [arpL, List.append_assoc, List.append_nil]
    rw [this]
    exact gt_at (by simp [dg_len]) (h0 5) (by rw [p32]; omega) _
  · rcases hop with rfl | rfl <;> rfl
theorem head_gts {h : Nat → Int} (h0 : ∀ k, 0 ≤ h k) (hv : Vd h) (len sum : Int) (r : List Int) : gt (headL h len sum ++ r) 9 1 = h 6 ∧ gt (headL h len sum ++ r) 12 4 = h 4 ∧ gt (headL h len sum ++ r) 16 4 = h 5 := by
  unfold Vd at hv
  refine ⟨?_, ?_, ?_⟩
  · have : headL h len sum ++ r = (dg 17664 2 ++ (dg len 2 ++ (dg 0 4 ++ dg 64 1))) ++ (dg (h 6) 1 ++ (dg sum 2 ++ (dg (h 4) 4 ++ (dg (h 5) 4 ++ r)))) := by simp only [headL, List.append_assoc]
    rw [this]
    exact gt_at (by simp [dg_len]) (h0 6) (by rw [p8]; omega) _
  · have : headL h len sum ++ r = (dg 17664 2 ++ (dg len 2 ++ (dg 0 4 ++ (dg 64 1 ++ (dg (h 6) 1 ++ dg sum 2))))) ++ (dg (h 4) 4 ++ (dg (h 5) 4 ++ r)) := by simp only [headL, List.append_assoc]
    rw [this]
    exact gt_at (by simp [dg_len]) (h0 4) (by rw [p32]; omega) _
  · have : headL h len sum ++ r = (dg 17664 2 ++ (dg len 2 ++ (dg 0 4 ++ (dg 64 1 ++ (dg (h 6) 1 ++ (dg sum 2 ++ dg (h 4) 4)))))) ++ (dg (h 5) 4 ++ r) := by simp only [headL, List.append_assoc]
    rw [this]
    exact gt_at (by simp [dg_len]) (h0 5) (by rw [p32]; omega) _
theorem ports_gts {h : Nat → Int} (h0 : ∀ k, 0 ≤ h k) (hv : Vd h) (hp : 0 < psz (h 6)) (len : Int) (r : List Int) : gt (portsL h len ++ r) 0 2 = h 7 ∧ gt (portsL h len ++ r) 2 2 = h 8 := by
  unfold Vd at hv
  have : ∃ q, portsL h len = dg (h 7) 2 ++ (dg (h 8) 2 ++ q) := by
    unfold portsL
    unfold psz at hp
    split
    · exact ⟨_, rfl⟩
    · split
      · exact ⟨_, rfl⟩
      · rw [if_neg (by assumption), if_neg (by assumption)] at hp; omega
  obtain ⟨q, hq⟩ := this
  rw [hq, List.append_assoc, List.append_assoc]
  exact ⟨gt_dg (h0 7) (by rw [p16]; omega) _, gt_at (dg_len _ _) (h0 8) (by rw [p16]; omega) _⟩
end Go.Proofs.YtgjglbailgeneaaDoor
