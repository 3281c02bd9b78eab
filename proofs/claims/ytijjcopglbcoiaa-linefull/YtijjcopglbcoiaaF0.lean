/-
  Plain facts: 4096 messages of two bytes wait at one end and go over, 32 a round. No program's function is spoken of.
-/
import Derived.Test.YtijjcopglbcoiaaW3
namespace Go.Proofs.Ytijjcopglbcoiaa
open Seal

/-- The message of number i. -/
def mg (i : Nat) : List Int := [(i : Int) % 256, (i : Int) / 256 % 256]
def mgs (n k : Nat) : List (List Int) := (List.range k).map fun i => mg (n + i)
theorem mgs_len (n k : Nat) : (mgs n k).length = k := by simp [mgs]
theorem mgs_succ (n k : Nat) : mgs n (k + 1) = mgs n k ++ [mg (n + k)] := by simp [mgs, List.range_succ]
theorem mg_isB (i : Nat) : IsB (mg i) := IsB.cons (by omega) (by omega) (IsB.cons (by omega) (by omega) IsB.nil)
theorem mgs_mem {n k : Nat} {m : List Int} (h : m ∈ mgs n k) : ∃ i, m = mg i := by
  obtain ⟨i, _, rfl⟩ := List.mem_map.1 h
  exact ⟨_, rfl⟩
theorem mgs_b (n k : Nat) : AllB (mgs n k) := fun m hm => by obtain ⟨i, rfl⟩ := mgs_mem hm; exact mg_isB i
theorem mgs_lens (n k : Nat) : ∀ m ∈ mgs n k, m.length ≤ 8192 := fun m hm => by obtain ⟨i, rfl⟩ := mgs_mem hm; simp [mg]
theorem mgs_split (n a b : Nat) : mgs n (a + b) = mgs n a ++ mgs (n + a) b := by
  unfold mgs
  rw [List.range_add, List.map_append, List.map_map]
  congr 1
  refine List.map_congr_left fun i _ => ?_
  show mg (n + (a + i)) = mg (n + a + i)
  rw [Nat.add_assoc]
theorem mgs_at (n k j : Nat) (h : j < k) : (mgs n k).getD j [] = mg (n + j) := by
  simp [mgs, List.getD_eq_getElem?_getD, h]
theorem mgs_drop (n a b : Nat) : (mgs n (a + b)).drop a = mgs (n + a) b := by
  have := mgs_len n a
  rw [mgs_split, List.drop_append_of_le_length (by omega), List.drop_of_length_le (by omega), List.nil_append]
theorem wd_mgs : ∀ (k s n j : Nat), s + 4 * k ≤ 16384 → wd k s (mgs n (k + j)) = mgs n k
  | 0, _, n, j, _ => by simp [wd, mgs]
  | k + 1, s, n, j, h => by
    have e : mgs n (k + 1 + j) = mg n :: mgs (n + 1) (k + j) := by
      rw [show k + 1 + j = 1 + (k + j) by omega, mgs_split]; simp [mgs]
    have e2 : mgs n (k + 1) = mg n :: mgs (n + 1) k := by
      rw [show k + 1 = 1 + k by omega, mgs_split]; simp [mgs]
    rw [e, e2]
    unfold wd
    rw [if_pos (by simp [mg]; omega)]
    congr 1
    have hm : s + 2 + (mg n).length = s + 4 := by simp [mg]
    rw [hm]
    exact wd_mgs k (s + 4) (n + 1) j (by omega)
theorem ad_all : ∀ (ms : List (List Int)) (e : E), ad e e.come ms = { e with come := e.come + ms.length, new := e.new ++ ms }
  | [], e => by simp [ad]
  | m :: r, e => by
    unfold ad
    rw [if_pos rfl]
    have := ad_all r { e with new := e.new ++ [m], come := e.come + 1 }
    simp only at this
    rw [this]
    simp only [List.length_cons, List.append_assoc, List.singleton_append]
    congr 1
    omega
/-- The two ends behind r rounds. -/
def eA (r : Nat) : E := ⟨0, mgs (32 * r) (4096 - 32 * r), 32 * r, 0, []⟩
def eB (r : Nat) : E := ⟨0, [], 0, 32 * r, []⟩
theorem eA_fit (r : Nat) (h : r ≤ 128) : Fit (eA r) := ⟨by simp [eA], by simp [eA, mgs_len]; omega, by simp [eA], by simp [eA], mgs_lens _ _⟩
theorem eB_fit (r : Nat) (h : r ≤ 128) : Fit (eB r) := ⟨by simp [eB], by simp [eB], by simp [eB]; omega, by simp [eB], by simp [eB]⟩
theorem eB2_fit (r : Nat) (h : r ≤ 127) : Fit ⟨0, [], 0, 32 * (r + 1), mgs (32 * r) 32⟩ := ⟨by simp, by simp, by simp; omega, by simp [mgs_len], by simp⟩
theorem tkA (r : Nat) (h : r < 128) : tkL (eA r) = dat (bodyOf 0 0 (32 * r) (mgs (32 * r) 32)) := by
  unfold tkL body win
  have : wd 32 14 (eA r).sent = mgs (32 * r) 32 := by
    show wd 32 14 (mgs (32 * r) (4096 - 32 * r)) = _
    rw [show 4096 - 32 * r = 32 + (4096 - 32 * r - 32) by omega]
    exact wd_mgs 32 14 (32 * r) _ (by omega)
  rw [this]; rfl
theorem take1 (r : Nat) (h : r < 128) : taE (tkL (eA r)) = 0 ∧ taS (eB r) (tkL (eA r)) = ⟨0, [], 0, 32 * (r + 1), mgs (32 * r) 32⟩ := by
  have := take_dat (p := 0) (c := 0) (g := 32 * r) (mgs_b (32 * r) 32) (by rw [mgs_len]; omega) (mgs_lens _ _) (by omega) (by omega) (by omega) (eB r)
  rw [tkA r h]
  refine ⟨this.1, this.2.trans ?_⟩
  have q1 : hear (eB r) 0 0 (32 * r) (mgs (32 * r) 32) = ad (gt (rs (eB r) 0) 0) (32 * r) (mgs (32 * r) 32) := if_neg (Nat.not_lt_zero _)
  have q2 : rs (eB r) 0 = eB r := if_neg (Nat.not_lt_zero _)
  have q3 : gt (eB r) 0 = eB r := if_neg fun h => Nat.not_lt_zero _ h.1
  rw [q1, q2, q3]
  have h2 := ad_all (mgs (32 * r) 32) (eB r)
  rw [show (eB r).come = 32 * r from rfl] at h2
  rw [h2, mgs_len]
  simp [eB]; omega
theorem tkB (r : Nat) : tkL (eB r) = dat (bodyOf 0 (32 * r) 0 []) := rfl
theorem take2 (r : Nat) (h : r < 128) : taE (tkL (eB (r + 1))) = 0 ∧ taS (eA r) (tkL (eB (r + 1))) = eA (r + 1) := by
  have := take_dat (p := 0) (c := 32 * (r + 1)) (g := 0) AllB.nil (by simp) (by simp) (by omega) (by omega) (by omega) (eA r)
  rw [tkB]
  refine ⟨this.1, this.2.trans ?_⟩
  have q1 : hear (eA r) 0 (32 * (r + 1)) 0 [] = gt (rs (eA r) 0) (32 * (r + 1)) := if_neg (Nat.not_lt_zero _)
  have q2 : rs (eA r) 0 = eA r := if_neg (Nat.not_lt_zero _)
  rw [q1, q2]
  unfold gt
  rw [if_pos (by simp [eA, mgs_len]; omega)]
  have hd : (mgs (32 * r) (4096 - 32 * r)).drop (32 * (r + 1) - 32 * r) = mgs (32 * (r + 1)) (4096 - 32 * (r + 1)) := by
    rw [show 32 * (r + 1) - 32 * r = 32 by omega, show 4096 - 32 * r = 32 + (4096 - 32 * (r + 1)) by omega, mgs_drop]
    congr 1
  show E.mk 0 ((mgs (32 * r) (4096 - 32 * r)).drop (32 * (r + 1) - 32 * r)) (32 * (r + 1)) 0 [] = eA (r + 1)
  rw [hd]; rfl
/-- Sending. -/
def eS (i : Nat) : E := ⟨0, mgs 0 i, 0, 0, []⟩
theorem eS_fit (i : Nat) (h : i ≤ 4096) : Fit (eS i) := ⟨by simp [eS], by simp [eS, mgs_len]; omega, by simp [eS], by simp [eS], mgs_lens _ _⟩
theorem send_i (i : Nat) (h : i < 4096) : sdE (eS i) (mg i) = 0 ∧ sdS (eS i) (mg i) = eS (i + 1) := by
  have h0 : sdE (eS i) (mg i) = 0 := by unfold sdE; rw [if_neg (by simp [mg]), if_neg (by simp [eS, mgs_len]; omega)]
  refine ⟨h0, ?_⟩
  unfold sdS
  rw [if_pos h0]
  simp [eS, mgs_succ]
theorem send_full : sdE (eS 4096) [] = 4 ∧ sdS (eS 4096) [] = eS 4096 := by
  have h0 : sdE (eS 4096) [] = 4 := by unfold sdE; rw [if_neg (by simp), if_pos (by simp [eS, mgs_len])]
  exact ⟨h0, by unfold sdS; rw [h0, if_neg (by decide)]⟩
theorem send_long {b : List Int} (hb : b.length = 8193) : sdE (eS 4096) b = 3 ∧ sdS (eS 4096) b = eS 4096 := by
  have h0 : sdE (eS 4096) b = 3 := by unfold sdE; rw [if_pos (by omega)]
  exact ⟨h0, by unfold sdS; rw [h0, if_neg (by decide)]⟩
theorem eS_A : eS 4096 = eA 0 := rfl
theorem eS_0 : eS 0 = E.mk0 0 := rfl
theorem eB_0 : eB 0 = E.mk0 0 := rfl
end Go.Proofs.Ytijjcopglbcoiaa
