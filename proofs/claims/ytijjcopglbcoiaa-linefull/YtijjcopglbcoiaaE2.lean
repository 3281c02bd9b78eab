/-
  Proved here: the document's number appends a number's bytes; its read reads them. Conditions: at most four bytes; the place is within the bytes.
-/
import Derived.Test.YtijjcopglbcoiaaE1
namespace Go.Proofs.Ytijjcopglbcoiaa
open Go.RowKit Seal

theorem take_all (n : Int) (k : Nat) : (dg n k).take k = dg n k := List.take_of_length_le (by rw [dg_len]; exact Nat.le_refl _)
theorem dg_at (n : Int) : ∀ (k j : Nat), j < k → (dg n k)[j]? = some (n / 2 ^ (8 * (k - 1 - j)) % 256)
  | 0, _, h => by omega
  | k + 1, 0, _ => by simp [dg]
  | k + 1, j + 1, h => by
    show (dg n k)[j]? = _
    rw [dg_at n k j (by omega)]
    congr 4; omega
theorem take_step (n : Int) (k j : Nat) (h : j < k) : (dg n k).take (j + 1) = (dg n k).take j ++ [n / 2 ^ (8 * (k - 1 - j)) % 256] := by
  rw [List.take_add_one, dg_at n k j h]; rfl
theorem Ext.step {base : Nat} {w wr w' : World} {v b v' : Value} {xs ys : List Int} {o : Obj} (h : Ext base w v wr b xs) (h1 : Ext base (wr.alloc o) b w' v' ys) : Ext base w v w' v' ys := h.trans (Ext.allocFirst h.own h1)

set_option maxHeartbeats 400000 in
/-- WHAT THE DOCUMENT's number APPENDS. -/
theorem rnum_any (base k : Nat) (n : Int) (v : Value) (xs : List Int) (w : World) (hk : k ≤ 4) (hown : Owns base w v xs) (hlen : xs.length ≤ 100000) (hbase : base ≤ w.heap.size) :
    Calls Try.prog 37 #[v, .int .u32 n, .int .i64 k] w fun e w' => ∃ v', e = .returned v' ∧ Ext base w v w' v' (xs ++ dg n k) := by
  go_enter Try.func37, Try.ntmps37
  go_wp2
  go_loopw [0, 7] (fun b s wr => ∃ j : Nat, j ≤ k ∧ s = .int .i64 ((k : Int) - 1 - j) ∧ Ext base w v wr b (xs ++ (dg n k).take j)) (fun _ s _ => (intOf s + 1).toNat)
  case atStart => exact ⟨0, by omega, by go_num, by simpa using Ext.refl hown⟩
  case round =>
    obtain ⟨j, hj, rfl, hE⟩ := hrel
    have hb2 := Nat.le_trans hbase hE.grown.size
    have hl2 : (xs ++ (dg n k).take j).length ≤ 100008 := by simp only [List.length_append, List.length_take, dg_len]; omega
    by_cases hlt : j < k
    · have HE : Hid (Ext base w v wr u0 (xs ++ (dg n k).take j)) := hE
      clear hE hown
      go_wp2_with (at_builtin; refine app22 (.tmp 14) (.tmp 20) rfl rfl rfl rfl (HE.out.own.alloc _) (sl_one wr _ (Int.emod_nonneg _ (by omega)) (Int.emod_lt_of_pos _ (by omega))) (by simp; omega) (by simp only [List.length_cons, List.length_nil]; omega) ?_; intro v' w' hE1)
      have R := HE.out.step hE1
      rw [List.append_assoc, ← take_step n k j hlt] at R
      have HR : Hid (Ext base w v w' v' (xs ++ (dg n k).take (j + 1))) := R
      clear R hE1 HE
      go_wp2
      go_roundw
      case rel => exact ⟨j + 1, by omega, by go_num, HR.out⟩
      case measure => simp [intOf]; omega
    · obtain rfl : j = k := by omega
      rw [take_all] at hE
      go_wp2
      go_ret
      exact ⟨u0, rfl, hE⟩

theorem fld_step {bs : List Int} {a i : Nat} (h : a + i < bs.length) : fld bs a (i + 1) = fld bs a i * 256 + bs.getD (a + i) 0 := by
  unfold fld
  rw [List.take_add_one, List.getElem?_drop, List.getElem?_eq_getElem h]
  simp only [Option.toList]
  rw [num_snoc, List.getD_eq_getElem?_getD, List.getElem?_eq_getElem h]; rfl
theorem fld_bd {bs : List Int} (hB : IsB bs) (a i : Nat) : 0 ≤ fld bs a i ∧ fld bs a i < 2 ^ (8 * i) := by
  have h := num_bd ((hB.drop a).take i)
  refine ⟨h.1, Int.lt_of_lt_of_le h.2 ?_⟩
  have hl : ((bs.drop a).take i).length ≤ i := by rw [List.length_take]; omega
  exact_mod_cast Nat.pow_le_pow_right (by omega) (Nat.mul_le_mul_left 8 hl)
theorem or_hi {a b : Int} (ha : 0 ≤ a) (hai : a < 256) (hb : 0 ≤ b) (hs : b < 16777216) : bits .or .u32 (b * 256) a = b * 256 + a := by
  obtain ⟨x, rfl⟩ := Int.eq_ofNat_of_zero_le ha
  obtain ⟨y, rfl⟩ := Int.eq_ofNat_of_zero_le hb
  have := u32_or_nat (y * 256) x (by omega) (by omega)
  rw [nat_join 8 _ _ (by omega) (by omega)] at this
  rw [show ((y : Int) * 256) = ((y * 256 : Nat) : Int) by omega]
  rw [this]; omega

set_option maxHeartbeats 400000 in
/-- WHAT THE DOCUMENT's read READS. -/
theorem rread_any (B a k : Nat) (v : Value) (bs : List Int) (w : World) (hs : Sl B w v bs) (ha : a + k ≤ bs.length) (hk : k ≤ 4) :
    Calls Try.prog 41 #[v, .int .i64 a, .int .i64 k] w fun e w' => e = .returned (.int .u32 (fld bs a k)) ∧ w' = w := by
  have hB := hs.isB
  have hlen := hs.len
  obtain ⟨ao, cap, rfl, _, _, _, _, hcells⟩ := hs
  have HC : Hid (bs ≠ [] → ∃ b o, b < B ∧ ao = some ⟨b, o, none⟩ ∧ ∀ j, j < bs.length → w.cell? ⟨b, o + j, none⟩ = some (.int .u8 (bs.getD j 0))) := hcells
  have HI : Hid (IsB bs) := hB
  clear hcells hB
  go_enter Try.func41, Try.ntmps41
  go_wp2
  go_loop [7, 8] (fun n i => ∃ j : Nat, j ≤ k ∧ i = .int .i64 j ∧ n = .int .u32 (fld bs a j)) (fun _ i => k - (intOf i).toNat)
  case atStart => exact ⟨0, by omega, rfl, by simp [fld, num]⟩
  case round =>
    obtain ⟨j, hj, rfl, rfl⟩ := hrel
    have hb := fld_bd HI.out a j
    by_cases hlt : j < k
    · obtain ⟨b, o, _, rfl, hcl⟩ := HC.out (fun e => by subst e; simp at ha; omega)
      have hc := hcl (a + j) (by omega)
      have hx0 := HI.out.at (a + j)
      have hF := fld_step (bs := bs) (a := a) (i := j) (by omega)
      generalize bs.getD (a + j) 0 = x at *
      have h24 : fld bs a j < 16777216 := Int.lt_of_lt_of_le hb.2 (by
        have : (2 : Int) ^ (8 * j) ≤ 2 ^ 24 := by exact_mod_cast Nat.pow_le_pow_right (by omega) (show 8 * j ≤ 24 by omega)
        exact this)
      have hb0 := hb.1
      obtain ⟨m, hm⟩ : ∃ m, m = fld bs a j := ⟨_, rfl⟩
      rw [← hm] at hF h24 hb0 ⊢
      have a1 := or_hi hx0.1 hx0.2 hb0 h24
      have HF : Hid (fld bs a (j + 1) = m * 256 + x) := hF
      clear hcl HC hm hF hb
      go_wp2
      go_round
      case rel => exact ⟨j + 1, by omega, by go_num, by rw [HF.out]⟩
      case measure => simp [intOf]; omega
    · obtain rfl : j = k := by omega
      clear hb HC
      go_wp2
      go_ret
      exact ⟨rfl, rfl⟩
end Go.Proofs.Ytijjcopglbcoiaa
