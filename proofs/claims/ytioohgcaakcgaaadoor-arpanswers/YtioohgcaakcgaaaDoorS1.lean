/-
  Proved here: Sum of package frame answers 'sumL' of the bytes, for every bytes that a slice holds (2 to 47 at most); no world turns. No further condition.
-/
import Derived.Test.YtioohgcaakcgaaaDoorB1
import Derived.Laws.BitsAllLaws
namespace Go.Proofs.YtioohgcaakcgaaaDoor
open Go.RowKit

/-- The sum of the first k bytes, every first of two above the second. -/
def totTo (bs : List Int) : Nat → Int
  | 0 => 0
  | k + 1 => totTo bs k + (if k % 2 = 0 then bs.getD k 0 * 256 else bs.getD k 0)
def tot (bs : List Int) : Int := totTo bs bs.length
/-- What is above 16 bits, added again until nothing is. -/
def fold16 (s : Int) : Int := if s = 0 then 0 else (s - 1) % 65535 + 1
def sumL (bs : List Int) : Int := 65535 - fold16 (tot bs)
theorem totTo_bd {bs : List Int} (h : IsB bs) : ∀ k, 0 ≤ totTo bs k ∧ totTo bs k ≤ 65280 * k
  | 0 => by simp [totTo]
  | k + 1 => by
    have ih := totTo_bd h k
    have hk := h.at k
    simp only [totTo]
    split <;> omega
theorem fold_small {s : Int} (h0 : 0 ≤ s) (h1 : s < 65536) : fold16 s = s := by
  unfold fold16
  split
  · omega
  · rw [Int.emod_eq_of_lt (by omega) (by omega)]; omega
theorem fold_step {s : Int} (h0 : 0 ≤ s) : fold16 (s % 65536 + s / 65536) = fold16 s := by
  unfold fold16
  by_cases hs : s = 0
  · subst hs; rfl
  · rw [if_neg hs, if_neg (by omega)]
    have e : s - 1 = (s % 65536 + s / 65536 - 1) + 65535 * (s / 65536) := by omega
    rw [e, Int.add_mul_emod_self_left]
theorem fold_bd {s : Int} (_h0 : 0 ≤ s) : 0 ≤ fold16 s ∧ fold16 s ≤ 65535 := by
  unfold fold16
  split <;> omega

theorem wrap64 {a : Int} (h0 : 0 ≤ a) (h1 : a < 18446744073709551616) : IntKind.u64.wrap a = a := by
  rw [IntKind.wrap_u64]; exact Int.emod_eq_of_lt h0 h1
theorem wraps64 (n : Int) (h0 : 0 ≤ n) (h1 : n < 2 ^ 64) : IntKind.u64.wrap n = n := wrap64 h0 (by simpa using h1)
theorem and_ffff {t : Int} (h0 : 0 ≤ t) (h1 : t < 18446744073709551616) : bits .and .u64 t 65535 = t % 65536 :=
  bits_mask .u64 64 (by decide) wraps64 16 (by decide) t h0 (by simpa using h1)
theorem or_byte {x y : Int} (h0 : 0 ≤ x) (h1 : x < 72057594037927936) (h2 : 0 ≤ y) (h3 : y < 256) : bits .or .u64 (x * 256) y = x * 256 + y :=
  bits_join .u64 64 (by decide) wraps64 8 (x * 256) y (by omega) (by omega) (by omega) h2 (by omega) (by omega)
theorem not16 {t : Int} (h0 : 0 ≤ t) (h1 : t < 65536) : bits .xor .u16 IntKind.u16.max t = 65535 - t := by
  obtain ⟨n, rfl⟩ := Int.eq_ofNat_of_zero_le h0
  show IntKind.u16.wrap ((BitVec.ofInt 16 IntKind.u16.max ^^^ BitVec.ofInt 16 (n : Int)).toNat : Int) = _
  have e : BitVec.ofInt 16 IntKind.u16.max = BitVec.allOnes 16 := by decide
  rw [e, BitVec.allOnes_xor, BitVec.toNat_not, BitVec.ofInt_natCast, BitVec.toNat_ofNat, Nat.mod_eq_of_lt (by omega)]
  have w16 : ∀ m : Int, IntKind.u16.wrap m = m % 65536 := fun m => by simp [IntKind.wrap, IntKind.bits, IntKind.signed]
  rw [w16]
  omega
theorem tot_even {bs : List Int} {k : Nat} {x : Int} (hm : k % 2 = 0) (hx : x = bs.getD k 0):
    totTo bs k + x * 256 = totTo bs (k + 1) := by
  simp [totTo, hm, hx]
theorem tot_odd {bs : List Int} {k : Nat} {x : Int} (hm : ¬ k % 2 = 0) (hx : x = bs.getD k 0):
    totTo bs k + x = totTo bs (k + 1) := by
  simp [totTo, hm, hx]

set_option maxHeartbeats 400000 in
/-- WHAT Sum ANSWERS. -/
theorem sum_any (B : Nat) (v : Value) (bs : List Int) (w : World) (hs : Sl B w v bs) :
    Calls Tryd.prog 47 #[v] w fun e w' => e = .returned (.int .u16 (sumL bs)) ∧ w' = w := by
  have hB := hs.isB
  have hlen := hs.len
  obtain ⟨ao, cap, rfl, _, _, _, _, hcells⟩ := hs
  have HC : Hid (bs ≠ [] → ∃ b o, b < B ∧ ao = some ⟨b, o, none⟩ ∧ ∀ j, j < bs.length → w.cell? ⟨b, o + j, none⟩ = some (.int .u8 (bs.getD j 0))) := hcells
  clear hcells
  go_enter Tryd.func47, Tryd.ntmps47
  go_wp2
  go_loop [3, 8] (fun s i => ∃ k : Nat, k ≤ bs.length ∧ i = .int .i64 k ∧ s = .int .u64 (totTo bs k)) (fun _ i => bs.length - (intOf i).toNat)
  case atStart => exact ⟨0, by omega, rfl, rfl⟩
  case round =>
    obtain ⟨k, hk, rfl, rfl⟩ := hrel
    have hbd := totTo_bd hB k
    by_cases hlt : k < bs.length
    · obtain ⟨b, o, _, rfl, hcl⟩ := HC.out (fun e => by subst e; simp at hlt)
      obtain ⟨x, hx⟩ : ∃ x, x = bs.getD k 0 := ⟨_, rfl⟩
      have hc := hcl k hlt
      have hx0 := hB.at k
      rw [← hx] at hc hx0
      have HX : Hid (x = bs.getD k 0) := hx
      clear hcl HC hB hx
      by_cases hm : k % 2 = 0
      · have hm' : ((k : Int)).tmod 2 = 0 := by rw [Int.tmod_eq_emod_of_nonneg (by omega)]; omega
        have HR := (show Hid (totTo bs k + x * 256 = totTo bs (k + 1)) from tot_even hm HX.out)
        go_wp2
        go_round
        case rel => exact ⟨k + 1, by omega, by go_num, by rw [HR.out]⟩
        case measure => simp [intOf]; omega
      · have hm' : ¬ ((k : Int)).tmod 2 = 0 := by rw [Int.tmod_eq_emod_of_nonneg (by omega)]; omega
        have HR := (show Hid (totTo bs k + x = totTo bs (k + 1)) from tot_odd hm HX.out)
        go_wp2
        go_round
        case rel => exact ⟨k + 1, by omega, by go_num, by rw [HR.out]⟩
        case measure => simp [intOf]; omega
    · obtain rfl : k = bs.length := by omega
      clear HC hB
      go_wp2
      go_loop [3] (fun s => ∃ t : Int, s = .int .u64 t ∧ 0 ≤ t ∧ t < 9223372036854775808 ∧ fold16 t = fold16 (tot bs)) (fun s => (intOf s).toNat)
      case atStart => exact ⟨_, rfl, by omega, by omega, rfl⟩
      case round =>
        obtain ⟨t, rfl, t0, t1, hf⟩ := hrel
        have HF : Hid (fold16 t = fold16 (tot bs)) := hf
        clear hf
        by_cases hbig : t / 65536 = 0
        · have HR := (show Hid (bits .xor .u16 IntKind.u16.max t = sumL bs) from by
            show _ = _
            rw [not16 t0 (by omega)]; unfold sumL; rw [← HF.out, fold_small t0 (by omega)])
          clear HF
          go_wp2
          go_ret
          exact ⟨by rw [HR.out]; rfl, rfl⟩
        · have HR := (show Hid (IntKind.u64.wrap (bits .and .u64 t 65535 + t / 65536) = t % 65536 + t / 65536) from by
            show _ = _
            rw [and_ffff t0 (by omega), wrap64 (by omega) (by omega)])
          go_wp2
          go_round
          case rel => exact ⟨t % 65536 + t / 65536, by rw [HR.out], by omega, by omega, by rw [fold_step t0, HF.out]⟩
          case measure => rw [HR.out]; simp only [intOf]; omega
theorem tot_past {bs : List Int} {k : Nat} (h : bs.length ≤ k) : totTo bs (k + 1) = totTo bs k := by
  have e : bs.getD k 0 = 0 := by rw [List.getD_eq_getElem?_getD, List.getElem?_eq_none h]; rfl
  simp only [totTo, e]; split <;> omega
end Go.Proofs.YtioohgcaakcgaaaDoor
