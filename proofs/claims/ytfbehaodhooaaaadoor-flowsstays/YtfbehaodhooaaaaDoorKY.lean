/-
  Proved here: FlowsStays says true. Condition: the widths' table holds its numbers.
-/
import Derived.Test.YtfbehaodhooaaaaDoorKX
namespace Go.Proofs.YtfbehaodhooaaaaDoor
open Go.RowKit Go.Maps

theorem rc4 : (Value.agg #[.int .i64 0, .int .u64 0, .int .u64 0, .int .u64 0, .int .u64 0, .int .u64 0, .int .u64 0, .int .u64 0, .int .u64 0, .int .u64 0, .int .u64 0, .int .u64 0, .int .u64 0, .int .u64 0, .int .u64 0, .int .u64 0, .int .u64 0, .int .u64 0, .int .u64 0, .int .u64 0, .int .u64 0, .int .u64 0, .int .u64 0, .slice none 0 0, .int .u64 1]) = .agg (rlc ⟨0, zf, [], 1⟩ nilS) := by kernel_rfl
theorem hv0 : (Value.agg #[.int .u64 0, .int .u64 0, .int .u64 0, .int .u64 0, .int .u64 0, .int .u64 0, .int .u64 0, .int .u64 0, .int .u64 0, .int .u64 0, .int .u64 0]) = hv zf := by kernel_rfl
def e3W (p : Nat) (u : Value) (pk bt : Int) : Fe := ⟨p, 1, ⟨0, zf, [], 1⟩, u, pk, bt⟩
def b3W (k : Nat) : Int := min ((k : Int) * 9223372036854775807) 18446744073709551615
theorem met3 {p : Nat} {u : Value} {pk bt : Int} (f : Option Fe) (h : Met [e3W p u pk bt] zf f) : f = some (e3W p u pk bt) := by
  cases f with
  | none => have := h (e3W p u pk bt) (by simp); rw [show (e3W p u pk bt).r.mt = zf from rfl, hit00] at this; cases this
  | some x =>
    obtain ⟨h1, -, -⟩ := h
    simp only [List.mem_cons, List.not_mem_nil, or_false] at h1
    rw [h1]
theorem b3_next (k : Nat) (hk : k < 3) : sumE (b3W k) (max 9223372036854775807 0) = b3W (k + 1) := by
  have : k = 0 ∨ k = 1 ∨ k = 2 := by omega
  rcases this with rfl | rfl | rfl <;> decide
theorem p3_next (k : Nat) (hk : k < 3) : sumE (k : Int) 1 = ((k + 1 : Nat) : Int) := by
  have : k = 0 ∨ k = 1 ∨ k = 2 := by omega
  rcases this with rfl | rfl | rfl <;> decide
set_option maxHeartbeats 3200000 in
set_option maxRecDepth 100000 in
theorem stays_any (w : World) (ht : Tab w) : Calls Tryd.prog 4 #[] w fun e w' => e = .returned (.bool true) ∧ Below w.heap.size w w' := by
  have HT := hid ht
  have HA1 : Hid (∀ x g, Own w x g (rmO 1) 0 [] 0 → Calls Tryd.prog 6 #[pv g, .int .i8 0, .agg #[.int .i64 0, .int .u64 0, .int .u64 0, .int .u64 0, .int .u64 0, .int .u64 0, .int .u64 0, .int .u64 0, .int .u64 0, .int .u64 0, .int .u64 0, .int .u64 0, .int .u64 0, .int .u64 0, .int .u64 0, .int .u64 0, .int .u64 0, .int .u64 0, .int .u64 0, .int .u64 0, .int .u64 0, .int .u64 0, .int .u64 0, .slice none 0 0, .int .u64 1]] x fun e w' => e = .returned (.tuple #[.int .i64 1, .int .i64 0]) ∧ ∃ p u, Own w w' g (rmO 1) 1 [e3W p u ((0 : Nat) : Int) (b3W 0)] 1024) := fun x g h => by
    rw [rc4]
    exact own_add h HT.out ⟨0, zf, [], 1⟩ (fitN (by unfold I64; omega) wf_zf (by unfold InB; omega)) (by omega) (by omega) rfl ok_zf rfl (by decide)
  have HF : Hid (∀ x g p u k, k < 3 → Own w x g (rmO 1) 1 [e3W p u (k : Nat) (b3W k)] 1024 → Calls Tryd.prog 9 #[pv g, .agg #[.int .u64 0, .int .u64 0, .int .u64 0, .int .u64 0, .int .u64 0, .int .u64 0, .int .u64 0, .int .u64 0, .int .u64 0, .int .u64 0, .int .u64 0], .int .i64 9223372036854775807] x fun e w' => (∃ v1 v2, e = .returned (.tuple #[v1, v2])) ∧ Own w w' g (rmO 1) 1 [e3W p u ((k + 1 : Nat) : Int) (b3W (k + 1))] 1024) := fun x g p u k hk h => by
    rw [hv0]
    refine (own_find h zf wf_zf 9223372036854775807 (by unfold I64; omega) (by omega) (e3W p u k (b3W k)) (fun f hf => met3 f hf)).mono ?_
    rintro e w' ⟨u', -, rfl, q⟩
    rw [show (e3W p u k (b3W k)).bt = b3W k from rfl, show (e3W p u k (b3W k)).pk = (k : Int) from rfl, b3_next k hk, p3_next k hk] at q
    exact ⟨⟨_, _, rfl⟩, q⟩
  have HH : Hid (∀ x g p u, Own w x g (rmO 1) 1 [e3W p u ((3 : Nat) : Int) (b3W 3)] 1024 → Calls Tryd.prog 7 #[pv g] x fun e w' => Below w.heap.size w w' ∧ ∃ b o cap, e = .returned (.slice (some ⟨b, o, none⟩) 1 cap) ∧ w'.cell? ⟨b, o + 25, none⟩ = some (.int .u64 3) ∧ w'.cell? ⟨b, o + 26, none⟩ = some (.int .u64 18446744073709551615)) := fun x g p u h => by
    refine (own_helds h).mono ?_
    rintro e w' ⟨h1, z, ds, rfl, h2, h3, h4, h5⟩
    obtain rfl := List.perm_singleton.1 h2
    obtain ⟨b, o, cap, rfl, h6, h7⟩ := h5.first
    exact ⟨h1.low, b, o, cap, rfl, h6, h7⟩
  have HW : Hid (∀ x, Below w.heap.size w x → Calls Tryd.prog 8 #[] x fun e w' => e = .returned (.bool true) ∧ Below w.heap.size w w') := fun x hb => (wakes_any x (HT.out.on hb)).mono fun e w' ⟨q1, q2⟩ => ⟨q1, hb.trans (q2.mono hb.size)⟩
  clear ht
  go_enter Tryd.func4, Tryd.ntmps4
  go_upto_region 4 with (first
    | (go_at_call 5; refine (own_new w 1).mono ?_; rintro e x1 ⟨g, rfl, h1⟩; have HC1 := hid (HA1.out x1 g h1); clear h1 HA1)
    | (go_at_call 6; refine (HC1.out).mono ?_; rintro e x2 ⟨rfl, p, u, h1⟩; have HO := hid h1; clear h1 HC1))
  go_loopw [7] (fun i wr => ∃ k : Nat, k ≤ 3 ∧ i = .int .i64 k ∧ Own w wr g (rmO 1) 1 [e3W p u (k : Nat) (b3W k)] 1024) (fun i _ => 3 - (intOf i).toNat)
  case atStart => exact ⟨0, by omega, rfl, HO.out⟩
  case round =>
    obtain ⟨k, hk, rfl, hrel⟩ := hrel
    generalize wr = wx at *
    by_cases hlt : k < 3
    · have HC := hid (HF.out wx g p u k hlt hrel)
      clear hrel HF HO
      go_wp2_with (first
        | (go_at_call 9; refine (HC.out).mono ?_; rintro e x3 ⟨⟨v1, v2, rfl⟩, h1⟩; have HO3 := hid h1; clear h1 HC))
      go_roundw
      case rel => exact ⟨k + 1, by omega, by go_num, HO3.out⟩
      case measure => simp [intOf]; omega
    · obtain rfl : k = 3 := by omega
      have HC := hid (HH.out wx g p u hrel)
      clear hrel HF HO HH
      go_wp2_with (first
        | (go_at_call 7; refine (HC.out).mono ?_; rintro e x6 ⟨hB6, b, o, cap, rfl, c25, c26⟩; have HD := hid (HW.out x6 hB6); clear hB6 HC)
        | (go_at_call 8; refine (HD.out).mono ?_; rintro e x7 ⟨rfl, hB7⟩; have HB7 := hid hB7; clear hB7 HD))
      go_ret
      exact ⟨rfl, HB7.out⟩
end Go.Proofs.YtfbehaodhooaaaaDoor
