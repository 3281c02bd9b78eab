/-
  Proved here: moved answers eight steps of a number; fill lays the table of a byte's eight steps. Conditions: the number is below 2 to 32; the block is there.
-/
import Derived.Test.YthgkmbdnkamcoaaCO
import Derived.Deep.RegionWith
namespace Go.Proofs.Ythgkmbdnkamcoaa
open Go.RowKit Seal

/-- The table, filled up to i. -/
def upTo (f : Nat → Nat) (i : Nat) : Nat → Nat := fun k => if k < i then Ts 8 k else f k
theorem put_up (f : Nat → Nat) (i : Nat) : put (upTo f i) i (Ts 8 i) = upTo f (i + 1) := by
  funext k
  unfold put upTo
  by_cases h : k = i
  · subst h; simp
  · rw [if_neg h]
    by_cases h2 : k < i
    · rw [if_pos h2, if_pos (by omega)]
    · rw [if_neg h2, if_neg (by omega)]

set_option maxHeartbeats 800000 in
/-- moved. -/
theorem moved_any (k : Nat) (hk : k < 4294967296) (w : World) :
    Calls Try.prog 34 #[.int .u32 (k : Nat)] w fun e w' => e = .returned (.int .u32 (Ts 8 k : Nat)) ∧ w' = w := by
  go_enter Try.func34, Try.ntmps34
  go_wp2
  go_loop [0, 3] (fun n i => ∃ j : Nat, j ≤ 8 ∧ i = .int .i64 j ∧ n = .int .u32 (Ts j k : Nat)) (fun _ i => 8 - (intOf i).toNat)
  case atStart => exact ⟨0, by omega, rfl, rfl⟩
  case round =>
    obtain ⟨j, hj, rfl, rfl⟩ := hrel
    have hl2 : Ts j k < 4294967296 := Ts_lt j (by omega)
    have HN := Ts_next j k
    obtain ⟨y, hy⟩ : ∃ y, y = Ts j k := ⟨_, rfl⟩
    rw [← hy] at hl2 HN ⊢
    by_cases hj8 : j < 8
    · by_cases ho : y % 2 = 1
      · have a1 := and1 hl2
        rw [ho] at a1
        have a2 := xorQ hl2
        rw [T_odd ho] at HN
        have HN' : Hid (Ts (j + 1) k = y / 2 ^^^ 3988292384) := HN
        clear hy HN ho
        go_wp2
        go_round
        case rel => exact ⟨j + 1, by omega, by go_num, by rw [HN'.out]⟩
        case measure => simp [intOf]; omega
      · have a1 := and1 hl2
        rw [show y % 2 = 0 by omega] at a1
        rw [T_eve ho] at HN
        have HN' : Hid (Ts (j + 1) k = y / 2) := HN
        clear hy HN ho
        go_wp2
        go_round
        case rel => exact ⟨j + 1, by omega, by go_num, by rw [HN'.out]; rfl⟩
        case measure => simp [intOf]; omega
    · obtain rfl : j = 8 := by omega
      have HY : Hid (y = Ts 8 k) := hy
      clear hy HN
      go_wp2
      go_ret
      exact ⟨by rw [HY.out]; rfl, rfl⟩

set_option maxHeartbeats 1600000 in
set_option maxRecDepth 100000 in
/-- fill. -/
theorem fill_any (b : Nat) (d l : Int) (f : Nat → Nat) (w : World) (hT : Tk w b d l f) :
    Calls Try.prog 31 #[.pointer (some ⟨b, 0, none⟩)] w fun e w' => e = .returned (.tuple #[]) ∧ Tk w' b d l (upTo f 256) ∧ Below b w w' := by
  go_enter Try.func31, Try.ntmps31
  go_wp2
  go_loopw [3] (fun i wr => ∃ k : Nat, k ≤ 256 ∧ i = .int .i64 k ∧ Tk wr b d l (upTo f k) ∧ Below b w wr) (fun i _ => 256 - (intOf i).toNat)
  case atStart => exact ⟨0, by omega, rfl, hT, Below.refl _ _⟩
  case round =>
    obtain ⟨k, hk, rfl, hTk, hlow⟩ := hrel
    have HT : Hid (Tk wr b d l (upTo f k)) := hTk
    have HL : Hid (Below b w wr) := hlow
    clear hTk hlow hT
    by_cases hlt : k < 256
    · have hTn := HT.out.setK k (Ts 8 k) hlt
      rw [put_up] at hTn
      obtain ⟨y, hy⟩ : ∃ y, y = Ts 8 k := ⟨_, rfl⟩
      have HC : Hid (∀ w, Calls Try.prog 34 #[.int .u32 (k : Nat)] w fun e w' => e = .returned (.int .u32 (y : Nat)) ∧ w' = w) := fun w => hy ▸ moved_any k (by omega) w
      rw [← hy] at hTn
      have HTn : Hid (Tk (wr.setCell ⟨b, 3 + k, none⟩ (.int .u32 (y : Nat))) b d l (upTo f (k + 1))) := hTn
      have hc := HT.out.cell k hlt
      have hw : IntKind.u32.wrap (k : Int) = (k : Int) := by rw [IntKind.wrap_u32]; omega
      have hz := HT.out.frozen (3 + k)
      clear hTn hy
      go_wp2
      go_region_with (go_at_call 34; (try rw [hw]); refine (HC.out _).mono ?_; rintro e w' ⟨rfl, rfl⟩)
      go_wp2
      go_roundw
      case rel => exact ⟨k + 1, by omega, by go_num, HTn.out.drew, (HL.out.setCell (Nat.le_refl _) _).drew⟩
      case measure => simp [intOf]; omega
    · obtain rfl : k = 256 := by omega
      go_wp2
      go_end0
      exact ⟨rfl, HT.out, HL.out⟩
end Go.Proofs.Ythgkmbdnkamcoaa
