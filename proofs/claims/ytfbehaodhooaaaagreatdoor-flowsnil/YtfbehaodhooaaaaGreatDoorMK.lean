/-
  Proved here: masked of package tuples: a header's bits that a mask asks for. No condition.
-/
import Derived.Test.YtfbehaodhooaaaaGreatDoorTA
import Derived.Laws.Bits64b
import Derived.Laws.Tables
import Derived.Laws.ResultCell
namespace Go.Proofs.YtfbehaodhooaaaaGreatDoor
set_option maxRecDepth 100000
open Go.RowKit

def msk (h μ : Nat → Int) : Nat → Int := fun k => bits .and .u64 (h k) (μ k)
theorem and_bd {x y : Int} (hx : 0 ≤ x) (hx2 : x < 18446744073709551616) (hy : 0 ≤ y) (hy2 : y < 18446744073709551616) : 0 ≤ bits .and .u64 x y ∧ bits .and .u64 x y < 18446744073709551616 := by
  obtain ⟨a, rfl⟩ := Int.eq_ofNat_of_zero_le hx
  obtain ⟨b, rfl⟩ := Int.eq_ofNat_of_zero_le hy
  rw [bits_and_u64_nat a b (by omega) (by omega)]
  have : a &&& b ≤ a := Nat.and_le_left
  omega
theorem msk_wf {h μ : Nat → Int} (hh : Wf h) (hμ : Wf μ) : Wf (msk h μ) := fun k => by
  have h1 := hh.bd k
  have h2 := hμ.bd k
  have := and_bd h1.1 h1.2 h2.1 h2.2
  exact WalkArith.wf_u64 (by show 0 ≤ bits .and .u64 (h k) (μ k) ∧ bits .and .u64 (h k) (μ k) ≤ _; omega)
def part (h μ : Nat → Int) (q : Nat) : Nat → Int := fun k => if k < q then msk h μ k else h k
theorem part_next (h μ : Nat → Int) (q : Nat) : row 11 (upd (part h μ q) q (msk h μ q)) = row 11 (part h μ (q + 1)) := row_congr fun k _ => by
  by_cases e : k = q
  · subst e
    rw [upd_same]; simp [part]
  · rw [upd_other _ _ _ _ e]
    unfold part
    by_cases h1 : k < q
    · rw [if_pos h1, if_pos (by omega)]
    · rw [if_neg h1, if_neg (by omega)]
theorem resM (tmps : Array Value) (w : World) (g : Nat) (m : Nat → Int) (hp : tmps.getD 4 undef = .pointer (some ⟨g, 0, none⟩)) (hg : Blk w g 11 30 m) :
    (results Tryz.f82 tmps).run Tryz.prog w = .ok (hv m) w :=
  results_cell_row Tryz.results82 tmps w g 30 _ (0, 0) _ hp hg Tryz.underlying30 rfl (sizeH m)
set_option maxHeartbeats 1600000 in
set_option maxRecDepth 100000 in
theorem masked_any (h μ : Nat → Int) (w : World) : Calls Tryz.prog 82 #[hv h, hv μ] w fun e w' => e = .returned (hv (msk h μ)) ∧ Below w.heap.size w w' := by
  obtain ⟨W0, hW0⟩ : ∃ W0, W0 = ((w.alloc (.cells (row 11 h) 30)).alloc (.cells (row 11 μ) 30)).alloc (.cells (row 11 zf) 30) := ⟨_, rfl⟩
  have hB0 : Below w.heap.size w W0 := by rw [hW0]; exact (((Below.refl _ _).alloc (Nat.le_refl _) _).alloc (by simp) _).alloc (by simp; omega) _
  have hA : Blk W0 w.heap.size 11 30 h := by rw [hW0]; exact ((Blk.new w 11 30 h).alloc _).alloc _
  have hM : Blk W0 (w.heap.size + 1) 11 30 μ := by rw [hW0]; exact (Blk.new1 w _ 11 30 μ).alloc _
  have hZ : Blk W0 (w.heap.size + 1 + 1) 11 30 zf := by
    rw [hW0]
    have := Blk.new1 (w.alloc (.cells (row 11 h) 30)) (.cells (row 11 μ) 30) 11 30 zf
    simpa using this
  have HW0 := hid hW0
  clear hW0
  have HB0 := hid (And.intro hB0 (And.intro hA hZ))
  have hs0 : W0.heap.size = w.heap.size + 3 := by rw [HW0.out]; simp
  clear hB0 hA hZ
  go_enter Tryz.func82, Tryz.ntmps82
  go_upto_region 1 with fail
  rw [show (#[Value.int .u64 0, Value.int .u64 0, Value.int .u64 0, Value.int .u64 0, Value.int .u64 0, Value.int .u64 0, Value.int .u64 0, Value.int .u64 0, Value.int .u64 0, Value.int .u64 0, Value.int .u64 0] : Array Value) = row 11 zf from rfl, ← HW0.out]
  clear HW0
  go_upto_region 2 with (refine ld24 (.tmp 3) rfl _ rfl rfl μ hM ?_)
  clear hM
  go_loopw [8] (fun i wr => ∃ q : Nat, q ≤ 11 ∧ i = .int .i64 q ∧ Blk wr w.heap.size 11 30 (part h μ q) ∧ Blk wr (w.heap.size + 1 + 1) 11 30 zf ∧ Below w.heap.size w wr) (fun i _ => 11 - (intOf i).toNat)
  case atStart => exact ⟨0, by omega, rfl, by have := HB0.out.2.1; unfold Blk at *; rw [this, row_congr (f := h) (g := part h μ 0) fun k _ => by simp [part]], HB0.out.2.2, HB0.out.1⟩
  case round =>
    obtain ⟨q, hq, rfl, hA, hZ, hlow⟩ := hrel
    generalize wr = wx at *
    by_cases hlt : q < 11
    · have hidx : ∀ W, (Instr.index 30 (hv μ) (.int .i64 (q : Int))).run Tryz.prog W = .ok (.int .u64 (μ q)) W := fun W => idx_hv μ q hlt W
      have hpq : part h μ q q = h q := by simp [part]
      have hc1 : wx.cell? ⟨w.heap.size, q, none⟩ = some (.int .u64 (h q)) := by rw [hA.cell q hlt, hpq]
      have hc2 := hA.frozen q
      have HN : Hid (Blk (wx.setCell ⟨w.heap.size, q, none⟩ (.int .u64 (bits .and .u64 (h q) (μ q)))) w.heap.size 11 30 (part h μ (q + 1)) ∧ Blk (wx.setCell ⟨w.heap.size, q, none⟩ (.int .u64 (bits .and .u64 (h q) (μ q)))) (w.heap.size + 1 + 1) 11 30 zf ∧ Below w.heap.size w (wx.setCell ⟨w.heap.size, q, none⟩ (.int .u64 (bits .and .u64 (h q) (μ q))))) := by
        refine ⟨?_, hZ.setOther _ _ _ (by omega), hlow.setCell (p := ⟨w.heap.size, q, none⟩) (Nat.le_refl _) _⟩
        have := hA.set q (bits .and .u64 (h q) (μ q))
        unfold Blk at *
        rw [this]
        have e := part_next h μ q
        unfold msk at e
        rw [e]
      have hd : decide ((q : Int) < 11) = true := decide_eq_true (by omega)
      clear hA hZ hlow hpq
      go_wp2
      go_roundw
      case rel => exact ⟨q + 1, by omega, by go_num, HN.out⟩
      case measure => simp [intOf]; omega
    · obtain rfl : q = 11 := by omega
      have hA' : Blk wx w.heap.size 11 30 (msk h μ) := by
        unfold Blk at *
        rw [hA, row_congr (f := part h μ 11) (g := msk h μ) fun k hk => by simp [part, hk]]
      have hW : Blk (wx.setRow (w.heap.size + 1 + 1) (row 11 (msk h μ))) (w.heap.size + 1 + 1) 11 30 (msk h μ) := setRow_heap wx _ _ _ _ _ hZ
      have HL := hid (show Below w.heap.size w (wx.setRow (w.heap.size + 1 + 1) (row 11 (msk h μ))) from below_setRow hlow (by omega) _)
      have HWb := hid hW
      clear hA hlow hW
      go_wp2_with (first
        | (refine ld24 (.tmp 2) rfl _ rfl rfl (msk h μ) hA' ?_)
        | (refine stRow 30 (.tmp 4) (.tmp 19) rfl rfl (w.heap.size + 1 + 1) (row 11 (msk h μ)) rfl rfl 30 (row 11 zf) hZ (sizeH _) (by rw [row_size, row_size]) (row_one _ _) ?_))
      refine bodyPost_ret (v := hv (msk h μ)) (resM _ _ (w.heap.size + 1 + 1) (msk h μ) rfl HWb.out) rfl ⟨rfl, HL.out⟩
end Go.Proofs.YtfbehaodhooaaaaGreatDoor
