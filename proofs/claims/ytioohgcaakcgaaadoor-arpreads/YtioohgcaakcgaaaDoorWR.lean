/-
  Proved here: ArpReads's body returns true for every packet; no old memory turns. Conditions: the widths' table holds its eleven numbers; no number of the header is negative.
-/
import Derived.Test.YtioohgcaakcgaaaDoorJ7
namespace Go.Proofs.YtioohgcaakcgaaaDoor
open Go.RowKit

set_option maxHeartbeats 800000 in
/-- ArpReads. -/
theorem reads_any (B : Nat) (h : Nat → Int) (vb : Value) (bs : List Int) (w : World) (hs : Sl B w vb bs) (hB : B ≤ w.heap.size) (hw : Tab w) (h0 : ∀ k, 0 ≤ h k) :
    Calls Tryd.prog 5 #[pv h vb] w fun e w' => e = .returned (.bool true) ∧ Below w.heap.size w w' := by
  have K0 := PBlk.new w h vb
  have hl0 : Below w.heap.size w (w.alloc (.cells (prow h vb) 32)) := (Below.refl _ _).alloc (Nat.le_refl _) _
  have HT : Hid (Tab (w.alloc (.cells (prow h vb) 32))) := hw.on hl0
  have HS : Hid (Sl B (w.alloc (.cells (prow h vb) 32)) vb bs) := hs.on (hl0.mono hB)
  clear hs hw
  go_enter Tryd.func5, Tryd.ntmps5
  go_wp2_with (refine ld27 (.tmp 1) rfl _ rfl rfl h vb (by exact K0) ?_)
  go_fit (read_any B h vb bs _ HT.out (Nat.le_trans hB hl0.size) HS.out h0)
  rintro e w1 ⟨rfl, hb1⟩
  have HL : Hid (Below w.heap.size w w1) := hl0.trans (hb1.mono hl0.size)
  have K1 : Hid (PBlk w1 w.heap.size h vb) := K0.on hb1
  have S1 : Hid (Sl B w1 vb bs) := HS.out.on (hb1.mono (Nat.le_trans hB hl0.size))
  have HT1 : Hid (Tab w1) := HT.out.on hb1
  have HV : Hid (∃ a m f t o, rdV h bs = .tuple #[.bool a, .int .u64 m, .int .u32 f, .int .u32 t, .bool o]) := ⟨_, _, _, _, _, rfl⟩
  obtain ⟨a, m, f, t, o, hv⟩ := HV.out
  rw [hv]
  have HV' : Hid (rdV h bs = .tuple #[.bool a, .int .u64 m, .int .u32 f, .int .u32 t, .bool o]) := hv
  clear K0 HT HS hl0 hb1 HV hv
  go_wp2_with (refine ld27 (.tmp 1) rfl _ rfl rfl h vb (by exact K1.out) ?_)
  go_fit (rread_any B h vb bs w1 (Nat.le_trans hB HL.out.size) S1.out h0)
  rintro e w2 ⟨rfl, hb2⟩
  rw [HV'.out]
  have HL2 : Hid (Below w.heap.size w w2) := HL.out.trans (hb2.mono HL.out.size)
  have HT2 : Hid (Tab w2) := HT1.out.on hb2
  clear HL K1 S1 HT1 HV' hb2
  have ea : (a == a) = true := by simp
  have eo : (o == o) = true := by simp
  go_wp2_with (go_at_call 11; refine (wakes_any w2 HT2.out).mono ?_; rintro e w4 ⟨rfl, hb4⟩)
  go_ret
  exact ⟨rfl, HL2.out.trans (hb4.mono HL2.out.size)⟩
end Go.Proofs.YtioohgcaakcgaaaDoor
