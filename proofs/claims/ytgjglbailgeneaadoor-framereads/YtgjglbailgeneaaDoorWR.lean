/-
  Proved here: FrameReads's body returns true for every bytes; no old memory turns. Condition: the widths' table holds its eleven numbers.
-/
import Derived.Test.YtgjglbailgeneaaDoorGZ
import Derived.Test.YtgjglbailgeneaaDoorL2
namespace Go.Proofs.YtgjglbailgeneaaDoor
open Go.RowKit

theorem prB_ok {l : List Int} (hl : IsB l) : IsB (prB l) ∧ (prB l).length ≤ 1500 := by
  cases hp : pPkt l with
  | none => rw [(prE_none hp).2.2]; exact ⟨IsB.nil, by simp⟩
  | some q =>
    obtain ⟨F, b⟩ := q
    rw [(prE_some hp).2.2]
    obtain ⟨c, _⟩ := build_parse hl hp
    have h1 := c.short
    have h2 := ahead_bd F
    exact ⟨c.isB, by omega⟩

set_option maxHeartbeats 1600000 in
/-- FrameReads. -/
theorem reads_any (B : Nat) (v : Value) (bs : List Int) (w : World) (hs : Sl B w v bs) (hB : B ≤ w.heap.size) (hw : Tab w) :
    Calls Tryd.prog 3 #[v] w fun e w' => e = .returned (.bool true) ∧ Below w.heap.size w w' := by
  obtain ⟨hbB, hbl⟩ := prB_ok hs.isB
  have HS : Hid (Sl B w v bs) := hs
  have HT : Hid (Tab w) := hw
  obtain ⟨h, hh⟩ : ∃ h, h = prH bs := ⟨_, rfl⟩
  obtain ⟨eb, heb⟩ : ∃ eb, eb = prE bs := ⟨_, rfl⟩
  obtain ⟨b, hb⟩ : ∃ b, b = prB bs := ⟨_, rfl⟩
  rw [← hb] at hbB hbl
  have P8 : Hid (∀ W, Sl B W v bs → B ≤ W.heap.size → Tab W → Calls Tryd.prog 8 #[v] W fun e w' => ∃ vb, e = .returned (.tuple #[pv h vb, .int .i64 eb]) ∧ Below W.heap.size W w' ∧ Owns W.heap.size w' vb b) := fun W h1 h2 h3 => by
    rw [hh, heb, hb]; exact parse_any B v bs W h1 h2 h3
  have P9 : Hid (∀ W, Sl B W v bs → B ≤ W.heap.size → Calls Tryd.prog 9 #[v] W fun e w' => ∃ vb, e = .returned (.tuple #[pv h vb, .int .i64 eb]) ∧ Below W.heap.size W w' ∧ Owns W.heap.size w' vb b) := fun W h1 h2 => by
    rw [hh, heb, hb]; exact rparse_any B v bs W h1 h2
  clear hs hw hh heb hb
  go_enter Tryd.func3, Tryd.ntmps3
  go_wp2_with fail
  go_fit (P8.out w HS.out hB HT.out)
  rintro e w1 ⟨v1, rfl, hb1, hO1⟩
  obtain ⟨a1, n1, c1, rfl⟩ := hO1.slice
  have hl2 : Hid (Below w.heap.size w (w1.alloc (.cells (prow h (.slice a1 n1 c1)) 27))) := hb1.alloc hb1.size _
  have hS2 : Hid (Sl B (w1.alloc (.cells (prow h (.slice a1 n1 c1)) 27)) v bs) := HS.out.on (hl2.out.mono hB)
  have hT2 : Hid (Tab (w1.alloc (.cells (prow h (.slice a1 n1 c1)) 27))) := HT.out.on hl2.out
  have hP2 : Hid (PBlk (w1.alloc (.cells (prow h (.slice a1 n1 c1)) 27)) w1.heap.size h (.slice a1 n1 c1)) := PBlk.new _ _ _
  have hO2 : Hid (Owns w.heap.size (w1.alloc (.cells (prow h (.slice a1 n1 c1)) 27)) (.slice a1 n1 c1) b) := hO1.alloc _
  clear hb1 hO1
  go_wp2_with (first | (refine alc27 rfl rfl ?_) | (refine st27n (.tmp 3) (.tmp 10) rfl w1 zf nilS rfl rfl h _ rfl rfl rfl ?_))
  go_fit (P9.out _ hS2.out (Nat.le_trans hB hl2.out.size))
  rintro e w3 ⟨v3, rfl, hb3, hO3⟩
  obtain ⟨a3, n3, c3, rfl⟩ := hO3.slice
  have hl3 : Below w.heap.size w w3 := hl2.out.trans (hb3.mono hl2.out.size)
  have q4 : Below w3.heap.size w3 (w3.alloc (.cells (prow h (.slice a3 n3 c3)) 27)) := (Below.refl _ _).alloc (Nat.le_refl _) _
  have hl4 : Hid (Below w.heap.size w (w3.alloc (.cells (prow h (.slice a3 n3 c3)) 27))) := hl3.alloc hl3.size _
  have hS4 : Hid (Sl B (w3.alloc (.cells (prow h (.slice a3 n3 c3)) 27)) v bs) := HS.out.on (hl4.out.mono hB)
  have hT4 : Hid (Tab (w3.alloc (.cells (prow h (.slice a3 n3 c3)) 27))) := HT.out.on hl4.out
  have hP4 : Hid (PBlk (w3.alloc (.cells (prow h (.slice a3 n3 c3)) 27)) w1.heap.size h (.slice a1 n1 c1)) := (hP2.out.on hb3).alloc _
  have hQ4 : Hid (PBlk (w3.alloc (.cells (prow h (.slice a3 n3 c3)) 27)) w3.heap.size h (.slice a3 n3 c3)) := PBlk.new _ _ _
  have sA := Sl.own ((hO2.out.on hb3).alloc (.cells (prow h (.slice a3 n3 c3)) 27)) (by omega) hbB
  have sB := Sl.own (hO3.alloc (.cells (prow h (.slice a3 n3 c3)) 27)) (by omega) hbB
  have HSame : Hid (Calls Tryd.prog 10 #[pv h (.slice a1 n1 c1), pv h (.slice a3 n3 c3)] (w3.alloc (.cells (prow h (.slice a3 n3 c3)) 27)) fun e w' => e = .returned (.bool true) ∧ Below (w3.alloc (.cells (prow h (.slice a3 n3 c3)) 27)).heap.size (w3.alloc (.cells (prow h (.slice a3 n3 c3)) 27)) w') := by
    have := same_any _ _ h h (.slice a1 n1 c1) (.slice a3 n3 c3) b b (w3.alloc (.cells (prow h (.slice a3 n3 c3)) 27)) sA sB (Nat.le_refl _) (Nat.le_refl _)
    rwa [show eqR 11 h h = true from eqR_iff.2 (fun _ _ => rfl), show (b == b) = true by simp] at this
  have he : (eb == eb) = true := by simp
  clear hl2 hS2 hT2 hP2 hO2 hb3 hO3 hl3 q4 sA sB P8 P9 HS HT
  go_wp2_with (first | (refine alc27 rfl rfl ?_) | (refine st27n (.tmp 5) (.tmp 15) rfl w3 zf nilS rfl rfl h _ rfl rfl rfl ?_) | (refine ld27 (.tmp 3) rfl _ rfl rfl h _ hP4.out ?_) | (refine ld27 (.tmp 5) rfl _ rfl rfl h _ hQ4.out ?_))
  go_fit HSame.out
  rintro e w5 ⟨rfl, hb5⟩
  have hl5 : Hid (Below w.heap.size w w5) := hl4.out.trans (hb5.mono hl4.out.size)
  have hT5 : Hid (Tab w5) := hT4.out.on hb5
  have hS5 : Hid (Sl B w5 v bs) := hS4.out.on (hb5.mono (Nat.le_trans hB hl4.out.size))
  obtain ⟨q, hq⟩ : ∃ q, q = sumL bs := ⟨_, rfl⟩
  have H11 : Hid (Calls Tryd.prog 11 #[v] w5 fun e w' => e = .returned (.int .u16 q) ∧ w' = w5) := by rw [hq]; exact sum_any B v bs w5 hS5.out
  have H12 : Hid (Calls Tryd.prog 12 #[v] w5 fun e w' => e = .returned (.int .u16 q) ∧ w' = w5) := by rw [hq]; exact rsum_any B v bs w5 hS5.out
  clear hl4 hS4 hT4 hP4 hQ4 HSame hb5 hq
  go_wp2_with (first | (go_at_call 11; refine (H11.out).mono ?_; rintro e w5 ⟨rfl, rfl⟩) | (go_at_call 12; refine (H12.out).mono ?_; rintro e w5 ⟨rfl, rfl⟩))
  go_fit (wakes_any _ hT5.out)
  rintro e w8 ⟨rfl, hb8⟩
  have hl8 := hl5.out.trans (hb8.mono hl5.out.size)
  clear H11 H12 hb8 hT5 hS5
  go_wp2
  go_ret
  exact ⟨rfl, hl8⟩
end Go.Proofs.YtgjglbailgeneaaDoor
