/-
  Proved here: CrcBack's body returns true for every bytes; no old memory turns. Conditions: Sum, Seal and Open answer what 'crc', 'seE', 'seL', 'opE', 'opL' say.
-/
import Derived.Test.YtdkmdabjhapdeaaW0
namespace Go.Proofs.Ytdkmdabjhapdeaa
open Go.RowKit Seal

set_option maxHeartbeats 1600000 in
/-- CrcBack. -/
theorem back_any (P : Prg) (B : Nat) (v : Value) (bs : List Int) (w : World) (hs : Sl B w v bs) (hB : B ≤ w.heap.size) :
    Calls Try.prog 4 #[v] w fun e w' => e = .returned (.bool true) ∧ Below w.heap.size w w' := by
  have HS : Hid (Sl B w v bs) := hs
  have HI : Hid (IsB bs) := hs.isB
  have hlen := hs.len
  obtain ⟨ao, cap, rfl, _⟩ := hs
  go_enter Try.func4, Try.ntmps4
  go_wp2_with fail
  go_fit (P.seal' B _ bs w HS.out hB)
  rintro e w1 ⟨v1, rfl, hb1, hO1⟩
  have HL1 : Hid (Below w.heap.size w w1) := hb1
  have HA1 : Hid (Sl B w1 (.slice ao bs.length cap) bs) := HS.out.on (hb1.mono hB)
  clear hb1 HS
  by_cases hl : 16384 < bs.length
  · have e1 : seE bs = 3 := by simp [seE, hl]
    have hd : decide ((16384 : Int) < (bs.length : Int)) = true := by simp; omega
    rw [e1]
    clear hO1 hl e1 HA1
    go_wp2_with (go_at_call 13; refine (wakes_any P _).mono ?_; rintro e w7 ⟨rfl, hb7⟩)
    go_ret
    exact ⟨rfl, HL1.out.trans (hb7.mono HL1.out.size)⟩
  · have e1 : seE bs = 0 := by simp [seE, hl]
    have e2 : seL bs = bs ++ four (crc bs) := by simp [seL, hl]
    rw [e1]
    rw [e2] at hO1
    have H1 : Hid (Sl w1.heap.size w1 v1 (bs ++ four (crc bs))) := Sl.own hO1 (by simp [four]; omega) (HI.out.app (four_isB _))
    clear hO1 e1 e2 hl
    go_wp2_with fail
    go_fit (P.open' w1.heap.size v1 _ w1 H1.out (Nat.le_refl _))
    rintro e w2 ⟨v2, rfl, hb2, hO2⟩
    rw [(open_seal HI.out).1]
    rw [(open_seal HI.out).2] at hO2
    have k1 := conv_sl (Sl.own hO2 (by omega) HI.out)
    have k2 := conv_sl (HA1.out.on (hb2.mono (Nat.le_trans hB HL1.out.size)))
    have HL2 : Hid (Below w.heap.size w w2) := HL1.out.trans (hb2.mono HL1.out.size)
    obtain ⟨s, hs⟩ : ∃ s, s = str bs := ⟨_, rfl⟩
    rw [← hs] at k1 k2
    clear hb2 hO2 H1 HA1 hs HL1
    have e1 : (s.toList == s.toList) = true := by simp
    go_wp2_with (go_at_call 13; refine (wakes_any P _).mono ?_; rintro e w7 ⟨rfl, hb7⟩)
    go_ret
    exact ⟨rfl, HL2.out.trans (hb7.mono HL2.out.size)⟩
end Go.Proofs.Ytdkmdabjhapdeaa
