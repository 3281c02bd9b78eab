/-
  Proved here: CrcTells's body returns true for every bytes; no old memory turns. Conditions: Sum, Seal and Open answer what 'crc', 'seE', 'seL', 'opE', 'opL' say.
-/
import Derived.Test.YtdkmdabjhapdeaaW0
namespace Go.Proofs.Ytdkmdabjhapdeaa
open Go.RowKit Seal

set_option maxHeartbeats 1600000 in
/-- CrcTells. -/
theorem tells_any (P : Prg) (B : Nat) (v : Value) (bs : List Int) (w : World) (hs : Sl B w v bs) (hB : B ≤ w.heap.size) :
    Calls Try.prog 3 #[v] w fun e w' => e = .returned (.bool true) ∧ Below w.heap.size w w' := by
  have HS : Hid (Sl B w v bs) := hs
  have HI : Hid (IsB bs) := hs.isB
  have HN : Hid (bs.length ≤ 140737488355328) := hs.len
  obtain ⟨ao, cap, rfl, _⟩ := hs
  go_enter Try.func3, Try.ntmps3
  go_wp2_with fail
  go_fit (P.seal' B _ bs w HS.out hB)
  rintro e w1 ⟨v1, rfl, hb1, hO1⟩
  have hS1 : Sl w1.heap.size w1 v1 (seL bs) := Sl.own hO1 (by have := seL_len bs; omega) (seL_isB HI.out)
  have HL1 : Hid (Below w.heap.size w w1) := hb1
  have HA1 : Hid (Sl B w1 (.slice ao bs.length cap) bs) := HS.out.on (hb1.mono hB)
  have H1 : Hid (Sl w1.heap.size w1 v1 (seL bs)) := hS1
  clear hb1 hO1 hS1 HS
  go_wp2_with fail
  go_fit (rseal_any B _ bs w1 HA1.out (Nat.le_trans hB HL1.out.size))
  rintro e w2 ⟨v2, rfl, hb2, hO2⟩
  have hS2 : Sl w2.heap.size w2 v2 (seL bs) := Sl.own hO2 (by have := seL_len bs; omega) (seL_isB HI.out)
  have HL2 : Hid (Below w.heap.size w w2) := HL1.out.trans (hb2.mono HL1.out.size)
  have HA2 : Hid (Sl B w2 (.slice ao bs.length cap) bs) := HA1.out.on (hb2.mono (Nat.le_trans hB HL1.out.size))
  have H1' : Hid (Sl w2.heap.size w2 v1 (seL bs)) := (H1.out.on hb2).mono hb2.size
  have H2 : Hid (Sl w2.heap.size w2 v2 (seL bs)) := hS2
  clear hb2 hO2 hS2 HA1 HL1 H1
  go_wp2_with fail
  go_fit (P.open' B _ bs w2 HA2.out (Nat.le_trans hB HL2.out.size))
  rintro e w3 ⟨v3, rfl, hb3, hO3⟩
  have hS3 : Sl w3.heap.size w3 v3 (opL bs) := Sl.own hO3 (by have := opL_len bs; have := HN.out; omega) (opL_isB HI.out)
  have HL3 : Hid (Below w.heap.size w w3) := HL2.out.trans (hb3.mono HL2.out.size)
  have HA3 : Hid (Sl B w3 (.slice ao bs.length cap) bs) := HA2.out.on (hb3.mono (Nat.le_trans hB HL2.out.size))
  have G1 : Hid (Sl w3.heap.size w3 v1 (seL bs)) := (H1'.out.on hb3).mono hb3.size
  have G2 : Hid (Sl w3.heap.size w3 v2 (seL bs)) := (H2.out.on hb3).mono hb3.size
  have G3 : Hid (Sl w3.heap.size w3 v3 (opL bs)) := hS3
  clear hb3 hO3 hS3 HA2 HL2 H1' H2
  go_wp2_with fail
  go_fit (ropen_any B _ bs w3 HA3.out (Nat.le_trans hB HL3.out.size))
  rintro e w4 ⟨v4, rfl, hb4, hO4⟩
  have hS4 : Sl w4.heap.size w4 v4 (opL bs) := Sl.own hO4 (by have := opL_len bs; have := HN.out; omega) (opL_isB HI.out)
  have HL4 : Hid (Below w.heap.size w w4) := HL3.out.trans (hb4.mono HL3.out.size)
  have HA4 : Hid (Sl B w4 (.slice ao bs.length cap) bs) := HA3.out.on (hb4.mono (Nat.le_trans hB HL3.out.size))
  have F1 : Hid (Sl w4.heap.size w4 v1 (seL bs)) := (G1.out.on hb4).mono hb4.size
  have F2 : Hid (Sl w4.heap.size w4 v2 (seL bs)) := (G2.out.on hb4).mono hb4.size
  have F3 : Hid (Sl w4.heap.size w4 v3 (opL bs)) := (G3.out.on hb4).mono hb4.size
  have F4 : Hid (Sl w4.heap.size w4 v4 (opL bs)) := hS4
  clear hb4 hO4 hS4 HA3 HL3 G1 G2 G3
  go_wp2_with fail
  go_fit (P.sum B _ bs w4 HA4.out (Nat.le_trans hB HL4.out.size))
  rintro e w5 ⟨rfl, hb5⟩
  have HL5 : Hid (Below w.heap.size w w5) := HL4.out.trans (hb5.mono HL4.out.size)
  have HA5 : Hid (Sl B w5 (.slice ao bs.length cap) bs) := HA4.out.on (hb5.mono (Nat.le_trans hB HL4.out.size))
  have k1 := conv_sl (F1.out.on hb5)
  have k2 := conv_sl (F2.out.on hb5)
  have k3 := conv_sl (F3.out.on hb5)
  have k4 := conv_sl (F4.out.on hb5)
  have E1 : Hid (((str (seL bs)).toList == (str (seL bs)).toList) = true) := by show _ = _; simp
  obtain ⟨n, hn⟩ : ∃ n, n = crc bs := ⟨_, rfl⟩
  obtain ⟨p, hp⟩ : ∃ p, p = seE bs := ⟨_, rfl⟩
  obtain ⟨q, hq⟩ : ∃ q, q = opE bs := ⟨_, rfl⟩
  obtain ⟨s1, hs1⟩ : ∃ s, s = str (seL bs) := ⟨_, rfl⟩
  obtain ⟨s2, hs2⟩ : ∃ s, s = str (opL bs) := ⟨_, rfl⟩
  rw [← hs1] at k1 k2
  rw [← hs2] at k3 k4
  rw [← hn, ← hp, ← hq]
  have HC : Hid (Calls Try.prog 12 #[.slice ao bs.length cap] w5 fun e w' => e = .returned (.int .u32 n) ∧ w' = w5) := by
    have := rsum_any B _ bs w5 HA5.out
    rw [← hn] at this
    exact this
  clear hb5 HL4 HA4 F1 F2 F3 F4 HA5 hn hp hq hs1 hs2 E1
  have e1 : (s1.toList == s1.toList) = true := by simp
  have e2 : (s2.toList == s2.toList) = true := by simp
  go_wp2_with (first | (go_at_call 12; refine (HC.out).mono ?_; rintro e w6 ⟨rfl, rfl⟩) | (go_at_call 13; refine (wakes_any P _).mono ?_; rintro e w7 ⟨rfl, hb7⟩))
  go_ret
  exact ⟨rfl, HL5.out.trans (hb7.mono HL5.out.size)⟩
end Go.Proofs.Ytdkmdabjhapdeaa
