/-
  Proved here: ArpBack's body returns true for every two addresses and numbers; no old memory turns. Conditions: the widths' table holds its eleven numbers; the numbers are unsigned, of 64, 64, 32 and 32 bits.
-/
import Derived.Test.YtioohgcaakcgaaaDoorJ7
import Derived.Deep.DeepCutAuto
namespace Go.Proofs.YtioohgcaakcgaaaDoor
open Go.RowKit

theorem rdV_aH {s d f t op : Int} (n : Nums s d f t) (ho : op = 1 ∨ op = 2) (hf : fit s d = true) : rdV (aH s d f t) [op] = .tuple #[.bool (op == 1), .int .u64 s, .int .u32 f, .int .u32 t, .bool true] := by
  unfold rdV rdA rdN
  rw [some4_aH n ho, hf]
  rfl
theorem an_ask {mac other f t : Int} (n : Nums mac 281474976710655 f t) (hm : mac < 281474976710656) : anOk other (aH mac 281474976710655 f t) [1] = decide (other < 281474976710656) := by
  unfold anOk
  rw [rdA_aH n (Or.inl rfl), fit_all]
  simp [hm]
theorem an_again {mac s d f t : Int} (n : Nums s d f t) : anOk mac (aH s d f t) [2] = false := by
  unfold anOk
  rw [rdA_aH n (Or.inr rfl)]
  simp

set_option maxHeartbeats 3200000 in
set_option maxRecDepth 100000 in
/-- ArpBack. -/
theorem back_any (mac other f t : Int) (w : World) (hw : Tab w) (m0 : 0 ≤ mac) (m1 : mac < 18446744073709551616) (o0 : 0 ≤ other) (o1 : other < 18446744073709551616) (f0 : 0 ≤ f) (f1 : f < 4294967296) (t0 : 0 ≤ t) (t1 : t < 4294967296) :
    Calls Tryd.prog 6 #[.int .u64 mac, .int .u64 other, .int .u32 f, .int .u32 t] w fun e w' => e = .returned (.bool true) ∧ Below w.heap.size w w' := by
  have HT : Hid (Tab w) := hw
  have HN : Hid (Nums mac 281474976710655 f t) := ⟨m0, by omega, f0, f1, t0, t1⟩
  clear hw
  go_enter Tryd.func6, Tryd.ntmps6
  go_wp2_with fail
  go_fit (ask_any mac f t w HT.out m0 f0 f1 t0 t1)
  rintro e w1 ⟨v1, rfl, hb1, hO1⟩
  have HL1 : Hid (Below w.heap.size w w1) := hb1
  have HT1 : Hid (Tab w1) := HT.out.on hb1
  clear HT hb1
  by_cases hm : mac < 281474976710656
  · rw [asL_fit hm] at hO1
    have HF : Hid (fit mac 281474976710655 = true) := by show _ = _; rw [fit_all]; simpa using hm
    have HS1 : Hid (Sl w1.heap.size w1 v1 (frL 281474976710655 mac 1 f 0 t)) := Sl.own hO1 (by rw [frL_len]; omega) (frL_isB _ _ _ _ _ _)
    have hd : (mac / 281474976710656 != 0) = false := by simp; omega
    have HM : Hid (mac < 281474976710656) := hm
    clear hO1 hm
    go_wp2_with fail
    go_fit (parse_any w1.heap.size v1 _ w1 HS1.out (Nat.le_refl _) HT1.out)
    rintro e w2 ⟨vb, rfl, hb2, hO2⟩
    obtain ⟨e1, e2, e3⟩ := aH_back HN.out (op := 1) (Or.inl rfl) HF.out _ rfl
    rw [if_pos rfl] at e1 e2 e3
    rw [e1, pv_congr e3]
    rw [e2] at hO2
    have S2 : Sl w2.heap.size w2 vb [1] := Sl.own hO2 (by decide) (isB_of (by decide))
    have HL2 : Hid (Below w.heap.size w w2) := HL1.out.trans (hb2.mono HL1.out.size)
    have HT2 : Hid (Tab w2) := HT1.out.on hb2
    obtain ⟨ao, n, c, rfl⟩ := hO2.slice
    have HS2 : Hid (Sl w2.heap.size w2 (.slice ao n c) [1]) := S2
    have HV : Hid (rdV (aH mac 281474976710655 f t) [1] = .tuple #[.bool (1 == 1), .int .u64 mac, .int .u32 f, .int .u32 t, .bool true]) := rdV_aH HN.out (Or.inl rfl) HF.out
    clear hb2 hO2 e1 e2 e3 S2 HS1 HT1 HL1
    go_upto_region 5 with (first | (refine alc27 rfl rfl ?_) | (refine st27n (.tmp 10) (.tmp 39) rfl w2 zf nilS rfl rfl (aH mac 281474976710655 f t) _ rfl rfl rfl ?_))
    obtain ⟨u2, hu2⟩ : ∃ u, u = w2.alloc (.cells (prow (aH mac 281474976710655 f t) (.slice ao n c)) 32) := ⟨_, rfl⟩
    have l2 : Below w2.heap.size w2 u2 := by rw [hu2]; exact (Below.refl _ _).alloc (Nat.le_refl _) _
    have KP : Hid (PBlk u2 w2.heap.size (aH mac 281474976710655 f t) (.slice ao n c)) := by
      show PBlk _ _ _ _
      rw [hu2]; exact PBlk.new _ _ _
    have HLu : Hid (Below w.heap.size w u2) := HL2.out.trans (l2.mono HL2.out.size)
    have HTu : Hid (Tab u2) := HT2.out.on l2
    have HSu : Hid (Sl w2.heap.size u2 (.slice ao n c) [1]) := HS2.out.on l2
    have hsz : Hid (w2.heap.size ≤ u2.heap.size) := l2.size
    rw [← hu2]
    clear hu2 l2 HL2 HT2 HS2
    go_wp2_with (refine ld27 (.tmp 10) rfl _ rfl rfl (aH mac 281474976710655 f t) _ (by exact KP.out) ?_)
    go_fit (read_any w2.heap.size (aH mac 281474976710655 f t) _ [1] u2 HTu.out hsz.out HSu.out HN.out.nn)
    rintro e w3 ⟨rfl, hb3⟩
    rw [HV.out]
    have KP3 : PBlk w3 w2.heap.size (aH mac 281474976710655 f t) (.slice ao n c) := KP.out.on hb3
    have c1 : w3.cell? ⟨w2.heap.size, 1, none⟩ = some (.int .u64 281474976710655) := KP3.cell 1 (by omega)
    have c3 : w3.cell? ⟨w2.heap.size, 3, none⟩ = some (.int .u64 0) := KP3.cell 3 (by omega)
    have HP3 : Hid (PBlk w3 w2.heap.size (aH mac 281474976710655 f t) (.slice ao n c)) := KP3
    have HL3 : Hid (Below w.heap.size w w3) := HLu.out.trans (hb3.mono HLu.out.size)
    have HT3 : Hid (Tab w3) := HTu.out.on hb3
    have HS3 : Hid (Sl w2.heap.size w3 (.slice ao n c) [1]) := HSu.out.on (hb3.mono hsz.out)
    have hsz3 : Hid (w2.heap.size ≤ w3.heap.size) := Nat.le_trans hsz.out hb3.size
    clear hb3 KP3 HLu HTu HSu hsz KP HV
    go_wp2_with (refine ld27 (.tmp 10) rfl _ rfl rfl (aH mac 281474976710655 f t) _ (by exact HP3.out) ?_)
    go_fit (answer_any w2.heap.size other (aH mac 281474976710655 f t) _ [1] w3 HT3.out hsz3.out HS3.out HN.out.nn o0)
    rintro e w4 ⟨v4, rfl, hb4, hO4⟩
    have HL4 : Hid (Below w.heap.size w w4) := HL3.out.trans (hb4.mono HL3.out.size)
    have HT4 : Hid (Tab w4) := HT3.out.on hb4
    clear hb4 HL3 HT3 HS3 HP3 hsz3 c1 c3
    by_cases ho : other < 281474976710656
    · have hok : anOk other (aH mac 281474976710655 f t) [1] = true := by rw [an_ask HN.out HM.out]; simpa using ho
      have he : anE other (aH mac 281474976710655 f t) [1] = 0 := by simp [anE, hok]
      have hl : anL other (aH mac 281474976710655 f t) [1] = frL mac other 2 t mac f := by
        unfold anL
        rw [if_pos hok]
        rfl
      rw [he]
      rw [hl] at hO4
      have hd2 : (other / 281474976710656 != 0) = false := by simp; omega
      have HN2 : Hid (Nums other mac t f) := ⟨o0, m0, t0, t1, f0, f1⟩
      have HF2 : Hid (fit other mac = true) := by
        show _ = _
        have := HM.out
        simp [fit, ho, this]
      have HS4 : Hid (Sl w4.heap.size w4 v4 (frL mac other 2 t mac f)) := Sl.own hO4 (by rw [frL_len]; omega) (frL_isB _ _ _ _ _ _)
      clear hok he hl hO4 ho
      go_wp2_with fail
      go_fit (parse_any w4.heap.size v4 _ w4 HS4.out (Nat.le_refl _) HT4.out)
      rintro e w5 ⟨vq, rfl, hb5, hO5⟩
      obtain ⟨e1, e2, e3⟩ := aH_back HN2.out (op := 2) (Or.inr rfl) HF2.out _ rfl
      rw [if_neg (by omega)] at e1 e2 e3
      rw [e1, pv_congr e3]
      rw [e2] at hO5
      have S5 : Sl w5.heap.size w5 vq [2] := Sl.own hO5 (by decide) (isB_of (by decide))
      have HL5 : Hid (Below w.heap.size w w5) := HL4.out.trans (hb5.mono HL4.out.size)
      have HT5 : Hid (Tab w5) := HT4.out.on hb5
      obtain ⟨aq, nq, cq, rfl⟩ := hO5.slice
      have HS5 : Hid (Sl w5.heap.size w5 (.slice aq nq cq) [2]) := S5
      have HV2 : Hid (rdV (aH other mac t f) [2] = .tuple #[.bool (2 == 1), .int .u64 other, .int .u32 t, .int .u32 f, .bool true]) := rdV_aH HN2.out (Or.inr rfl) HF2.out
      clear hb5 hO5 e1 e2 e3 S5 HS4 HT4 HL4
      go_upto_region 12 with (first | (refine alc27 rfl rfl ?_) | (refine st27n (.tmp 19) (.tmp 108) rfl w5 zf nilS rfl rfl (aH other mac t f) _ rfl rfl rfl ?_))
      obtain ⟨u5, hu5⟩ : ∃ u, u = w5.alloc (.cells (prow (aH other mac t f) (.slice aq nq cq)) 32) := ⟨_, rfl⟩
      have l5 : Below w5.heap.size w5 u5 := by rw [hu5]; exact (Below.refl _ _).alloc (Nat.le_refl _) _
      have KP5 : Hid (PBlk u5 w5.heap.size (aH other mac t f) (.slice aq nq cq)) := by
        show PBlk _ _ _ _
        rw [hu5]; exact PBlk.new _ _ _
      have HLu : Hid (Below w.heap.size w u5) := HL5.out.trans (l5.mono HL5.out.size)
      have HTu : Hid (Tab u5) := HT5.out.on l5
      have HSu : Hid (Sl w5.heap.size u5 (.slice aq nq cq) [2]) := HS5.out.on l5
      have hsz : Hid (w5.heap.size ≤ u5.heap.size) := l5.size
      rw [← hu5]
      clear hu5 l5 HL5 HT5 HS5
      go_wp2_with (refine ld27 (.tmp 19) rfl _ rfl rfl (aH other mac t f) _ (by exact KP5.out) ?_)
      go_fit (read_any w5.heap.size (aH other mac t f) _ [2] u5 HTu.out hsz.out HSu.out HN2.out.nn)
      rintro e w6 ⟨rfl, hb6⟩
      rw [HV2.out]
      have HP6 : Hid (PBlk w6 w5.heap.size (aH other mac t f) (.slice aq nq cq)) := KP5.out.on hb6
      have HL6 : Hid (Below w.heap.size w w6) := HLu.out.trans (hb6.mono HLu.out.size)
      have HT6 : Hid (Tab w6) := HTu.out.on hb6
      have HS6 : Hid (Sl w5.heap.size w6 (.slice aq nq cq) [2]) := HSu.out.on (hb6.mono hsz.out)
      have hsz6 : Hid (w5.heap.size ≤ w6.heap.size) := Nat.le_trans hsz.out hb6.size
      clear hb6 HLu HTu HSu hsz KP5 HV2
      go_wp2_with (refine ld27 (.tmp 19) rfl _ rfl rfl (aH other mac t f) _ (by exact HP6.out) ?_)
      go_fit (answer_any w5.heap.size mac (aH other mac t f) _ [2] w6 HT6.out hsz6.out HS6.out HN2.out.nn m0)
      rintro e w7 ⟨v7, rfl, hb7, hO7⟩
      have hno : anOk mac (aH other mac t f) [2] = false := an_again HN2.out
      have he : anE mac (aH other mac t f) [2] = 30 := by simp [anE, hno]
      have hl : anL mac (aH other mac t f) [2] = [] := by simp [anL, hno]
      rw [he]
      rw [hl] at hO7
      obtain ⟨a7, c7, rfl, _⟩ := hO7.open (by simp) IsB.nil
      have hP7 : PBlk w7 w5.heap.size (aH other mac t f) (.slice aq nq cq) := HP6.out.on hb7
      have k1 : w7.cell? ⟨w5.heap.size, 1, none⟩ = some (.int .u64 mac) := hP7.cell 1 (by omega)
      have HL7 : Hid (Below w.heap.size w w7) := HL6.out.trans (hb7.mono HL6.out.size)
      have HT7 : Hid (Tab w7) := HT6.out.on hb7
      clear hb7 HL6 HT6 HS6 HP6 hsz6 hno he hl hO7 hP7 HN2 HF2 HN HF HM
      go_wp2_with (go_at_call 11; refine (wakes_any w7 HT7.out).mono ?_; rintro e w8 ⟨rfl, hb8⟩)
      go_ret
      exact ⟨rfl, HL7.out.trans (hb8.mono HL7.out.size)⟩
    · have hno : anOk other (aH mac 281474976710655 f t) [1] = false := by rw [an_ask HN.out HM.out]; simpa using ho
      have he : anE other (aH mac 281474976710655 f t) [1] = 30 := by simp [anE, hno]
      have hl : anL other (aH mac 281474976710655 f t) [1] = [] := by simp [anL, hno]
      rw [he]
      rw [hl] at hO4
      obtain ⟨a4, c4, rfl, _⟩ := hO4.open (by simp) IsB.nil
      have hd2 : (other / 281474976710656 != 0) = true := by simp; omega
      clear hno he hl hO4 ho HM HN HF
      go_wp2_with (go_at_call 11; refine (wakes_any w4 HT4.out).mono ?_; rintro e w8 ⟨rfl, hb8⟩)
      go_ret
      exact ⟨rfl, HL4.out.trans (hb8.mono HL4.out.size)⟩
  · rw [show asL mac f t = [] from if_neg hm] at hO1
    obtain ⟨a1, c1, rfl, _⟩ := hO1.open (by simp) IsB.nil
    have hd : (mac / 281474976710656 != 0) = true := by simp; omega
    clear hO1 hm HN
    go_wp2_with (go_at_call 11; refine (wakes_any w1 HT1.out).mono ?_; rintro e w8 ⟨rfl, hb8⟩)
    go_ret
    exact ⟨rfl, HL1.out.trans (hb8.mono HL1.out.size)⟩
end Go.Proofs.YtioohgcaakcgaaaDoor
