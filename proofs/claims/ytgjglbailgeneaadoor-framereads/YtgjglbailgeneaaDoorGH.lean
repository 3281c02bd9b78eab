/-
  Proved here: the document's Parse answers what Parse answers, for bytes of one form. Conditions: as typed.
-/
import Derived.Test.YtgjglbailgeneaaDoorG4
namespace Go.Proofs.YtgjglbailgeneaaDoor
open Go.RowKit

set_option maxRecDepth 100000 in
set_option maxHeartbeats 6400000 in
theorem rp_ipn_u (B bR oR cap : Nat) (bs : List Int) (w : World) (hs : Sl B w (.slice (some ⟨bR, oR, none⟩) bs.length cap) bs) (hB : B ≤ w.heap.size) (hlo : 14 ≤ bs.length) (hhi : bs.length ≤ 1518) (h12 : gt bs 12 2 ≠ 33024) (k2 : (gt bs 12 2) = 2048) (M : Nat) (hM : (M : Int) = psz (gt bs 23 1)) (hM0 : M = 0) :
    Calls Tryd.prog 9 #[(.slice (some ⟨bR, oR, none⟩) bs.length cap)] w fun e w' => RPost w bs e w' := by
  have hiB := hs.isB
  have hcap : bs.length ≤ cap := by
    obtain ⟨_, _, e, h, _⟩ := hs
    simp only [Value.slice.injEq] at e
    rw [e.2.2]; exact h
  have hne : Hid (bs ≠ []) := fun e => by rw [e] at hlo; simp at hlo
  have R0 : Hid (Rst w ((w.alloc (.cells (prow zf nilS) 27)).alloc (.cells (prow zf nilS) 27)) zf nilS B (.slice (some ⟨bR, oR, none⟩) bs.length cap) bs) := by
    have hl0 : Below w.heap.size w ((w.alloc (.cells (prow zf nilS) 27)).alloc (.cells (prow zf nilS) 27)) := ((Below.refl _ _).alloc (Nat.le_refl _) _).alloc (by simp) _
    refine ⟨hl0, (PBlk.new w zf nilS).alloc _, ?_, hs.on (hl0.mono hB), hB⟩
    have := PBlk.new (w.alloc (.cells (prow zf nilS) 27)) zf nilS
    simpa using this
  have hdt : (gt bs 12 2 == 33024) = false := by simp [h12]
  have hat : Hid (∀ F b, Facts bs b F → afterKind F = 14 ∧ F 3 = 0 ∧ F 2 = (gt bs 12 2) ∧ F 1 = gt bs 0 6 ∧ F 0 = gt bs 6 6) := fun F b f => ⟨(facts_bare f h12).2.1, (facts_bare f h12).1, (facts_bare f h12).2.2, f.dst.symm, f.src.symm⟩
  clear h12
  have hd1 : ((gt bs 12 2) == 2054) = false := by simp [k2]
  have hd2 : ((gt bs 12 2) == 2048) = true := by simp [k2]
  have hip : Hid (∀ F b, Facts bs b F → F 2 = 2048) := fun F b f => by rw [(hat.out F b f).2.2.1]; exact k2
  have hMb : M ≤ 20 := by have := psz_bd (gt bs 23 1); omega
  have hmm : Hid (∀ F b, Facts bs b F → (psz (F 6)).toNat = M ∧ psz (F 6) = M) := fun F b f => by
    have a6 := (f.ip (hip.out F b f)).2.1
    rw [(hat.out F b f).1] at a6
    rw [← a6, ← hM]; omega
  obtain ⟨body, hbody⟩ : ∃ body, body = bs.drop (34 + M) := ⟨_, rfl⟩
  have hbB : IsB body := by rw [hbody]; exact hiB.drop _
  have hCn : ∀ k, 0 ≤ (upd (upd (upd (upd (upd (upd zf 1 (gt bs 0 6)) 0 (gt bs 6 6)) 2 (gt bs 12 2)) 6 (gt bs 23 1)) 4 (gt bs 26 4)) 5 (gt bs 30 4)) k := upd_nn (upd_nn (upd_nn (upd_nn (upd_nn (upd_nn (zf_nn) 1 (gt_nn hiB _ _ (by decide))) 0 (gt_nn hiB _ _ (by decide))) 2 (gt_nn hiB _ _ (by decide))) 6 (gt_nn hiB _ _ (by decide))) 4 (gt_nn hiB _ _ (by decide))) 5 (gt_nn hiB _ _ (by decide))
  have hcand : ∀ F b, Facts bs b F → (∀ k, k < 11 → F k = (upd (upd (upd (upd (upd (upd zf 1 (gt bs 0 6)) 0 (gt bs 6 6)) 2 (gt bs 12 2)) 6 (gt bs 23 1)) 4 (gt bs 26 4)) 5 (gt bs 30 4)) k) ∧ b = body := fun F b f => by
    obtain ⟨q1, q2, q3, q4, q5⟩ := hat.out F b f
    obtain ⟨z1, z2, z3, z4, z5⟩ := f.rest
    obtain ⟨m1, m2⟩ := hmm.out F b f
    obtain ⟨_, a6, a4, a5, _, ap, ab⟩ := f.ip (hip.out F b f)
    rw [q1] at a6 a4 a5 ap ab
    rw [m1] at ab
    obtain ⟨a7, a8⟩ := z3 (by omega)
    refine ⟨eleven q5 q4 q3 q2 a4.symm a5.symm a6.symm a7 a8 z4 z5, by rw [hbody, ab]⟩
  have HM : Hid ((M : Int) = psz (gt bs 23 1)) := hM
  clear k2 hM
  clear hs
  go_enter Tryd.func9, Tryd.ntmps9
  go_wp2_with (refine alc27 rfl rfl ?_)
  go_fit (rst_get R0.out 0 6 _ _ rfl rfl (by omega) (by decide))
  rintro e W1 ⟨rfl, X⟩
  have R1 : Hid (Rst w W1 zf nilS B (.slice (some ⟨bR, oR, none⟩) bs.length cap) bs) := X
  have R1s : Hid (Rst w (W1.setCell ⟨w.heap.size + 1, 1, none⟩ (.int .u64 (gt bs 0 6))) (upd zf 1 (gt bs 0 6)) nilS B (.slice (some ⟨bR, oR, none⟩) bs.length cap) bs) := R1.out.set 1 (by omega) _
  clear X
  clear R0
  go_wp2_with ((refine gst23 (.tmp 22) (.tmp 20) rfl _ _ rfl _ rfl rfl _ nilS R1.out.2.2.1 (by omega) ?_))
  go_fit (rst_get R1s.out 6 6 _ _ rfl rfl (by omega) (by decide))
  rintro e W2 ⟨rfl, X⟩
  have R2 : Hid (Rst w W2 (upd zf 1 (gt bs 0 6)) nilS B (.slice (some ⟨bR, oR, none⟩) bs.length cap) bs) := X
  have R2s : Hid (Rst w (W2.setCell ⟨w.heap.size + 1, 0, none⟩ (.int .u64 (gt bs 6 6))) (upd (upd zf 1 (gt bs 0 6)) 0 (gt bs 6 6)) nilS B (.slice (some ⟨bR, oR, none⟩) bs.length cap) bs) := R2.out.set 0 (by omega) _
  clear X
  clear R1 R1s
  go_wp2_with ((refine gst23 (.tmp 26) (.tmp 24) rfl _ _ rfl _ rfl rfl _ nilS R2.out.2.2.1 (by omega) ?_))
  go_fit (rst_get R2s.out 12 2 _ _ rfl rfl (by omega) (by decide))
  rintro e W3 ⟨rfl, X⟩
  have R3 : Hid (Rst w W3 (upd (upd zf 1 (gt bs 0 6)) 0 (gt bs 6 6)) nilS B (.slice (some ⟨bR, oR, none⟩) bs.length cap) bs) := X
  clear X R2 R2s
  go_wp2_with (fail)
  go_fit (rst_get R3.out 12 2 _ _ rfl rfl (by omega) (by decide))
  rintro e W5 ⟨rfl, X⟩
  have R5 : Hid (Rst w W5 (upd (upd zf 1 (gt bs 0 6)) 0 (gt bs 6 6)) nilS B (.slice (some ⟨bR, oR, none⟩) bs.length cap) bs) := X
  have R5s : Hid (Rst w (W5.setCell ⟨w.heap.size + 1, 2, none⟩ (.int .u64 (gt bs 12 2))) (upd (upd (upd zf 1 (gt bs 0 6)) 0 (gt bs 6 6)) 2 (gt bs 12 2)) nilS B (.slice (some ⟨bR, oR, none⟩) bs.length cap) bs) := R5.out.set 2 (by omega) _
  clear X
  clear R3
  have c2 : (W5.setCell ⟨w.heap.size + 1, 2, none⟩ (.int .u64 (gt bs 12 2))).cell? ⟨w.heap.size + 1, 2, none⟩ = some (.int .u64 (gt bs 12 2)) := R5s.out.2.2.1.cell 2 (by omega)
  by_cases hl20 : 34 ≤ bs.length
  · go_wp2_with ((refine gst23 (.tmp 47) (.tmp 45) rfl _ _ rfl _ rfl rfl _ nilS R5.out.2.2.1 (by omega) ?_))
    go_fit (rst_get R5s.out 23 1 _ _ rfl rfl (by omega) (by decide))
    rintro e W6 ⟨rfl, X⟩
    have R6 : Hid (Rst w W6 (upd (upd (upd zf 1 (gt bs 0 6)) 0 (gt bs 6 6)) 2 (gt bs 12 2)) nilS B (.slice (some ⟨bR, oR, none⟩) bs.length cap) bs) := X
    have R6s : Hid (Rst w (W6.setCell ⟨w.heap.size + 1, 6, none⟩ (.int .u64 (gt bs 23 1))) (upd (upd (upd (upd zf 1 (gt bs 0 6)) 0 (gt bs 6 6)) 2 (gt bs 12 2)) 6 (gt bs 23 1)) nilS B (.slice (some ⟨bR, oR, none⟩) bs.length cap) bs) := R6.out.set 6 (by omega) _
    clear X
    clear R5 R5s c2
    go_wp2_with ((refine gst23 (.tmp 99) (.tmp 97) rfl _ _ rfl _ rfl rfl _ nilS R6.out.2.2.1 (by omega) ?_))
    go_fit (rst_get R6s.out 26 4 _ _ rfl rfl (by omega) (by decide))
    rintro e W7 ⟨rfl, X⟩
    have R7 : Hid (Rst w W7 (upd (upd (upd (upd zf 1 (gt bs 0 6)) 0 (gt bs 6 6)) 2 (gt bs 12 2)) 6 (gt bs 23 1)) nilS B (.slice (some ⟨bR, oR, none⟩) bs.length cap) bs) := X
    have R7s : Hid (Rst w (W7.setCell ⟨w.heap.size + 1, 4, none⟩ (.int .u64 (gt bs 26 4))) (upd (upd (upd (upd (upd zf 1 (gt bs 0 6)) 0 (gt bs 6 6)) 2 (gt bs 12 2)) 6 (gt bs 23 1)) 4 (gt bs 26 4)) nilS B (.slice (some ⟨bR, oR, none⟩) bs.length cap) bs) := R7.out.set 4 (by omega) _
    clear X
    clear R6 R6s
    go_wp2_with ((refine gst23 (.tmp 105) (.tmp 103) rfl _ _ rfl _ rfl rfl _ nilS R7.out.2.2.1 (by omega) ?_))
    go_fit (rst_get R7s.out 30 4 _ _ rfl rfl (by omega) (by decide))
    rintro e W8 ⟨rfl, X⟩
    have R8 : Hid (Rst w W8 (upd (upd (upd (upd (upd zf 1 (gt bs 0 6)) 0 (gt bs 6 6)) 2 (gt bs 12 2)) 6 (gt bs 23 1)) 4 (gt bs 26 4)) nilS B (.slice (some ⟨bR, oR, none⟩) bs.length cap) bs) := X
    have R8s : Hid (Rst w (W8.setCell ⟨w.heap.size + 1, 5, none⟩ (.int .u64 (gt bs 30 4))) (upd (upd (upd (upd (upd (upd zf 1 (gt bs 0 6)) 0 (gt bs 6 6)) 2 (gt bs 12 2)) 6 (gt bs 23 1)) 4 (gt bs 26 4)) 5 (gt bs 30 4)) nilS B (.slice (some ⟨bR, oR, none⟩) bs.length cap) bs) := R8.out.set 5 (by omega) _
    clear X
    clear R7 R7s
    go_wp2_with (first | (refine gst23 (.tmp 111) (.tmp 109) rfl _ _ rfl _ rfl rfl _ nilS R8.out.2.2.1 (by omega) ?_) | (refine ldPH (.tmp 114) rfl _ rfl rfl _ nilS R8s.out.2.2.1 ?_))
    go_fit (rports (W8.setCell ⟨w.heap.size + 1, 5, none⟩ (.int .u64 (gt bs 30 4))).heap.size (upd (upd (upd (upd (upd (upd zf 1 (gt bs 0 6)) 0 (gt bs 6 6)) 2 (gt bs 12 2)) 6 (gt bs 23 1)) 4 (gt bs 26 4)) 5 (gt bs 30 4)) 0 _ (by omega) (by omega) (Nat.le_refl _))
    rintro e Wp ⟨vp, rfl, Xp⟩
    have Rp : Hid (Rst w Wp (upd (upd (upd (upd (upd (upd zf 1 (gt bs 0 6)) 0 (gt bs 6 6)) 2 (gt bs 12 2)) 6 (gt bs 23 1)) 4 (gt bs 26 4)) 5 (gt bs 30 4)) nilS B (.slice (some ⟨bR, oR, none⟩) bs.length cap) bs) := R8s.out.on Xp.belowNil
    have hpl := portsL_len (upd (upd (upd (upd (upd (upd zf 1 (gt bs 0 6)) 0 (gt bs 6 6)) 2 (gt bs 12 2)) 6 (gt bs 23 1)) 4 (gt bs 26 4)) 5 (gt bs 30 4)) (8 + 0)
    obtain ⟨PL, hPL⟩ : ∃ PL, PL = portsL (upd (upd (upd (upd (upd (upd zf 1 (gt bs 0 6)) 0 (gt bs 6 6)) 2 (gt bs 12 2)) 6 (gt bs 23 1)) 4 (gt bs 26 4)) 5 (gt bs 30 4)) (8 + 0) := ⟨_, rfl⟩
    rw [← hPL] at hpl Xp
    have hpM : PL.length = M := by
      have : (PL.length : Int) = psz (gt bs 23 1) := hpl
      have := HM.out
      omega
    obtain ⟨aop, cp, rfl⟩ := Owns.sliceLen Xp.own
    rw [hpM]
    clear Xp hpl hPL hpM R8 R8s
    have hlM : 34 + M ≤ bs.length := by omega
    have hRW : Hid (Rst w Wp (upd (upd (upd (upd (upd (upd zf 1 (gt bs 0 6)) 0 (gt bs 6 6)) 2 (gt bs 12 2)) 6 (gt bs 23 1)) 4 (gt bs 26 4)) 5 (gt bs 30 4)) nilS B (.slice (some ⟨bR, oR, none⟩) bs.length cap) bs) := Rp
    obtain ⟨W6, hW6⟩ : ∃ W6, W6 = Wp := ⟨_, rfl⟩
    rw [← hW6] at hRW
    have HW6 : Hid (W6 = Wp) := hW6
    have hSW : Hid (Sl B (W6.alloc (.cells #[] 5)) (slv bR oR bs.length cap (34 + M)) (bs.drop (34 + M))) := slv_sl ((hRW.out.on ((Below.refl _ _).alloc (Nat.le_refl _) _)).2.2.2.1) (34 + M) (by omega)
    have hON : Hid (Owns W6.heap.size (W6.alloc (.cells #[] 5)) (.slice (some ⟨W6.heap.size, 0, none⟩) 0 0) []) := owns_none' W6
    have hsz6 : W6.heap.size = Wp.heap.size := by rw [hW6]
    rw [hsz6] at hON
    rw [hW6] at hSW hON
    clear hW6
    go_wp2_with (first | (refine slc (.tmp 139) (.tmp 142) rfl bR oR bs.length cap (34 + M) rfl _ rfl (by first | rfl | omega) rfl (by omega) hcap ?_) | (at_builtin; refine app22 (.tmp 138) (.tmp 143) rfl rfl rfl rfl hON.out hSW.out (by simp) (by simp only [List.length_nil, List.length_drop]; omega) ?_; intro vB WQ XX; obtain ⟨ao9, n9, c9, rfl⟩ := Owns.slice XX.own; have hXB : Below W6.heap.size W6 WQ := hmv HW6.out hsz6 XX; have RB := hRW.out.on hXB; have c11 := RB.2.2.1.last; have f11 := gfrozen RB.2.2.1 11) | (refine ld27 (.tmp 4) rfl _ rfl rfl _ _ (RB.setLast _).2.2.1 ?_))
    have R8f : Hid (Rst w (WQ.setCell ⟨w.heap.size + 1, 11, none⟩ (.slice ao9 n9 c9)) (upd (upd (upd (upd (upd (upd zf 1 (gt bs 0 6)) 0 (gt bs 6 6)) 2 (gt bs 12 2)) 6 (gt bs 23 1)) 4 (gt bs 26 4)) 5 (gt bs 30 4)) (.slice ao9 n9 c9) B (.slice (some ⟨bR, oR, none⟩) bs.length cap) bs) := RB.setLast _
    have O8f : Hid (Owns w.heap.size (WQ.setCell ⟨w.heap.size + 1, 11, none⟩ (.slice ao9 n9 c9)) (.slice ao9 n9 c9) body) := by
      rw [hbody]
      have hWs : w.heap.size + 2 ≤ W6.heap.size := two_le hRW.out
      have q := XX.own
      rw [List.nil_append] at q
      refine Owns.mono (base := Wp.heap.size) (ownsRow_setCell_other q (fun e => by have := (q.lt _ e).1; simp at this; omega) _) (by omega)
    clear RB hXB c11 f11 XX hRW hON hSW HW6 hsz6
    have hbl : body.length ≤ 2000 := by rw [hbody]; rw [List.length_drop]; omega
    go_fit (rbuild_any (WQ.setCell ⟨w.heap.size + 1, 11, none⟩ (.slice ao9 n9 c9)).heap.size (upd (upd (upd (upd (upd (upd zf 1 (gt bs 0 6)) 0 (gt bs 6 6)) 2 (gt bs 12 2)) 6 (gt bs 23 1)) 4 (gt bs 26 4)) 5 (gt bs 30 4)) (.slice ao9 n9 c9) body (WQ.setCell ⟨w.heap.size + 1, 11, none⟩ (.slice ao9 n9 c9)) (Nat.le_refl _) (Sl.own O8f.out (by omega) hbB))
    rintro e w9 ⟨v9, rfl, hb9, hO9⟩
    have R9 : Hid (Rst w w9 (upd (upd (upd (upd (upd (upd zf 1 (gt bs 0 6)) 0 (gt bs 6 6)) 2 (gt bs 12 2)) 6 (gt bs 23 1)) 4 (gt bs 26 4)) 5 (gt bs 30 4)) (.slice ao9 n9 c9) B (.slice (some ⟨bR, oR, none⟩) bs.length cap) bs) := R8f.out.on hb9
    have O9 : Hid (Owns w.heap.size w9 (.slice ao9 n9 c9) body) := O8f.out.on hb9
    obtain ⟨eb, heb⟩ : ∃ eb, eb = bErr (upd (upd (upd (upd (upd (upd zf 1 (gt bs 0 6)) 0 (gt bs 6 6)) 2 (gt bs 12 2)) 6 (gt bs 23 1)) 4 (gt bs 26 4)) 5 (gt bs 30 4)) body := ⟨_, rfl⟩
    obtain ⟨ob, hob⟩ : ∃ ob, ob = bOut (upd (upd (upd (upd (upd (upd zf 1 (gt bs 0 6)) 0 (gt bs 6 6)) 2 (gt bs 12 2)) 6 (gt bs 23 1)) 4 (gt bs 26 4)) 5 (gt bs 30 4)) body := ⟨_, rfl⟩
    have hoB : IsB ob := by rw [hob]; exact out_isB hCn hbB
    have hol : ob.length ≤ 2000 := by rw [hob]; exact out_len hCn hbB
    have hyes : Hid (eb = 0 → ob = bs → prE bs = 0 ∧ row 11 (prH bs) = row 11 (upd (upd (upd (upd (upd (upd zf 1 (gt bs 0 6)) 0 (gt bs 6 6)) 2 (gt bs 12 2)) 6 (gt bs 23 1)) 4 (gt bs 26 4)) 5 (gt bs 30 4)) ∧ prB bs = body) := fun p q => dec_yes hCn hbB rfl rfl (heb ▸ p) (hob ▸ q)
    have hno : Hid (¬ (eb = 0 ∧ ob = bs) → pPkt bs = none) := fun p => dec_no hiB hCn hcand (by rw [← heb, ← hob]; exact p)
    rw [← heb]
    rw [← hob] at hO9
    obtain ⟨CC, hCC⟩ : ∃ CC, CC = (upd (upd (upd (upd (upd (upd zf 1 (gt bs 0 6)) 0 (gt bs 6 6)) 2 (gt bs 12 2)) 6 (gt bs 23 1)) 4 (gt bs 26 4)) 5 (gt bs 30 4)) := ⟨_, rfl⟩
    rw [← hCC] at R9 hyes
    have S9 := Sl.own hO9 (by omega) hoB
    obtain ⟨a9, c9', rfl⟩ := hO9.sliceLen
    clear heb hob hb9 hO9 R8f O8f hcand hCn hbB hCC hoB
    by_cases he : eb = 0
    · have hd : (eb != 0) = false := by simp [he]
      by_cases hl : ob.length = bs.length
      · have hd2 : ((ob.length : Int) != bs.length) = false := by simp [hl]
        have hd3 : (ob.length != bs.length) = false := by simp [hl]
        have HL : Hid (ob.length = bs.length) := hl
        have HE0 : Hid (eb = 0) := he
        have hlb : ob.length ≤ 1518 := by omega
        have hle1 : bs.length ≤ ob.length := by omega
        have HS9 : Hid (Sl w9.heap.size w9 (.slice a9 ob.length c9') ob) := S9
        obtain ⟨_, _, e9, _, _, _, _, hc9⟩ := S9
        simp only [Value.slice.injEq, true_and] at e9
        obtain ⟨rfl, rfl⟩ := e9
        obtain ⟨g9, o9, _, rfl, _⟩ := hc9 (fun e => by rw [e] at hl; simp at hl; omega)
        clear hl he hc9
        go_wp2
        go_loopw [9] (fun i wr => ∃ j : Nat, j ≤ bs.length ∧ i = .int .i64 j ∧ (∀ q, q < j → ob.getD q 0 = bs.getD q 0) ∧ Rst w wr CC (.slice ao9 n9 c9) B (.slice (some ⟨bR, oR, none⟩) bs.length cap) bs ∧ Owns w.heap.size wr (.slice ao9 n9 c9) body ∧ Sl w9.heap.size wr (.slice (some ⟨g9, o9, none⟩) ob.length c9') ob) (fun i _ => bs.length - (intOf i).toNat)
        case atStart => exact ⟨0, by omega, rfl, fun q hq => absurd hq (by omega), R9.out, O9.out, HS9.out⟩
        case round =>
          clear R9 O9 HS9
          obtain ⟨j, hj, rfl, hall, hR, hO, hS⟩ := hrel
          have HALL : Hid (∀ q, q < j → ob.getD q 0 = bs.getD q 0) := hall
          have HR : Hid (Rst w wr CC (.slice ao9 n9 c9) B (.slice (some ⟨bR, oR, none⟩) bs.length cap) bs) := hR
          have HO : Hid (Owns w.heap.size wr (.slice ao9 n9 c9) body) := hO
          have HS : Hid (Sl w9.heap.size wr (.slice (some ⟨g9, o9, none⟩) ob.length c9') ob) := hS
          clear hall hR hO hS
          by_cases hjl : j < bs.length
          · have hj2 : j < ob.length := by omega
            obtain ⟨x, hx⟩ : ∃ x, x = ob.getD j 0 := ⟨_, rfl⟩
            obtain ⟨y, hy⟩ : ∃ y, y = bs.getD j 0 := ⟨_, rfl⟩
            have k1 : wr.cell? ⟨g9, o9 + j, none⟩ = some (.int .u8 x) := by rw [hx]; exact sl_cell HS.out hj2
            have k2 : wr.cell? ⟨bR, oR + j, none⟩ = some (.int .u8 y) := by rw [hy]; exact sl_cell HR.out.2.2.2.1 hjl
            have HX : Hid (x = ob.getD j 0) := hx
            have HYY : Hid (y = bs.getD j 0) := hy
            clear hx hy
            cases hxy : (x != y)
            · go_wp2_with fail
              go_quiet (fail)
              go_wp2
              go_roundw
              case rel => exact ⟨j + 1, by omega, by go_num, fun q hq => by
                rcases Nat.lt_or_ge q j with h | h
                · exact HALL.out q h
                · obtain rfl : q = j := by omega
                  rw [← HX.out, ← HYY.out]; simpa using hxy, HR.out.on (bel_drewN (Below.refl _ _) _), HO.out.on (bel_drewN (Below.refl _ _) _), HS.out.on (bel_drewN (Below.refl _ _) _)⟩
              case measure => simp [intOf]; omega
            · have HN : Hid (pPkt bs = none) := hno.out (fun p => by
                rw [HX.out, HYY.out, p.2] at hxy; simp at hxy)
              go_wp2_with fail
              go_quiet (fail)
              have RD := fun q => (show Hid (Rst w (wr.drewN q) CC (.slice ao9 n9 c9) B (.slice (some ⟨bR, oR, none⟩) bs.length cap) bs) from HR.out.on (bel_drewN (Below.refl _ _) _))
              go_wp2_with (first | (refine bld27z rfl rfl ?_) | (refine st27 (.tmp 2) (.tmp 176) rfl _ rfl zf nilS rfl rfl rfl zf nilS (RD _).out.2.1 ?_))
              refine bodyPost_ret (v := .tuple #[pv zf nilS, .int .i64 30]) (res9 _ _ w.heap.size zf nilS 30 rfl rfl ((RD _).out.2.1.setRow _ _)) rfl (rpost_none HN.out (RD _).out)
          · obtain rfl : j = bs.length := by omega
            have hD := hyes.out HE0.out (getD_ext HL.out HALL.out)
            go_wp2_with (first | (refine ld27 (.tmp 4) rfl _ rfl rfl CC _ HR.out.2.2.1 ?_) | (refine st27 (.tmp 2) (.tmp 177) rfl _ rfl CC _ rfl rfl rfl zf nilS HR.out.2.1 ?_))
            refine bodyPost_ret (v := .tuple #[pv CC (.slice ao9 n9 c9), .int .i64 0]) (res9 _ _ w.heap.size CC (.slice ao9 n9 c9) 0 rfl rfl (HR.out.2.1.setRow _ _)) rfl (rpost_some HR.out HO.out hD)
      · have hd2 : ((ob.length : Int) != bs.length) = true := by simp; omega
        have hd3 : (ob.length != bs.length) = true := by simpa using hl
        have HN : Hid (pPkt bs = none) := hno.out (fun p => hl (by rw [p.2]))
        clear hl
        go_wp2_with (first | (refine bld27z rfl rfl ?_) | (refine st27 (.tmp 2) (.tmp 160) rfl _ rfl zf nilS rfl rfl rfl zf nilS R9.out.2.1 ?_))
        refine bodyPost_ret (v := .tuple #[pv zf nilS, .int .i64 30]) (res9 _ _ w.heap.size zf nilS 30 rfl rfl (R9.out.2.1.setRow _ _)) rfl (rpost_none HN.out R9.out)
    · have hd : (eb != 0) = true := by simp [he]
      have HN : Hid (pPkt bs = none) := hno.out (fun p => he p.1)
      clear he
      go_wp2_with (first | (refine bld27z rfl rfl ?_) | (refine st27 (.tmp 2) (.tmp 160) rfl _ rfl zf nilS rfl rfl rfl zf nilS R9.out.2.1 ?_))
      refine bodyPost_ret (v := .tuple #[pv zf nilS, .int .i64 30]) (res9 _ _ w.heap.size zf nilS 30 rfl rfl (R9.out.2.1.setRow _ _)) rfl (rpost_none HN.out R9.out)
  · have HN : Hid (pPkt bs = none) := dec_out hiB (fun F b f => by
      have := (f.ip (hip.out F b f)).1
      rw [(hat.out F b f).1] at this
      omega)
    go_wp2_with (first | (refine gst23 (.tmp 47) (.tmp 45) rfl _ _ rfl _ rfl rfl _ nilS R5.out.2.2.1 (by omega) ?_) | (refine bld27z rfl rfl ?_) | (refine st27 (.tmp 2) (.tmp 93) rfl _ rfl zf nilS rfl rfl rfl zf nilS R5s.out.2.1 ?_))
    refine bodyPost_ret (v := .tuple #[pv zf nilS, .int .i64 30]) (res9 _ _ w.heap.size zf nilS 30 rfl rfl (R5s.out.2.1.setRow _ _)) rfl (rpost_none HN.out R5s.out)
end Go.Proofs.YtgjglbailgeneaaDoor
