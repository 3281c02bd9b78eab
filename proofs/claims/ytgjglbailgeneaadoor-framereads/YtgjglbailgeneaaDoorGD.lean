/-
  Proved here: the document's Parse answers what Parse answers, for bytes of one form. Conditions: as typed.
-/
import Derived.Test.YtgjglbailgeneaaDoorG4
namespace Go.Proofs.YtgjglbailgeneaaDoor
open Go.RowKit

set_option maxRecDepth 100000 in
set_option maxHeartbeats 6400000 in
theorem rp_arp_t (B bR oR cap : Nat) (bs : List Int) (w : World) (hs : Sl B w (.slice (some ⟨bR, oR, none⟩) bs.length cap) bs) (hB : B ≤ w.heap.size) (hlo : 14 ≤ bs.length) (hhi : bs.length ≤ 1518) (h12 : gt bs 12 2 = 33024) (h18 : 18 ≤ bs.length) (hv : gt bs 14 2 ≠ 0) (k1 : (gt bs 16 2) = 2054) :
    Calls Tryd.prog 9 #[(.slice (some ⟨bR, oR, none⟩) bs.length cap)] w fun e w' => RPost w bs e w' := by
  have hiB := hs.isB
  have hcap : bs.length ≤ cap := by
    obtain ⟨_, _, e, h, _⟩ := hs
    simp only [Value.slice.injEq] at e
    rw [e.2.2]; exact h
  have hne : Hid (bs ≠ []) := fun e => by rw [e] at hlo; simp at hlo
  have R0 : Hid (Rst w ((w.alloc (.cells (prow zf nilS) 27)).alloc (.cells (prow zf nilS) 27)) zf nilS B (.slice (some ⟨bR, oR, none⟩) bs.length cap) bs) := by
    have hl0 : Below w.heap.size w ((w.alloc (.cells (prow zf nilS) 27)).alloc (.cells (prow zf nilS) 27)) := ((Below.refl _ _).alloc (Nat.le_refl _) _).alloc (by simp) _
    refine ⟨hl0, (PBlk.new w zf nilS).alloc _, ?_, hs.on (hl0.mono hB), hB⟩
    have := PBlk.new (w.alloc (.cells (prow zf nilS) 27)) zf nilS
    simpa using this
  have hdt : (gt bs 12 2 == 33024) = true := by simp [h12]
  have hdv : (gt bs 14 2 == 0) = false := by simp [hv]
  have hat : Hid (∀ F b, Facts bs b F → afterKind F = 18 ∧ F 3 = gt bs 14 2 ∧ F 2 = (gt bs 16 2) ∧ F 1 = gt bs 0 6 ∧ F 0 = gt bs 6 6) := fun F b f => ⟨(facts_tag f h12).2.1, (facts_tag f h12).2.2.2.1, (facts_tag f h12).2.2.2.2, f.dst.symm, f.src.symm⟩
  clear h12 hv
  have hd1 : ((gt bs 16 2) == 2054) = true := by simp [k1]
  have harp : Hid (∀ F b, Facts bs b F → F 2 = 2054) := fun F b f => by rw [(hat.out F b f).2.2.1]; exact k1
  obtain ⟨xb, hxb⟩ : ∃ xb, xb = bs.getD 25 0 := ⟨_, rfl⟩
  have hxB := hiB.at 25
  rw [← hxb] at hxB
  obtain ⟨body, hbody⟩ : ∃ body, body = [xb] := ⟨_, rfl⟩
  have hbB : IsB body := by rw [hbody]; exact IsB.cons hxB.1 hxB.2 IsB.nil
  have hCn : ∀ k, 0 ≤ (upd (upd (upd (upd (upd (upd zf 1 (gt bs 0 6)) 0 (gt bs 6 6)) 3 (gt bs 14 2)) 2 (gt bs 16 2)) 4 (gt bs 32 4)) 5 (gt bs 42 4)) k := upd_nn (upd_nn (upd_nn (upd_nn (upd_nn (upd_nn (zf_nn) 1 (gt_nn hiB _ _ (by decide))) 0 (gt_nn hiB _ _ (by decide))) 3 (gt_nn hiB _ _ (by decide))) 2 (gt_nn hiB _ _ (by decide))) 4 (gt_nn hiB _ _ (by decide))) 5 (gt_nn hiB _ _ (by decide))
  have hcand : ∀ F b, Facts bs b F → (∀ k, k < 11 → F k = (upd (upd (upd (upd (upd (upd zf 1 (gt bs 0 6)) 0 (gt bs 6 6)) 3 (gt bs 14 2)) 2 (gt bs 16 2)) 4 (gt bs 32 4)) 5 (gt bs 42 4)) k) ∧ b = body := fun F b f => by
    obtain ⟨q1, q2, q3, q4, q5⟩ := hat.out F b f
    obtain ⟨z1, z2, z3, z4, z5⟩ := f.rest
    have e2 := harp.out F b f
    have n2 : F 2 ≠ 2048 := by omega
    obtain ⟨_, a4, a5, ab⟩ := f.arp e2
    rw [q1] at a4 a5 ab
    refine ⟨eleven q5 q4 q3 q2 a4.symm a5.symm (z2 n2).1 (z2 n2).2.1 (z2 n2).2.2 z4 z5, ?_⟩
    rw [hbody, ab, hxb]
  have HXB : Hid (xb = bs.getD 25 0) := hxb
  clear k1 hxb
  clear hs
  go_enter Tryd.func9, Tryd.ntmps9
  go_wp2_with (refine alc27 rfl rfl ?_)
  go_fit (rst_get R0.out 0 6 _ _ rfl rfl (by omega) (by decide))
  rintro e W1 ⟨rfl, X⟩
  have R1 : Hid (Rst w W1 zf nilS B (.slice (some ⟨bR, oR, none⟩) bs.length cap) bs) := X
  have R1s : Hid (Rst w (W1.setCell ⟨w.heap.size + 1, 1, none⟩ (.int .u64 (gt bs 0 6))) (upd zf 1 (gt bs 0 6)) nilS B (.slice (some ⟨bR, oR, none⟩) bs.length cap) bs) := R1.out.set 1 (by omega) _
  clear X
  clear R0
  go_wp2_with ((refine gst23 (.tmp 22) (.tmp 20) rfl _ _ rfl _ rfl rfl _ nilS R1.out.2.2.1 (by omega) ?_))
  go_fit (rst_get R1s.out 6 6 _ _ rfl rfl (by omega) (by decide))
  rintro e W2 ⟨rfl, X⟩
  have R2 : Hid (Rst w W2 (upd zf 1 (gt bs 0 6)) nilS B (.slice (some ⟨bR, oR, none⟩) bs.length cap) bs) := X
  have R2s : Hid (Rst w (W2.setCell ⟨w.heap.size + 1, 0, none⟩ (.int .u64 (gt bs 6 6))) (upd (upd zf 1 (gt bs 0 6)) 0 (gt bs 6 6)) nilS B (.slice (some ⟨bR, oR, none⟩) bs.length cap) bs) := R2.out.set 0 (by omega) _
  clear X
  clear R1 R1s
  go_wp2_with ((refine gst23 (.tmp 26) (.tmp 24) rfl _ _ rfl _ rfl rfl _ nilS R2.out.2.2.1 (by omega) ?_))
  go_fit (rst_get R2s.out 12 2 _ _ rfl rfl (by omega) (by decide))
  rintro e W3 ⟨rfl, X⟩
  have R3 : Hid (Rst w W3 (upd (upd zf 1 (gt bs 0 6)) 0 (gt bs 6 6)) nilS B (.slice (some ⟨bR, oR, none⟩) bs.length cap) bs) := X
  clear X R2 R2s
  go_wp2_with (fail)
  go_fit (rst_get R3.out 14 2 _ _ rfl rfl (by omega) (by decide))
  rintro e W4 ⟨rfl, X⟩
  have R4 : Hid (Rst w W4 (upd (upd zf 1 (gt bs 0 6)) 0 (gt bs 6 6)) nilS B (.slice (some ⟨bR, oR, none⟩) bs.length cap) bs) := X
  have R4s : Hid (Rst w (W4.setCell ⟨w.heap.size + 1, 3, none⟩ (.int .u64 (gt bs 14 2))) (upd (upd (upd zf 1 (gt bs 0 6)) 0 (gt bs 6 6)) 3 (gt bs 14 2)) nilS B (.slice (some ⟨bR, oR, none⟩) bs.length cap) bs) := R4.out.set 3 (by omega) _
  clear X
  clear R3
  have c3 : (W4.setCell ⟨w.heap.size + 1, 3, none⟩ (.int .u64 (gt bs 14 2))).cell? ⟨w.heap.size + 1, 3, none⟩ = some (.int .u64 (gt bs 14 2)) := R4s.out.2.2.1.cell 3 (by omega)
  go_wp2_with ((refine gst23 (.tmp 37) (.tmp 35) rfl _ _ rfl _ rfl rfl _ nilS R4.out.2.2.1 (by omega) ?_))
  go_fit (rst_get R4s.out 16 2 _ _ rfl rfl (by omega) (by decide))
  rintro e W5 ⟨rfl, X⟩
  clear c3
  have R5 : Hid (Rst w W5 (upd (upd (upd zf 1 (gt bs 0 6)) 0 (gt bs 6 6)) 3 (gt bs 14 2)) nilS B (.slice (some ⟨bR, oR, none⟩) bs.length cap) bs) := X
  have R5s : Hid (Rst w (W5.setCell ⟨w.heap.size + 1, 2, none⟩ (.int .u64 (gt bs 16 2))) (upd (upd (upd (upd zf 1 (gt bs 0 6)) 0 (gt bs 6 6)) 3 (gt bs 14 2)) 2 (gt bs 16 2)) nilS B (.slice (some ⟨bR, oR, none⟩) bs.length cap) bs) := R5.out.set 2 (by omega) _
  clear X
  clear R4 R4s
  have c2 : (W5.setCell ⟨w.heap.size + 1, 2, none⟩ (.int .u64 (gt bs 16 2))).cell? ⟨w.heap.size + 1, 2, none⟩ = some (.int .u64 (gt bs 16 2)) := R5s.out.2.2.1.cell 2 (by omega)
  by_cases hl28 : 46 ≤ bs.length
  · go_wp2_with ((refine gst23 (.tmp 47) (.tmp 45) rfl _ _ rfl _ rfl rfl _ nilS R5.out.2.2.1 (by omega) ?_))
    go_fit (rst_get R5s.out 32 4 _ _ rfl rfl (by omega) (by decide))
    rintro e W6 ⟨rfl, X⟩
    have R6 : Hid (Rst w W6 (upd (upd (upd (upd zf 1 (gt bs 0 6)) 0 (gt bs 6 6)) 3 (gt bs 14 2)) 2 (gt bs 16 2)) nilS B (.slice (some ⟨bR, oR, none⟩) bs.length cap) bs) := X
    have R6s : Hid (Rst w (W6.setCell ⟨w.heap.size + 1, 4, none⟩ (.int .u64 (gt bs 32 4))) (upd (upd (upd (upd (upd zf 1 (gt bs 0 6)) 0 (gt bs 6 6)) 3 (gt bs 14 2)) 2 (gt bs 16 2)) 4 (gt bs 32 4)) nilS B (.slice (some ⟨bR, oR, none⟩) bs.length cap) bs) := R6.out.set 4 (by omega) _
    clear X
    clear R5 R5s c2
    go_wp2_with ((refine gst23 (.tmp 72) (.tmp 70) rfl _ _ rfl _ rfl rfl _ nilS R6.out.2.2.1 (by omega) ?_))
    go_fit (rst_get R6s.out 42 4 _ _ rfl rfl (by omega) (by decide))
    rintro e W7 ⟨rfl, X⟩
    have R7 : Hid (Rst w W7 (upd (upd (upd (upd (upd zf 1 (gt bs 0 6)) 0 (gt bs 6 6)) 3 (gt bs 14 2)) 2 (gt bs 16 2)) 4 (gt bs 32 4)) nilS B (.slice (some ⟨bR, oR, none⟩) bs.length cap) bs) := X
    have R7s : Hid (Rst w (W7.setCell ⟨w.heap.size + 1, 5, none⟩ (.int .u64 (gt bs 42 4))) (upd (upd (upd (upd (upd (upd zf 1 (gt bs 0 6)) 0 (gt bs 6 6)) 3 (gt bs 14 2)) 2 (gt bs 16 2)) 4 (gt bs 32 4)) 5 (gt bs 42 4)) nilS B (.slice (some ⟨bR, oR, none⟩) bs.length cap) bs) := R7.out.set 5 (by omega) _
    clear X
    clear R6 R6s
    have cx : (W7.setCell ⟨w.heap.size + 1, 5, none⟩ (.int .u64 (gt bs 42 4))).cell? ⟨bR, oR + 25, none⟩ = some (.int .u8 xb) := by rw [HXB.out]; exact sl_cell R7s.out.2.2.2.1 (by omega)
    have RZ : Rst w ((W7.setCell ⟨w.heap.size + 1, 5, none⟩ (.int .u64 (gt bs 42 4))).alloc (.cells #[.int .u8 xb] 5)) (upd (upd (upd (upd (upd (upd zf 1 (gt bs 0 6)) 0 (gt bs 6 6)) 3 (gt bs 14 2)) 2 (gt bs 16 2)) 4 (gt bs 32 4)) 5 (gt bs 42 4)) nilS B (.slice (some ⟨bR, oR, none⟩) bs.length cap) bs := R7s.out.on ((Below.refl _ _).alloc (Nat.le_refl _) _)
    have hWs : w.heap.size + 2 ≤ W7.heap.size := two_le R7.out
    have c11 := RZ.2.2.1.last
    have f11 := gfrozen RZ.2.2.1 11
    have R8f : Hid (Rst w (((W7.setCell ⟨w.heap.size + 1, 5, none⟩ (.int .u64 (gt bs 42 4))).alloc (.cells #[.int .u8 xb] 5)).setCell ⟨w.heap.size + 1, 11, none⟩ (.slice (some ⟨W7.heap.size, 0, none⟩) 1 1)) (upd (upd (upd (upd (upd (upd zf 1 (gt bs 0 6)) 0 (gt bs 6 6)) 3 (gt bs 14 2)) 2 (gt bs 16 2)) 4 (gt bs 32 4)) 5 (gt bs 42 4)) (.slice (some ⟨W7.heap.size, 0, none⟩) 1 1) B (.slice (some ⟨bR, oR, none⟩) bs.length cap) bs) := RZ.setLast _
    have O8f : Hid (Owns w.heap.size (((W7.setCell ⟨w.heap.size + 1, 5, none⟩ (.int .u64 (gt bs 42 4))).alloc (.cells #[.int .u8 xb] 5)).setCell ⟨w.heap.size + 1, 11, none⟩ (.slice (some ⟨W7.heap.size, 0, none⟩) 1 1)) (.slice (some ⟨W7.heap.size, 0, none⟩) 1 1) body) := by
      rw [hbody]
      have q := owns_one (base := W7.heap.size) (W7.setCell ⟨w.heap.size + 1, 5, none⟩ (.int .u64 (gt bs 42 4))) xb (by simp [World.setCell])
      rw [show (W7.setCell ⟨w.heap.size + 1, 5, none⟩ (.int .u64 (gt bs 42 4))).heap.size = W7.heap.size by simp [World.setCell]] at q
      refine Owns.mono (base := W7.heap.size) (ownsRow_setCell_other q (fun e => by have := (q.lt _ e).1; simp at this; omega) _) (by omega)
    go_wp2_with (first | (refine gst23 (.tmp 78) (.tmp 76) rfl _ _ rfl _ rfl rfl _ nilS R7.out.2.2.1 (by omega) ?_) | (refine ld27 (.tmp 4) rfl _ rfl rfl _ _ R8f.out.2.2.1 ?_))
    clear RZ cx c11 f11 R7 R7s
    have hbl : body.length ≤ 2000 := by rw [hbody]; simp
    go_fit (rbuild_any (((W7.setCell ⟨w.heap.size + 1, 5, none⟩ (.int .u64 (gt bs 42 4))).alloc (.cells #[.int .u8 xb] 5)).setCell ⟨w.heap.size + 1, 11, none⟩ (.slice (some ⟨W7.heap.size, 0, none⟩) 1 1)).heap.size (upd (upd (upd (upd (upd (upd zf 1 (gt bs 0 6)) 0 (gt bs 6 6)) 3 (gt bs 14 2)) 2 (gt bs 16 2)) 4 (gt bs 32 4)) 5 (gt bs 42 4)) (.slice (some ⟨W7.heap.size, 0, none⟩) 1 1) body (((W7.setCell ⟨w.heap.size + 1, 5, none⟩ (.int .u64 (gt bs 42 4))).alloc (.cells #[.int .u8 xb] 5)).setCell ⟨w.heap.size + 1, 11, none⟩ (.slice (some ⟨W7.heap.size, 0, none⟩) 1 1)) (Nat.le_refl _) (Sl.own O8f.out (by omega) hbB))
    rintro e w9 ⟨v9, rfl, hb9, hO9⟩
    have R9 : Hid (Rst w w9 (upd (upd (upd (upd (upd (upd zf 1 (gt bs 0 6)) 0 (gt bs 6 6)) 3 (gt bs 14 2)) 2 (gt bs 16 2)) 4 (gt bs 32 4)) 5 (gt bs 42 4)) (.slice (some ⟨W7.heap.size, 0, none⟩) 1 1) B (.slice (some ⟨bR, oR, none⟩) bs.length cap) bs) := R8f.out.on hb9
    have O9 : Hid (Owns w.heap.size w9 (.slice (some ⟨W7.heap.size, 0, none⟩) 1 1) body) := O8f.out.on hb9
    obtain ⟨eb, heb⟩ : ∃ eb, eb = bErr (upd (upd (upd (upd (upd (upd zf 1 (gt bs 0 6)) 0 (gt bs 6 6)) 3 (gt bs 14 2)) 2 (gt bs 16 2)) 4 (gt bs 32 4)) 5 (gt bs 42 4)) body := ⟨_, rfl⟩
    obtain ⟨ob, hob⟩ : ∃ ob, ob = bOut (upd (upd (upd (upd (upd (upd zf 1 (gt bs 0 6)) 0 (gt bs 6 6)) 3 (gt bs 14 2)) 2 (gt bs 16 2)) 4 (gt bs 32 4)) 5 (gt bs 42 4)) body := ⟨_, rfl⟩
    have hoB : IsB ob := by rw [hob]; exact out_isB hCn hbB
    have hol : ob.length ≤ 2000 := by rw [hob]; exact out_len hCn hbB
    have hyes : Hid (eb = 0 → ob = bs → prE bs = 0 ∧ row 11 (prH bs) = row 11 (upd (upd (upd (upd (upd (upd zf 1 (gt bs 0 6)) 0 (gt bs 6 6)) 3 (gt bs 14 2)) 2 (gt bs 16 2)) 4 (gt bs 32 4)) 5 (gt bs 42 4)) ∧ prB bs = body) := fun p q => dec_yes hCn hbB rfl rfl (heb ▸ p) (hob ▸ q)
    have hno : Hid (¬ (eb = 0 ∧ ob = bs) → pPkt bs = none) := fun p => dec_no hiB hCn hcand (by rw [← heb, ← hob]; exact p)
    rw [← heb]
    rw [← hob] at hO9
    obtain ⟨CC, hCC⟩ : ∃ CC, CC = (upd (upd (upd (upd (upd (upd zf 1 (gt bs 0 6)) 0 (gt bs 6 6)) 3 (gt bs 14 2)) 2 (gt bs 16 2)) 4 (gt bs 32 4)) 5 (gt bs 42 4)) := ⟨_, rfl⟩
    rw [← hCC] at R9 hyes
    have S9 := Sl.own hO9 (by omega) hoB
    obtain ⟨a9, c9', rfl⟩ := hO9.sliceLen
    clear heb hob hb9 hO9 R8f O8f hcand hCn hbB hCC hoB
    by_cases he : eb = 0
    · have hd : (eb != 0) = false := by simp [he]
      by_cases hl : ob.length = bs.length
      · have hd2 : ((ob.length : Int) != bs.length) = false := by simp [hl]
        have hd3 : (ob.length != bs.length) = false := by simp [hl]
        have HL : Hid (ob.length = bs.length) := hl
        have HE0 : Hid (eb = 0) := he
        have hlb : ob.length ≤ 1518 := by omega
        have hle1 : bs.length ≤ ob.length := by omega
        have HS9 : Hid (Sl w9.heap.size w9 (.slice a9 ob.length c9') ob) := S9
        obtain ⟨_, _, e9, _, _, _, _, hc9⟩ := S9
        simp only [Value.slice.injEq, true_and] at e9
        obtain ⟨rfl, rfl⟩ := e9
        obtain ⟨g9, o9, _, rfl, _⟩ := hc9 (fun e => by rw [e] at hl; simp at hl; omega)
        clear hl he hc9
        go_wp2
        go_loopw [9] (fun i wr => ∃ j : Nat, j ≤ bs.length ∧ i = .int .i64 j ∧ (∀ q, q < j → ob.getD q 0 = bs.getD q 0) ∧ Rst w wr CC (.slice (some ⟨W7.heap.size, 0, none⟩) 1 1) B (.slice (some ⟨bR, oR, none⟩) bs.length cap) bs ∧ Owns w.heap.size wr (.slice (some ⟨W7.heap.size, 0, none⟩) 1 1) body ∧ Sl w9.heap.size wr (.slice (some ⟨g9, o9, none⟩) ob.length c9') ob) (fun i _ => bs.length - (intOf i).toNat)
        case atStart => exact ⟨0, by omega, rfl, fun q hq => absurd hq (by omega), R9.out, O9.out, HS9.out⟩
        case round =>
          clear R9 O9 HS9
          obtain ⟨j, hj, rfl, hall, hR, hO, hS⟩ := hrel
          have HALL : Hid (∀ q, q < j → ob.getD q 0 = bs.getD q 0) := hall
          have HR : Hid (Rst w wr CC (.slice (some ⟨W7.heap.size, 0, none⟩) 1 1) B (.slice (some ⟨bR, oR, none⟩) bs.length cap) bs) := hR
          have HO : Hid (Owns w.heap.size wr (.slice (some ⟨W7.heap.size, 0, none⟩) 1 1) body) := hO
          have HS : Hid (Sl w9.heap.size wr (.slice (some ⟨g9, o9, none⟩) ob.length c9') ob) := hS
          clear hall hR hO hS
          by_cases hjl : j < bs.length
          · have hj2 : j < ob.length := by omega
            obtain ⟨x, hx⟩ : ∃ x, x = ob.getD j 0 := ⟨_, rfl⟩
            obtain ⟨y, hy⟩ : ∃ y, y = bs.getD j 0 := ⟨_, rfl⟩
            have k1 : wr.cell? ⟨g9, o9 + j, none⟩ = some (.int .u8 x) := by rw [hx]; exact sl_cell HS.out hj2
            have k2 : wr.cell? ⟨bR, oR + j, none⟩ = some (.int .u8 y) := by rw [hy]; exact sl_cell HR.out.2.2.2.1 hjl
            have HX : Hid (x = ob.getD j 0) := hx
            have HYY : Hid (y = bs.getD j 0) := hy
            clear hx hy
            cases hxy : (x != y)
            · go_wp2_with fail
              go_quiet (fail)
              go_wp2
              go_roundw
              case rel => exact ⟨j + 1, by omega, by go_num, fun q hq => by
                rcases Nat.lt_or_ge q j with h | h
                · exact HALL.out q h
                · obtain rfl : q = j := by omega
                  rw [← HX.out, ← HYY.out]; simpa using hxy, HR.out.on (bel_drewN (Below.refl _ _) _), HO.out.on (bel_drewN (Below.refl _ _) _), HS.out.on (bel_drewN (Below.refl _ _) _)⟩
              case measure => simp [intOf]; omega
            · have HN : Hid (pPkt bs = none) := hno.out (fun p => by
                rw [HX.out, HYY.out, p.2] at hxy; simp at hxy)
              go_wp2_with fail
              go_quiet (fail)
              have RD := fun q => (show Hid (Rst w (wr.drewN q) CC (.slice (some ⟨W7.heap.size, 0, none⟩) 1 1) B (.slice (some ⟨bR, oR, none⟩) bs.length cap) bs) from HR.out.on (bel_drewN (Below.refl _ _) _))
              go_wp2_with (first | (refine bld27z rfl rfl ?_) | (refine st27 (.tmp 2) (.tmp 176) rfl _ rfl zf nilS rfl rfl rfl zf nilS (RD _).out.2.1 ?_))
              refine bodyPost_ret (v := .tuple #[pv zf nilS, .int .i64 30]) (res9 _ _ w.heap.size zf nilS 30 rfl rfl ((RD _).out.2.1.setRow _ _)) rfl (rpost_none HN.out (RD _).out)
          · obtain rfl : j = bs.length := by omega
            have hD := hyes.out HE0.out (getD_ext HL.out HALL.out)
            go_wp2_with (first | (refine ld27 (.tmp 4) rfl _ rfl rfl CC _ HR.out.2.2.1 ?_) | (refine st27 (.tmp 2) (.tmp 177) rfl _ rfl CC _ rfl rfl rfl zf nilS HR.out.2.1 ?_))
            refine bodyPost_ret (v := .tuple #[pv CC (.slice (some ⟨W7.heap.size, 0, none⟩) 1 1), .int .i64 0]) (res9 _ _ w.heap.size CC (.slice (some ⟨W7.heap.size, 0, none⟩) 1 1) 0 rfl rfl (HR.out.2.1.setRow _ _)) rfl (rpost_some HR.out HO.out hD)
      · have hd2 : ((ob.length : Int) != bs.length) = true := by simp; omega
        have hd3 : (ob.length != bs.length) = true := by simpa using hl
        have HN : Hid (pPkt bs = none) := hno.out (fun p => hl (by rw [p.2]))
        clear hl
        go_wp2_with (first | (refine bld27z rfl rfl ?_) | (refine st27 (.tmp 2) (.tmp 160) rfl _ rfl zf nilS rfl rfl rfl zf nilS R9.out.2.1 ?_))
        refine bodyPost_ret (v := .tuple #[pv zf nilS, .int .i64 30]) (res9 _ _ w.heap.size zf nilS 30 rfl rfl (R9.out.2.1.setRow _ _)) rfl (rpost_none HN.out R9.out)
    · have hd : (eb != 0) = true := by simp [he]
      have HN : Hid (pPkt bs = none) := hno.out (fun p => he p.1)
      clear he
      go_wp2_with (first | (refine bld27z rfl rfl ?_) | (refine st27 (.tmp 2) (.tmp 160) rfl _ rfl zf nilS rfl rfl rfl zf nilS R9.out.2.1 ?_))
      refine bodyPost_ret (v := .tuple #[pv zf nilS, .int .i64 30]) (res9 _ _ w.heap.size zf nilS 30 rfl rfl (R9.out.2.1.setRow _ _)) rfl (rpost_none HN.out R9.out)
  · have HN : Hid (pPkt bs = none) := dec_out hiB (fun F b f => by
      have := (f.arp (harp.out F b f)).1
      rw [(hat.out F b f).1] at this
      omega)
    go_wp2_with (first | (refine gst23 (.tmp 47) (.tmp 45) rfl _ _ rfl _ rfl rfl _ nilS R5.out.2.2.1 (by omega) ?_) | (refine bld27z rfl rfl ?_) | (refine st27 (.tmp 2) (.tmp 66) rfl _ rfl zf nilS rfl rfl rfl zf nilS R5s.out.2.1 ?_))
    refine bodyPost_ret (v := .tuple #[pv zf nilS, .int .i64 30]) (res9 _ _ w.heap.size zf nilS 30 rfl rfl (R5s.out.2.1.setRow _ _)) rfl (rpost_none HN.out R5s.out)
end Go.Proofs.YtgjglbailgeneaaDoor
