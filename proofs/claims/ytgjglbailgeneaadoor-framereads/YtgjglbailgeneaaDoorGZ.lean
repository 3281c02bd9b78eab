/-
  Proved here: the document's Parse answers what Parse answers (prH, prB, prE), for every bytes that a slice holds; no old memory turns. No condition.
-/
import Derived.Test.YtgjglbailgeneaaDoorGA
import Derived.Test.YtgjglbailgeneaaDoorGB
import Derived.Test.YtgjglbailgeneaaDoorGC
import Derived.Test.YtgjglbailgeneaaDoorGD
import Derived.Test.YtgjglbailgeneaaDoorGE
import Derived.Test.YtgjglbailgeneaaDoorGF
import Derived.Test.YtgjglbailgeneaaDoorGH
import Derived.Test.YtgjglbailgeneaaDoorGI
namespace Go.Proofs.YtgjglbailgeneaaDoor
open Go.RowKit

set_option maxRecDepth 100000 in
set_option maxHeartbeats 1600000 in
theorem rp_len (B : Nat) (ao : Option Addr) (cap : Nat) (bs : List Int) (w : World) (hs : Sl B w (.slice ao bs.length cap) bs) (_hB : B ≤ w.heap.size) (hlen : bs.length < 14 ∨ 1518 < bs.length) :
    Calls Tryd.prog 9 #[.slice ao bs.length cap] w fun e w' => RPost w bs e w' := by
  have HN : Hid (pPkt bs = none) := dec_out hs.isB (fun F b f => by have := f.least; have := f.most; omega)
  have hP : PBlk (w.alloc (.cells (prow zf nilS) 27)) w.heap.size zf nilS := PBlk.new _ _ _
  have hl0 : Below w.heap.size w (w.alloc (.cells (prow zf nilS) 27)) := (Below.refl _ _).alloc (Nat.le_refl _) _
  have hF : Hid (RPost w bs (.returned (.tuple #[pv zf nilS, .int .i64 30])) ((w.alloc (.cells (prow zf nilS) 27)).setRow w.heap.size (prow zf nilS))) := by
    obtain ⟨e1, e2, e3⟩ := prE_none HN.out
    exact ⟨nilS, by rw [e1, e2], below_setRow hl0 (Nat.le_refl _) _, by rw [e3]; exact Owns.isNil⟩
  have hll := hs.len
  clear hs HN hl0
  by_cases h14 : bs.length < 14
  · clear hlen
    go_enter Tryd.func9, Tryd.ntmps9
    go_wp2_with (first | (refine alc27 rfl rfl ?_) | (refine bld27z rfl rfl ?_) | (refine st27 (.tmp 2) (.tmp 18) rfl _ rfl zf nilS rfl rfl rfl zf nilS hP ?_))
    exact bodyPost_ret (v := .tuple #[pv zf nilS, .int .i64 30]) (res9 _ _ w.heap.size zf nilS 30 rfl rfl (hP.setRow _ _)) rfl hF.out
  · have h15 : 1518 < bs.length := by omega
    clear hlen
    go_enter Tryd.func9, Tryd.ntmps9
    go_wp2_with (first | (refine alc27 rfl rfl ?_) | (refine bld27z rfl rfl ?_) | (refine st27 (.tmp 2) (.tmp 18) rfl _ rfl zf nilS rfl rfl rfl zf nilS hP ?_))
    exact bodyPost_ret (v := .tuple #[pv zf nilS, .int .i64 30]) (res9 _ _ w.heap.size zf nilS 30 rfl rfl (hP.setRow _ _)) rfl hF.out

set_option maxRecDepth 100000 in
set_option maxHeartbeats 6400000 in
theorem rp_tag1 (B bR oR cap : Nat) (bs : List Int) (w : World) (hs : Sl B w (.slice (some ⟨bR, oR, none⟩) bs.length cap) bs) (hB : B ≤ w.heap.size) (hlo : 14 ≤ bs.length) (hhi : bs.length ≤ 1518) (h12 : gt bs 12 2 = 33024) (h18 : bs.length < 18) :
    Calls Tryd.prog 9 #[(.slice (some ⟨bR, oR, none⟩) bs.length cap)] w fun e w' => RPost w bs e w' := by
  have hiB := hs.isB
  have hcap : bs.length ≤ cap := by
    obtain ⟨_, _, e, h, _⟩ := hs
    simp only [Value.slice.injEq] at e
    rw [e.2.2]; exact h
  have hne : Hid (bs ≠ []) := fun e => by rw [e] at hlo; simp at hlo
  have R0 : Hid (Rst w ((w.alloc (.cells (prow zf nilS) 27)).alloc (.cells (prow zf nilS) 27)) zf nilS B (.slice (some ⟨bR, oR, none⟩) bs.length cap) bs) := by
    have hl0 : Below w.heap.size w ((w.alloc (.cells (prow zf nilS) 27)).alloc (.cells (prow zf nilS) 27)) := ((Below.refl _ _).alloc (Nat.le_refl _) _).alloc (by simp) _
    refine ⟨hl0, (PBlk.new w zf nilS).alloc _, ?_, hs.on (hl0.mono hB), hB⟩
    have := PBlk.new (w.alloc (.cells (prow zf nilS) 27)) zf nilS
    simpa using this
  have HN : Hid (pPkt bs = none) := dec_out hiB (fun F b f => by have := (facts_tag f h12).2.2.1; omega)
  have hdt : (gt bs 12 2 == 33024) = true := by simp [h12]
  clear h12
  clear hs
  go_enter Tryd.func9, Tryd.ntmps9
  go_wp2_with (refine alc27 rfl rfl ?_)
  go_fit (rst_get R0.out 0 6 _ _ rfl rfl (by omega) (by decide))
  rintro e W1 ⟨rfl, X⟩
  have R1 : Hid (Rst w W1 zf nilS B (.slice (some ⟨bR, oR, none⟩) bs.length cap) bs) := X
  have R1s : Hid (Rst w (W1.setCell ⟨w.heap.size + 1, 1, none⟩ (.int .u64 (gt bs 0 6))) (upd zf 1 (gt bs 0 6)) nilS B (.slice (some ⟨bR, oR, none⟩) bs.length cap) bs) := R1.out.set 1 (by omega) _
  clear X
  clear R0
  go_wp2_with ((refine gst23 (.tmp 22) (.tmp 20) rfl _ _ rfl _ rfl rfl _ nilS R1.out.2.2.1 (by omega) ?_))
  go_fit (rst_get R1s.out 6 6 _ _ rfl rfl (by omega) (by decide))
  rintro e W2 ⟨rfl, X⟩
  have R2 : Hid (Rst w W2 (upd zf 1 (gt bs 0 6)) nilS B (.slice (some ⟨bR, oR, none⟩) bs.length cap) bs) := X
  have R2s : Hid (Rst w (W2.setCell ⟨w.heap.size + 1, 0, none⟩ (.int .u64 (gt bs 6 6))) (upd (upd zf 1 (gt bs 0 6)) 0 (gt bs 6 6)) nilS B (.slice (some ⟨bR, oR, none⟩) bs.length cap) bs) := R2.out.set 0 (by omega) _
  clear X
  clear R1 R1s
  go_wp2_with ((refine gst23 (.tmp 26) (.tmp 24) rfl _ _ rfl _ rfl rfl _ nilS R2.out.2.2.1 (by omega) ?_))
  go_fit (rst_get R2s.out 12 2 _ _ rfl rfl (by omega) (by decide))
  rintro e W3 ⟨rfl, X⟩
  have R3 : Hid (Rst w W3 (upd (upd zf 1 (gt bs 0 6)) 0 (gt bs 6 6)) nilS B (.slice (some ⟨bR, oR, none⟩) bs.length cap) bs) := X
  clear X R2 R2s
  go_wp2_with (first | (refine bld27z rfl rfl ?_) | (refine st27 (.tmp 2) (.tmp 33) rfl _ rfl zf nilS rfl rfl rfl zf nilS R3.out.2.1 ?_))
  refine bodyPost_ret (v := .tuple #[pv zf nilS, .int .i64 30]) (res9 _ _ w.heap.size zf nilS 30 rfl rfl (R3.out.2.1.setRow _ _)) rfl (rpost_none HN.out R3.out)

set_option maxRecDepth 100000 in
set_option maxHeartbeats 6400000 in
theorem rp_tag2 (B bR oR cap : Nat) (bs : List Int) (w : World) (hs : Sl B w (.slice (some ⟨bR, oR, none⟩) bs.length cap) bs) (hB : B ≤ w.heap.size) (hlo : 14 ≤ bs.length) (hhi : bs.length ≤ 1518) (h12 : gt bs 12 2 = 33024) (h18 : 18 ≤ bs.length) (hv : gt bs 14 2 = 0) :
    Calls Tryd.prog 9 #[(.slice (some ⟨bR, oR, none⟩) bs.length cap)] w fun e w' => RPost w bs e w' := by
  have hiB := hs.isB
  have hcap : bs.length ≤ cap := by
    obtain ⟨_, _, e, h, _⟩ := hs
    simp only [Value.slice.injEq] at e
    rw [e.2.2]; exact h
  have hne : Hid (bs ≠ []) := fun e => by rw [e] at hlo; simp at hlo
  have R0 : Hid (Rst w ((w.alloc (.cells (prow zf nilS) 27)).alloc (.cells (prow zf nilS) 27)) zf nilS B (.slice (some ⟨bR, oR, none⟩) bs.length cap) bs) := by
    have hl0 : Below w.heap.size w ((w.alloc (.cells (prow zf nilS) 27)).alloc (.cells (prow zf nilS) 27)) := ((Below.refl _ _).alloc (Nat.le_refl _) _).alloc (by simp) _
    refine ⟨hl0, (PBlk.new w zf nilS).alloc _, ?_, hs.on (hl0.mono hB), hB⟩
    have := PBlk.new (w.alloc (.cells (prow zf nilS) 27)) zf nilS
    simpa using this
  have HN : Hid (pPkt bs = none) := dec_out hiB (fun F b f => by
    obtain ⟨q1, _, _, q2, _⟩ := facts_tag f h12
    exact q1 (by rw [q2]; exact hv))
  have hdt : (gt bs 12 2 == 33024) = true := by simp [h12]
  have hdv : (gt bs 14 2 == 0) = true := by simp [hv]
  clear h12 hv
  clear hs
  go_enter Tryd.func9, Tryd.ntmps9
  go_wp2_with (refine alc27 rfl rfl ?_)
  go_fit (rst_get R0.out 0 6 _ _ rfl rfl (by omega) (by decide))
  rintro e W1 ⟨rfl, X⟩
  have R1 : Hid (Rst w W1 zf nilS B (.slice (some ⟨bR, oR, none⟩) bs.length cap) bs) := X
  have R1s : Hid (Rst w (W1.setCell ⟨w.heap.size + 1, 1, none⟩ (.int .u64 (gt bs 0 6))) (upd zf 1 (gt bs 0 6)) nilS B (.slice (some ⟨bR, oR, none⟩) bs.length cap) bs) := R1.out.set 1 (by omega) _
  clear X
  clear R0
  go_wp2_with ((refine gst23 (.tmp 22) (.tmp 20) rfl _ _ rfl _ rfl rfl _ nilS R1.out.2.2.1 (by omega) ?_))
  go_fit (rst_get R1s.out 6 6 _ _ rfl rfl (by omega) (by decide))
  rintro e W2 ⟨rfl, X⟩
  have R2 : Hid (Rst w W2 (upd zf 1 (gt bs 0 6)) nilS B (.slice (some ⟨bR, oR, none⟩) bs.length cap) bs) := X
  have R2s : Hid (Rst w (W2.setCell ⟨w.heap.size + 1, 0, none⟩ (.int .u64 (gt bs 6 6))) (upd (upd zf 1 (gt bs 0 6)) 0 (gt bs 6 6)) nilS B (.slice (some ⟨bR, oR, none⟩) bs.length cap) bs) := R2.out.set 0 (by omega) _
  clear X
  clear R1 R1s
  go_wp2_with ((refine gst23 (.tmp 26) (.tmp 24) rfl _ _ rfl _ rfl rfl _ nilS R2.out.2.2.1 (by omega) ?_))
  go_fit (rst_get R2s.out 12 2 _ _ rfl rfl (by omega) (by decide))
  rintro e W3 ⟨rfl, X⟩
  have R3 : Hid (Rst w W3 (upd (upd zf 1 (gt bs 0 6)) 0 (gt bs 6 6)) nilS B (.slice (some ⟨bR, oR, none⟩) bs.length cap) bs) := X
  clear X R2 R2s
  go_wp2_with (fail)
  go_fit (rst_get R3.out 14 2 _ _ rfl rfl (by omega) (by decide))
  rintro e W4 ⟨rfl, X⟩
  have R4 : Hid (Rst w W4 (upd (upd zf 1 (gt bs 0 6)) 0 (gt bs 6 6)) nilS B (.slice (some ⟨bR, oR, none⟩) bs.length cap) bs) := X
  have R4s : Hid (Rst w (W4.setCell ⟨w.heap.size + 1, 3, none⟩ (.int .u64 (gt bs 14 2))) (upd (upd (upd zf 1 (gt bs 0 6)) 0 (gt bs 6 6)) 3 (gt bs 14 2)) nilS B (.slice (some ⟨bR, oR, none⟩) bs.length cap) bs) := R4.out.set 3 (by omega) _
  clear X
  clear R3
  have c3 : (W4.setCell ⟨w.heap.size + 1, 3, none⟩ (.int .u64 (gt bs 14 2))).cell? ⟨w.heap.size + 1, 3, none⟩ = some (.int .u64 (gt bs 14 2)) := R4s.out.2.2.1.cell 3 (by omega)
  go_wp2_with (first | (refine gst23 (.tmp 37) (.tmp 35) rfl _ _ rfl _ rfl rfl _ nilS R4.out.2.2.1 (by omega) ?_) | (refine bld27z rfl rfl ?_) | (refine st27 (.tmp 2) (.tmp 42) rfl _ rfl zf nilS rfl rfl rfl zf nilS R4s.out.2.1 ?_))
  refine bodyPost_ret (v := .tuple #[pv zf nilS, .int .i64 30]) (res9 _ _ w.heap.size zf nilS 30 rfl rfl (R4s.out.2.1.setRow _ _)) rfl (rpost_none HN.out R4s.out)

theorem rp_all (B bR oR cap : Nat) (bs : List Int) (w : World) (hs : Sl B w (.slice (some ⟨bR, oR, none⟩) bs.length cap) bs) (hB : B ≤ w.heap.size) (hlo : 14 ≤ bs.length) (hhi : bs.length ≤ 1518) :
    Calls Tryd.prog 9 #[.slice (some ⟨bR, oR, none⟩) bs.length cap] w fun e w' => RPost w bs e w' := by
  by_cases h12 : gt bs 12 2 = 33024
  · by_cases h18 : 18 ≤ bs.length
    · by_cases hv : gt bs 14 2 = 0
      · exact rp_tag2 B bR oR cap bs w hs hB hlo hhi h12 h18 hv
      · by_cases k1 : gt bs 16 2 = 2054
        · exact rp_arp_t B bR oR cap bs w hs hB hlo hhi h12 h18 hv k1
        · by_cases k2 : gt bs 16 2 = 2048
          · have hM : (((psz (gt bs 27 1)).toNat : Nat) : Int) = psz (gt bs 27 1) := by have := psz_bd (gt bs 27 1); omega
            by_cases hM0 : 0 < (psz (gt bs 27 1)).toNat
            · exact rp_ipp_t B bR oR cap bs w hs hB hlo hhi h12 h18 hv k2 _ hM hM0
            · exact rp_ipn_t B bR oR cap bs w hs hB hlo hhi h12 h18 hv k2 _ hM (by omega)
          · exact rp_other_t B bR oR cap bs w hs hB hlo hhi h12 h18 hv k1 k2
    · exact rp_tag1 B bR oR cap bs w hs hB hlo hhi h12 (by omega)
  · by_cases k1 : gt bs 12 2 = 2054
    · exact rp_arp_u B bR oR cap bs w hs hB hlo hhi h12 k1
    · by_cases k2 : gt bs 12 2 = 2048
      · have hM : (((psz (gt bs 23 1)).toNat : Nat) : Int) = psz (gt bs 23 1) := by have := psz_bd (gt bs 23 1); omega
        by_cases hM0 : 0 < (psz (gt bs 23 1)).toNat
        · exact rp_ipp_u B bR oR cap bs w hs hB hlo hhi h12 k2 _ hM hM0
        · exact rp_ipn_u B bR oR cap bs w hs hB hlo hhi h12 k2 _ hM (by omega)
      · exact rp_other_u B bR oR cap bs w hs hB hlo hhi h12 k1 k2
/-- WHAT THE DOCUMENT's Parse ANSWERS. -/
theorem rparse_any (B : Nat) (v : Value) (bs : List Int) (w : World) (hs : Sl B w v bs) (hB : B ≤ w.heap.size) :
    Calls Tryd.prog 9 #[v] w fun e w' => ∃ vb, e = .returned (.tuple #[pv (prH bs) vb, .int .i64 (prE bs)]) ∧ Below w.heap.size w w' ∧ Owns w.heap.size w' vb (prB bs) := by
  have hs0 := hs
  obtain ⟨ao, cap, rfl, _, _, _, _, hc⟩ := hs0
  by_cases hlen : bs.length < 14 ∨ 1518 < bs.length
  · exact rp_len B ao cap bs w hs hB hlen
  · obtain ⟨b, o, _, rfl, _⟩ := hc (fun e => by rw [e] at hlen; simp at hlen)
    exact rp_all B b o cap bs w hs hB (by omega) (by omega)
end Go.Proofs.YtgjglbailgeneaaDoor
