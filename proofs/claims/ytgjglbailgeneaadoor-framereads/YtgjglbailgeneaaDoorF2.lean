/-
  Proved here: the document's Build makes the bytes that 'bOut' says, or the error that 'bErr' says, for every packet; no old memory turns. No condition.
-/
import Derived.Test.YtgjglbailgeneaaDoorF1
import Derived.Test.YtgjglbailgeneaaDoorE3
import Derived.Test.YtgjglbailgeneaaDoorH2
import Derived.Test.YtgjglbailgeneaaDoorX2
namespace Go.Proofs.YtgjglbailgeneaaDoor
open Go.RowKit

theorem isOp_cases {bs : List Int} (h : isOp bs = true) : ∃ x : Int, bs = [x] ∧ (x = 1 ∨ x = 2) := by
  rcases isOp_one h with rfl | rfl
  · exact ⟨1, rfl, Or.inl rfl⟩
  · exact ⟨2, rfl, Or.inr rfl⟩
/-- An owned slice stays while another one grows. -/
theorem Owns.beside {base b2 : Nat} {w w' : World} {u v v' : Value} {xs ys zs : List Int} (h : Owns b2 w u xs) (_hv : Owns base w v ys) (X : Ext base w v w' v' zs) (hlt : ∀ k, v.ownBlock = some k → k < b2) : Owns b2 w' u xs := by
  refine h.kept X.grown ?_
  cases hu : u.ownBlock with
  | none => exact Or.inl rfl
  | some k =>
    refine Or.inr fun e => ?_
    have := (h.lt k hu).1
    have := hlt k e.symm
    omega
theorem owned_len {base : Nat} {w : World} {v : Value} {xs : List Int} (h : Owns base w v xs) (hp : 0 < xs.length) : ∃ g cap N, v = .slice (some ⟨g, 0, none⟩) N cap ∧ N = xs.length := by
  obtain ⟨g, cap, e, _⟩ := owned_some h hp
  exact ⟨g, cap, _, e, rfl⟩
theorem Owns.sliceLen {base : Nat} {w : World} {v : Value} {xs : List Int} (h : Owns base w v xs) : ∃ ao c, v = .slice ao xs.length c := by
  rcases h.2 with ⟨rfl, h0⟩ | ⟨g, cap, cur, rfl, _⟩
  · exact ⟨none, 0, by rw [h0]⟩
  · exact ⟨_, _, rfl⟩
theorem portsL_isB (h : Nat → Int) (len : Int) : IsB (portsL h len) := by
  unfold portsL
  split
  · exact (dg_isB _ _).app ((dg_isB _ _).app ((dg_isB _ _).app ((dg_isB _ _).app (dg_isB _ _))))
  · split
    · exact (dg_isB _ _).app ((dg_isB _ _).app ((dg_isB _ _).app (dg_isB _ _)))
    · exact IsB.nil
theorem ports_eq (h : Nat → Int) (n : Int) : portsL h (8 + n) = portsL h (psz (h 6) + n) := by
  unfold portsL psz
  by_cases c6 : h 6 = 6
  · rw [if_pos c6, if_pos c6]
  · rw [if_neg c6, if_neg c6]
    by_cases c17 : h 6 = 17
    · rw [if_pos c17, if_pos c17, if_neg c6, if_pos c17]
    · rw [if_neg c17, if_neg c17]
theorem arp8 {op : Int} (h : op = 1 ∨ op = 2) : dg 4429186564 6 ++ dg op 2 = [0, 1, 8, 0, 6, 4, 0, op] := by
  rcases h with rfl | rfl <;> decide

section
variable {base : Nat} {h : Nat → Int} {bs : List Int} {w : World}
theorem bErr_ok (h1 : hOk h = true) (h2 : h 2 = 2054 → isOp bs = true) : bErr h bs = if 1500 - ahead h < bs.length then 3 else 0 := by
  unfold bErr
  rw [if_neg (by simp [h1]), if_neg]
  rintro ⟨ha, hb⟩
  rw [h2 ha] at hb; cases hb
end

set_option maxRecDepth 100000 in
set_option maxHeartbeats 6400000 in
theorem rb_other_u (B : Nat) (h : Nat → Int) (ao : Option Addr) (cap : Nat) (bs : List Int) (w : World) (hB : B ≤ w.heap.size) (hs : Sl B w (.slice ao bs.length cap) bs) (h1 : hOk h = true) (hv3 : h 3 = 0) (k1 : ¬ h 2 = 2054) (k2 : ¬ h 2 = 2048) :
    Calls Tryd.prog 15 #[pv h (.slice ao bs.length cap)] w fun e w' => ∃ v', e = .returned (.tuple #[v', .int .i64 (bErr h bs)]) ∧ Below w.heap.size w w' ∧ Owns w.heap.size w' v' (bOut h bs) := by
  have HE : Hid (bErr h bs = if 1500 - ahead h < bs.length then 3 else 0) := bErr_ok h1 (fun e => absurd e k1)
  have HP : Hid (pktL h bs = ethL h ++ bs) := by show pktL h bs = _; simp [pktL, k1, k2]
  have hah0 : ahead h = 0 := by simp [ahead, k1, k2]
  have hd1 : (h 2 == 2054) = false := by simp [k1]
  have hd2 : (h 2 == 2048) = false := by simp [k2]
  clear k1 k2
  have hd3 : (h 3 != 0) = false := by simp [hv3]
  have HV3 : Hid (h 3 = 0) := hv3
  clear hv3
  have HEth : Hid (ethL h = dg (h 1) 6 ++ (dg (h 0) 6 ++ dg (h 2) 2)) := by show ethL h = _; simp only [ethL, tagL, if_pos HV3.out, List.nil_append]
  have hlen := hs.len
  have hah := ahead_bd h
  obtain ⟨wa, hwa⟩ : ∃ wa, wa = (w.alloc (.cells (prow h (.slice ao bs.length cap)) 27)).alloc (.cells (row 11 h) 25) := ⟨_, rfl⟩
  have hla : Below w.heap.size w wa := by rw [hwa]; exact ((Below.refl _ _).alloc (Nat.le_refl _) _).alloc (by simp) _
  have PA : Hid (PBlk wa w.heap.size h (.slice ao bs.length cap)) := by rw [hwa]; exact (PBlk.new w h (.slice ao bs.length cap)).alloc _
  have KA : Blk wa (w.heap.size + 1) 11 25 h := by rw [hwa]; exact Blk.new1 w _ 11 25 h
  have SA : Hid (Sl B wa (.slice ao bs.length cap) bs) := hs.on (hla.mono hB)
  have HC : Hid (Calls Tryd.prog 25 #[hv h] wa fun e w' => e = .returned (.int .i64 0) ∧ Below wa.heap.size wa w') := by
    have := rcheck_any h wa
    rwa [rchk_eq, show chk h = 0 by simp [chk, h1]] at this
  have HWA : Hid (wa = (w.alloc (.cells (prow h (.slice ao bs.length cap)) 27)).alloc (.cells (row 11 h) 25)) := hwa
  have P0' : Hid (PBlk (w.alloc (.cells (prow h (.slice ao bs.length cap)) 27)) w.heap.size h (.slice ao bs.length cap)) := PBlk.new _ _ _
  have K0' : Hid (Blk ((w.alloc (.cells (prow h (.slice ao bs.length cap)) 27)).alloc (.cells (row 11 h) 25)) (w.heap.size + 1) 11 25 h) := Blk.new1 w _ 11 25 h
  have K0'' : Hid (Blk ((w.alloc (.cells (prow h (.slice ao bs.length cap)) 27)).alloc (.cells (row 11 h) 25)) (w.alloc (.cells (prow h (.slice ao bs.length cap)) 27)).heap.size 11 25 h) := Blk.new _ 11 25 h
  clear hwa hs
  go_enter Tryd.func15, Tryd.ntmps15
  go_wp2_with (first | (refine ldPH (.tmp 9) rfl _ rfl rfl h (.slice ao bs.length cap) P0'.out ?_) | (refine alc25 rfl rfl ?_) | (refine st25n (.tmp 4) (.tmp 10) rfl (w.alloc (.cells (prow h (.slice ao bs.length cap)) 27)) zf rfl rfl h rfl rfl ?_) | (refine ld25 (.tmp 4) rfl _ rfl rfl h K0''.out ?_) | (refine ld25 (.tmp 4) rfl _ rfl rfl h K0'.out ?_))
  rw [← HWA.out]
  go_fit HC.out
  rintro e wc ⟨rfl, hbc'⟩
  have hlc : Hid (Below w.heap.size w wc) := hla.trans (hbc'.mono hla.size)
  have PC0 : Hid (PBlk wc w.heap.size h (.slice ao bs.length cap)) := PA.out.on hbc'
  have KC : Blk wc (w.heap.size + 1) 11 25 h := KA.on hbc'
  have SC : Hid (Sl B wc (.slice ao bs.length cap) bs) := SA.out.on (hbc'.mono (Nat.le_trans hB hla.size))
  have hbc : w.heap.size ≤ wc.heap.size := hlc.out.size
  clear hla PA KA SA HC HWA P0' K0' K0'' hbc' h1
  have c2 := KC.cell 2 (by omega)
  have c11 := PC0.out.last
  have E0 : Hid (Ext w.heap.size wc nilS wc nilS []) := Ext.refl Owns.isNil
  have K0 : Blk wc (w.heap.size + 1) 11 25 h := KC
  have P0 : Hid (PBlk wc w.heap.size h (.slice ao bs.length cap)) := PC0
  have S0 : Hid (Sl B wc (.slice ao bs.length cap) bs) := SC
  have hb0 : w.heap.size ≤ wc.heap.size := hbc
  have c1 := K0.cell 1 (by omega)
  go_wp2_with fail
  clear c1 c2 c11
  go_fit (put w.heap.size 6 _ (h 1) _ _ _ rfl (by decide) E0.out.own (by decide) hb0)
  rintro e w1 ⟨v1, rfl, X⟩
  have E1 : Hid (Ext w.heap.size wc nilS w1 v1 ([] ++ dg (h 1) 6)) := E0.out.trans X
  have K1 : Blk w1 (w.heap.size + 1) 11 25 h := X.block E0.out.own K0 (by decide)
  have P1 : Hid (PBlk w1 w.heap.size h (.slice ao bs.length cap)) := X.block E0.out.own P0.out (by decide)
  have S1 : Hid (Sl B w1 (.slice ao bs.length cap) bs) := S0.out.on ((X.below E0.out.own hb0).mono hB)
  have hb1 : w.heap.size ≤ w1.heap.size := Nat.le_trans hbc E1.out.grown.size
  clear X K0 P0 S0 E0 hb0
  have c0 := K1.cell 0 (by omega)
  go_wp2_with (fail)
  go_fit (put w.heap.size 6 _ (h 0) _ _ _ rfl (by decide) E1.out.own (by simp only [List.length_append, List.length_nil, dg_len]; omega) hb1)
  rintro e w2 ⟨v2, rfl, X⟩
  have E2 : Hid (Ext w.heap.size wc nilS w2 v2 ([] ++ dg (h 1) 6 ++ dg (h 0) 6)) := E1.out.trans X
  have K2 : Blk w2 (w.heap.size + 1) 11 25 h := X.block E1.out.own K1 (by decide)
  have P2 : Hid (PBlk w2 w.heap.size h (.slice ao bs.length cap)) := X.block E1.out.own P1.out (by decide)
  have S2 : Hid (Sl B w2 (.slice ao bs.length cap) bs) := S1.out.on ((X.below E1.out.own hb1).mono hB)
  have hb2 : w.heap.size ≤ w2.heap.size := Nat.le_trans hbc E2.out.grown.size
  clear X c0 K1 P1 S1 E1 hb1
  have c3 := K2.cell 3 (by omega)
  have c2 := K2.cell 2 (by omega)
  go_wp2_with (fail)
  go_fit (put w.heap.size 2 _ (h 2) _ _ _ rfl (by decide) E2.out.own (by simp only [List.length_append, List.length_nil, dg_len]; omega) hb2)
  rintro e w3 ⟨v3, rfl, X⟩
  have E3 : Hid (Ext w.heap.size wc nilS w3 v3 ([] ++ dg (h 1) 6 ++ dg (h 0) 6 ++ dg (h 2) 2)) := E2.out.trans X
  have K3 : Blk w3 (w.heap.size + 1) 11 25 h := X.block E2.out.own K2 (by decide)
  have P3 : Hid (PBlk w3 w.heap.size h (.slice ao bs.length cap)) := X.block E2.out.own P2.out (by decide)
  have S3 : Hid (Sl B w3 (.slice ao bs.length cap) bs) := S2.out.on ((X.below E2.out.own hb2).mono hB)
  have hb3 : w.heap.size ≤ w3.heap.size := Nat.le_trans hbc E3.out.grown.size
  clear X c2 K2 P2 S2 E2 hb2
  clear c3
  have c11 := P3.out.last
  have c2 := K3.cell 2 (by omega)
  by_cases hmost : (1514 : Int) < bs.length
  · have HF : Hid (bErr h bs = 3) := by show bErr h bs = 3; rw [HE.out, if_pos (by omega)]
    have hlow : Hid (Below w.heap.size w w3) := hlc.out.trans (E3.out.below Owns.isNil hbc)
    go_wp2
    go_ret2
    refine ⟨nilS, by rw [HF.out]; rfl, hlow.out, ?_⟩
    rw [show bOut h bs = [] by simp [bOut, HF.out]]
    exact Owns.isNil
  · by_cases hlong : 1500 - ahead h < bs.length
    · have HF : Hid (bErr h bs = 3) := by show bErr h bs = 3; rw [HE.out, if_pos hlong]
      go_wp2_with (at_builtin; refine app22 (.tmp 68) (.tmp 70) rfl rfl rfl rfl E3.out.own S3.out hb3 (by simp only [List.length_append, List.length_nil, dg_len]; omega) ?_; intro vf wf X; obtain ⟨gf, cf', N, hvf, hN⟩ := owned_len X.own (by simp only [List.length_append, List.length_nil, dg_len]; omega); subst hvf; have hbig : (1514 : Int) < N := (by rw [hN]; simp only [List.length_append, List.length_nil, dg_len]; omega); clear hN)
      go_ret2
      refine ⟨nilS, by rw [HF.out]; rfl, hlc.out.trans ((E3.out.trans X).below Owns.isNil hbc), ?_⟩
      rw [show bOut h bs = [] by simp [bOut, HF.out]]
      exact Owns.isNil
    · have HF : Hid (bErr h bs = 0) := by show bErr h bs = 0; rw [HE.out, if_neg hlong]
      go_wp2_with (at_builtin; refine app22 (.tmp 68) (.tmp 70) rfl rfl rfl rfl E3.out.own S3.out hb3 (by simp only [List.length_append, List.length_nil, dg_len]; omega) ?_; intro vf wf X; obtain ⟨gf, cf', N, hvf, hN⟩ := owned_len X.own (by simp only [List.length_append, List.length_nil, dg_len]; omega); subst hvf; have hbig : ¬ (1514 : Int) < N := (by rw [hN]; simp only [List.length_append, List.length_nil, dg_len]; omega); clear hN)
      go_ret2
      refine ⟨_, by rw [HF.out]; rfl, hlc.out.trans ((E3.out.trans X).below Owns.isNil hbc), ?_⟩
      have hO := X.own
      have hLe : bOut h bs = [] ++ dg (h 1) 6 ++ dg (h 0) 6 ++ dg (h 2) 2 ++ bs := by
        rw [show bOut h bs = pktL h bs by simp [bOut, HF.out], HP.out, HEth.out]
        simp only [List.nil_append, List.append_assoc]
      rw [hLe]
      exact hO

set_option maxRecDepth 100000 in
set_option maxHeartbeats 6400000 in
theorem rb_arp_u (B : Nat) (h : Nat → Int) (bB oB cap : Nat) (op : Int) (w : World) (hB : B ≤ w.heap.size) (hs : Sl B w (.slice (some ⟨bB, oB, none⟩) 1 cap) [op]) (h1 : hOk h = true) (hv3 : h 3 = 0) (k1 : h 2 = 2054) (hop : op = 1 ∨ op = 2) :
    Calls Tryd.prog 15 #[pv h (.slice (some ⟨bB, oB, none⟩) 1 cap)] w fun e w' => ∃ v', e = .returned (.tuple #[v', .int .i64 (bErr h [op])]) ∧ Below w.heap.size w w' ∧ Owns w.heap.size w' v' (bOut h [op]) := by
  have HF : Hid (bErr h [op] = 0) := by
    show bErr h [op] = 0
    rw [bErr_ok h1 (fun _ => by rcases hop with rfl | rfl <;> rfl), if_neg]
    have : ahead h = 28 := by simp [ahead, k1]
    rw [this]; simp
  have HP : Hid (pktL h [op] = ethL h ++ arpL h op) := by show pktL h [op] = _; simp [pktL, k1]
  have hd1 : (h 2 == 2054) = true := by simp [k1]
  have h8 : Hid (dg 4429186564 6 ++ dg op 2 = [0, 1, 8, 0, 6, 4, 0, op]) := arp8 hop
  have hop0 : 0 ≤ op ∧ op < 256 := by omega
  have HOP : Hid (op = 1 ∨ op = 2) := hop
  clear k1 hop
  have hd3 : (h 3 != 0) = false := by simp [hv3]
  have HV3 : Hid (h 3 = 0) := hv3
  clear hv3
  have HEth : Hid (ethL h = dg (h 1) 6 ++ (dg (h 0) 6 ++ dg (h 2) 2)) := by show ethL h = _; simp only [ethL, tagL, if_pos HV3.out, List.nil_append]
  have hlen := hs.len
  have hah := ahead_bd h
  obtain ⟨wa, hwa⟩ : ∃ wa, wa = (w.alloc (.cells (prow h (.slice (some ⟨bB, oB, none⟩) 1 cap)) 27)).alloc (.cells (row 11 h) 25) := ⟨_, rfl⟩
  have hla : Below w.heap.size w wa := by rw [hwa]; exact ((Below.refl _ _).alloc (Nat.le_refl _) _).alloc (by simp) _
  have PA : Hid (PBlk wa w.heap.size h (.slice (some ⟨bB, oB, none⟩) 1 cap)) := by rw [hwa]; exact (PBlk.new w h (.slice (some ⟨bB, oB, none⟩) 1 cap)).alloc _
  have KA : Blk wa (w.heap.size + 1) 11 25 h := by rw [hwa]; exact Blk.new1 w _ 11 25 h
  have SA : Hid (Sl B wa (.slice (some ⟨bB, oB, none⟩) 1 cap) [op]) := hs.on (hla.mono hB)
  have HC : Hid (Calls Tryd.prog 25 #[hv h] wa fun e w' => e = .returned (.int .i64 0) ∧ Below wa.heap.size wa w') := by
    have := rcheck_any h wa
    rwa [rchk_eq, show chk h = 0 by simp [chk, h1]] at this
  have HWA : Hid (wa = (w.alloc (.cells (prow h (.slice (some ⟨bB, oB, none⟩) 1 cap)) 27)).alloc (.cells (row 11 h) 25)) := hwa
  have P0' : Hid (PBlk (w.alloc (.cells (prow h (.slice (some ⟨bB, oB, none⟩) 1 cap)) 27)) w.heap.size h (.slice (some ⟨bB, oB, none⟩) 1 cap)) := PBlk.new _ _ _
  have K0' : Hid (Blk ((w.alloc (.cells (prow h (.slice (some ⟨bB, oB, none⟩) 1 cap)) 27)).alloc (.cells (row 11 h) 25)) (w.heap.size + 1) 11 25 h) := Blk.new1 w _ 11 25 h
  have K0'' : Hid (Blk ((w.alloc (.cells (prow h (.slice (some ⟨bB, oB, none⟩) 1 cap)) 27)).alloc (.cells (row 11 h) 25)) (w.alloc (.cells (prow h (.slice (some ⟨bB, oB, none⟩) 1 cap)) 27)).heap.size 11 25 h) := Blk.new _ 11 25 h
  obtain ⟨hbB, hcl⟩ : bB < B ∧ ∀ W, Below B w W → W.cell? ⟨bB, oB, none⟩ = some (.int .u8 op) := by
    obtain ⟨ao', cap', e, _, _, _, _, hc⟩ := hs
    simp only [Value.slice.injEq] at e
    obtain ⟨rfl, _, rfl⟩ := e
    obtain ⟨b, o, hlt, e2, hcc⟩ := hc (by simp)
    simp only [Option.some.injEq, Addr.mk.injEq, and_true] at e2
    obtain ⟨rfl, rfl⟩ := e2
    refine ⟨hlt, fun W hW => ?_⟩
    rw [hW.cell (p := ⟨bB, oB, none⟩) hlt]
    simpa using hcc 0 (by simp)
  have HCL : Hid (∀ W, Below B w W → W.cell? ⟨bB, oB, none⟩ = some (.int .u8 op)) := hcl
  clear hwa hs hcl
  go_enter Tryd.func15, Tryd.ntmps15
  go_wp2_with (first | (refine ldPH (.tmp 9) rfl _ rfl rfl h (.slice (some ⟨bB, oB, none⟩) 1 cap) P0'.out ?_) | (refine alc25 rfl rfl ?_) | (refine st25n (.tmp 4) (.tmp 10) rfl (w.alloc (.cells (prow h (.slice (some ⟨bB, oB, none⟩) 1 cap)) 27)) zf rfl rfl h rfl rfl ?_) | (refine ld25 (.tmp 4) rfl _ rfl rfl h K0''.out ?_) | (refine ld25 (.tmp 4) rfl _ rfl rfl h K0'.out ?_))
  rw [← HWA.out]
  go_fit HC.out
  rintro e wc ⟨rfl, hbc'⟩
  have hlc : Hid (Below w.heap.size w wc) := hla.trans (hbc'.mono hla.size)
  have PC0 : Hid (PBlk wc w.heap.size h (.slice (some ⟨bB, oB, none⟩) 1 cap)) := PA.out.on hbc'
  have KC : Blk wc (w.heap.size + 1) 11 25 h := KA.on hbc'
  have SC : Hid (Sl B wc (.slice (some ⟨bB, oB, none⟩) 1 cap) [op]) := SA.out.on (hbc'.mono (Nat.le_trans hB hla.size))
  have hbc : w.heap.size ≤ wc.heap.size := hlc.out.size
  clear hla PA KA SA HC HWA P0' K0' K0'' hbc' h1
  have c2 := KC.cell 2 (by omega)
  have c11 := PC0.out.last
  have E0 : Hid (Ext w.heap.size wc nilS wc nilS []) := Ext.refl Owns.isNil
  have K0 : Blk wc (w.heap.size + 1) 11 25 h := KC
  have P0 : Hid (PBlk wc w.heap.size h (.slice (some ⟨bB, oB, none⟩) 1 cap)) := PC0
  have S0 : Hid (Sl B wc (.slice (some ⟨bB, oB, none⟩) 1 cap) [op]) := SC
  have hb0 : w.heap.size ≤ wc.heap.size := hbc
  by_cases hop1 : op = 1
  · have hx1 : (op == 1) = true := by simp [hop1]
    have hx1n : (op != 1) = false := by simp [hop1]
    have HTG : Hid (tgt h op = 0) := by show tgt h op = _; simp [tgt, hop1]
    clear hop1
    have cb := HCL.out wc (hlc.out.mono hB)
    have c1 := K0.cell 1 (by omega)
    go_wp2_with fail
    clear c1 c2 c11 cb
    go_fit (put w.heap.size 6 _ (h 1) _ _ _ rfl (by decide) E0.out.own (by decide) hb0)
    rintro e w1 ⟨v1, rfl, X⟩
    have E1 : Hid (Ext w.heap.size wc nilS w1 v1 ([] ++ dg (h 1) 6)) := E0.out.trans X
    have K1 : Blk w1 (w.heap.size + 1) 11 25 h := X.block E0.out.own K0 (by decide)
    have P1 : Hid (PBlk w1 w.heap.size h (.slice (some ⟨bB, oB, none⟩) 1 cap)) := X.block E0.out.own P0.out (by decide)
    have S1 : Hid (Sl B w1 (.slice (some ⟨bB, oB, none⟩) 1 cap) [op]) := S0.out.on ((X.below E0.out.own hb0).mono hB)
    have hb1 : w.heap.size ≤ w1.heap.size := Nat.le_trans hbc E1.out.grown.size
    clear X K0 P0 S0 E0 hb0
    have c0 := K1.cell 0 (by omega)
    go_wp2_with (fail)
    go_fit (put w.heap.size 6 _ (h 0) _ _ _ rfl (by decide) E1.out.own (by simp only [List.length_append, List.length_nil, dg_len]; omega) hb1)
    rintro e w2 ⟨v2, rfl, X⟩
    have E2 : Hid (Ext w.heap.size wc nilS w2 v2 ([] ++ dg (h 1) 6 ++ dg (h 0) 6)) := E1.out.trans X
    have K2 : Blk w2 (w.heap.size + 1) 11 25 h := X.block E1.out.own K1 (by decide)
    have P2 : Hid (PBlk w2 w.heap.size h (.slice (some ⟨bB, oB, none⟩) 1 cap)) := X.block E1.out.own P1.out (by decide)
    have S2 : Hid (Sl B w2 (.slice (some ⟨bB, oB, none⟩) 1 cap) [op]) := S1.out.on ((X.below E1.out.own hb1).mono hB)
    have hb2 : w.heap.size ≤ w2.heap.size := Nat.le_trans hbc E2.out.grown.size
    clear X c0 K1 P1 S1 E1 hb1
    have c3 := K2.cell 3 (by omega)
    have c2 := K2.cell 2 (by omega)
    go_wp2_with (fail)
    go_fit (put w.heap.size 2 _ (h 2) _ _ _ rfl (by decide) E2.out.own (by simp only [List.length_append, List.length_nil, dg_len]; omega) hb2)
    rintro e w3 ⟨v3, rfl, X⟩
    have E3 : Hid (Ext w.heap.size wc nilS w3 v3 ([] ++ dg (h 1) 6 ++ dg (h 0) 6 ++ dg (h 2) 2)) := E2.out.trans X
    have K3 : Blk w3 (w.heap.size + 1) 11 25 h := X.block E2.out.own K2 (by decide)
    have P3 : Hid (PBlk w3 w.heap.size h (.slice (some ⟨bB, oB, none⟩) 1 cap)) := X.block E2.out.own P2.out (by decide)
    have S3 : Hid (Sl B w3 (.slice (some ⟨bB, oB, none⟩) 1 cap) [op]) := S2.out.on ((X.below E2.out.own hb2).mono hB)
    have hb3 : w.heap.size ≤ w3.heap.size := Nat.le_trans hbc E3.out.grown.size
    clear X c2 K2 P2 S2 E2 hb2
    clear c3
    have c11 := P3.out.last
    have c2 := K3.cell 2 (by omega)
    have hlw : Below w.heap.size w w3 := hlc.out.trans (E3.out.below Owns.isNil hbc)
    have cb := HCL.out w3 (hlw.mono hB)
    have Q : Hid (Sl (w3.heap.size + 1) (w3.alloc (.cells (([0, 1, 8, 0, 6, 4, 0, op] : List Int).map (Value.int .u8)).toArray 5)) (.slice (some ⟨w3.heap.size, 0, none⟩) 8 8) [0, 1, 8, 0, 6, 4, 0, op]) := sl_lit w3 [0, 1, 8, 0, 6, 4, 0, op] (IsB.cons (by omega) (by omega) (IsB.cons (by omega) (by omega) (IsB.cons (by omega) (by omega) (IsB.cons (by omega) (by omega) (IsB.cons (by omega) (by omega) (IsB.cons (by omega) (by omega) (IsB.cons (by omega) (by omega) (IsB.cons hop0.1 hop0.2 IsB.nil)))))))) (by simp)
    go_wp2_with (at_builtin; refine app22 (.tmp 74) (.tmp 79) rfl rfl rfl rfl (E3.out.own.alloc _) Q.out (by simp; omega) (by simp only [List.length_append, List.length_cons, List.length_nil, dg_len]; omega) ?_; intro v4 w4 X; have d0 := (X.blkL E3.out.own K3).cell 0 (by omega))
    have E4 : Hid (Ext w.heap.size wc nilS w4 v4 ([] ++ dg (h 1) 6 ++ dg (h 0) 6 ++ dg (h 2) 2 ++ [0, 1, 8, 0, 6, 4, 0, op])) := E3.out.lit X
    have K4 : Blk w4 (w.heap.size + 1) 11 25 h := X.blkL E3.out.own K3
    have P4 : Hid (PBlk w4 w.heap.size h (.slice (some ⟨bB, oB, none⟩) 1 cap)) := X.block (E3.out.own.alloc _) (P3.out.alloc _) (by decide)
    have S4 : Hid (Sl B w4 (.slice (some ⟨bB, oB, none⟩) 1 cap) [op]) := (S3.out.on (((Below.refl _ _).alloc (Nat.le_refl _) _).mono (Nat.le_trans hB hb3))).on ((X.below (E3.out.own.alloc _) (by simp; omega)).mono hB)
    have hb4 : w.heap.size ≤ w4.heap.size := Nat.le_trans hbc E4.out.grown.size
    clear X Q d0 cb c11 c2 hlw K3 P3 S3 E3 hb3
    have c0 := K4.cell 0 (by omega)
    go_wp2_with (fail)
    go_fit (put w.heap.size 6 _ (h 0) _ _ _ rfl (by decide) E4.out.own (by simp only [List.length_append, List.length_cons, List.length_nil, dg_len]; omega) hb4)
    rintro e w5 ⟨v5, rfl, X⟩
    have E5 : Hid (Ext w.heap.size wc nilS w5 v5 ([] ++ dg (h 1) 6 ++ dg (h 0) 6 ++ dg (h 2) 2 ++ [0, 1, 8, 0, 6, 4, 0, op] ++ dg (h 0) 6)) := E4.out.trans X
    have K5 : Blk w5 (w.heap.size + 1) 11 25 h := X.block E4.out.own K4 (by decide)
    have P5 : Hid (PBlk w5 w.heap.size h (.slice (some ⟨bB, oB, none⟩) 1 cap)) := X.block E4.out.own P4.out (by decide)
    have S5 : Hid (Sl B w5 (.slice (some ⟨bB, oB, none⟩) 1 cap) [op]) := S4.out.on ((X.below E4.out.own hb4).mono hB)
    have hb5 : w.heap.size ≤ w5.heap.size := Nat.le_trans hbc E5.out.grown.size
    clear X c0 K4 P4 S4 E4 hb4
    have c4 := K5.cell 4 (by omega)
    go_wp2_with (fail)
    go_fit (put w.heap.size 4 _ (h 4) _ _ _ rfl (by decide) E5.out.own (by simp only [List.length_append, List.length_cons, List.length_nil, dg_len]; omega) hb5)
    rintro e w6 ⟨v6, rfl, X⟩
    have E6 : Hid (Ext w.heap.size wc nilS w6 v6 ([] ++ dg (h 1) 6 ++ dg (h 0) 6 ++ dg (h 2) 2 ++ [0, 1, 8, 0, 6, 4, 0, op] ++ dg (h 0) 6 ++ dg (h 4) 4)) := E5.out.trans X
    have K6 : Blk w6 (w.heap.size + 1) 11 25 h := X.block E5.out.own K5 (by decide)
    have P6 : Hid (PBlk w6 w.heap.size h (.slice (some ⟨bB, oB, none⟩) 1 cap)) := X.block E5.out.own P5.out (by decide)
    have S6 : Hid (Sl B w6 (.slice (some ⟨bB, oB, none⟩) 1 cap) [op]) := S5.out.on ((X.below E5.out.own hb5).mono hB)
    have hb6 : w.heap.size ≤ w6.heap.size := Nat.le_trans hbc E6.out.grown.size
    clear X c4 K5 P5 S5 E5 hb5
    have hlw : Below w.heap.size w w6 := hlc.out.trans (E6.out.below Owns.isNil hbc)
    have cb := HCL.out w6 (hlw.mono hB)
    have c11 := P6.out.last
    go_wp2_with (fail)
    go_fit (put w.heap.size 6 _ 0 _ _ _ rfl (by decide) E6.out.own (by simp only [List.length_append, List.length_cons, List.length_nil, dg_len]; omega) hb6)
    rintro e w7 ⟨v7, rfl, X⟩
    have E7 : Hid (Ext w.heap.size wc nilS w7 v7 ([] ++ dg (h 1) 6 ++ dg (h 0) 6 ++ dg (h 2) 2 ++ [0, 1, 8, 0, 6, 4, 0, op] ++ dg (h 0) 6 ++ dg (h 4) 4 ++ dg 0 6)) := E6.out.trans X
    have K7 : Blk w7 (w.heap.size + 1) 11 25 h := X.block E6.out.own K6 (by decide)
    have P7 : Hid (PBlk w7 w.heap.size h (.slice (some ⟨bB, oB, none⟩) 1 cap)) := X.block E6.out.own P6.out (by decide)
    have S7 : Hid (Sl B w7 (.slice (some ⟨bB, oB, none⟩) 1 cap) [op]) := S6.out.on ((X.below E6.out.own hb6).mono hB)
    have hb7 : w.heap.size ≤ w7.heap.size := Nat.le_trans hbc E7.out.grown.size
    clear X K6 P6 S6 E6 hb6
    clear hlw cb c11
    have c5 := K7.cell 5 (by omega)
    go_wp2_with (fail)
    go_fit (put w.heap.size 4 _ (h 5) _ _ _ rfl (by decide) E7.out.own (by simp only [List.length_append, List.length_cons, List.length_nil, dg_len]; omega) hb7)
    rintro e w8 ⟨v8, rfl, X⟩
    have E8 : Hid (Ext w.heap.size wc nilS w8 v8 ([] ++ dg (h 1) 6 ++ dg (h 0) 6 ++ dg (h 2) 2 ++ [0, 1, 8, 0, 6, 4, 0, op] ++ dg (h 0) 6 ++ dg (h 4) 4 ++ dg 0 6 ++ dg (h 5) 4)) := E7.out.trans X
    have K8 : Blk w8 (w.heap.size + 1) 11 25 h := X.block E7.out.own K7 (by decide)
    have P8 : Hid (PBlk w8 w.heap.size h (.slice (some ⟨bB, oB, none⟩) 1 cap)) := X.block E7.out.own P7.out (by decide)
    have S8 : Hid (Sl B w8 (.slice (some ⟨bB, oB, none⟩) 1 cap) [op]) := S7.out.on ((X.below E7.out.own hb7).mono hB)
    have hb8 : w.heap.size ≤ w8.heap.size := Nat.le_trans hbc E8.out.grown.size
    clear X c5 K7 P7 S7 E7 hb7
    obtain ⟨gf, cf', N, hvf, hN⟩ := owned_len E8.out.own (by simp only [List.length_append, List.length_cons, List.length_nil, dg_len]; omega)
    subst hvf
    have hbig : ¬ (1514 : Int) < N := by rw [hN]; simp only [List.length_append, List.length_cons, List.length_nil, dg_len]; omega
    clear hN
    go_wp2
    go_ret2
    refine ⟨_, by rw [HF.out]; rfl, hlc.out.trans (E8.out.below Owns.isNil hbc), ?_⟩
    have hO := E8.out.own
    have hLe : bOut h [op] = [] ++ dg (h 1) 6 ++ dg (h 0) 6 ++ dg (h 2) 2 ++ [0, 1, 8, 0, 6, 4, 0, op] ++ dg (h 0) 6 ++ dg (h 4) 4 ++ dg 0 6 ++ dg (h 5) 4 := by
      rw [show bOut h [op] = pktL h [op] by simp [bOut, HF.out], HP.out, HEth.out]
      rw [← h8.out]; unfold arpL; rw [HTG.out]; simp only [List.nil_append, List.append_assoc]
    rw [hLe]
    exact hO
  · have hop2 : op = 2 := HOP.out.resolve_left hop1
    clear hop1
    have hop1 := hop2
    clear hop2
    have hx1 : (op == 1) = false := by simp [hop1]
    have hx1n : (op != 1) = true := by simp [hop1]
    have hx2n : (op != 2) = false := by simp [hop1]
    have HTG : Hid (tgt h op = h 1) := by show tgt h op = _; simp [tgt, hop1]
    clear hop1
    have cb := HCL.out wc (hlc.out.mono hB)
    have c1 := K0.cell 1 (by omega)
    go_wp2_with fail
    clear c1 c2 c11 cb
    go_fit (put w.heap.size 6 _ (h 1) _ _ _ rfl (by decide) E0.out.own (by decide) hb0)
    rintro e w1 ⟨v1, rfl, X⟩
    have E1 : Hid (Ext w.heap.size wc nilS w1 v1 ([] ++ dg (h 1) 6)) := E0.out.trans X
    have K1 : Blk w1 (w.heap.size + 1) 11 25 h := X.block E0.out.own K0 (by decide)
    have P1 : Hid (PBlk w1 w.heap.size h (.slice (some ⟨bB, oB, none⟩) 1 cap)) := X.block E0.out.own P0.out (by decide)
    have S1 : Hid (Sl B w1 (.slice (some ⟨bB, oB, none⟩) 1 cap) [op]) := S0.out.on ((X.below E0.out.own hb0).mono hB)
    have hb1 : w.heap.size ≤ w1.heap.size := Nat.le_trans hbc E1.out.grown.size
    clear X K0 P0 S0 E0 hb0
    have c0 := K1.cell 0 (by omega)
    go_wp2_with (fail)
    go_fit (put w.heap.size 6 _ (h 0) _ _ _ rfl (by decide) E1.out.own (by simp only [List.length_append, List.length_nil, dg_len]; omega) hb1)
    rintro e w2 ⟨v2, rfl, X⟩
    have E2 : Hid (Ext w.heap.size wc nilS w2 v2 ([] ++ dg (h 1) 6 ++ dg (h 0) 6)) := E1.out.trans X
    have K2 : Blk w2 (w.heap.size + 1) 11 25 h := X.block E1.out.own K1 (by decide)
    have P2 : Hid (PBlk w2 w.heap.size h (.slice (some ⟨bB, oB, none⟩) 1 cap)) := X.block E1.out.own P1.out (by decide)
    have S2 : Hid (Sl B w2 (.slice (some ⟨bB, oB, none⟩) 1 cap) [op]) := S1.out.on ((X.below E1.out.own hb1).mono hB)
    have hb2 : w.heap.size ≤ w2.heap.size := Nat.le_trans hbc E2.out.grown.size
    clear X c0 K1 P1 S1 E1 hb1
    have c3 := K2.cell 3 (by omega)
    have c2 := K2.cell 2 (by omega)
    go_wp2_with (fail)
    go_fit (put w.heap.size 2 _ (h 2) _ _ _ rfl (by decide) E2.out.own (by simp only [List.length_append, List.length_nil, dg_len]; omega) hb2)
    rintro e w3 ⟨v3, rfl, X⟩
    have E3 : Hid (Ext w.heap.size wc nilS w3 v3 ([] ++ dg (h 1) 6 ++ dg (h 0) 6 ++ dg (h 2) 2)) := E2.out.trans X
    have K3 : Blk w3 (w.heap.size + 1) 11 25 h := X.block E2.out.own K2 (by decide)
    have P3 : Hid (PBlk w3 w.heap.size h (.slice (some ⟨bB, oB, none⟩) 1 cap)) := X.block E2.out.own P2.out (by decide)
    have S3 : Hid (Sl B w3 (.slice (some ⟨bB, oB, none⟩) 1 cap) [op]) := S2.out.on ((X.below E2.out.own hb2).mono hB)
    have hb3 : w.heap.size ≤ w3.heap.size := Nat.le_trans hbc E3.out.grown.size
    clear X c2 K2 P2 S2 E2 hb2
    clear c3
    have c11 := P3.out.last
    have c2 := K3.cell 2 (by omega)
    have hlw : Below w.heap.size w w3 := hlc.out.trans (E3.out.below Owns.isNil hbc)
    have cb := HCL.out w3 (hlw.mono hB)
    have Q : Hid (Sl (w3.heap.size + 1) (w3.alloc (.cells (([0, 1, 8, 0, 6, 4, 0, op] : List Int).map (Value.int .u8)).toArray 5)) (.slice (some ⟨w3.heap.size, 0, none⟩) 8 8) [0, 1, 8, 0, 6, 4, 0, op]) := sl_lit w3 [0, 1, 8, 0, 6, 4, 0, op] (IsB.cons (by omega) (by omega) (IsB.cons (by omega) (by omega) (IsB.cons (by omega) (by omega) (IsB.cons (by omega) (by omega) (IsB.cons (by omega) (by omega) (IsB.cons (by omega) (by omega) (IsB.cons (by omega) (by omega) (IsB.cons hop0.1 hop0.2 IsB.nil)))))))) (by simp)
    go_wp2_with (at_builtin; refine app22 (.tmp 74) (.tmp 79) rfl rfl rfl rfl (E3.out.own.alloc _) Q.out (by simp; omega) (by simp only [List.length_append, List.length_cons, List.length_nil, dg_len]; omega) ?_; intro v4 w4 X; have d0 := (X.blkL E3.out.own K3).cell 0 (by omega))
    have E4 : Hid (Ext w.heap.size wc nilS w4 v4 ([] ++ dg (h 1) 6 ++ dg (h 0) 6 ++ dg (h 2) 2 ++ [0, 1, 8, 0, 6, 4, 0, op])) := E3.out.lit X
    have K4 : Blk w4 (w.heap.size + 1) 11 25 h := X.blkL E3.out.own K3
    have P4 : Hid (PBlk w4 w.heap.size h (.slice (some ⟨bB, oB, none⟩) 1 cap)) := X.block (E3.out.own.alloc _) (P3.out.alloc _) (by decide)
    have S4 : Hid (Sl B w4 (.slice (some ⟨bB, oB, none⟩) 1 cap) [op]) := (S3.out.on (((Below.refl _ _).alloc (Nat.le_refl _) _).mono (Nat.le_trans hB hb3))).on ((X.below (E3.out.own.alloc _) (by simp; omega)).mono hB)
    have hb4 : w.heap.size ≤ w4.heap.size := Nat.le_trans hbc E4.out.grown.size
    clear X Q d0 cb c11 c2 hlw K3 P3 S3 E3 hb3
    have c0 := K4.cell 0 (by omega)
    go_wp2_with (fail)
    go_fit (put w.heap.size 6 _ (h 0) _ _ _ rfl (by decide) E4.out.own (by simp only [List.length_append, List.length_cons, List.length_nil, dg_len]; omega) hb4)
    rintro e w5 ⟨v5, rfl, X⟩
    have E5 : Hid (Ext w.heap.size wc nilS w5 v5 ([] ++ dg (h 1) 6 ++ dg (h 0) 6 ++ dg (h 2) 2 ++ [0, 1, 8, 0, 6, 4, 0, op] ++ dg (h 0) 6)) := E4.out.trans X
    have K5 : Blk w5 (w.heap.size + 1) 11 25 h := X.block E4.out.own K4 (by decide)
    have P5 : Hid (PBlk w5 w.heap.size h (.slice (some ⟨bB, oB, none⟩) 1 cap)) := X.block E4.out.own P4.out (by decide)
    have S5 : Hid (Sl B w5 (.slice (some ⟨bB, oB, none⟩) 1 cap) [op]) := S4.out.on ((X.below E4.out.own hb4).mono hB)
    have hb5 : w.heap.size ≤ w5.heap.size := Nat.le_trans hbc E5.out.grown.size
    clear X c0 K4 P4 S4 E4 hb4
    have c4 := K5.cell 4 (by omega)
    go_wp2_with (fail)
    go_fit (put w.heap.size 4 _ (h 4) _ _ _ rfl (by decide) E5.out.own (by simp only [List.length_append, List.length_cons, List.length_nil, dg_len]; omega) hb5)
    rintro e w6 ⟨v6, rfl, X⟩
    have E6 : Hid (Ext w.heap.size wc nilS w6 v6 ([] ++ dg (h 1) 6 ++ dg (h 0) 6 ++ dg (h 2) 2 ++ [0, 1, 8, 0, 6, 4, 0, op] ++ dg (h 0) 6 ++ dg (h 4) 4)) := E5.out.trans X
    have K6 : Blk w6 (w.heap.size + 1) 11 25 h := X.block E5.out.own K5 (by decide)
    have P6 : Hid (PBlk w6 w.heap.size h (.slice (some ⟨bB, oB, none⟩) 1 cap)) := X.block E5.out.own P5.out (by decide)
    have S6 : Hid (Sl B w6 (.slice (some ⟨bB, oB, none⟩) 1 cap) [op]) := S5.out.on ((X.below E5.out.own hb5).mono hB)
    have hb6 : w.heap.size ≤ w6.heap.size := Nat.le_trans hbc E6.out.grown.size
    clear X c4 K5 P5 S5 E5 hb5
    have hlw : Below w.heap.size w w6 := hlc.out.trans (E6.out.below Owns.isNil hbc)
    have cb := HCL.out w6 (hlw.mono hB)
    have c11 := P6.out.last
    have c1 := K6.cell 1 (by omega)
    go_wp2_with (fail)
    go_fit (put w.heap.size 6 _ (h 1) _ _ _ rfl (by decide) E6.out.own (by simp only [List.length_append, List.length_cons, List.length_nil, dg_len]; omega) hb6)
    rintro e w7 ⟨v7, rfl, X⟩
    have E7 : Hid (Ext w.heap.size wc nilS w7 v7 ([] ++ dg (h 1) 6 ++ dg (h 0) 6 ++ dg (h 2) 2 ++ [0, 1, 8, 0, 6, 4, 0, op] ++ dg (h 0) 6 ++ dg (h 4) 4 ++ dg (h 1) 6)) := E6.out.trans X
    have K7 : Blk w7 (w.heap.size + 1) 11 25 h := X.block E6.out.own K6 (by decide)
    have P7 : Hid (PBlk w7 w.heap.size h (.slice (some ⟨bB, oB, none⟩) 1 cap)) := X.block E6.out.own P6.out (by decide)
    have S7 : Hid (Sl B w7 (.slice (some ⟨bB, oB, none⟩) 1 cap) [op]) := S6.out.on ((X.below E6.out.own hb6).mono hB)
    have hb7 : w.heap.size ≤ w7.heap.size := Nat.le_trans hbc E7.out.grown.size
    clear X c1 K6 P6 S6 E6 hb6
    clear hlw cb c11
    have c5 := K7.cell 5 (by omega)
    go_wp2_with (fail)
    go_fit (put w.heap.size 4 _ (h 5) _ _ _ rfl (by decide) E7.out.own (by simp only [List.length_append, List.length_cons, List.length_nil, dg_len]; omega) hb7)
    rintro e w8 ⟨v8, rfl, X⟩
    have E8 : Hid (Ext w.heap.size wc nilS w8 v8 ([] ++ dg (h 1) 6 ++ dg (h 0) 6 ++ dg (h 2) 2 ++ [0, 1, 8, 0, 6, 4, 0, op] ++ dg (h 0) 6 ++ dg (h 4) 4 ++ dg (h 1) 6 ++ dg (h 5) 4)) := E7.out.trans X
    have K8 : Blk w8 (w.heap.size + 1) 11 25 h := X.block E7.out.own K7 (by decide)
    have P8 : Hid (PBlk w8 w.heap.size h (.slice (some ⟨bB, oB, none⟩) 1 cap)) := X.block E7.out.own P7.out (by decide)
    have S8 : Hid (Sl B w8 (.slice (some ⟨bB, oB, none⟩) 1 cap) [op]) := S7.out.on ((X.below E7.out.own hb7).mono hB)
    have hb8 : w.heap.size ≤ w8.heap.size := Nat.le_trans hbc E8.out.grown.size
    clear X c5 K7 P7 S7 E7 hb7
    obtain ⟨gf, cf', N, hvf, hN⟩ := owned_len E8.out.own (by simp only [List.length_append, List.length_cons, List.length_nil, dg_len]; omega)
    subst hvf
    have hbig : ¬ (1514 : Int) < N := by rw [hN]; simp only [List.length_append, List.length_cons, List.length_nil, dg_len]; omega
    clear hN
    go_wp2
    go_ret2
    refine ⟨_, by rw [HF.out]; rfl, hlc.out.trans (E8.out.below Owns.isNil hbc), ?_⟩
    have hO := E8.out.own
    have hLe : bOut h [op] = [] ++ dg (h 1) 6 ++ dg (h 0) 6 ++ dg (h 2) 2 ++ [0, 1, 8, 0, 6, 4, 0, op] ++ dg (h 0) 6 ++ dg (h 4) 4 ++ dg (h 1) 6 ++ dg (h 5) 4 := by
      rw [show bOut h [op] = pktL h [op] by simp [bOut, HF.out], HP.out, HEth.out]
      rw [← h8.out]; unfold arpL; rw [HTG.out]; simp only [List.nil_append, List.append_assoc]
    rw [hLe]
    exact hO

set_option maxRecDepth 100000 in
set_option maxHeartbeats 6400000 in
theorem rb_ip_u (B : Nat) (h : Nat → Int) (ao : Option Addr) (cap : Nat) (bs : List Int) (w : World) (hB : B ≤ w.heap.size) (hs : Sl B w (.slice ao bs.length cap) bs) (h1 : hOk h = true) (hv3 : h 3 = 0) (k2 : h 2 = 2048) :
    Calls Tryd.prog 15 #[pv h (.slice ao bs.length cap)] w fun e w' => ∃ v', e = .returned (.tuple #[v', .int .i64 (bErr h bs)]) ∧ Below w.heap.size w w' ∧ Owns w.heap.size w' v' (bOut h bs) := by
  have HE : Hid (bErr h bs = if 1500 - ahead h < bs.length then 3 else 0) := bErr_ok h1 (fun e => absurd e (by omega))
  have HP : Hid (pktL h bs = ethL h ++ (ipL h (ahead h + bs.length) ++ bs)) := by show pktL h bs = _; simp [pktL, k2]
  have haz : ahead h = 20 + psz (h 6) := by simp [ahead, k2]
  have hps := psz_bd (h 6)
  have hd1 : (h 2 == 2054) = false := by simp [k2]
  have hd2 : (h 2 == 2048) = true := by simp [k2]
  have hisB := hs.isB
  clear k2
  have hd3 : (h 3 != 0) = false := by simp [hv3]
  have HV3 : Hid (h 3 = 0) := hv3
  clear hv3
  have HEth : Hid (ethL h = dg (h 1) 6 ++ (dg (h 0) 6 ++ dg (h 2) 2)) := by show ethL h = _; simp only [ethL, tagL, if_pos HV3.out, List.nil_append]
  have hlen := hs.len
  have hah := ahead_bd h
  obtain ⟨wa, hwa⟩ : ∃ wa, wa = (w.alloc (.cells (prow h (.slice ao bs.length cap)) 27)).alloc (.cells (row 11 h) 25) := ⟨_, rfl⟩
  have hla : Below w.heap.size w wa := by rw [hwa]; exact ((Below.refl _ _).alloc (Nat.le_refl _) _).alloc (by simp) _
  have PA : Hid (PBlk wa w.heap.size h (.slice ao bs.length cap)) := by rw [hwa]; exact (PBlk.new w h (.slice ao bs.length cap)).alloc _
  have KA : Blk wa (w.heap.size + 1) 11 25 h := by rw [hwa]; exact Blk.new1 w _ 11 25 h
  have SA : Hid (Sl B wa (.slice ao bs.length cap) bs) := hs.on (hla.mono hB)
  have HC : Hid (Calls Tryd.prog 25 #[hv h] wa fun e w' => e = .returned (.int .i64 0) ∧ Below wa.heap.size wa w') := by
    have := rcheck_any h wa
    rwa [rchk_eq, show chk h = 0 by simp [chk, h1]] at this
  have HWA : Hid (wa = (w.alloc (.cells (prow h (.slice ao bs.length cap)) 27)).alloc (.cells (row 11 h) 25)) := hwa
  have P0' : Hid (PBlk (w.alloc (.cells (prow h (.slice ao bs.length cap)) 27)) w.heap.size h (.slice ao bs.length cap)) := PBlk.new _ _ _
  have K0' : Hid (Blk ((w.alloc (.cells (prow h (.slice ao bs.length cap)) 27)).alloc (.cells (row 11 h) 25)) (w.heap.size + 1) 11 25 h) := Blk.new1 w _ 11 25 h
  have K0'' : Hid (Blk ((w.alloc (.cells (prow h (.slice ao bs.length cap)) 27)).alloc (.cells (row 11 h) 25)) (w.alloc (.cells (prow h (.slice ao bs.length cap)) 27)).heap.size 11 25 h) := Blk.new _ 11 25 h
  clear hwa hs
  go_enter Tryd.func15, Tryd.ntmps15
  go_wp2_with (first | (refine ldPH (.tmp 9) rfl _ rfl rfl h (.slice ao bs.length cap) P0'.out ?_) | (refine alc25 rfl rfl ?_) | (refine st25n (.tmp 4) (.tmp 10) rfl (w.alloc (.cells (prow h (.slice ao bs.length cap)) 27)) zf rfl rfl h rfl rfl ?_) | (refine ld25 (.tmp 4) rfl _ rfl rfl h K0''.out ?_) | (refine ld25 (.tmp 4) rfl _ rfl rfl h K0'.out ?_))
  rw [← HWA.out]
  go_fit HC.out
  rintro e wc ⟨rfl, hbc'⟩
  have hlc : Hid (Below w.heap.size w wc) := hla.trans (hbc'.mono hla.size)
  have PC0 : Hid (PBlk wc w.heap.size h (.slice ao bs.length cap)) := PA.out.on hbc'
  have KC : Blk wc (w.heap.size + 1) 11 25 h := KA.on hbc'
  have SC : Hid (Sl B wc (.slice ao bs.length cap) bs) := SA.out.on (hbc'.mono (Nat.le_trans hB hla.size))
  have hbc : w.heap.size ≤ wc.heap.size := hlc.out.size
  clear hla PA KA SA HC HWA P0' K0' K0'' hbc' h1
  have c2 := KC.cell 2 (by omega)
  have c11 := PC0.out.last
  have E0 : Hid (Ext w.heap.size wc nilS wc nilS []) := Ext.refl Owns.isNil
  have K0 : Blk wc (w.heap.size + 1) 11 25 h := KC
  have P0 : Hid (PBlk wc w.heap.size h (.slice ao bs.length cap)) := PC0
  have S0 : Hid (Sl B wc (.slice ao bs.length cap) bs) := SC
  have hb0 : w.heap.size ≤ wc.heap.size := hbc
  have c1 := K0.cell 1 (by omega)
  go_wp2_with fail
  clear c1 c2 c11
  go_fit (put w.heap.size 6 _ (h 1) _ _ _ rfl (by decide) E0.out.own (by decide) hb0)
  rintro e w1 ⟨v1, rfl, X⟩
  have E1 : Hid (Ext w.heap.size wc nilS w1 v1 ([] ++ dg (h 1) 6)) := E0.out.trans X
  have K1 : Blk w1 (w.heap.size + 1) 11 25 h := X.block E0.out.own K0 (by decide)
  have P1 : Hid (PBlk w1 w.heap.size h (.slice ao bs.length cap)) := X.block E0.out.own P0.out (by decide)
  have S1 : Hid (Sl B w1 (.slice ao bs.length cap) bs) := S0.out.on ((X.below E0.out.own hb0).mono hB)
  have hb1 : w.heap.size ≤ w1.heap.size := Nat.le_trans hbc E1.out.grown.size
  clear X K0 P0 S0 E0 hb0
  have c0 := K1.cell 0 (by omega)
  go_wp2_with (fail)
  go_fit (put w.heap.size 6 _ (h 0) _ _ _ rfl (by decide) E1.out.own (by simp only [List.length_append, List.length_nil, dg_len]; omega) hb1)
  rintro e w2 ⟨v2, rfl, X⟩
  have E2 : Hid (Ext w.heap.size wc nilS w2 v2 ([] ++ dg (h 1) 6 ++ dg (h 0) 6)) := E1.out.trans X
  have K2 : Blk w2 (w.heap.size + 1) 11 25 h := X.block E1.out.own K1 (by decide)
  have P2 : Hid (PBlk w2 w.heap.size h (.slice ao bs.length cap)) := X.block E1.out.own P1.out (by decide)
  have S2 : Hid (Sl B w2 (.slice ao bs.length cap) bs) := S1.out.on ((X.below E1.out.own hb1).mono hB)
  have hb2 : w.heap.size ≤ w2.heap.size := Nat.le_trans hbc E2.out.grown.size
  clear X c0 K1 P1 S1 E1 hb1
  have c3 := K2.cell 3 (by omega)
  have c2 := K2.cell 2 (by omega)
  go_wp2_with (fail)
  go_fit (put w.heap.size 2 _ (h 2) _ _ _ rfl (by decide) E2.out.own (by simp only [List.length_append, List.length_nil, dg_len]; omega) hb2)
  rintro e w3 ⟨v3, rfl, X⟩
  have E3 : Hid (Ext w.heap.size wc nilS w3 v3 ([] ++ dg (h 1) 6 ++ dg (h 0) 6 ++ dg (h 2) 2)) := E2.out.trans X
  have K3 : Blk w3 (w.heap.size + 1) 11 25 h := X.block E2.out.own K2 (by decide)
  have P3 : Hid (PBlk w3 w.heap.size h (.slice ao bs.length cap)) := X.block E2.out.own P2.out (by decide)
  have S3 : Hid (Sl B w3 (.slice ao bs.length cap) bs) := S2.out.on ((X.below E2.out.own hb2).mono hB)
  have hb3 : w.heap.size ≤ w3.heap.size := Nat.le_trans hbc E3.out.grown.size
  clear X c2 K2 P2 S2 E2 hb2
  clear c3
  have c11 := P3.out.last
  have c2 := K3.cell 2 (by omega)
  by_cases hmost : (1514 : Int) < bs.length
  · have HF : Hid (bErr h bs = 3) := by show bErr h bs = 3; rw [HE.out, if_pos (by omega)]
    have hlow : Hid (Below w.heap.size w w3) := hlc.out.trans (E3.out.below Owns.isNil hbc)
    go_wp2
    go_ret2
    refine ⟨nilS, by rw [HF.out]; rfl, hlow.out, ?_⟩
    rw [show bOut h bs = [] by simp [bOut, HF.out]]
    exact Owns.isNil
  · go_wp2_with (refine ld25 (.tmp 4) rfl _ rfl rfl h K3 ?_)
    go_fit (rports w3.heap.size h bs.length w3 (by omega) (by omega) (Nat.le_refl _))
    rintro e wp ⟨vp, rfl, Xp⟩
    have hbp := Xp.belowNil
    obtain ⟨PL, hPL⟩ : ∃ PL, PL = portsL h (8 + bs.length) := ⟨_, rfl⟩
    have hpl := portsL_len h (8 + bs.length)
    have hpB := portsL_isB h (8 + bs.length)
    rw [← hPL] at hpl hpB Xp
    have HPL : Hid (PL = portsL h (psz (h 6) + bs.length)) := by rw [hPL]; exact ports_eq h bs.length
    have Ep : Hid (Ext w.heap.size wc nilS wp v3 ([] ++ dg (h 1) 6 ++ dg (h 0) 6 ++ dg (h 2) 2)) := E3.out.on hbp
    have Kp : Blk wp (w.heap.size + 1) 11 25 h := K3.on hbp
    have Pp : Hid (PBlk wp w.heap.size h (.slice ao bs.length cap)) := P3.out.on hbp
    have Sp : Hid (Sl B wp (.slice ao bs.length cap) bs) := S3.out.on (hbp.mono (Nat.le_trans hB hb3))
    have Op : Hid (Owns w3.heap.size wp vp PL) := Xp.own
    have hlt := fun k hk => (E3.out.own.lt k hk).2
    obtain ⟨aop, cp, rfl⟩ := Op.out.sliceLen
    clear Xp hbp hPL E3 K3 P3 S3 c11 c2
    have c11 := Pp.out.last
    go_wp2_with (refine ld25 (.tmp 4) rfl _ rfl rfl h Kp ?_)
    go_fit (rhead wp.heap.size h (psz (h 6) + bs.length) wp (by omega) (by omega) (Nat.le_refl _))
    rintro e wh ⟨vh, rfl, Xh⟩
    have hbh' := Xh.belowNil
    obtain ⟨HL, hHL⟩ : ∃ HL, HL = headL h (20 + (psz (h 6) + bs.length)) (hsum h (20 + (psz (h 6) + bs.length))) := ⟨_, rfl⟩
    have hhl : HL.length = 20 := by rw [hHL, headL_len]
    have hhB : IsB HL := by rw [hHL]; exact headL_isB _ _ _
    rw [← hHL] at Xh
    have HHL : Hid (HL = headL h (ahead h + bs.length) (hsum h (ahead h + bs.length))) := by
      rw [hHL, show (20 : Int) + (psz (h 6) + bs.length) = ahead h + bs.length by omega]; rfl
    have Eh : Hid (Ext w.heap.size wc nilS wh v3 ([] ++ dg (h 1) 6 ++ dg (h 0) 6 ++ dg (h 2) 2)) := Ep.out.on hbh'
    have Ph : Hid (PBlk wh w.heap.size h (.slice ao bs.length cap)) := Pp.out.on hbh'
    have hbp2 : w.heap.size ≤ wp.heap.size := Nat.le_trans hbc Ep.out.grown.size
    have Sh : Hid (Sl B wh (.slice ao bs.length cap) bs) := Sp.out.on (hbh'.mono (Nat.le_trans hB hbp2))
    have Oh : Hid (Owns w3.heap.size wh (.slice aop PL.length cp) PL) := Op.out.on hbh'
    have SH : Hid (Sl wh.heap.size wh vh HL) := Sl.own Xh.own (by omega) hhB
    have hbh : w.heap.size ≤ wh.heap.size := Nat.le_trans hbc Eh.out.grown.size
    clear Xh hbh' hHL Ep Kp Pp Sp Op c11
    by_cases hlong : 1500 - ahead h < bs.length
    · have HF : Hid (bErr h bs = 3) := by show bErr h bs = 3; rw [HE.out, if_pos hlong]
      go_wp2_with (first | (at_builtin; refine app22 (.tmp 111) (.tmp 119) rfl rfl rfl rfl Eh.out.own SH.out hbh (by simp only [List.length_append, List.length_nil, dg_len, hhl]; omega) ?_; intro va wa Xa; have Oa := Oh.out.beside Eh.out.own Xa hlt; have Sa := Sl.own Oa (by omega) hpB; have hba : w.heap.size ≤ wa.heap.size := Nat.le_trans hbh Xa.grown.size; have Sba := Sh.out.on ((Xa.below Eh.out.own hbh).mono hB); have Pa : Hid (PBlk wa w.heap.size h (.slice ao bs.length cap)) := Xa.block Eh.out.own Ph.out (by decide)) | (at_builtin; refine app22 (.tmp 121) (.tmp 122) rfl rfl rfl rfl Xa.own Sa hba (by simp only [List.length_append, List.length_nil, dg_len, hhl]; omega) ?_; intro vb' wb Xb; have hbb : w.heap.size ≤ wb.heap.size := Nat.le_trans hba Xb.grown.size; have Sbb := Sba.on ((Xb.below Xa.own hba).mono hB); have cbb := PBlk.last (w := wb) (b := w.heap.size) (h := h) (v := (.slice ao bs.length cap)) (Xb.block Xa.own Pa.out (by decide))) | (at_builtin; refine app22 (.tmp 124) (.tmp 126) rfl rfl rfl rfl Xb.own Sbb hbb (by simp only [List.length_append, List.length_nil, dg_len, hhl]; omega) ?_; intro vf wf Xf; obtain ⟨gf, cf', N, hvf, hN⟩ := owned_len Xf.own (by simp only [List.length_append, List.length_nil, dg_len, hhl]; omega); subst hvf; have hbig : (1514 : Int) < N := (by rw [hN]; simp only [List.length_append, List.length_nil, dg_len, hhl]; omega); clear hN))
      go_ret2
      have hO : Below w.heap.size w wf := hlc.out.trans ((((Eh.out.trans Xa).trans Xb).trans Xf).below Owns.isNil hbc)
      refine ⟨nilS, by rw [HF.out]; rfl, hO, ?_⟩
      rw [show bOut h bs = [] by simp [bOut, HF.out]]
      exact Owns.isNil
    · have HF : Hid (bErr h bs = 0) := by show bErr h bs = 0; rw [HE.out, if_neg hlong]
      go_wp2_with (first | (at_builtin; refine app22 (.tmp 111) (.tmp 119) rfl rfl rfl rfl Eh.out.own SH.out hbh (by simp only [List.length_append, List.length_nil, dg_len, hhl]; omega) ?_; intro va wa Xa; have Oa := Oh.out.beside Eh.out.own Xa hlt; have Sa := Sl.own Oa (by omega) hpB; have hba : w.heap.size ≤ wa.heap.size := Nat.le_trans hbh Xa.grown.size; have Sba := Sh.out.on ((Xa.below Eh.out.own hbh).mono hB); have Pa : Hid (PBlk wa w.heap.size h (.slice ao bs.length cap)) := Xa.block Eh.out.own Ph.out (by decide)) | (at_builtin; refine app22 (.tmp 121) (.tmp 122) rfl rfl rfl rfl Xa.own Sa hba (by simp only [List.length_append, List.length_nil, dg_len, hhl]; omega) ?_; intro vb' wb Xb; have hbb : w.heap.size ≤ wb.heap.size := Nat.le_trans hba Xb.grown.size; have Sbb := Sba.on ((Xb.below Xa.own hba).mono hB); have cbb := PBlk.last (w := wb) (b := w.heap.size) (h := h) (v := (.slice ao bs.length cap)) (Xb.block Xa.own Pa.out (by decide))) | (at_builtin; refine app22 (.tmp 124) (.tmp 126) rfl rfl rfl rfl Xb.own Sbb hbb (by simp only [List.length_append, List.length_nil, dg_len, hhl]; omega) ?_; intro vf wf Xf; obtain ⟨gf, cf', N, hvf, hN⟩ := owned_len Xf.own (by simp only [List.length_append, List.length_nil, dg_len, hhl]; omega); subst hvf; have hbig : ¬ (1514 : Int) < N := (by rw [hN]; simp only [List.length_append, List.length_nil, dg_len, hhl]; omega); clear hN))
      go_ret2
      have hOl : Below w.heap.size w wf := hlc.out.trans ((((Eh.out.trans Xa).trans Xb).trans Xf).below Owns.isNil hbc)
      refine ⟨_, by rw [HF.out]; rfl, hOl, ?_⟩
      have hO := Xf.own
      have hLe : bOut h bs = [] ++ dg (h 1) 6 ++ dg (h 0) 6 ++ dg (h 2) 2 ++ HL ++ PL ++ bs := by
        rw [show bOut h bs = pktL h bs by simp [bOut, HF.out], HP.out, HEth.out]
        unfold ipL; rw [show ahead h + (bs.length : Int) - 20 = psz (h 6) + bs.length by omega, ← HPL.out, ← HHL.out]; simp only [List.nil_append, List.append_assoc]
      rw [hLe]
      exact hO

set_option maxRecDepth 100000 in
set_option maxHeartbeats 6400000 in
theorem rb_other_t (B : Nat) (h : Nat → Int) (ao : Option Addr) (cap : Nat) (bs : List Int) (w : World) (hB : B ≤ w.heap.size) (hs : Sl B w (.slice ao bs.length cap) bs) (h1 : hOk h = true) (hv3 : ¬ h 3 = 0) (k1 : ¬ h 2 = 2054) (k2 : ¬ h 2 = 2048) :
    Calls Tryd.prog 15 #[pv h (.slice ao bs.length cap)] w fun e w' => ∃ v', e = .returned (.tuple #[v', .int .i64 (bErr h bs)]) ∧ Below w.heap.size w w' ∧ Owns w.heap.size w' v' (bOut h bs) := by
  have HE : Hid (bErr h bs = if 1500 - ahead h < bs.length then 3 else 0) := bErr_ok h1 (fun e => absurd e k1)
  have HP : Hid (pktL h bs = ethL h ++ bs) := by show pktL h bs = _; simp [pktL, k1, k2]
  have hah0 : ahead h = 0 := by simp [ahead, k1, k2]
  have hd1 : (h 2 == 2054) = false := by simp [k1]
  have hd2 : (h 2 == 2048) = false := by simp [k2]
  clear k1 k2
  have hd3 : (h 3 != 0) = true := by simp [hv3]
  have HV3 : Hid (¬ h 3 = 0) := hv3
  clear hv3
  have HEth : Hid (ethL h = dg (h 1) 6 ++ (dg (h 0) 6 ++ (dg 33024 2 ++ (dg (h 3) 2 ++ dg (h 2) 2)))) := by show ethL h = _; simp only [ethL, tagL, if_neg HV3.out, List.append_assoc]
  have hlen := hs.len
  have hah := ahead_bd h
  obtain ⟨wa, hwa⟩ : ∃ wa, wa = (w.alloc (.cells (prow h (.slice ao bs.length cap)) 27)).alloc (.cells (row 11 h) 25) := ⟨_, rfl⟩
  have hla : Below w.heap.size w wa := by rw [hwa]; exact ((Below.refl _ _).alloc (Nat.le_refl _) _).alloc (by simp) _
  have PA : Hid (PBlk wa w.heap.size h (.slice ao bs.length cap)) := by rw [hwa]; exact (PBlk.new w h (.slice ao bs.length cap)).alloc _
  have KA : Blk wa (w.heap.size + 1) 11 25 h := by rw [hwa]; exact Blk.new1 w _ 11 25 h
  have SA : Hid (Sl B wa (.slice ao bs.length cap) bs) := hs.on (hla.mono hB)
  have HC : Hid (Calls Tryd.prog 25 #[hv h] wa fun e w' => e = .returned (.int .i64 0) ∧ Below wa.heap.size wa w') := by
    have := rcheck_any h wa
    rwa [rchk_eq, show chk h = 0 by simp [chk, h1]] at this
  have HWA : Hid (wa = (w.alloc (.cells (prow h (.slice ao bs.length cap)) 27)).alloc (.cells (row 11 h) 25)) := hwa
  have P0' : Hid (PBlk (w.alloc (.cells (prow h (.slice ao bs.length cap)) 27)) w.heap.size h (.slice ao bs.length cap)) := PBlk.new _ _ _
  have K0' : Hid (Blk ((w.alloc (.cells (prow h (.slice ao bs.length cap)) 27)).alloc (.cells (row 11 h) 25)) (w.heap.size + 1) 11 25 h) := Blk.new1 w _ 11 25 h
  have K0'' : Hid (Blk ((w.alloc (.cells (prow h (.slice ao bs.length cap)) 27)).alloc (.cells (row 11 h) 25)) (w.alloc (.cells (prow h (.slice ao bs.length cap)) 27)).heap.size 11 25 h) := Blk.new _ 11 25 h
  clear hwa hs
  go_enter Tryd.func15, Tryd.ntmps15
  go_wp2_with (first | (refine ldPH (.tmp 9) rfl _ rfl rfl h (.slice ao bs.length cap) P0'.out ?_) | (refine alc25 rfl rfl ?_) | (refine st25n (.tmp 4) (.tmp 10) rfl (w.alloc (.cells (prow h (.slice ao bs.length cap)) 27)) zf rfl rfl h rfl rfl ?_) | (refine ld25 (.tmp 4) rfl _ rfl rfl h K0''.out ?_) | (refine ld25 (.tmp 4) rfl _ rfl rfl h K0'.out ?_))
  rw [← HWA.out]
  go_fit HC.out
  rintro e wc ⟨rfl, hbc'⟩
  have hlc : Hid (Below w.heap.size w wc) := hla.trans (hbc'.mono hla.size)
  have PC0 : Hid (PBlk wc w.heap.size h (.slice ao bs.length cap)) := PA.out.on hbc'
  have KC : Blk wc (w.heap.size + 1) 11 25 h := KA.on hbc'
  have SC : Hid (Sl B wc (.slice ao bs.length cap) bs) := SA.out.on (hbc'.mono (Nat.le_trans hB hla.size))
  have hbc : w.heap.size ≤ wc.heap.size := hlc.out.size
  clear hla PA KA SA HC HWA P0' K0' K0'' hbc' h1
  have c2 := KC.cell 2 (by omega)
  have c11 := PC0.out.last
  have E0 : Hid (Ext w.heap.size wc nilS wc nilS []) := Ext.refl Owns.isNil
  have K0 : Blk wc (w.heap.size + 1) 11 25 h := KC
  have P0 : Hid (PBlk wc w.heap.size h (.slice ao bs.length cap)) := PC0
  have S0 : Hid (Sl B wc (.slice ao bs.length cap) bs) := SC
  have hb0 : w.heap.size ≤ wc.heap.size := hbc
  have c1 := K0.cell 1 (by omega)
  go_wp2_with fail
  clear c1 c2 c11
  go_fit (put w.heap.size 6 _ (h 1) _ _ _ rfl (by decide) E0.out.own (by decide) hb0)
  rintro e w1 ⟨v1, rfl, X⟩
  have E1 : Hid (Ext w.heap.size wc nilS w1 v1 ([] ++ dg (h 1) 6)) := E0.out.trans X
  have K1 : Blk w1 (w.heap.size + 1) 11 25 h := X.block E0.out.own K0 (by decide)
  have P1 : Hid (PBlk w1 w.heap.size h (.slice ao bs.length cap)) := X.block E0.out.own P0.out (by decide)
  have S1 : Hid (Sl B w1 (.slice ao bs.length cap) bs) := S0.out.on ((X.below E0.out.own hb0).mono hB)
  have hb1 : w.heap.size ≤ w1.heap.size := Nat.le_trans hbc E1.out.grown.size
  clear X K0 P0 S0 E0 hb0
  have c0 := K1.cell 0 (by omega)
  go_wp2_with (fail)
  go_fit (put w.heap.size 6 _ (h 0) _ _ _ rfl (by decide) E1.out.own (by simp only [List.length_append, List.length_nil, dg_len]; omega) hb1)
  rintro e w2 ⟨v2, rfl, X⟩
  have E2 : Hid (Ext w.heap.size wc nilS w2 v2 ([] ++ dg (h 1) 6 ++ dg (h 0) 6)) := E1.out.trans X
  have K2 : Blk w2 (w.heap.size + 1) 11 25 h := X.block E1.out.own K1 (by decide)
  have P2 : Hid (PBlk w2 w.heap.size h (.slice ao bs.length cap)) := X.block E1.out.own P1.out (by decide)
  have S2 : Hid (Sl B w2 (.slice ao bs.length cap) bs) := S1.out.on ((X.below E1.out.own hb1).mono hB)
  have hb2 : w.heap.size ≤ w2.heap.size := Nat.le_trans hbc E2.out.grown.size
  clear X c0 K1 P1 S1 E1 hb1
  have c3 := K2.cell 3 (by omega)
  go_wp2_with (fail)
  go_fit (put w.heap.size 2 _ 33024 _ _ _ rfl (by decide) E2.out.own (by simp only [List.length_append, List.length_nil, dg_len]; omega) hb2)
  rintro e w3 ⟨v3, rfl, X⟩
  have E3 : Hid (Ext w.heap.size wc nilS w3 v3 ([] ++ dg (h 1) 6 ++ dg (h 0) 6 ++ dg 33024 2)) := E2.out.trans X
  have K3 : Blk w3 (w.heap.size + 1) 11 25 h := X.block E2.out.own K2 (by decide)
  have P3 : Hid (PBlk w3 w.heap.size h (.slice ao bs.length cap)) := X.block E2.out.own P2.out (by decide)
  have S3 : Hid (Sl B w3 (.slice ao bs.length cap) bs) := S2.out.on ((X.below E2.out.own hb2).mono hB)
  have hb3 : w.heap.size ≤ w3.heap.size := Nat.le_trans hbc E3.out.grown.size
  clear X K2 P2 S2 E2 hb2
  clear c3
  have c3 := K3.cell 3 (by omega)
  go_wp2_with (fail)
  go_fit (put w.heap.size 2 _ (h 3) _ _ _ rfl (by decide) E3.out.own (by simp only [List.length_append, List.length_nil, dg_len]; omega) hb3)
  rintro e w4 ⟨v4, rfl, X⟩
  have E4 : Hid (Ext w.heap.size wc nilS w4 v4 ([] ++ dg (h 1) 6 ++ dg (h 0) 6 ++ dg 33024 2 ++ dg (h 3) 2)) := E3.out.trans X
  have K4 : Blk w4 (w.heap.size + 1) 11 25 h := X.block E3.out.own K3 (by decide)
  have P4 : Hid (PBlk w4 w.heap.size h (.slice ao bs.length cap)) := X.block E3.out.own P3.out (by decide)
  have S4 : Hid (Sl B w4 (.slice ao bs.length cap) bs) := S3.out.on ((X.below E3.out.own hb3).mono hB)
  have hb4 : w.heap.size ≤ w4.heap.size := Nat.le_trans hbc E4.out.grown.size
  clear X c3 K3 P3 S3 E3 hb3
  have c2 := K4.cell 2 (by omega)
  go_wp2_with (fail)
  go_fit (put w.heap.size 2 _ (h 2) _ _ _ rfl (by decide) E4.out.own (by simp only [List.length_append, List.length_nil, dg_len]; omega) hb4)
  rintro e w5 ⟨v5, rfl, X⟩
  have E5 : Hid (Ext w.heap.size wc nilS w5 v5 ([] ++ dg (h 1) 6 ++ dg (h 0) 6 ++ dg 33024 2 ++ dg (h 3) 2 ++ dg (h 2) 2)) := E4.out.trans X
  have K5 : Blk w5 (w.heap.size + 1) 11 25 h := X.block E4.out.own K4 (by decide)
  have P5 : Hid (PBlk w5 w.heap.size h (.slice ao bs.length cap)) := X.block E4.out.own P4.out (by decide)
  have S5 : Hid (Sl B w5 (.slice ao bs.length cap) bs) := S4.out.on ((X.below E4.out.own hb4).mono hB)
  have hb5 : w.heap.size ≤ w5.heap.size := Nat.le_trans hbc E5.out.grown.size
  clear X c2 K4 P4 S4 E4 hb4
  have c11 := P5.out.last
  have c2 := K5.cell 2 (by omega)
  by_cases hmost : (1518 : Int) < bs.length
  · have HF : Hid (bErr h bs = 3) := by show bErr h bs = 3; rw [HE.out, if_pos (by omega)]
    have hlow : Hid (Below w.heap.size w w5) := hlc.out.trans (E5.out.below Owns.isNil hbc)
    go_wp2
    go_ret2
    refine ⟨nilS, by rw [HF.out]; rfl, hlow.out, ?_⟩
    rw [show bOut h bs = [] by simp [bOut, HF.out]]
    exact Owns.isNil
  · by_cases hlong : 1500 - ahead h < bs.length
    · have HF : Hid (bErr h bs = 3) := by show bErr h bs = 3; rw [HE.out, if_pos hlong]
      go_wp2_with (at_builtin; refine app22 (.tmp 68) (.tmp 70) rfl rfl rfl rfl E5.out.own S5.out hb5 (by simp only [List.length_append, List.length_nil, dg_len]; omega) ?_; intro vf wf X; obtain ⟨gf, cf', N, hvf, hN⟩ := owned_len X.own (by simp only [List.length_append, List.length_nil, dg_len]; omega); subst hvf; have hbig : (1518 : Int) < N := (by rw [hN]; simp only [List.length_append, List.length_nil, dg_len]; omega); clear hN)
      go_ret2
      refine ⟨nilS, by rw [HF.out]; rfl, hlc.out.trans ((E5.out.trans X).below Owns.isNil hbc), ?_⟩
      rw [show bOut h bs = [] by simp [bOut, HF.out]]
      exact Owns.isNil
    · have HF : Hid (bErr h bs = 0) := by show bErr h bs = 0; rw [HE.out, if_neg hlong]
      go_wp2_with (at_builtin; refine app22 (.tmp 68) (.tmp 70) rfl rfl rfl rfl E5.out.own S5.out hb5 (by simp only [List.length_append, List.length_nil, dg_len]; omega) ?_; intro vf wf X; obtain ⟨gf, cf', N, hvf, hN⟩ := owned_len X.own (by simp only [List.length_append, List.length_nil, dg_len]; omega); subst hvf; have hbig : ¬ (1518 : Int) < N := (by rw [hN]; simp only [List.length_append, List.length_nil, dg_len]; omega); clear hN)
      go_ret2
      refine ⟨_, by rw [HF.out]; rfl, hlc.out.trans ((E5.out.trans X).below Owns.isNil hbc), ?_⟩
      have hO := X.own
      have hLe : bOut h bs = [] ++ dg (h 1) 6 ++ dg (h 0) 6 ++ dg 33024 2 ++ dg (h 3) 2 ++ dg (h 2) 2 ++ bs := by
        rw [show bOut h bs = pktL h bs by simp [bOut, HF.out], HP.out, HEth.out]
        simp only [List.nil_append, List.append_assoc]
      rw [hLe]
      exact hO

set_option maxRecDepth 100000 in
set_option maxHeartbeats 6400000 in
theorem rb_arp_t (B : Nat) (h : Nat → Int) (bB oB cap : Nat) (op : Int) (w : World) (hB : B ≤ w.heap.size) (hs : Sl B w (.slice (some ⟨bB, oB, none⟩) 1 cap) [op]) (h1 : hOk h = true) (hv3 : ¬ h 3 = 0) (k1 : h 2 = 2054) (hop : op = 1 ∨ op = 2) :
    Calls Tryd.prog 15 #[pv h (.slice (some ⟨bB, oB, none⟩) 1 cap)] w fun e w' => ∃ v', e = .returned (.tuple #[v', .int .i64 (bErr h [op])]) ∧ Below w.heap.size w w' ∧ Owns w.heap.size w' v' (bOut h [op]) := by
  have HF : Hid (bErr h [op] = 0) := by
    show bErr h [op] = 0
    rw [bErr_ok h1 (fun _ => by rcases hop with rfl | rfl <;> rfl), if_neg]
    have : ahead h = 28 := by simp [ahead, k1]
    rw [this]; simp
  have HP : Hid (pktL h [op] = ethL h ++ arpL h op) := by show pktL h [op] = _; simp [pktL, k1]
  have hd1 : (h 2 == 2054) = true := by simp [k1]
  have h8 : Hid (dg 4429186564 6 ++ dg op 2 = [0, 1, 8, 0, 6, 4, 0, op]) := arp8 hop
  have hop0 : 0 ≤ op ∧ op < 256 := by omega
  have HOP : Hid (op = 1 ∨ op = 2) := hop
  clear k1 hop
  have hd3 : (h 3 != 0) = true := by simp [hv3]
  have HV3 : Hid (¬ h 3 = 0) := hv3
  clear hv3
  have HEth : Hid (ethL h = dg (h 1) 6 ++ (dg (h 0) 6 ++ (dg 33024 2 ++ (dg (h 3) 2 ++ dg (h 2) 2)))) := by show ethL h = _; simp only [ethL, tagL, if_neg HV3.out, List.append_assoc]
  have hlen := hs.len
  have hah := ahead_bd h
  obtain ⟨wa, hwa⟩ : ∃ wa, wa = (w.alloc (.cells (prow h (.slice (some ⟨bB, oB, none⟩) 1 cap)) 27)).alloc (.cells (row 11 h) 25) := ⟨_, rfl⟩
  have hla : Below w.heap.size w wa := by rw [hwa]; exact ((Below.refl _ _).alloc (Nat.le_refl _) _).alloc (by simp) _
  have PA : Hid (PBlk wa w.heap.size h (.slice (some ⟨bB, oB, none⟩) 1 cap)) := by rw [hwa]; exact (PBlk.new w h (.slice (some ⟨bB, oB, none⟩) 1 cap)).alloc _
  have KA : Blk wa (w.heap.size + 1) 11 25 h := by rw [hwa]; exact Blk.new1 w _ 11 25 h
  have SA : Hid (Sl B wa (.slice (some ⟨bB, oB, none⟩) 1 cap) [op]) := hs.on (hla.mono hB)
  have HC : Hid (Calls Tryd.prog 25 #[hv h] wa fun e w' => e = .returned (.int .i64 0) ∧ Below wa.heap.size wa w') := by
    have := rcheck_any h wa
    rwa [rchk_eq, show chk h = 0 by simp [chk, h1]] at this
  have HWA : Hid (wa = (w.alloc (.cells (prow h (.slice (some ⟨bB, oB, none⟩) 1 cap)) 27)).alloc (.cells (row 11 h) 25)) := hwa
  have P0' : Hid (PBlk (w.alloc (.cells (prow h (.slice (some ⟨bB, oB, none⟩) 1 cap)) 27)) w.heap.size h (.slice (some ⟨bB, oB, none⟩) 1 cap)) := PBlk.new _ _ _
  have K0' : Hid (Blk ((w.alloc (.cells (prow h (.slice (some ⟨bB, oB, none⟩) 1 cap)) 27)).alloc (.cells (row 11 h) 25)) (w.heap.size + 1) 11 25 h) := Blk.new1 w _ 11 25 h
  have K0'' : Hid (Blk ((w.alloc (.cells (prow h (.slice (some ⟨bB, oB, none⟩) 1 cap)) 27)).alloc (.cells (row 11 h) 25)) (w.alloc (.cells (prow h (.slice (some ⟨bB, oB, none⟩) 1 cap)) 27)).heap.size 11 25 h) := Blk.new _ 11 25 h
  obtain ⟨hbB, hcl⟩ : bB < B ∧ ∀ W, Below B w W → W.cell? ⟨bB, oB, none⟩ = some (.int .u8 op) := by
    obtain ⟨ao', cap', e, _, _, _, _, hc⟩ := hs
    simp only [Value.slice.injEq] at e
    obtain ⟨rfl, _, rfl⟩ := e
    obtain ⟨b, o, hlt, e2, hcc⟩ := hc (by simp)
    simp only [Option.some.injEq, Addr.mk.injEq, and_true] at e2
    obtain ⟨rfl, rfl⟩ := e2
    refine ⟨hlt, fun W hW => ?_⟩
    rw [hW.cell (p := ⟨bB, oB, none⟩) hlt]
    simpa using hcc 0 (by simp)
  have HCL : Hid (∀ W, Below B w W → W.cell? ⟨bB, oB, none⟩ = some (.int .u8 op)) := hcl
  clear hwa hs hcl
  go_enter Tryd.func15, Tryd.ntmps15
  go_wp2_with (first | (refine ldPH (.tmp 9) rfl _ rfl rfl h (.slice (some ⟨bB, oB, none⟩) 1 cap) P0'.out ?_) | (refine alc25 rfl rfl ?_) | (refine st25n (.tmp 4) (.tmp 10) rfl (w.alloc (.cells (prow h (.slice (some ⟨bB, oB, none⟩) 1 cap)) 27)) zf rfl rfl h rfl rfl ?_) | (refine ld25 (.tmp 4) rfl _ rfl rfl h K0''.out ?_) | (refine ld25 (.tmp 4) rfl _ rfl rfl h K0'.out ?_))
  rw [← HWA.out]
  go_fit HC.out
  rintro e wc ⟨rfl, hbc'⟩
  have hlc : Hid (Below w.heap.size w wc) := hla.trans (hbc'.mono hla.size)
  have PC0 : Hid (PBlk wc w.heap.size h (.slice (some ⟨bB, oB, none⟩) 1 cap)) := PA.out.on hbc'
  have KC : Blk wc (w.heap.size + 1) 11 25 h := KA.on hbc'
  have SC : Hid (Sl B wc (.slice (some ⟨bB, oB, none⟩) 1 cap) [op]) := SA.out.on (hbc'.mono (Nat.le_trans hB hla.size))
  have hbc : w.heap.size ≤ wc.heap.size := hlc.out.size
  clear hla PA KA SA HC HWA P0' K0' K0'' hbc' h1
  have c2 := KC.cell 2 (by omega)
  have c11 := PC0.out.last
  have E0 : Hid (Ext w.heap.size wc nilS wc nilS []) := Ext.refl Owns.isNil
  have K0 : Blk wc (w.heap.size + 1) 11 25 h := KC
  have P0 : Hid (PBlk wc w.heap.size h (.slice (some ⟨bB, oB, none⟩) 1 cap)) := PC0
  have S0 : Hid (Sl B wc (.slice (some ⟨bB, oB, none⟩) 1 cap) [op]) := SC
  have hb0 : w.heap.size ≤ wc.heap.size := hbc
  by_cases hop1 : op = 1
  · have hx1 : (op == 1) = true := by simp [hop1]
    have hx1n : (op != 1) = false := by simp [hop1]
    have HTG : Hid (tgt h op = 0) := by show tgt h op = _; simp [tgt, hop1]
    clear hop1
    have cb := HCL.out wc (hlc.out.mono hB)
    have c1 := K0.cell 1 (by omega)
    go_wp2_with fail
    clear c1 c2 c11 cb
    go_fit (put w.heap.size 6 _ (h 1) _ _ _ rfl (by decide) E0.out.own (by decide) hb0)
    rintro e w1 ⟨v1, rfl, X⟩
    have E1 : Hid (Ext w.heap.size wc nilS w1 v1 ([] ++ dg (h 1) 6)) := E0.out.trans X
    have K1 : Blk w1 (w.heap.size + 1) 11 25 h := X.block E0.out.own K0 (by decide)
    have P1 : Hid (PBlk w1 w.heap.size h (.slice (some ⟨bB, oB, none⟩) 1 cap)) := X.block E0.out.own P0.out (by decide)
    have S1 : Hid (Sl B w1 (.slice (some ⟨bB, oB, none⟩) 1 cap) [op]) := S0.out.on ((X.below E0.out.own hb0).mono hB)
    have hb1 : w.heap.size ≤ w1.heap.size := Nat.le_trans hbc E1.out.grown.size
    clear X K0 P0 S0 E0 hb0
    have c0 := K1.cell 0 (by omega)
    go_wp2_with (fail)
    go_fit (put w.heap.size 6 _ (h 0) _ _ _ rfl (by decide) E1.out.own (by simp only [List.length_append, List.length_nil, dg_len]; omega) hb1)
    rintro e w2 ⟨v2, rfl, X⟩
    have E2 : Hid (Ext w.heap.size wc nilS w2 v2 ([] ++ dg (h 1) 6 ++ dg (h 0) 6)) := E1.out.trans X
    have K2 : Blk w2 (w.heap.size + 1) 11 25 h := X.block E1.out.own K1 (by decide)
    have P2 : Hid (PBlk w2 w.heap.size h (.slice (some ⟨bB, oB, none⟩) 1 cap)) := X.block E1.out.own P1.out (by decide)
    have S2 : Hid (Sl B w2 (.slice (some ⟨bB, oB, none⟩) 1 cap) [op]) := S1.out.on ((X.below E1.out.own hb1).mono hB)
    have hb2 : w.heap.size ≤ w2.heap.size := Nat.le_trans hbc E2.out.grown.size
    clear X c0 K1 P1 S1 E1 hb1
    have c3 := K2.cell 3 (by omega)
    go_wp2_with (fail)
    go_fit (put w.heap.size 2 _ 33024 _ _ _ rfl (by decide) E2.out.own (by simp only [List.length_append, List.length_nil, dg_len]; omega) hb2)
    rintro e w3 ⟨v3, rfl, X⟩
    have E3 : Hid (Ext w.heap.size wc nilS w3 v3 ([] ++ dg (h 1) 6 ++ dg (h 0) 6 ++ dg 33024 2)) := E2.out.trans X
    have K3 : Blk w3 (w.heap.size + 1) 11 25 h := X.block E2.out.own K2 (by decide)
    have P3 : Hid (PBlk w3 w.heap.size h (.slice (some ⟨bB, oB, none⟩) 1 cap)) := X.block E2.out.own P2.out (by decide)
    have S3 : Hid (Sl B w3 (.slice (some ⟨bB, oB, none⟩) 1 cap) [op]) := S2.out.on ((X.below E2.out.own hb2).mono hB)
    have hb3 : w.heap.size ≤ w3.heap.size := Nat.le_trans hbc E3.out.grown.size
    clear X K2 P2 S2 E2 hb2
    clear c3
    have c3 := K3.cell 3 (by omega)
    go_wp2_with (fail)
    go_fit (put w.heap.size 2 _ (h 3) _ _ _ rfl (by decide) E3.out.own (by simp only [List.length_append, List.length_nil, dg_len]; omega) hb3)
    rintro e w4 ⟨v4, rfl, X⟩
    have E4 : Hid (Ext w.heap.size wc nilS w4 v4 ([] ++ dg (h 1) 6 ++ dg (h 0) 6 ++ dg 33024 2 ++ dg (h 3) 2)) := E3.out.trans X
    have K4 : Blk w4 (w.heap.size + 1) 11 25 h := X.block E3.out.own K3 (by decide)
    have P4 : Hid (PBlk w4 w.heap.size h (.slice (some ⟨bB, oB, none⟩) 1 cap)) := X.block E3.out.own P3.out (by decide)
    have S4 : Hid (Sl B w4 (.slice (some ⟨bB, oB, none⟩) 1 cap) [op]) := S3.out.on ((X.below E3.out.own hb3).mono hB)
    have hb4 : w.heap.size ≤ w4.heap.size := Nat.le_trans hbc E4.out.grown.size
    clear X c3 K3 P3 S3 E3 hb3
    have c2 := K4.cell 2 (by omega)
    go_wp2_with (fail)
    go_fit (put w.heap.size 2 _ (h 2) _ _ _ rfl (by decide) E4.out.own (by simp only [List.length_append, List.length_nil, dg_len]; omega) hb4)
    rintro e w5 ⟨v5, rfl, X⟩
    have E5 : Hid (Ext w.heap.size wc nilS w5 v5 ([] ++ dg (h 1) 6 ++ dg (h 0) 6 ++ dg 33024 2 ++ dg (h 3) 2 ++ dg (h 2) 2)) := E4.out.trans X
    have K5 : Blk w5 (w.heap.size + 1) 11 25 h := X.block E4.out.own K4 (by decide)
    have P5 : Hid (PBlk w5 w.heap.size h (.slice (some ⟨bB, oB, none⟩) 1 cap)) := X.block E4.out.own P4.out (by decide)
    have S5 : Hid (Sl B w5 (.slice (some ⟨bB, oB, none⟩) 1 cap) [op]) := S4.out.on ((X.below E4.out.own hb4).mono hB)
    have hb5 : w.heap.size ≤ w5.heap.size := Nat.le_trans hbc E5.out.grown.size
    clear X c2 K4 P4 S4 E4 hb4
    have c11 := P5.out.last
    have c2 := K5.cell 2 (by omega)
    have hlw : Below w.heap.size w w5 := hlc.out.trans (E5.out.below Owns.isNil hbc)
    have cb := HCL.out w5 (hlw.mono hB)
    have Q : Hid (Sl (w5.heap.size + 1) (w5.alloc (.cells (([0, 1, 8, 0, 6, 4, 0, op] : List Int).map (Value.int .u8)).toArray 5)) (.slice (some ⟨w5.heap.size, 0, none⟩) 8 8) [0, 1, 8, 0, 6, 4, 0, op]) := sl_lit w5 [0, 1, 8, 0, 6, 4, 0, op] (IsB.cons (by omega) (by omega) (IsB.cons (by omega) (by omega) (IsB.cons (by omega) (by omega) (IsB.cons (by omega) (by omega) (IsB.cons (by omega) (by omega) (IsB.cons (by omega) (by omega) (IsB.cons (by omega) (by omega) (IsB.cons hop0.1 hop0.2 IsB.nil)))))))) (by simp)
    go_wp2_with (at_builtin; refine app22 (.tmp 74) (.tmp 79) rfl rfl rfl rfl (E5.out.own.alloc _) Q.out (by simp; omega) (by simp only [List.length_append, List.length_cons, List.length_nil, dg_len]; omega) ?_; intro v6 w6 X; have d0 := (X.blkL E5.out.own K5).cell 0 (by omega))
    have E6 : Hid (Ext w.heap.size wc nilS w6 v6 ([] ++ dg (h 1) 6 ++ dg (h 0) 6 ++ dg 33024 2 ++ dg (h 3) 2 ++ dg (h 2) 2 ++ [0, 1, 8, 0, 6, 4, 0, op])) := E5.out.lit X
    have K6 : Blk w6 (w.heap.size + 1) 11 25 h := X.blkL E5.out.own K5
    have P6 : Hid (PBlk w6 w.heap.size h (.slice (some ⟨bB, oB, none⟩) 1 cap)) := X.block (E5.out.own.alloc _) (P5.out.alloc _) (by decide)
    have S6 : Hid (Sl B w6 (.slice (some ⟨bB, oB, none⟩) 1 cap) [op]) := (S5.out.on (((Below.refl _ _).alloc (Nat.le_refl _) _).mono (Nat.le_trans hB hb5))).on ((X.below (E5.out.own.alloc _) (by simp; omega)).mono hB)
    have hb6 : w.heap.size ≤ w6.heap.size := Nat.le_trans hbc E6.out.grown.size
    clear X Q d0 cb c11 c2 hlw K5 P5 S5 E5 hb5
    have c0 := K6.cell 0 (by omega)
    go_wp2_with (fail)
    go_fit (put w.heap.size 6 _ (h 0) _ _ _ rfl (by decide) E6.out.own (by simp only [List.length_append, List.length_cons, List.length_nil, dg_len]; omega) hb6)
    rintro e w7 ⟨v7, rfl, X⟩
    have E7 : Hid (Ext w.heap.size wc nilS w7 v7 ([] ++ dg (h 1) 6 ++ dg (h 0) 6 ++ dg 33024 2 ++ dg (h 3) 2 ++ dg (h 2) 2 ++ [0, 1, 8, 0, 6, 4, 0, op] ++ dg (h 0) 6)) := E6.out.trans X
    have K7 : Blk w7 (w.heap.size + 1) 11 25 h := X.block E6.out.own K6 (by decide)
    have P7 : Hid (PBlk w7 w.heap.size h (.slice (some ⟨bB, oB, none⟩) 1 cap)) := X.block E6.out.own P6.out (by decide)
    have S7 : Hid (Sl B w7 (.slice (some ⟨bB, oB, none⟩) 1 cap) [op]) := S6.out.on ((X.below E6.out.own hb6).mono hB)
    have hb7 : w.heap.size ≤ w7.heap.size := Nat.le_trans hbc E7.out.grown.size
    clear X c0 K6 P6 S6 E6 hb6
    have c4 := K7.cell 4 (by omega)
    go_wp2_with (fail)
    go_fit (put w.heap.size 4 _ (h 4) _ _ _ rfl (by decide) E7.out.own (by simp only [List.length_append, List.length_cons, List.length_nil, dg_len]; omega) hb7)
    rintro e w8 ⟨v8, rfl, X⟩
    have E8 : Hid (Ext w.heap.size wc nilS w8 v8 ([] ++ dg (h 1) 6 ++ dg (h 0) 6 ++ dg 33024 2 ++ dg (h 3) 2 ++ dg (h 2) 2 ++ [0, 1, 8, 0, 6, 4, 0, op] ++ dg (h 0) 6 ++ dg (h 4) 4)) := E7.out.trans X
    have K8 : Blk w8 (w.heap.size + 1) 11 25 h := X.block E7.out.own K7 (by decide)
    have P8 : Hid (PBlk w8 w.heap.size h (.slice (some ⟨bB, oB, none⟩) 1 cap)) := X.block E7.out.own P7.out (by decide)
    have S8 : Hid (Sl B w8 (.slice (some ⟨bB, oB, none⟩) 1 cap) [op]) := S7.out.on ((X.below E7.out.own hb7).mono hB)
    have hb8 : w.heap.size ≤ w8.heap.size := Nat.le_trans hbc E8.out.grown.size
    clear X c4 K7 P7 S7 E7 hb7
    have hlw : Below w.heap.size w w8 := hlc.out.trans (E8.out.below Owns.isNil hbc)
    have cb := HCL.out w8 (hlw.mono hB)
    have c11 := P8.out.last
    go_wp2_with (fail)
    go_fit (put w.heap.size 6 _ 0 _ _ _ rfl (by decide) E8.out.own (by simp only [List.length_append, List.length_cons, List.length_nil, dg_len]; omega) hb8)
    rintro e w9 ⟨v9, rfl, X⟩
    have E9 : Hid (Ext w.heap.size wc nilS w9 v9 ([] ++ dg (h 1) 6 ++ dg (h 0) 6 ++ dg 33024 2 ++ dg (h 3) 2 ++ dg (h 2) 2 ++ [0, 1, 8, 0, 6, 4, 0, op] ++ dg (h 0) 6 ++ dg (h 4) 4 ++ dg 0 6)) := E8.out.trans X
    have K9 : Blk w9 (w.heap.size + 1) 11 25 h := X.block E8.out.own K8 (by decide)
    have P9 : Hid (PBlk w9 w.heap.size h (.slice (some ⟨bB, oB, none⟩) 1 cap)) := X.block E8.out.own P8.out (by decide)
    have S9 : Hid (Sl B w9 (.slice (some ⟨bB, oB, none⟩) 1 cap) [op]) := S8.out.on ((X.below E8.out.own hb8).mono hB)
    have hb9 : w.heap.size ≤ w9.heap.size := Nat.le_trans hbc E9.out.grown.size
    clear X K8 P8 S8 E8 hb8
    clear hlw cb c11
    have c5 := K9.cell 5 (by omega)
    go_wp2_with (fail)
    go_fit (put w.heap.size 4 _ (h 5) _ _ _ rfl (by decide) E9.out.own (by simp only [List.length_append, List.length_cons, List.length_nil, dg_len]; omega) hb9)
    rintro e w10 ⟨v10, rfl, X⟩
    have E10 : Hid (Ext w.heap.size wc nilS w10 v10 ([] ++ dg (h 1) 6 ++ dg (h 0) 6 ++ dg 33024 2 ++ dg (h 3) 2 ++ dg (h 2) 2 ++ [0, 1, 8, 0, 6, 4, 0, op] ++ dg (h 0) 6 ++ dg (h 4) 4 ++ dg 0 6 ++ dg (h 5) 4)) := E9.out.trans X
    have K10 : Blk w10 (w.heap.size + 1) 11 25 h := X.block E9.out.own K9 (by decide)
    have P10 : Hid (PBlk w10 w.heap.size h (.slice (some ⟨bB, oB, none⟩) 1 cap)) := X.block E9.out.own P9.out (by decide)
    have S10 : Hid (Sl B w10 (.slice (some ⟨bB, oB, none⟩) 1 cap) [op]) := S9.out.on ((X.below E9.out.own hb9).mono hB)
    have hb10 : w.heap.size ≤ w10.heap.size := Nat.le_trans hbc E10.out.grown.size
    clear X c5 K9 P9 S9 E9 hb9
    obtain ⟨gf, cf', N, hvf, hN⟩ := owned_len E10.out.own (by simp only [List.length_append, List.length_cons, List.length_nil, dg_len]; omega)
    subst hvf
    have hbig : ¬ (1518 : Int) < N := by rw [hN]; simp only [List.length_append, List.length_cons, List.length_nil, dg_len]; omega
    clear hN
    go_wp2
    go_ret2
    refine ⟨_, by rw [HF.out]; rfl, hlc.out.trans (E10.out.below Owns.isNil hbc), ?_⟩
    have hO := E10.out.own
    have hLe : bOut h [op] = [] ++ dg (h 1) 6 ++ dg (h 0) 6 ++ dg 33024 2 ++ dg (h 3) 2 ++ dg (h 2) 2 ++ [0, 1, 8, 0, 6, 4, 0, op] ++ dg (h 0) 6 ++ dg (h 4) 4 ++ dg 0 6 ++ dg (h 5) 4 := by
      rw [show bOut h [op] = pktL h [op] by simp [bOut, HF.out], HP.out, HEth.out]
      rw [← h8.out]; unfold arpL; rw [HTG.out]; simp only [List.nil_append, List.append_assoc]
    rw [hLe]
    exact hO
  · have hop2 : op = 2 := HOP.out.resolve_left hop1
    clear hop1
    have hop1 := hop2
    clear hop2
    have hx1 : (op == 1) = false := by simp [hop1]
    have hx1n : (op != 1) = true := by simp [hop1]
    have hx2n : (op != 2) = false := by simp [hop1]
    have HTG : Hid (tgt h op = h 1) := by show tgt h op = _; simp [tgt, hop1]
    clear hop1
    have cb := HCL.out wc (hlc.out.mono hB)
    have c1 := K0.cell 1 (by omega)
    go_wp2_with fail
    clear c1 c2 c11 cb
    go_fit (put w.heap.size 6 _ (h 1) _ _ _ rfl (by decide) E0.out.own (by decide) hb0)
    rintro e w1 ⟨v1, rfl, X⟩
    have E1 : Hid (Ext w.heap.size wc nilS w1 v1 ([] ++ dg (h 1) 6)) := E0.out.trans X
    have K1 : Blk w1 (w.heap.size + 1) 11 25 h := X.block E0.out.own K0 (by decide)
    have P1 : Hid (PBlk w1 w.heap.size h (.slice (some ⟨bB, oB, none⟩) 1 cap)) := X.block E0.out.own P0.out (by decide)
    have S1 : Hid (Sl B w1 (.slice (some ⟨bB, oB, none⟩) 1 cap) [op]) := S0.out.on ((X.below E0.out.own hb0).mono hB)
    have hb1 : w.heap.size ≤ w1.heap.size := Nat.le_trans hbc E1.out.grown.size
    clear X K0 P0 S0 E0 hb0
    have c0 := K1.cell 0 (by omega)
    go_wp2_with (fail)
    go_fit (put w.heap.size 6 _ (h 0) _ _ _ rfl (by decide) E1.out.own (by simp only [List.length_append, List.length_nil, dg_len]; omega) hb1)
    rintro e w2 ⟨v2, rfl, X⟩
    have E2 : Hid (Ext w.heap.size wc nilS w2 v2 ([] ++ dg (h 1) 6 ++ dg (h 0) 6)) := E1.out.trans X
    have K2 : Blk w2 (w.heap.size + 1) 11 25 h := X.block E1.out.own K1 (by decide)
    have P2 : Hid (PBlk w2 w.heap.size h (.slice (some ⟨bB, oB, none⟩) 1 cap)) := X.block E1.out.own P1.out (by decide)
    have S2 : Hid (Sl B w2 (.slice (some ⟨bB, oB, none⟩) 1 cap) [op]) := S1.out.on ((X.below E1.out.own hb1).mono hB)
    have hb2 : w.heap.size ≤ w2.heap.size := Nat.le_trans hbc E2.out.grown.size
    clear X c0 K1 P1 S1 E1 hb1
    have c3 := K2.cell 3 (by omega)
    go_wp2_with (fail)
    go_fit (put w.heap.size 2 _ 33024 _ _ _ rfl (by decide) E2.out.own (by simp only [List.length_append, List.length_nil, dg_len]; omega) hb2)
    rintro e w3 ⟨v3, rfl, X⟩
    have E3 : Hid (Ext w.heap.size wc nilS w3 v3 ([] ++ dg (h 1) 6 ++ dg (h 0) 6 ++ dg 33024 2)) := E2.out.trans X
    have K3 : Blk w3 (w.heap.size + 1) 11 25 h := X.block E2.out.own K2 (by decide)
    have P3 : Hid (PBlk w3 w.heap.size h (.slice (some ⟨bB, oB, none⟩) 1 cap)) := X.block E2.out.own P2.out (by decide)
    have S3 : Hid (Sl B w3 (.slice (some ⟨bB, oB, none⟩) 1 cap) [op]) := S2.out.on ((X.below E2.out.own hb2).mono hB)
    have hb3 : w.heap.size ≤ w3.heap.size := Nat.le_trans hbc E3.out.grown.size
    clear X K2 P2 S2 E2 hb2
    clear c3
    have c3 := K3.cell 3 (by omega)
    go_wp2_with (fail)
    go_fit (put w.heap.size 2 _ (h 3) _ _ _ rfl (by decide) E3.out.own (by simp only [List.length_append, List.length_nil, dg_len]; omega) hb3)
    rintro e w4 ⟨v4, rfl, X⟩
    have E4 : Hid (Ext w.heap.size wc nilS w4 v4 ([] ++ dg (h 1) 6 ++ dg (h 0) 6 ++ dg 33024 2 ++ dg (h 3) 2)) := E3.out.trans X
    have K4 : Blk w4 (w.heap.size + 1) 11 25 h := X.block E3.out.own K3 (by decide)
    have P4 : Hid (PBlk w4 w.heap.size h (.slice (some ⟨bB, oB, none⟩) 1 cap)) := X.block E3.out.own P3.out (by decide)
    have S4 : Hid (Sl B w4 (.slice (some ⟨bB, oB, none⟩) 1 cap) [op]) := S3.out.on ((X.below E3.out.own hb3).mono hB)
    have hb4 : w.heap.size ≤ w4.heap.size := Nat.le_trans hbc E4.out.grown.size
    clear X c3 K3 P3 S3 E3 hb3
    have c2 := K4.cell 2 (by omega)
    go_wp2_with (fail)
    go_fit (put w.heap.size 2 _ (h 2) _ _ _ rfl (by decide) E4.out.own (by simp only [List.length_append, List.length_nil, dg_len]; omega) hb4)
    rintro e w5 ⟨v5, rfl, X⟩
    have E5 : Hid (Ext w.heap.size wc nilS w5 v5 ([] ++ dg (h 1) 6 ++ dg (h 0) 6 ++ dg 33024 2 ++ dg (h 3) 2 ++ dg (h 2) 2)) := E4.out.trans X
    have K5 : Blk w5 (w.heap.size + 1) 11 25 h := X.block E4.out.own K4 (by decide)
    have P5 : Hid (PBlk w5 w.heap.size h (.slice (some ⟨bB, oB, none⟩) 1 cap)) := X.block E4.out.own P4.out (by decide)
    have S5 : Hid (Sl B w5 (.slice (some ⟨bB, oB, none⟩) 1 cap) [op]) := S4.out.on ((X.below E4.out.own hb4).mono hB)
    have hb5 : w.heap.size ≤ w5.heap.size := Nat.le_trans hbc E5.out.grown.size
    clear X c2 K4 P4 S4 E4 hb4
    have c11 := P5.out.last
    have c2 := K5.cell 2 (by omega)
    have hlw : Below w.heap.size w w5 := hlc.out.trans (E5.out.below Owns.isNil hbc)
    have cb := HCL.out w5 (hlw.mono hB)
    have Q : Hid (Sl (w5.heap.size + 1) (w5.alloc (.cells (([0, 1, 8, 0, 6, 4, 0, op] : List Int).map (Value.int .u8)).toArray 5)) (.slice (some ⟨w5.heap.size, 0, none⟩) 8 8) [0, 1, 8, 0, 6, 4, 0, op]) := sl_lit w5 [0, 1, 8, 0, 6, 4, 0, op] (IsB.cons (by omega) (by omega) (IsB.cons (by omega) (by omega) (IsB.cons (by omega) (by omega) (IsB.cons (by omega) (by omega) (IsB.cons (by omega) (by omega) (IsB.cons (by omega) (by omega) (IsB.cons (by omega) (by omega) (IsB.cons hop0.1 hop0.2 IsB.nil)))))))) (by simp)
    go_wp2_with (at_builtin; refine app22 (.tmp 74) (.tmp 79) rfl rfl rfl rfl (E5.out.own.alloc _) Q.out (by simp; omega) (by simp only [List.length_append, List.length_cons, List.length_nil, dg_len]; omega) ?_; intro v6 w6 X; have d0 := (X.blkL E5.out.own K5).cell 0 (by omega))
    have E6 : Hid (Ext w.heap.size wc nilS w6 v6 ([] ++ dg (h 1) 6 ++ dg (h 0) 6 ++ dg 33024 2 ++ dg (h 3) 2 ++ dg (h 2) 2 ++ [0, 1, 8, 0, 6, 4, 0, op])) := E5.out.lit X
    have K6 : Blk w6 (w.heap.size + 1) 11 25 h := X.blkL E5.out.own K5
    have P6 : Hid (PBlk w6 w.heap.size h (.slice (some ⟨bB, oB, none⟩) 1 cap)) := X.block (E5.out.own.alloc _) (P5.out.alloc _) (by decide)
    have S6 : Hid (Sl B w6 (.slice (some ⟨bB, oB, none⟩) 1 cap) [op]) := (S5.out.on (((Below.refl _ _).alloc (Nat.le_refl _) _).mono (Nat.le_trans hB hb5))).on ((X.below (E5.out.own.alloc _) (by simp; omega)).mono hB)
    have hb6 : w.heap.size ≤ w6.heap.size := Nat.le_trans hbc E6.out.grown.size
    clear X Q d0 cb c11 c2 hlw K5 P5 S5 E5 hb5
    have c0 := K6.cell 0 (by omega)
    go_wp2_with (fail)
    go_fit (put w.heap.size 6 _ (h 0) _ _ _ rfl (by decide) E6.out.own (by simp only [List.length_append, List.length_cons, List.length_nil, dg_len]; omega) hb6)
    rintro e w7 ⟨v7, rfl, X⟩
    have E7 : Hid (Ext w.heap.size wc nilS w7 v7 ([] ++ dg (h 1) 6 ++ dg (h 0) 6 ++ dg 33024 2 ++ dg (h 3) 2 ++ dg (h 2) 2 ++ [0, 1, 8, 0, 6, 4, 0, op] ++ dg (h 0) 6)) := E6.out.trans X
    have K7 : Blk w7 (w.heap.size + 1) 11 25 h := X.block E6.out.own K6 (by decide)
    have P7 : Hid (PBlk w7 w.heap.size h (.slice (some ⟨bB, oB, none⟩) 1 cap)) := X.block E6.out.own P6.out (by decide)
    have S7 : Hid (Sl B w7 (.slice (some ⟨bB, oB, none⟩) 1 cap) [op]) := S6.out.on ((X.below E6.out.own hb6).mono hB)
    have hb7 : w.heap.size ≤ w7.heap.size := Nat.le_trans hbc E7.out.grown.size
    clear X c0 K6 P6 S6 E6 hb6
    have c4 := K7.cell 4 (by omega)
    go_wp2_with (fail)
    go_fit (put w.heap.size 4 _ (h 4) _ _ _ rfl (by decide) E7.out.own (by simp only [List.length_append, List.length_cons, List.length_nil, dg_len]; omega) hb7)
    rintro e w8 ⟨v8, rfl, X⟩
    have E8 : Hid (Ext w.heap.size wc nilS w8 v8 ([] ++ dg (h 1) 6 ++ dg (h 0) 6 ++ dg 33024 2 ++ dg (h 3) 2 ++ dg (h 2) 2 ++ [0, 1, 8, 0, 6, 4, 0, op] ++ dg (h 0) 6 ++ dg (h 4) 4)) := E7.out.trans X
    have K8 : Blk w8 (w.heap.size + 1) 11 25 h := X.block E7.out.own K7 (by decide)
    have P8 : Hid (PBlk w8 w.heap.size h (.slice (some ⟨bB, oB, none⟩) 1 cap)) := X.block E7.out.own P7.out (by decide)
    have S8 : Hid (Sl B w8 (.slice (some ⟨bB, oB, none⟩) 1 cap) [op]) := S7.out.on ((X.below E7.out.own hb7).mono hB)
    have hb8 : w.heap.size ≤ w8.heap.size := Nat.le_trans hbc E8.out.grown.size
    clear X c4 K7 P7 S7 E7 hb7
    have hlw : Below w.heap.size w w8 := hlc.out.trans (E8.out.below Owns.isNil hbc)
    have cb := HCL.out w8 (hlw.mono hB)
    have c11 := P8.out.last
    have c1 := K8.cell 1 (by omega)
    go_wp2_with (fail)
    go_fit (put w.heap.size 6 _ (h 1) _ _ _ rfl (by decide) E8.out.own (by simp only [List.length_append, List.length_cons, List.length_nil, dg_len]; omega) hb8)
    rintro e w9 ⟨v9, rfl, X⟩
    have E9 : Hid (Ext w.heap.size wc nilS w9 v9 ([] ++ dg (h 1) 6 ++ dg (h 0) 6 ++ dg 33024 2 ++ dg (h 3) 2 ++ dg (h 2) 2 ++ [0, 1, 8, 0, 6, 4, 0, op] ++ dg (h 0) 6 ++ dg (h 4) 4 ++ dg (h 1) 6)) := E8.out.trans X
    have K9 : Blk w9 (w.heap.size + 1) 11 25 h := X.block E8.out.own K8 (by decide)
    have P9 : Hid (PBlk w9 w.heap.size h (.slice (some ⟨bB, oB, none⟩) 1 cap)) := X.block E8.out.own P8.out (by decide)
    have S9 : Hid (Sl B w9 (.slice (some ⟨bB, oB, none⟩) 1 cap) [op]) := S8.out.on ((X.below E8.out.own hb8).mono hB)
    have hb9 : w.heap.size ≤ w9.heap.size := Nat.le_trans hbc E9.out.grown.size
    clear X c1 K8 P8 S8 E8 hb8
    clear hlw cb c11
    have c5 := K9.cell 5 (by omega)
    go_wp2_with (fail)
    go_fit (put w.heap.size 4 _ (h 5) _ _ _ rfl (by decide) E9.out.own (by simp only [List.length_append, List.length_cons, List.length_nil, dg_len]; omega) hb9)
    rintro e w10 ⟨v10, rfl, X⟩
    have E10 : Hid (Ext w.heap.size wc nilS w10 v10 ([] ++ dg (h 1) 6 ++ dg (h 0) 6 ++ dg 33024 2 ++ dg (h 3) 2 ++ dg (h 2) 2 ++ [0, 1, 8, 0, 6, 4, 0, op] ++ dg (h 0) 6 ++ dg (h 4) 4 ++ dg (h 1) 6 ++ dg (h 5) 4)) := E9.out.trans X
    have K10 : Blk w10 (w.heap.size + 1) 11 25 h := X.block E9.out.own K9 (by decide)
    have P10 : Hid (PBlk w10 w.heap.size h (.slice (some ⟨bB, oB, none⟩) 1 cap)) := X.block E9.out.own P9.out (by decide)
    have S10 : Hid (Sl B w10 (.slice (some ⟨bB, oB, none⟩) 1 cap) [op]) := S9.out.on ((X.below E9.out.own hb9).mono hB)
    have hb10 : w.heap.size ≤ w10.heap.size := Nat.le_trans hbc E10.out.grown.size
    clear X c5 K9 P9 S9 E9 hb9
    obtain ⟨gf, cf', N, hvf, hN⟩ := owned_len E10.out.own (by simp only [List.length_append, List.length_cons, List.length_nil, dg_len]; omega)
    subst hvf
    have hbig : ¬ (1518 : Int) < N := by rw [hN]; simp only [List.length_append, List.length_cons, List.length_nil, dg_len]; omega
    clear hN
    go_wp2
    go_ret2
    refine ⟨_, by rw [HF.out]; rfl, hlc.out.trans (E10.out.below Owns.isNil hbc), ?_⟩
    have hO := E10.out.own
    have hLe : bOut h [op] = [] ++ dg (h 1) 6 ++ dg (h 0) 6 ++ dg 33024 2 ++ dg (h 3) 2 ++ dg (h 2) 2 ++ [0, 1, 8, 0, 6, 4, 0, op] ++ dg (h 0) 6 ++ dg (h 4) 4 ++ dg (h 1) 6 ++ dg (h 5) 4 := by
      rw [show bOut h [op] = pktL h [op] by simp [bOut, HF.out], HP.out, HEth.out]
      rw [← h8.out]; unfold arpL; rw [HTG.out]; simp only [List.nil_append, List.append_assoc]
    rw [hLe]
    exact hO

set_option maxRecDepth 100000 in
set_option maxHeartbeats 6400000 in
theorem rb_ip_t (B : Nat) (h : Nat → Int) (ao : Option Addr) (cap : Nat) (bs : List Int) (w : World) (hB : B ≤ w.heap.size) (hs : Sl B w (.slice ao bs.length cap) bs) (h1 : hOk h = true) (hv3 : ¬ h 3 = 0) (k2 : h 2 = 2048) :
    Calls Tryd.prog 15 #[pv h (.slice ao bs.length cap)] w fun e w' => ∃ v', e = .returned (.tuple #[v', .int .i64 (bErr h bs)]) ∧ Below w.heap.size w w' ∧ Owns w.heap.size w' v' (bOut h bs) := by
  have HE : Hid (bErr h bs = if 1500 - ahead h < bs.length then 3 else 0) := bErr_ok h1 (fun e => absurd e (by omega))
  have HP : Hid (pktL h bs = ethL h ++ (ipL h (ahead h + bs.length) ++ bs)) := by show pktL h bs = _; simp [pktL, k2]
  have haz : ahead h = 20 + psz (h 6) := by simp [ahead, k2]
  have hps := psz_bd (h 6)
  have hd1 : (h 2 == 2054) = false := by simp [k2]
  have hd2 : (h 2 == 2048) = true := by simp [k2]
  have hisB := hs.isB
  clear k2
  have hd3 : (h 3 != 0) = true := by simp [hv3]
  have HV3 : Hid (¬ h 3 = 0) := hv3
  clear hv3
  have HEth : Hid (ethL h = dg (h 1) 6 ++ (dg (h 0) 6 ++ (dg 33024 2 ++ (dg (h 3) 2 ++ dg (h 2) 2)))) := by show ethL h = _; simp only [ethL, tagL, if_neg HV3.out, List.append_assoc]
  have hlen := hs.len
  have hah := ahead_bd h
  obtain ⟨wa, hwa⟩ : ∃ wa, wa = (w.alloc (.cells (prow h (.slice ao bs.length cap)) 27)).alloc (.cells (row 11 h) 25) := ⟨_, rfl⟩
  have hla : Below w.heap.size w wa := by rw [hwa]; exact ((Below.refl _ _).alloc (Nat.le_refl _) _).alloc (by simp) _
  have PA : Hid (PBlk wa w.heap.size h (.slice ao bs.length cap)) := by rw [hwa]; exact (PBlk.new w h (.slice ao bs.length cap)).alloc _
  have KA : Blk wa (w.heap.size + 1) 11 25 h := by rw [hwa]; exact Blk.new1 w _ 11 25 h
  have SA : Hid (Sl B wa (.slice ao bs.length cap) bs) := hs.on (hla.mono hB)
  have HC : Hid (Calls Tryd.prog 25 #[hv h] wa fun e w' => e = .returned (.int .i64 0) ∧ Below wa.heap.size wa w') := by
    have := rcheck_any h wa
    rwa [rchk_eq, show chk h = 0 by simp [chk, h1]] at this
  have HWA : Hid (wa = (w.alloc (.cells (prow h (.slice ao bs.length cap)) 27)).alloc (.cells (row 11 h) 25)) := hwa
  have P0' : Hid (PBlk (w.alloc (.cells (prow h (.slice ao bs.length cap)) 27)) w.heap.size h (.slice ao bs.length cap)) := PBlk.new _ _ _
  have K0' : Hid (Blk ((w.alloc (.cells (prow h (.slice ao bs.length cap)) 27)).alloc (.cells (row 11 h) 25)) (w.heap.size + 1) 11 25 h) := Blk.new1 w _ 11 25 h
  have K0'' : Hid (Blk ((w.alloc (.cells (prow h (.slice ao bs.length cap)) 27)).alloc (.cells (row 11 h) 25)) (w.alloc (.cells (prow h (.slice ao bs.length cap)) 27)).heap.size 11 25 h) := Blk.new _ 11 25 h
  clear hwa hs
  go_enter Tryd.func15, Tryd.ntmps15
  go_wp2_with (first | (refine ldPH (.tmp 9) rfl _ rfl rfl h (.slice ao bs.length cap) P0'.out ?_) | (refine alc25 rfl rfl ?_) | (refine st25n (.tmp 4) (.tmp 10) rfl (w.alloc (.cells (prow h (.slice ao bs.length cap)) 27)) zf rfl rfl h rfl rfl ?_) | (refine ld25 (.tmp 4) rfl _ rfl rfl h K0''.out ?_) | (refine ld25 (.tmp 4) rfl _ rfl rfl h K0'.out ?_))
  rw [← HWA.out]
  go_fit HC.out
  rintro e wc ⟨rfl, hbc'⟩
  have hlc : Hid (Below w.heap.size w wc) := hla.trans (hbc'.mono hla.size)
  have PC0 : Hid (PBlk wc w.heap.size h (.slice ao bs.length cap)) := PA.out.on hbc'
  have KC : Blk wc (w.heap.size + 1) 11 25 h := KA.on hbc'
  have SC : Hid (Sl B wc (.slice ao bs.length cap) bs) := SA.out.on (hbc'.mono (Nat.le_trans hB hla.size))
  have hbc : w.heap.size ≤ wc.heap.size := hlc.out.size
  clear hla PA KA SA HC HWA P0' K0' K0'' hbc' h1
  have c2 := KC.cell 2 (by omega)
  have c11 := PC0.out.last
  have E0 : Hid (Ext w.heap.size wc nilS wc nilS []) := Ext.refl Owns.isNil
  have K0 : Blk wc (w.heap.size + 1) 11 25 h := KC
  have P0 : Hid (PBlk wc w.heap.size h (.slice ao bs.length cap)) := PC0
  have S0 : Hid (Sl B wc (.slice ao bs.length cap) bs) := SC
  have hb0 : w.heap.size ≤ wc.heap.size := hbc
  have c1 := K0.cell 1 (by omega)
  go_wp2_with fail
  clear c1 c2 c11
  go_fit (put w.heap.size 6 _ (h 1) _ _ _ rfl (by decide) E0.out.own (by decide) hb0)
  rintro e w1 ⟨v1, rfl, X⟩
  have E1 : Hid (Ext w.heap.size wc nilS w1 v1 ([] ++ dg (h 1) 6)) := E0.out.trans X
  have K1 : Blk w1 (w.heap.size + 1) 11 25 h := X.block E0.out.own K0 (by decide)
  have P1 : Hid (PBlk w1 w.heap.size h (.slice ao bs.length cap)) := X.block E0.out.own P0.out (by decide)
  have S1 : Hid (Sl B w1 (.slice ao bs.length cap) bs) := S0.out.on ((X.below E0.out.own hb0).mono hB)
  have hb1 : w.heap.size ≤ w1.heap.size := Nat.le_trans hbc E1.out.grown.size
  clear X K0 P0 S0 E0 hb0
  have c0 := K1.cell 0 (by omega)
  go_wp2_with (fail)
  go_fit (put w.heap.size 6 _ (h 0) _ _ _ rfl (by decide) E1.out.own (by simp only [List.length_append, List.length_nil, dg_len]; omega) hb1)
  rintro e w2 ⟨v2, rfl, X⟩
  have E2 : Hid (Ext w.heap.size wc nilS w2 v2 ([] ++ dg (h 1) 6 ++ dg (h 0) 6)) := E1.out.trans X
  have K2 : Blk w2 (w.heap.size + 1) 11 25 h := X.block E1.out.own K1 (by decide)
  have P2 : Hid (PBlk w2 w.heap.size h (.slice ao bs.length cap)) := X.block E1.out.own P1.out (by decide)
  have S2 : Hid (Sl B w2 (.slice ao bs.length cap) bs) := S1.out.on ((X.below E1.out.own hb1).mono hB)
  have hb2 : w.heap.size ≤ w2.heap.size := Nat.le_trans hbc E2.out.grown.size
  clear X c0 K1 P1 S1 E1 hb1
  have c3 := K2.cell 3 (by omega)
  go_wp2_with (fail)
  go_fit (put w.heap.size 2 _ 33024 _ _ _ rfl (by decide) E2.out.own (by simp only [List.length_append, List.length_nil, dg_len]; omega) hb2)
  rintro e w3 ⟨v3, rfl, X⟩
  have E3 : Hid (Ext w.heap.size wc nilS w3 v3 ([] ++ dg (h 1) 6 ++ dg (h 0) 6 ++ dg 33024 2)) := E2.out.trans X
  have K3 : Blk w3 (w.heap.size + 1) 11 25 h := X.block E2.out.own K2 (by decide)
  have P3 : Hid (PBlk w3 w.heap.size h (.slice ao bs.length cap)) := X.block E2.out.own P2.out (by decide)
  have S3 : Hid (Sl B w3 (.slice ao bs.length cap) bs) := S2.out.on ((X.below E2.out.own hb2).mono hB)
  have hb3 : w.heap.size ≤ w3.heap.size := Nat.le_trans hbc E3.out.grown.size
  clear X K2 P2 S2 E2 hb2
  clear c3
  have c3 := K3.cell 3 (by omega)
  go_wp2_with (fail)
  go_fit (put w.heap.size 2 _ (h 3) _ _ _ rfl (by decide) E3.out.own (by simp only [List.length_append, List.length_nil, dg_len]; omega) hb3)
  rintro e w4 ⟨v4, rfl, X⟩
  have E4 : Hid (Ext w.heap.size wc nilS w4 v4 ([] ++ dg (h 1) 6 ++ dg (h 0) 6 ++ dg 33024 2 ++ dg (h 3) 2)) := E3.out.trans X
  have K4 : Blk w4 (w.heap.size + 1) 11 25 h := X.block E3.out.own K3 (by decide)
  have P4 : Hid (PBlk w4 w.heap.size h (.slice ao bs.length cap)) := X.block E3.out.own P3.out (by decide)
  have S4 : Hid (Sl B w4 (.slice ao bs.length cap) bs) := S3.out.on ((X.below E3.out.own hb3).mono hB)
  have hb4 : w.heap.size ≤ w4.heap.size := Nat.le_trans hbc E4.out.grown.size
  clear X c3 K3 P3 S3 E3 hb3
  have c2 := K4.cell 2 (by omega)
  go_wp2_with (fail)
  go_fit (put w.heap.size 2 _ (h 2) _ _ _ rfl (by decide) E4.out.own (by simp only [List.length_append, List.length_nil, dg_len]; omega) hb4)
  rintro e w5 ⟨v5, rfl, X⟩
  have E5 : Hid (Ext w.heap.size wc nilS w5 v5 ([] ++ dg (h 1) 6 ++ dg (h 0) 6 ++ dg 33024 2 ++ dg (h 3) 2 ++ dg (h 2) 2)) := E4.out.trans X
  have K5 : Blk w5 (w.heap.size + 1) 11 25 h := X.block E4.out.own K4 (by decide)
  have P5 : Hid (PBlk w5 w.heap.size h (.slice ao bs.length cap)) := X.block E4.out.own P4.out (by decide)
  have S5 : Hid (Sl B w5 (.slice ao bs.length cap) bs) := S4.out.on ((X.below E4.out.own hb4).mono hB)
  have hb5 : w.heap.size ≤ w5.heap.size := Nat.le_trans hbc E5.out.grown.size
  clear X c2 K4 P4 S4 E4 hb4
  have c11 := P5.out.last
  have c2 := K5.cell 2 (by omega)
  by_cases hmost : (1518 : Int) < bs.length
  · have HF : Hid (bErr h bs = 3) := by show bErr h bs = 3; rw [HE.out, if_pos (by omega)]
    have hlow : Hid (Below w.heap.size w w5) := hlc.out.trans (E5.out.below Owns.isNil hbc)
    go_wp2
    go_ret2
    refine ⟨nilS, by rw [HF.out]; rfl, hlow.out, ?_⟩
    rw [show bOut h bs = [] by simp [bOut, HF.out]]
    exact Owns.isNil
  · go_wp2_with (refine ld25 (.tmp 4) rfl _ rfl rfl h K5 ?_)
    go_fit (rports w5.heap.size h bs.length w5 (by omega) (by omega) (Nat.le_refl _))
    rintro e wp ⟨vp, rfl, Xp⟩
    have hbp := Xp.belowNil
    obtain ⟨PL, hPL⟩ : ∃ PL, PL = portsL h (8 + bs.length) := ⟨_, rfl⟩
    have hpl := portsL_len h (8 + bs.length)
    have hpB := portsL_isB h (8 + bs.length)
    rw [← hPL] at hpl hpB Xp
    have HPL : Hid (PL = portsL h (psz (h 6) + bs.length)) := by rw [hPL]; exact ports_eq h bs.length
    have Ep : Hid (Ext w.heap.size wc nilS wp v5 ([] ++ dg (h 1) 6 ++ dg (h 0) 6 ++ dg 33024 2 ++ dg (h 3) 2 ++ dg (h 2) 2)) := E5.out.on hbp
    have Kp : Blk wp (w.heap.size + 1) 11 25 h := K5.on hbp
    have Pp : Hid (PBlk wp w.heap.size h (.slice ao bs.length cap)) := P5.out.on hbp
    have Sp : Hid (Sl B wp (.slice ao bs.length cap) bs) := S5.out.on (hbp.mono (Nat.le_trans hB hb5))
    have Op : Hid (Owns w5.heap.size wp vp PL) := Xp.own
    have hlt := fun k hk => (E5.out.own.lt k hk).2
    obtain ⟨aop, cp, rfl⟩ := Op.out.sliceLen
    clear Xp hbp hPL E5 K5 P5 S5 c11 c2
    have c11 := Pp.out.last
    go_wp2_with (refine ld25 (.tmp 4) rfl _ rfl rfl h Kp ?_)
    go_fit (rhead wp.heap.size h (psz (h 6) + bs.length) wp (by omega) (by omega) (Nat.le_refl _))
    rintro e wh ⟨vh, rfl, Xh⟩
    have hbh' := Xh.belowNil
    obtain ⟨HL, hHL⟩ : ∃ HL, HL = headL h (20 + (psz (h 6) + bs.length)) (hsum h (20 + (psz (h 6) + bs.length))) := ⟨_, rfl⟩
    have hhl : HL.length = 20 := by rw [hHL, headL_len]
    have hhB : IsB HL := by rw [hHL]; exact headL_isB _ _ _
    rw [← hHL] at Xh
    have HHL : Hid (HL = headL h (ahead h + bs.length) (hsum h (ahead h + bs.length))) := by
      rw [hHL, show (20 : Int) + (psz (h 6) + bs.length) = ahead h + bs.length by omega]; rfl
    have Eh : Hid (Ext w.heap.size wc nilS wh v5 ([] ++ dg (h 1) 6 ++ dg (h 0) 6 ++ dg 33024 2 ++ dg (h 3) 2 ++ dg (h 2) 2)) := Ep.out.on hbh'
    have Ph : Hid (PBlk wh w.heap.size h (.slice ao bs.length cap)) := Pp.out.on hbh'
    have hbp2 : w.heap.size ≤ wp.heap.size := Nat.le_trans hbc Ep.out.grown.size
    have Sh : Hid (Sl B wh (.slice ao bs.length cap) bs) := Sp.out.on (hbh'.mono (Nat.le_trans hB hbp2))
    have Oh : Hid (Owns w5.heap.size wh (.slice aop PL.length cp) PL) := Op.out.on hbh'
    have SH : Hid (Sl wh.heap.size wh vh HL) := Sl.own Xh.own (by omega) hhB
    have hbh : w.heap.size ≤ wh.heap.size := Nat.le_trans hbc Eh.out.grown.size
    clear Xh hbh' hHL Ep Kp Pp Sp Op c11
    by_cases hlong : 1500 - ahead h < bs.length
    · have HF : Hid (bErr h bs = 3) := by show bErr h bs = 3; rw [HE.out, if_pos hlong]
      go_wp2_with (first | (at_builtin; refine app22 (.tmp 111) (.tmp 119) rfl rfl rfl rfl Eh.out.own SH.out hbh (by simp only [List.length_append, List.length_nil, dg_len, hhl]; omega) ?_; intro va wa Xa; have Oa := Oh.out.beside Eh.out.own Xa hlt; have Sa := Sl.own Oa (by omega) hpB; have hba : w.heap.size ≤ wa.heap.size := Nat.le_trans hbh Xa.grown.size; have Sba := Sh.out.on ((Xa.below Eh.out.own hbh).mono hB); have Pa : Hid (PBlk wa w.heap.size h (.slice ao bs.length cap)) := Xa.block Eh.out.own Ph.out (by decide)) | (at_builtin; refine app22 (.tmp 121) (.tmp 122) rfl rfl rfl rfl Xa.own Sa hba (by simp only [List.length_append, List.length_nil, dg_len, hhl]; omega) ?_; intro vb' wb Xb; have hbb : w.heap.size ≤ wb.heap.size := Nat.le_trans hba Xb.grown.size; have Sbb := Sba.on ((Xb.below Xa.own hba).mono hB); have cbb := PBlk.last (w := wb) (b := w.heap.size) (h := h) (v := (.slice ao bs.length cap)) (Xb.block Xa.own Pa.out (by decide))) | (at_builtin; refine app22 (.tmp 124) (.tmp 126) rfl rfl rfl rfl Xb.own Sbb hbb (by simp only [List.length_append, List.length_nil, dg_len, hhl]; omega) ?_; intro vf wf Xf; obtain ⟨gf, cf', N, hvf, hN⟩ := owned_len Xf.own (by simp only [List.length_append, List.length_nil, dg_len, hhl]; omega); subst hvf; have hbig : (1518 : Int) < N := (by rw [hN]; simp only [List.length_append, List.length_nil, dg_len, hhl]; omega); clear hN))
      go_ret2
      have hO : Below w.heap.size w wf := hlc.out.trans ((((Eh.out.trans Xa).trans Xb).trans Xf).below Owns.isNil hbc)
      refine ⟨nilS, by rw [HF.out]; rfl, hO, ?_⟩
      rw [show bOut h bs = [] by simp [bOut, HF.out]]
      exact Owns.isNil
    · have HF : Hid (bErr h bs = 0) := by show bErr h bs = 0; rw [HE.out, if_neg hlong]
      go_wp2_with (first | (at_builtin; refine app22 (.tmp 111) (.tmp 119) rfl rfl rfl rfl Eh.out.own SH.out hbh (by simp only [List.length_append, List.length_nil, dg_len, hhl]; omega) ?_; intro va wa Xa; have Oa := Oh.out.beside Eh.out.own Xa hlt; have Sa := Sl.own Oa (by omega) hpB; have hba : w.heap.size ≤ wa.heap.size := Nat.le_trans hbh Xa.grown.size; have Sba := Sh.out.on ((Xa.below Eh.out.own hbh).mono hB); have Pa : Hid (PBlk wa w.heap.size h (.slice ao bs.length cap)) := Xa.block Eh.out.own Ph.out (by decide)) | (at_builtin; refine app22 (.tmp 121) (.tmp 122) rfl rfl rfl rfl Xa.own Sa hba (by simp only [List.length_append, List.length_nil, dg_len, hhl]; omega) ?_; intro vb' wb Xb; have hbb : w.heap.size ≤ wb.heap.size := Nat.le_trans hba Xb.grown.size; have Sbb := Sba.on ((Xb.below Xa.own hba).mono hB); have cbb := PBlk.last (w := wb) (b := w.heap.size) (h := h) (v := (.slice ao bs.length cap)) (Xb.block Xa.own Pa.out (by decide))) | (at_builtin; refine app22 (.tmp 124) (.tmp 126) rfl rfl rfl rfl Xb.own Sbb hbb (by simp only [List.length_append, List.length_nil, dg_len, hhl]; omega) ?_; intro vf wf Xf; obtain ⟨gf, cf', N, hvf, hN⟩ := owned_len Xf.own (by simp only [List.length_append, List.length_nil, dg_len, hhl]; omega); subst hvf; have hbig : ¬ (1518 : Int) < N := (by rw [hN]; simp only [List.length_append, List.length_nil, dg_len, hhl]; omega); clear hN))
      go_ret2
      have hOl : Below w.heap.size w wf := hlc.out.trans ((((Eh.out.trans Xa).trans Xb).trans Xf).below Owns.isNil hbc)
      refine ⟨_, by rw [HF.out]; rfl, hOl, ?_⟩
      have hO := Xf.own
      have hLe : bOut h bs = [] ++ dg (h 1) 6 ++ dg (h 0) 6 ++ dg 33024 2 ++ dg (h 3) 2 ++ dg (h 2) 2 ++ HL ++ PL ++ bs := by
        rw [show bOut h bs = pktL h bs by simp [bOut, HF.out], HP.out, HEth.out]
        unfold ipL; rw [show ahead h + (bs.length : Int) - 20 = psz (h 6) + bs.length by omega, ← HPL.out, ← HHL.out]; simp only [List.nil_append, List.append_assoc]
      rw [hLe]
      exact hO

set_option maxRecDepth 100000 in
set_option maxHeartbeats 1600000 in
theorem rb_field (B : Nat) (h : Nat → Int) (ao : Option Addr) (cap : Nat) (bs : List Int) (w : World) (hB : B ≤ w.heap.size) (hs : Sl B w (.slice ao bs.length cap) bs) (h1 : hOk h = false) :
    Calls Tryd.prog 15 #[pv h (.slice ao bs.length cap)] w fun e w' => e = .returned (.tuple #[nilS, .int .i64 10]) ∧ Below w.heap.size w w' := by
  have hlen := hs.len
  have hah := ahead_bd h
  obtain ⟨wa, hwa⟩ : ∃ wa, wa = (w.alloc (.cells (prow h (.slice ao bs.length cap)) 27)).alloc (.cells (row 11 h) 25) := ⟨_, rfl⟩
  have hla : Below w.heap.size w wa := by rw [hwa]; exact ((Below.refl _ _).alloc (Nat.le_refl _) _).alloc (by simp) _
  have PA : Hid (PBlk wa w.heap.size h (.slice ao bs.length cap)) := by rw [hwa]; exact (PBlk.new w h (.slice ao bs.length cap)).alloc _
  have KA : Blk wa (w.heap.size + 1) 11 25 h := by rw [hwa]; exact Blk.new1 w _ 11 25 h
  have SA : Hid (Sl B wa (.slice ao bs.length cap) bs) := hs.on (hla.mono hB)
  have HC : Hid (Calls Tryd.prog 25 #[hv h] wa fun e w' => e = .returned (.int .i64 10) ∧ Below wa.heap.size wa w') := by
    have := rcheck_any h wa
    rwa [rchk_eq, show chk h = 10 by simp [chk, h1]] at this
  have HWA : Hid (wa = (w.alloc (.cells (prow h (.slice ao bs.length cap)) 27)).alloc (.cells (row 11 h) 25)) := hwa
  have P0' : Hid (PBlk (w.alloc (.cells (prow h (.slice ao bs.length cap)) 27)) w.heap.size h (.slice ao bs.length cap)) := PBlk.new _ _ _
  have K0' : Hid (Blk ((w.alloc (.cells (prow h (.slice ao bs.length cap)) 27)).alloc (.cells (row 11 h) 25)) (w.heap.size + 1) 11 25 h) := Blk.new1 w _ 11 25 h
  have K0'' : Hid (Blk ((w.alloc (.cells (prow h (.slice ao bs.length cap)) 27)).alloc (.cells (row 11 h) 25)) (w.alloc (.cells (prow h (.slice ao bs.length cap)) 27)).heap.size 11 25 h) := Blk.new _ 11 25 h
  clear hwa hs
  go_enter Tryd.func15, Tryd.ntmps15
  go_wp2_with (first | (refine ldPH (.tmp 9) rfl _ rfl rfl h (.slice ao bs.length cap) P0'.out ?_) | (refine alc25 rfl rfl ?_) | (refine st25n (.tmp 4) (.tmp 10) rfl (w.alloc (.cells (prow h (.slice ao bs.length cap)) 27)) zf rfl rfl h rfl rfl ?_) | (refine ld25 (.tmp 4) rfl _ rfl rfl h K0''.out ?_) | (refine ld25 (.tmp 4) rfl _ rfl rfl h K0'.out ?_))
  rw [← HWA.out]
  go_fit HC.out
  rintro e wc ⟨rfl, hbc'⟩
  have hlc : Hid (Below w.heap.size w wc) := hla.trans (hbc'.mono hla.size)
  have PC0 : Hid (PBlk wc w.heap.size h (.slice ao bs.length cap)) := PA.out.on hbc'
  have KC : Blk wc (w.heap.size + 1) 11 25 h := KA.on hbc'
  have SC : Hid (Sl B wc (.slice ao bs.length cap) bs) := SA.out.on (hbc'.mono (Nat.le_trans hB hla.size))
  have hbc : w.heap.size ≤ wc.heap.size := hlc.out.size
  clear hla PA KA SA HC HWA P0' K0' K0'' hbc' h1
  have c2 := KC.cell 2 (by omega)
  have c11 := PC0.out.last
  go_wp2
  go_ret2
  exact ⟨rfl, hlc.out⟩

set_option maxRecDepth 100000 in
set_option maxHeartbeats 1600000 in
theorem rb_op1 (B : Nat) (h : Nat → Int) (ao : Option Addr) (cap : Nat) (bs : List Int) (w : World) (hB : B ≤ w.heap.size) (hs : Sl B w (.slice ao bs.length cap) bs) (h1 : hOk h = true) (k1 : h 2 = 2054) (hn : bs.length ≠ 1) :
    Calls Tryd.prog 15 #[pv h (.slice ao bs.length cap)] w fun e w' => e = .returned (.tuple #[nilS, .int .i64 30]) ∧ Below w.heap.size w w' := by
  have hd1 : (h 2 == 2054) = true := by simp [k1]
  have hn1 : ((bs.length : Int) != 1) = true := by simp; omega
  have hn2 : (bs.length != 1) = true := by simpa using hn
  clear k1 hn
  have hlen := hs.len
  have hah := ahead_bd h
  obtain ⟨wa, hwa⟩ : ∃ wa, wa = (w.alloc (.cells (prow h (.slice ao bs.length cap)) 27)).alloc (.cells (row 11 h) 25) := ⟨_, rfl⟩
  have hla : Below w.heap.size w wa := by rw [hwa]; exact ((Below.refl _ _).alloc (Nat.le_refl _) _).alloc (by simp) _
  have PA : Hid (PBlk wa w.heap.size h (.slice ao bs.length cap)) := by rw [hwa]; exact (PBlk.new w h (.slice ao bs.length cap)).alloc _
  have KA : Blk wa (w.heap.size + 1) 11 25 h := by rw [hwa]; exact Blk.new1 w _ 11 25 h
  have SA : Hid (Sl B wa (.slice ao bs.length cap) bs) := hs.on (hla.mono hB)
  have HC : Hid (Calls Tryd.prog 25 #[hv h] wa fun e w' => e = .returned (.int .i64 0) ∧ Below wa.heap.size wa w') := by
    have := rcheck_any h wa
    rwa [rchk_eq, show chk h = 0 by simp [chk, h1]] at this
  have HWA : Hid (wa = (w.alloc (.cells (prow h (.slice ao bs.length cap)) 27)).alloc (.cells (row 11 h) 25)) := hwa
  have P0' : Hid (PBlk (w.alloc (.cells (prow h (.slice ao bs.length cap)) 27)) w.heap.size h (.slice ao bs.length cap)) := PBlk.new _ _ _
  have K0' : Hid (Blk ((w.alloc (.cells (prow h (.slice ao bs.length cap)) 27)).alloc (.cells (row 11 h) 25)) (w.heap.size + 1) 11 25 h) := Blk.new1 w _ 11 25 h
  have K0'' : Hid (Blk ((w.alloc (.cells (prow h (.slice ao bs.length cap)) 27)).alloc (.cells (row 11 h) 25)) (w.alloc (.cells (prow h (.slice ao bs.length cap)) 27)).heap.size 11 25 h) := Blk.new _ 11 25 h
  clear hwa hs
  go_enter Tryd.func15, Tryd.ntmps15
  go_wp2_with (first | (refine ldPH (.tmp 9) rfl _ rfl rfl h (.slice ao bs.length cap) P0'.out ?_) | (refine alc25 rfl rfl ?_) | (refine st25n (.tmp 4) (.tmp 10) rfl (w.alloc (.cells (prow h (.slice ao bs.length cap)) 27)) zf rfl rfl h rfl rfl ?_) | (refine ld25 (.tmp 4) rfl _ rfl rfl h K0''.out ?_) | (refine ld25 (.tmp 4) rfl _ rfl rfl h K0'.out ?_))
  rw [← HWA.out]
  go_fit HC.out
  rintro e wc ⟨rfl, hbc'⟩
  have hlc : Hid (Below w.heap.size w wc) := hla.trans (hbc'.mono hla.size)
  have PC0 : Hid (PBlk wc w.heap.size h (.slice ao bs.length cap)) := PA.out.on hbc'
  have KC : Blk wc (w.heap.size + 1) 11 25 h := KA.on hbc'
  have SC : Hid (Sl B wc (.slice ao bs.length cap) bs) := SA.out.on (hbc'.mono (Nat.le_trans hB hla.size))
  have hbc : w.heap.size ≤ wc.heap.size := hlc.out.size
  clear hla PA KA SA HC HWA P0' K0' K0'' hbc' h1
  have c2 := KC.cell 2 (by omega)
  have c11 := PC0.out.last
  go_wp2
  go_ret2
  exact ⟨rfl, hlc.out⟩

set_option maxRecDepth 100000 in
set_option maxHeartbeats 1600000 in
theorem rb_op2 (B : Nat) (h : Nat → Int) (bB oB cap : Nat) (op : Int) (w : World) (hB : B ≤ w.heap.size) (hs : Sl B w (.slice (some ⟨bB, oB, none⟩) 1 cap) [op]) (h1 : hOk h = true) (k1 : h 2 = 2054) (n1 : op ≠ 1) (n2 : op ≠ 2) :
    Calls Tryd.prog 15 #[pv h (.slice (some ⟨bB, oB, none⟩) 1 cap)] w fun e w' => e = .returned (.tuple #[nilS, .int .i64 30]) ∧ Below w.heap.size w w' := by
  have hd1 : (h 2 == 2054) = true := by simp [k1]
  have hx1n : (op != 1) = true := by simp [n1]
  have hx2n : (op != 2) = true := by simp [n2]
  clear k1 n1 n2
  have hlen := hs.len
  have hah := ahead_bd h
  obtain ⟨wa, hwa⟩ : ∃ wa, wa = (w.alloc (.cells (prow h (.slice (some ⟨bB, oB, none⟩) 1 cap)) 27)).alloc (.cells (row 11 h) 25) := ⟨_, rfl⟩
  have hla : Below w.heap.size w wa := by rw [hwa]; exact ((Below.refl _ _).alloc (Nat.le_refl _) _).alloc (by simp) _
  have PA : Hid (PBlk wa w.heap.size h (.slice (some ⟨bB, oB, none⟩) 1 cap)) := by rw [hwa]; exact (PBlk.new w h (.slice (some ⟨bB, oB, none⟩) 1 cap)).alloc _
  have KA : Blk wa (w.heap.size + 1) 11 25 h := by rw [hwa]; exact Blk.new1 w _ 11 25 h
  have SA : Hid (Sl B wa (.slice (some ⟨bB, oB, none⟩) 1 cap) [op]) := hs.on (hla.mono hB)
  have HC : Hid (Calls Tryd.prog 25 #[hv h] wa fun e w' => e = .returned (.int .i64 0) ∧ Below wa.heap.size wa w') := by
    have := rcheck_any h wa
    rwa [rchk_eq, show chk h = 0 by simp [chk, h1]] at this
  have HWA : Hid (wa = (w.alloc (.cells (prow h (.slice (some ⟨bB, oB, none⟩) 1 cap)) 27)).alloc (.cells (row 11 h) 25)) := hwa
  have P0' : Hid (PBlk (w.alloc (.cells (prow h (.slice (some ⟨bB, oB, none⟩) 1 cap)) 27)) w.heap.size h (.slice (some ⟨bB, oB, none⟩) 1 cap)) := PBlk.new _ _ _
  have K0' : Hid (Blk ((w.alloc (.cells (prow h (.slice (some ⟨bB, oB, none⟩) 1 cap)) 27)).alloc (.cells (row 11 h) 25)) (w.heap.size + 1) 11 25 h) := Blk.new1 w _ 11 25 h
  have K0'' : Hid (Blk ((w.alloc (.cells (prow h (.slice (some ⟨bB, oB, none⟩) 1 cap)) 27)).alloc (.cells (row 11 h) 25)) (w.alloc (.cells (prow h (.slice (some ⟨bB, oB, none⟩) 1 cap)) 27)).heap.size 11 25 h) := Blk.new _ 11 25 h
  obtain ⟨hbB, hcl⟩ : bB < B ∧ ∀ W, Below B w W → W.cell? ⟨bB, oB, none⟩ = some (.int .u8 op) := by
    obtain ⟨ao', cap', e, _, _, _, _, hc⟩ := hs
    simp only [Value.slice.injEq] at e
    obtain ⟨rfl, _, rfl⟩ := e
    obtain ⟨b, o, hlt, e2, hcc⟩ := hc (by simp)
    simp only [Option.some.injEq, Addr.mk.injEq, and_true] at e2
    obtain ⟨rfl, rfl⟩ := e2
    refine ⟨hlt, fun W hW => ?_⟩
    rw [hW.cell (p := ⟨bB, oB, none⟩) hlt]
    simpa using hcc 0 (by simp)
  have HCL : Hid (∀ W, Below B w W → W.cell? ⟨bB, oB, none⟩ = some (.int .u8 op)) := hcl
  clear hwa hs hcl
  go_enter Tryd.func15, Tryd.ntmps15
  go_wp2_with (first | (refine ldPH (.tmp 9) rfl _ rfl rfl h (.slice (some ⟨bB, oB, none⟩) 1 cap) P0'.out ?_) | (refine alc25 rfl rfl ?_) | (refine st25n (.tmp 4) (.tmp 10) rfl (w.alloc (.cells (prow h (.slice (some ⟨bB, oB, none⟩) 1 cap)) 27)) zf rfl rfl h rfl rfl ?_) | (refine ld25 (.tmp 4) rfl _ rfl rfl h K0''.out ?_) | (refine ld25 (.tmp 4) rfl _ rfl rfl h K0'.out ?_))
  rw [← HWA.out]
  go_fit HC.out
  rintro e wc ⟨rfl, hbc'⟩
  have hlc : Hid (Below w.heap.size w wc) := hla.trans (hbc'.mono hla.size)
  have PC0 : Hid (PBlk wc w.heap.size h (.slice (some ⟨bB, oB, none⟩) 1 cap)) := PA.out.on hbc'
  have KC : Blk wc (w.heap.size + 1) 11 25 h := KA.on hbc'
  have SC : Hid (Sl B wc (.slice (some ⟨bB, oB, none⟩) 1 cap) [op]) := SA.out.on (hbc'.mono (Nat.le_trans hB hla.size))
  have hbc : w.heap.size ≤ wc.heap.size := hlc.out.size
  clear hla PA KA SA HC HWA P0' K0' K0'' hbc' h1
  have c2 := KC.cell 2 (by omega)
  have c11 := PC0.out.last
  have cb := HCL.out wc (hlc.out.mono hB)
  go_wp2
  go_ret2
  exact ⟨rfl, hlc.out⟩

/-- WHAT THE DOCUMENT's Build ANSWERS. -/
theorem rbuild_any (B : Nat) (h : Nat → Int) (vb : Value) (bs : List Int) (w : World) (hB : B ≤ w.heap.size) (hs : Sl B w vb bs) :
    Calls Tryd.prog 15 #[pv h vb] w fun e w' => ∃ v', e = .returned (.tuple #[v', .int .i64 (bErr h bs)]) ∧ Below w.heap.size w w' ∧ Owns w.heap.size w' v' (bOut h bs) := by
  have hs0 := hs
  obtain ⟨ao, cap, rfl, hcap, _, _, _, hc⟩ := hs0
  cases h1 : hOk h
  · have e1 : bErr h bs = 10 := by simp [bErr, h1]
    have e2 : bOut h bs = [] := by simp [bOut, e1]
    rw [e1, e2]
    refine (rb_field B h ao cap bs w hB hs h1).mono ?_
    rintro e w' ⟨rfl, hb⟩
    exact ⟨nilS, rfl, hb, Owns.isNil⟩
  · by_cases k1 : h 2 = 2054
    · by_cases hn : bs.length = 1
      · obtain ⟨x, rfl⟩ : ∃ x, bs = [x] := by
          match bs, hn with
          | [x], _ => exact ⟨x, rfl⟩
        obtain ⟨b, o, _, rfl, _⟩ := hc (by simp)
        by_cases hop : x = 1 ∨ x = 2
        · by_cases hv3 : h 3 = 0
          · exact rb_arp_u B h b o cap x w hB hs h1 hv3 k1 hop
          · exact rb_arp_t B h b o cap x w hB hs h1 hv3 k1 hop
        · have e0 : isOp [x] = false := by
            cases hq : isOp [x]
            · rfl
            · exact absurd (by rcases isOp_one hq with e | e <;> simp at e <;> omega) hop
          have e1 : bErr h [x] = 30 := by simp [bErr, h1, k1, e0]
          have e2 : bOut h [x] = [] := by simp [bOut, e1]
          rw [e1, e2]
          refine (rb_op2 B h b o cap x w hB hs h1 k1 (fun e => hop (Or.inl e)) (fun e => hop (Or.inr e))).mono ?_
          rintro e w' ⟨rfl, hb⟩
          exact ⟨nilS, rfl, hb, Owns.isNil⟩
      · have e1 : bErr h bs = 30 := by simp [bErr, h1, k1, isOp_long hn]
        have e2 : bOut h bs = [] := by simp [bOut, e1]
        rw [e1, e2]
        refine (rb_op1 B h ao cap bs w hB hs h1 k1 hn).mono ?_
        rintro e w' ⟨rfl, hb⟩
        exact ⟨nilS, rfl, hb, Owns.isNil⟩
    · by_cases k2 : h 2 = 2048
      · by_cases hv3 : h 3 = 0
        · exact rb_ip_u B h ao cap bs w hB hs h1 hv3 k2
        · exact rb_ip_t B h ao cap bs w hB hs h1 hv3 k2
      · by_cases hv3 : h 3 = 0
        · exact rb_other_u B h ao cap bs w hB hs h1 hv3 k1 k2
        · exact rb_other_t B h ao cap bs w hB hs h1 hv3 k1 k2
end Go.Proofs.YtgjglbailgeneaaDoor
