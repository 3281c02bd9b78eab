/-
  Proved here: the document's only (of package tollbridgeref07) tells whether a message has nothing but what counts; no old memory turns. Condition: the message's memory is as it says.
-/
/-
  Proved here: the document's only, of every message. Condition: the message's memory is as it says.
-/
/-
  Proved here: the document's right (of package tollbridgeref07) tells whether a message is one, but for its length; no old memory turns. Conditions: the message's memory is as it says, its numbers of their types.
-/
import Derived.Test.YtllbbbfkdgjffaaGreatDoorOQ1
import Derived.Test.YtllbbbfkdgjffaaGreatDoorDF
namespace Go.Proofs.YtllbbbfkdgjffaaGreatDoor
open Go.RowKit

set_option maxHeartbeats 6400000 in
set_option maxRecDepth 100000 in
theorem only_ok {T : Nat → Prop} (m : Ms) (s : Sls) (w : World) (hs : Mss T w m s) (hty : isTy m.ty = true) :
    Calls Tryz.prog 37 #[.agg (msc m s)] w (OnP w m) := by
  obtain ⟨W1, HW1⟩ : ∃ W, Hid (w.alloc (.cells (msc m s) 37) = W) := ⟨_, rfl⟩
  obtain ⟨g, hg⟩ : ∃ g, g = w.heap.size := ⟨_, rfl⟩
  have hb1 : Below w.heap.size w W1 := by rw [← HW1.out]; exact (Below.refl _ _).alloc (Nat.le_refl _) _
  have hm1 : MB W1 g m s := by rw [← HW1.out, hg]; exact heap_alloc_new _ _
  have hz1 : g < W1.heap.size := (Array.getElem?_eq_some_iff.1 hm1).1
  have hs1 : Mss T W1 m s := hs.carry fun b hb hT => ⟨hT, hb1.block b hb⟩
  have HC := hid (rbare_any m s W1 hs1)
  have HL := hid hm1
  have HO := hid (mss_one (br_mss hs1))
  have HK : Hid (∀ w2, Below W1.heap.size W1 w2 → ∀ V, w2.alloc (.cells (msc (brM m) (brS m s)) 37) = V → Below w.heap.size w V ∧ MB V g m s ∧ MB V w2.heap.size (brM m) (brS m s) ∧ Mss T V m s) := fun w2 h2 V hV => by
    have hbV : Below w2.heap.size w2 V := by rw [← hV]; exact (Below.refl _ _).alloc (Nat.le_refl _) _
    have h12 : Below W1.heap.size W1 V := h2.trans (hbV.mono h2.size)
    refine ⟨hb1.trans (h12.mono hb1.size), (h12.block g hz1).trans hm1, by rw [← hV]; exact heap_alloc_new _ _, hs1.carry fun b hb hT => ⟨hT, h12.block b hb⟩⟩
  have HBm := hid (br_mss hs)
  have HSm := hid hs
  have HG := hid hg
  have hit : isTy m.ty = true := hty
  have HI := hid hit
  clear hg hb1 hm1 hz1 hs1 hs hty
  go_enter Tryz.func37, Tryz.ntmps37
  go_upto_region 1 with (refine bxMs (.tmp 0) rfl rfl m s rfl W1 HW1 ?_)
  rw [← HG.out]
  go_upto_region 2 with (first
    | (refine ldRow 37 (.tmp 1) rfl rfl g rfl 37 (msc m s) _ Tryz.underlying37 rfl (sizeMs m s) HL.out ?_)
    | (go_at_call 48; refine (HC.out).mono ?_; rintro e w2 ⟨hb2, rfl⟩; have HB2 := hid hb2; rw [hit]; clear hit HC hb2)
    | (refine stNew 37 (.tmp 3) (.tmp 8) rfl rfl w2 37 _ (msc (brM m) (brS m s)) rfl rfl rfl (sizeMs _ _) (by rw [msc_size]; rfl) HO.out ?_))
  obtain ⟨V, HV⟩ : ∃ V, Hid (w2.alloc (.cells (msc (brM m) (brS m s)) 37) = V) := ⟨_, rfl⟩
  rw [HV.out]
  obtain ⟨hlV, hMV, hBV, hsV⟩ := HK.out w2 HB2.out V HV.out
  obtain ⟨j, hj⟩ : ∃ j, j = w2.heap.size := ⟨_, rfl⟩
  rw [← hj] at hBV
  rw [← hj]
  have HLo := hid hlV
  have HRl := hid (mb_range hMV)
  have HEm := hid (rempty_any m.r s.cp V hsV.cp)
  obtain ⟨a1, c1, a2, c2, a3, c3, a4, c4, p0, p2, p28, p29, p30, p35, p31, p32, p33, p34, pl⟩ := on_cells hMV HSm.out
  obtain ⟨e1, d1, e2, d2, e3, d3, e4, d4, q0, q2, q28, q29, q30, q35, q31, q32, q33, q34, ql⟩ := on_cells hBV HBm.out
  have HF : Hid (onlyB m = (decide ((brM m).dw = m.dw) && (decide ((brM m).po = m.po) && (((brM m).up == m.up) && (decide ((brM m).sw = m.sw) && (decide ((brM m).co = m.co) && (decide ((brM m).ps.length = m.ps.length) && (decide ((brM m).ed.length = m.ed.length) && (decide ((brM m).fr.length = m.fr.length) && (decide ((brM m).hs.length = m.hs.length) && (decide (m.ty = 5) || blRl m.r))))))))))) := rfl
  clear hMV hBV hsV hlV HK HV HB2 HBm HSm HO HL HG HW1 hj pl ql q0
  generalize (brM m).dw = x0 at q2 HF
  generalize m.dw = y0 at p2 HF
  generalize (brM m).po = x1 at q28 HF
  generalize m.po = y1 at p28 HF
  generalize (brM m).up = x2 at q29 HF
  generalize m.up = y2 at p29 HF
  generalize (brM m).sw = x3 at q30 HF
  generalize m.sw = y3 at p30 HF
  generalize (brM m).co = x4 at q35 HF
  generalize m.co = y4 at p35 HF
  generalize (brM m).ps.length = n0 at q31 HF
  generalize m.ps.length = k0 at p31 HF
  generalize (brM m).ed.length = n1 at q32 HF
  generalize m.ed.length = k1 at p32 HF
  generalize (brM m).fr.length = n2 at q33 HF
  generalize m.fr.length = k2 at p33 HF
  generalize (brM m).hs.length = n3 at q34 HF
  generalize m.hs.length = k3 at p34 HF
  have HR : Hid ((isTy m.ty && onlyB m) = onlyB m) := by show _ = _; rw [HI.out]; rfl
  clear HI
  by_cases hx0 : x0 = y0
  rotate_left
  · have hn : (x0 != y0) = true := by simpa using hx0
    have HZ : Hid (onlyB m = false) := by show _ = _; rw [HF.out]; simp [hx0]
    clear HF hx0
    go_wp2
    go_ret
    exact ⟨by rw [HR.out, HZ.out]; rfl, HLo.out⟩
  subst hx0
  by_cases hx1 : x1 = y1
  rotate_left
  · have hn : (x1 != y1) = true := by simpa using hx1
    have HZ : Hid (onlyB m = false) := by show _ = _; rw [HF.out]; simp [hx1]
    clear HF hx1
    go_wp2
    go_ret
    exact ⟨by rw [HR.out, HZ.out]; rfl, HLo.out⟩
  subst hx1
  by_cases hx2 : x2 = y2
  rotate_left
  · have hn : (x2 == y2) = false := beq_eq_false_iff_ne.2 hx2
    have HZ : Hid (onlyB m = false) := by show _ = _; rw [HF.out]; simp [hx2]
    clear HF hx2
    go_wp2
    go_ret
    exact ⟨by rw [HR.out, HZ.out]; rfl, HLo.out⟩
  subst hx2
  by_cases hx3 : x3 = y3
  rotate_left
  · have hn : (x3 != y3) = true := by simpa using hx3
    have HZ : Hid (onlyB m = false) := by show _ = _; rw [HF.out]; simp [hx3]
    clear HF hx3
    go_wp2
    go_ret
    exact ⟨by rw [HR.out, HZ.out]; rfl, HLo.out⟩
  subst hx3
  by_cases hx4 : x4 = y4
  rotate_left
  · have hn : (x4 != y4) = true := by simpa using hx4
    have HZ : Hid (onlyB m = false) := by show _ = _; rw [HF.out]; simp [hx4]
    clear HF hx4
    go_wp2
    go_ret
    exact ⟨by rw [HR.out, HZ.out]; rfl, HLo.out⟩
  subst hx4
  go_upto_region 4 with fail
  refine wp_region_list ?_
  by_cases hl0 : n0 = k0
  rotate_left
  · have hn : ((n0 : Int) == (k0 : Int)) = false := beq_eq_false_iff_ne.2 (by omega)
    have HZ : Hid (onlyB m = false) := by show _ = _; rw [HF.out]; simp [hl0]
    clear HF hl0
    go_wp2
    go_ret
    exact ⟨by rw [HR.out, HZ.out]; rfl, HLo.out⟩
  subst hl0
  by_cases hl1 : n1 = k1
  rotate_left
  · have hn : ((n1 : Int) == (k1 : Int)) = false := beq_eq_false_iff_ne.2 (by omega)
    have HZ : Hid (onlyB m = false) := by show _ = _; rw [HF.out]; simp [hl1]
    clear HF hl1
    go_wp2
    go_ret
    exact ⟨by rw [HR.out, HZ.out]; rfl, HLo.out⟩
  subst hl1
  by_cases hl2 : n2 = k2
  rotate_left
  · have hn : ((n2 : Int) == (k2 : Int)) = false := beq_eq_false_iff_ne.2 (by omega)
    have HZ : Hid (onlyB m = false) := by show _ = _; rw [HF.out]; simp [hl2]
    clear HF hl2
    go_wp2
    go_ret
    exact ⟨by rw [HR.out, HZ.out]; rfl, HLo.out⟩
  subst hl2
  by_cases hl3 : n3 = k3
  rotate_left
  · have hn : ((n3 : Int) == (k3 : Int)) = false := beq_eq_false_iff_ne.2 (by omega)
    have HZ : Hid (onlyB m = false) := by show _ = _; rw [HF.out]; simp [hl3]
    clear HF hl3
    go_wp2
    go_ret
    exact ⟨by rw [HR.out, HZ.out]; rfl, HLo.out⟩
  subst hl3
  generalize m.ty = ty at p0 HF
  by_cases h5 : ty = 5
  · subst h5
    have HZ : Hid (onlyB m = true) := by show _ = _; rw [HF.out]; simp
    clear HF
    go_wp2
    go_ret
    exact ⟨by rw [HR.out, HZ.out]; rfl, HLo.out⟩
  · have hn : (ty == 5) = false := beq_eq_false_iff_ne.2 h5
    have HZ : Hid (onlyB m = blRl m.r) := by show _ = _; rw [HF.out]; simp [h5]
    clear HF h5
    generalize blRl m.r = bl at HZ HEm
    go_wp2_with (first
      | (refine ldMid 31 (.tmp 86) rfl rfl g 3 rfl (rlc m.r s.cp) _ Tryz.underlying31 rfl (sizeRl _ _) HRl.out ?_)
      | (go_at_call 49; refine (HEm.out).mono ?_; rintro e w4 ⟨rfl, hb4⟩; have HB4 := hid (HLo.out.trans (hb4.mono HLo.out.size)); clear hb4 HEm))
    go_ret
    exact ⟨by rw [HR.out, HZ.out]; rfl, HB4.out⟩
end Go.Proofs.YtllbbbfkdgjffaaGreatDoor
namespace Go.Proofs.YtllbbbfkdgjffaaGreatDoor
open Go.RowKit

theorem ronly_any {T : Nat → Prop} (m : Ms) (s : Sls) (w : World) (hs : Mss T w m s) : Calls Tryz.prog 37 #[.agg (msc m s)] w (OnP w m) := by
  cases h : isTy m.ty
  · exact only_no m s w hs h
  · exact only_ok m s w hs h
end Go.Proofs.YtllbbbfkdgjffaaGreatDoor
namespace Go.Proofs.YtllbbbfkdgjffaaGreatDoor
open Go.RowKit

/-- A held rule's own rule, in a later world. -/
theorem Hds.at {T : Nat → Prop} {w : World} {ao : Option Addr} {n cap : Nat} {l : List Hd} (h : Hds T w (.slice ao n cap) l) {j : Nat} (hj : j < l.length) : ∃ b o u, ao = some ⟨b, o, none⟩ ∧ w.rangeAt b (o + j * 27) (rlc l[j].r u).toList ∧ Cps T w u l[j].r.cp ∧ l[j].Fit := by
  obtain ⟨b, o, rfl, -, u, h1, h2, h3⟩ := h.cell7 j hj
  refine ⟨b, o, u, rfl, range_of fun i hi => ?_, h2, h3⟩
  rw [rlc_size] at hi
  have := h1 i (by omega)
  rw [hdc_rl _ _ i hi] at this
  exact this
theorem Mss.below {T : Nat → Prop} {w w' : World} {m : Ms} {s : Sls} (h : Mss T w m s) (hb : Below w.heap.size w w') : Mss T w' m s := h.carry fun b hb' hT => ⟨hT, hb.block b hb'⟩
theorem MB.on {w w' : World} {b : Nat} {m : Ms} {s : Sls} (h : MB w b m s) (hb : Below w.heap.size w w') : MB w' b m s := (hb.block b (Array.getElem?_eq_some_iff.1 h).1).trans h
/-- Where the document's looks are: the box and the message's memory. -/
structure Bx (T : Nat → Prop) (w : World) (g : Nat) (m : Ms) (s : Sls) (V : World) : Prop where
  low : Below w.heap.size w V
  mb : MB V g m s
  ms : Mss T V m s
theorem Bx.on {T : Nat → Prop} {w : World} {g : Nat} {m : Ms} {s : Sls} {V V' : World} (h : Bx T w g m s V) (hb : Below V.heap.size V V') : Bx T w g m s V' := ⟨h.low.trans (hb.mono h.low.size), h.mb.on hb, h.ms.below hb⟩
theorem Bx.new {T : Nat → Prop} {w : World} {m : Ms} {s : Sls} (hs : Mss T w m s) : Bx T w w.heap.size m s (w.alloc (.cells (msc m s) 37)) := by
  have hb : Below w.heap.size w (w.alloc (.cells (msc m s) 37)) := (Below.refl _ _).alloc (Nat.le_refl _) _
  exact ⟨hb, heap_alloc_new _ _, hs.below hb⟩
theorem okDo_0 {x : Int} (h : ¬ 0 ≤ x) : okDo x = false := decide_eq_false (by omega)
theorem okDo_3 {x : Int} (h0 : 0 ≤ x) : okDo x = decide (x ≤ 3) := by
  unfold okDo; rw [Bool.eq_iff_iff, decide_eq_true_iff, decide_eq_true_iff]; omega
set_option maxHeartbeats 6400000 in
set_option maxRecDepth 100000 in
theorem rright_any {T : Nat → Prop} (m : Ms) (s : Sls) (w : World) (hs : Mss T w m s) (hf : m.Fit) :
    Calls Tryz.prog 17 #[.agg (msc m s)] w fun e w' => e = .returned (.bool (okMs m)) ∧ Below w.heap.size w w' := by
  have hB := Bx.new hs
  obtain ⟨W1, HW1⟩ : ∃ W, Hid (w.alloc (.cells (msc m s) 37) = W) := ⟨_, rfl⟩
  rw [HW1.out] at hB
  obtain ⟨g, hg⟩ : ∃ g, g = w.heap.size := ⟨_, rfl⟩
  rw [← hg] at hB
  have HG := hid hg
  have HL := hid hB.mb
  have HC := hid (ronly_any m s W1 hB.ms)
  have HO : Hid (∀ w2, Below W1.heap.size W1 w2 → Bx T w g m s w2) := fun w2 h2 => hB.on h2
  have HFa : Hid (∀ x r u, Cps T x u r.cp → r.Fit → Calls Tryz.prog 38 #[.agg (rlc r u)] x fun e w' => e = .returned (.bool (okRl r)) ∧ Below x.heap.size x w') := fun x r u hc hr => rfair_any r u hc hr
  have HR := hid (okMs_right m)
  have HFit := hid hf
  have hdw := hf.dw
  have hpo := hf.po
  clear hg hB hs hf
  cases ha : (isTy m.ty && onlyB m) with
  | false =>
    have HZ : Hid (okMs m = false) := by show _ = _; rw [HR.out, ← Bool.and_assoc, ha]; rfl
    unfold OnP at HC
    rw [ha] at HC
    clear ha HR
    go_enter Tryz.func17, Tryz.ntmps17
    go_upto_region 1 with (refine bxMs (.tmp 0) rfl rfl m s rfl W1 HW1 ?_)
    rw [← HG.out]
    go_wp2_with (first
      | (refine ldRow 37 (.tmp 1) rfl rfl g rfl 37 (msc m s) _ Tryz.underlying37 rfl (sizeMs m s) HL.out ?_)
      | (go_at_call 37; refine (HC.out).mono ?_; rintro e w2 ⟨rfl, hb2⟩; have HX2 := hid (HO.out w2 hb2).low; clear hb2 HC))
    go_ret
    exact ⟨by rw [HZ.out]; rfl, HX2.out⟩
  | true =>
    have HZ : Hid (okMs m = rightB m) := by show _ = _; rw [HR.out, ← Bool.and_assoc, ha]; rfl
    unfold OnP at HC
    rw [ha] at HC
    clear ha HR
    go_enter Tryz.func17, Tryz.ntmps17
    go_upto_region 1 with (refine bxMs (.tmp 0) rfl rfl m s rfl W1 HW1 ?_)
    rw [← HG.out]
    go_upto_region 3 with (first
      | (refine ldRow 37 (.tmp 1) rfl rfl g rfl 37 (msc m s) _ Tryz.underlying37 rfl (sizeMs m s) HL.out ?_)
      | (go_at_call 37; refine (HC.out).mono ?_; rintro e w2 ⟨rfl, hb2⟩; have HX2 := hid (HO.out w2 hb2); clear hb2 HC))
    obtain ⟨p0, p1, p2, p28, p29, p30, p31, p32, p33, p34, p35⟩ := mb_cells HX2.out.mb
    clear p1 p29 p30 p31 p32 p33 p35
    have HRr := hid (mb_range HX2.out.mb)
    obtain ⟨ah, ch, eh, -⟩ := HX2.out.ms.hs.form
    rw [eh] at p34
    have hhl := HX2.out.ms.hs.len
    have HHs := hid HX2.out.ms.hs
    rw [eh] at HHs
    have HTy : Hid (rightB m = if m.ty = 5 then okDo m.dw && okRl m.r else if m.ty = 11 then m.hs.all okHd && okMo m.po else true) := rfl
    clear eh
    generalize m.ty = ty at p0 HTy
    by_cases h5 : ty = 5
    · subst h5
      have HT5 : Hid (rightB m = (okDo m.dw && okRl m.r)) := by show _ = _; rw [HTy.out]; rfl
      have HF := hid (HFa.out w2 m.r s.cp HX2.out.ms.cp HFit.out.r)
      clear HTy HFa p34 p28 HHs
      generalize m.dw = d at p2 HT5 hdw
      by_cases hd0 : 0 ≤ d
      · have e1 : decide ((0 : Int) ≤ d) = true := decide_eq_true hd0
        have HD := hid (okDo_3 hd0)
        by_cases hd3 : d ≤ 3
        · have e2 : decide (d ≤ 3) = true := decide_eq_true hd3
          have HZ2 : Hid (okMs m = okRl m.r) := by show _ = _; rw [HZ.out, HT5.out, HD.out, e2]; rfl
          clear HZ HT5 HD
          generalize okRl m.r = ok at HZ2 HF
          go_wp2_with (first
            | (refine ldMid 31 (.tmp 20) rfl rfl g 3 rfl (rlc m.r s.cp) _ Tryz.underlying31 rfl (sizeRl _ _) HRr.out ?_)
            | (go_at_call 38; refine (HF.out).mono ?_; rintro e w4 ⟨rfl, hb4⟩; have HB4 := hid (HX2.out.on hb4).low; clear hb4 HF))
          go_ret
          exact ⟨by rw [HZ2.out]; rfl, HB4.out⟩
        · have e2 : decide (d ≤ 3) = false := decide_eq_false hd3
          have HZ2 : Hid (okMs m = false) := by show _ = _; rw [HZ.out, HT5.out, HD.out, e2]; rfl
          clear HZ HT5 HD HF
          go_wp2
          go_ret
          exact ⟨by rw [HZ2.out]; rfl, HX2.out.low⟩
      · have e1 : decide ((0 : Int) ≤ d) = false := decide_eq_false hd0
        have HZ2 : Hid (okMs m = false) := by show _ = _; rw [HZ.out, HT5.out, okDo_0 hd0]; rfl
        clear HZ HT5 HF
        go_wp2
        go_ret
        exact ⟨by rw [HZ2.out]; rfl, HX2.out.low⟩
    · have t5 : (ty == 5) = false := beq_eq_false_iff_ne.2 h5
      by_cases h11 : ty = 11
      · subst h11
        have HT11 : Hid (rightB m = (m.hs.all okHd && okMo m.po)) := by show _ = _; rw [HTy.out, if_neg h5, if_pos rfl]
        clear HTy h5 p2
        go_upto_region 8 with fail
        go_loopw [3] (fun i wr => ∃ k : Nat, k ≤ m.hs.length ∧ i = .int .i64 k ∧ (m.hs.take k).all okHd = true ∧ Below w2.heap.size w2 wr) (fun i _ => m.hs.length - (intOf i).toNat)
        case atStart => exact ⟨0, by omega, rfl, by simp, Below.refl _ _⟩
        case round =>
          obtain ⟨k, hk, rfl, hall, hlow⟩ := hrel
          generalize wr = wx at *
          have hX := HX2.out.on hlow
          have r34 : wx.cell? ⟨g, 34, none⟩ = some (.slice ah m.hs.length ch) := by rw [hlow.cell (p := ⟨g, 34, none⟩) (cell_lt p34)]; exact p34
          have r28 : wx.cell? ⟨g, 28, none⟩ = some (.int .u16 m.po) := by rw [hlow.cell (p := ⟨g, 28, none⟩) (cell_lt p28)]; exact p28
          have HA := hid hall
          have HLo := hid hlow
          have HXx := hid hX
          have hHx : Hds T wx (.slice ah m.hs.length ch) m.hs := Hds.carry (fun b hb hT => ⟨hT, hlow.block b hb⟩) HHs.out
          clear hall hlow hX
          by_cases hlt : k < m.hs.length
          · have hkl : decide ((k : Int) < (m.hs.length : Int)) = true := decide_eq_true (by omega)
            obtain ⟨b, o, u, rfl, hr, hcu, hfu⟩ := hHx.at hlt
            have HC2 := hid (HFa.out wx m.hs[k].r u hcu hfu.1)
            have HRk := hid hr
            have hmem : m.hs[k] ∈ m.hs := List.getElem_mem hlt
            have HNo : Hid (okRl m.hs[k].r = false → okMs m = false) := fun he => by
              rw [HZ.out, HT11.out]
              have : m.hs.all okHd = false := by
                rw [Bool.eq_false_iff]
                intro h'
                have := List.all_eq_true.1 h' _ hmem
                unfold okHd at this
                rw [he] at this; cases this
              rw [this]; rfl
            have HYes : Hid (okRl m.hs[k].r = true → (m.hs.take (k + 1)).all okHd = true) := fun he => by
              rw [List.take_succ_eq_append_getElem hlt, List.all_append, HA.out]
              simp [okHd, he]
            clear hr hcu hfu hHx hmem HA p34 p28 r28
            generalize m.hs[k].r = rr at HC2 HRk HNo HYes
            cases hb : okRl rr with
            | false =>
              rw [hb] at HC2
              have HZ2 := hid (HNo.out hb)
              go_wp2_with (first
                | (refine ldMid 31 (.tmp 37) rfl rfl b (o + k * 27) rfl (rlc rr u) _ Tryz.underlying31 rfl (sizeRl _ _) HRk.out ?_)
                | (go_at_call 38; refine (HC2.out).mono ?_; rintro e w4 ⟨rfl, hb4⟩; have HB4 := hid (HXx.out.on hb4).low; clear hb4 HC2))
              go_ret
              exact ⟨by rw [HZ2.out]; rfl, HB4.out⟩
            | true =>
              rw [hb] at HC2
              have HT := hid (HYes.out hb)
              go_wp2_with (first
                | (refine ldMid 31 (.tmp 37) rfl rfl b (o + k * 27) rfl (rlc rr u) _ Tryz.underlying31 rfl (sizeRl _ _) HRk.out ?_)
                | (go_at_call 38; refine (HC2.out).mono ?_; rintro e w4 ⟨rfl, hb4⟩; have HB4 := hid (HLo.out.trans (hb4.mono HLo.out.size)); clear hb4 HC2))
              go_roundw
              case rel => exact ⟨k + 1, by omega, by go_num, HT.out, HB4.out⟩
              case measure => simp [intOf]; omega
          · obtain rfl : k = m.hs.length := by omega
            have hkl : decide ((m.hs.length : Int) < (m.hs.length : Int)) = false := by simp
            have HZ2 : Hid (okMs m = decide (m.po ≤ 1)) := by
              show _ = _
              have h1 := HA.out
              rw [List.take_length] at h1
              rw [HZ.out, HT11.out, h1]; rfl
            clear hHx HA HZ HT11 p28 p34
            generalize m.po = po at r28 HZ2 hpo
            go_wp2
            go_ret
            exact ⟨by rw [HZ2.out]; rfl, HXx.out.low⟩
      · have t11 : (ty == 11) = false := beq_eq_false_iff_ne.2 h11
        have HZ2 : Hid (okMs m = true) := by show _ = _; rw [HZ.out, HTy.out, if_neg h5, if_neg h11]
        clear HZ HTy h5 h11
        go_wp2
        go_ret
        exact ⟨by rw [HZ2.out]; rfl, HX2.out.low⟩
end Go.Proofs.YtllbbbfkdgjffaaGreatDoor
