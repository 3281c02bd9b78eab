/-
  Proved here: the document's only (of package tollbridgeref07) tells whether a message has nothing but what counts; no old memory turns. Condition: the message's memory is as it says.
-/
/-
  Proved here: the document's only, of every message. Condition: the message's memory is as it says.
-/
/-
  Proved here: the document's right (of package tollbridgeref07) tells whether a message is one, but for its length; no old memory turns. Conditions: the message's memory is as it says, its numbers of their types.
-/
/-
  Proved here: the document's Check and Encode (of package tollbridgeref07) answer as a message's bytes and error say; no old memory turns. Conditions: the message's memory is old and as it says, its numbers of their types.
-/
/-
  Proved here: the laws' look at a short message says true. Conditions: the tables hold their numbers.
-/
import Derived.Test.YtllbbbfkdgjffaaGreatDoorOQ1
import Derived.Test.YtllbbbfkdgjffaaGreatDoorDF
import Derived.Test.YtllbbbfkdgjffaaGreatDoorLR
import Derived.Test.YtllbbbfkdgjffaaGreatDoorEN
import Derived.Test.YtllbbbfkdgjffaaGreatDoorDJ
namespace Go.Proofs.YtllbbbfkdgjffaaGreatDoor
open Go.RowKit

set_option maxHeartbeats 6400000 in
set_option maxRecDepth 100000 in
theorem only_ok {T : Nat → Prop} (m : Ms) (s : Sls) (w : World) (hs : Mss T w m s) (hty : isTy m.ty = true) :
    Calls Tryz.prog 37 #[.agg (msc m s)] w (OnP w m) := by
  obtain ⟨W1, HW1⟩ : ∃ W, Hid (w.alloc (.cells (msc m s) 37) = W) := ⟨_, rfl⟩
  obtain ⟨g, hg⟩ : ∃ g, g = w.heap.size := ⟨_, rfl⟩
  have hb1 : Below w.heap.size w W1 := by rw [← HW1.out]; exact (Below.refl _ _).alloc (Nat.le_refl _) _
  have hm1 : MB W1 g m s := by rw [← HW1.out, hg]; exact heap_alloc_new _ _
  have hz1 : g < W1.heap.size := (Array.getElem?_eq_some_iff.1 hm1).1
  have hs1 : Mss T W1 m s := hs.carry fun b hb hT => ⟨hT, hb1.block b hb⟩
  have HC := hid (rbare_any m s W1 hs1)
  have HL := hid hm1
  have HO := hid (mss_one (br_mss hs1))
  have HK : Hid (∀ w2, Below W1.heap.size W1 w2 → ∀ V, w2.alloc (.cells (msc (brM m) (brS m s)) 37) = V → Below w.heap.size w V ∧ MB V g m s ∧ MB V w2.heap.size (brM m) (brS m s) ∧ Mss T V m s) := fun w2 h2 V hV => by
    have hbV : Below w2.heap.size w2 V := by rw [← hV]; exact (Below.refl _ _).alloc (Nat.le_refl _) _
    have h12 : Below W1.heap.size W1 V := h2.trans (hbV.mono h2.size)
    refine ⟨hb1.trans (h12.mono hb1.size), (h12.block g hz1).trans hm1, by rw [← hV]; exact heap_alloc_new _ _, hs1.carry fun b hb hT => ⟨hT, h12.block b hb⟩⟩
  have HBm := hid (br_mss hs)
  have HSm := hid hs
  have HG := hid hg
  have hit : isTy m.ty = true := hty
  have HI := hid hit
  clear hg hb1 hm1 hz1 hs1 hs hty
  go_enter Tryz.func37, Tryz.ntmps37
  go_upto_region 1 with (refine bxMs (.tmp 0) rfl rfl m s rfl W1 HW1 ?_)
  rw [← HG.out]
  go_upto_region 2 with (first
    | (refine ldRow 37 (.tmp 1) rfl rfl g rfl 37 (msc m s) _ Tryz.underlying37 rfl (sizeMs m s) HL.out ?_)
    | (go_at_call 48; refine (HC.out).mono ?_; rintro e w2 ⟨hb2, rfl⟩; have HB2 := hid hb2; rw [hit]; clear hit HC hb2)
    | (refine stNew 37 (.tmp 3) (.tmp 8) rfl rfl w2 37 _ (msc (brM m) (brS m s)) rfl rfl rfl (sizeMs _ _) (by rw [msc_size]; rfl) HO.out ?_))
  obtain ⟨V, HV⟩ : ∃ V, Hid (w2.alloc (.cells (msc (brM m) (brS m s)) 37) = V) := ⟨_, rfl⟩
  rw [HV.out]
  obtain ⟨hlV, hMV, hBV, hsV⟩ := HK.out w2 HB2.out V HV.out
  obtain ⟨j, hj⟩ : ∃ j, j = w2.heap.size := ⟨_, rfl⟩
  rw [← hj] at hBV
  rw [← hj]
  have HLo := hid hlV
  have HRl := hid (mb_range hMV)
  have HEm := hid (rempty_any m.r s.cp V hsV.cp)
  obtain ⟨a1, c1, a2, c2, a3, c3, a4, c4, p0, p2, p28, p29, p30, p35, p31, p32, p33, p34, pl⟩ := on_cells hMV HSm.out
  obtain ⟨e1, d1, e2, d2, e3, d3, e4, d4, q0, q2, q28, q29, q30, q35, q31, q32, q33, q34, ql⟩ := on_cells hBV HBm.out
  have HF : Hid (onlyB m = (decide ((brM m).dw = m.dw) && (decide ((brM m).po = m.po) && (((brM m).up == m.up) && (decide ((brM m).sw = m.sw) && (decide ((brM m).co = m.co) && (decide ((brM m).ps.length = m.ps.length) && (decide ((brM m).ed.length = m.ed.length) && (decide ((brM m).fr.length = m.fr.length) && (decide ((brM m).hs.length = m.hs.length) && (decide (m.ty = 5) || blRl m.r))))))))))) := rfl
  clear hMV hBV hsV hlV HK HV HB2 HBm HSm HO HL HG HW1 hj pl ql q0
  generalize (brM m).dw = x0 at q2 HF
  generalize m.dw = y0 at p2 HF
  generalize (brM m).po = x1 at q28 HF
  generalize m.po = y1 at p28 HF
  generalize (brM m).up = x2 at q29 HF
  generalize m.up = y2 at p29 HF
  generalize (brM m).sw = x3 at q30 HF
  generalize m.sw = y3 at p30 HF
  generalize (brM m).co = x4 at q35 HF
  generalize m.co = y4 at p35 HF
  generalize (brM m).ps.length = n0 at q31 HF
  generalize m.ps.length = k0 at p31 HF
  generalize (brM m).ed.length = n1 at q32 HF
  generalize m.ed.length = k1 at p32 HF
  generalize (brM m).fr.length = n2 at q33 HF
  generalize m.fr.length = k2 at p33 HF
  generalize (brM m).hs.length = n3 at q34 HF
  generalize m.hs.length = k3 at p34 HF
  have HR : Hid ((isTy m.ty && onlyB m) = onlyB m) := by show _ = _; rw [HI.out]; rfl
  clear HI
  by_cases hx0 : x0 = y0
  rotate_left
  · have hn : (x0 != y0) = true := by simpa using hx0
    have HZ : Hid (onlyB m = false) := by show _ = _; rw [HF.out]; simp [hx0]
    clear HF hx0
    go_wp2
    go_ret
    exact ⟨by rw [HR.out, HZ.out]; rfl, HLo.out⟩
  subst hx0
  by_cases hx1 : x1 = y1
  rotate_left
  · have hn : (x1 != y1) = true := by simpa using hx1
    have HZ : Hid (onlyB m = false) := by show _ = _; rw [HF.out]; simp [hx1]
    clear HF hx1
    go_wp2
    go_ret
    exact ⟨by rw [HR.out, HZ.out]; rfl, HLo.out⟩
  subst hx1
  by_cases hx2 : x2 = y2
  rotate_left
  · have hn : (x2 == y2) = false := beq_eq_false_iff_ne.2 hx2
    have HZ : Hid (onlyB m = false) := by show _ = _; rw [HF.out]; simp [hx2]
    clear HF hx2
    go_wp2
    go_ret
    exact ⟨by rw [HR.out, HZ.out]; rfl, HLo.out⟩
  subst hx2
  by_cases hx3 : x3 = y3
  rotate_left
  · have hn : (x3 != y3) = true := by simpa using hx3
    have HZ : Hid (onlyB m = false) := by show _ = _; rw [HF.out]; simp [hx3]
    clear HF hx3
    go_wp2
    go_ret
    exact ⟨by rw [HR.out, HZ.out]; rfl, HLo.out⟩
  subst hx3
  by_cases hx4 : x4 = y4
  rotate_left
  · have hn : (x4 != y4) = true := by simpa using hx4
    have HZ : Hid (onlyB m = false) := by show _ = _; rw [HF.out]; simp [hx4]
    clear HF hx4
    go_wp2
    go_ret
    exact ⟨by rw [HR.out, HZ.out]; rfl, HLo.out⟩
  subst hx4
  go_upto_region 4 with fail
  refine wp_region_list ?_
  by_cases hl0 : n0 = k0
  rotate_left
  · have hn : ((n0 : Int) == (k0 : Int)) = false := beq_eq_false_iff_ne.2 (by omega)
    have HZ : Hid (onlyB m = false) := by show _ = _; rw [HF.out]; simp [hl0]
    clear HF hl0
    go_wp2
    go_ret
    exact ⟨by rw [HR.out, HZ.out]; rfl, HLo.out⟩
  subst hl0
  by_cases hl1 : n1 = k1
  rotate_left
  · have hn : ((n1 : Int) == (k1 : Int)) = false := beq_eq_false_iff_ne.2 (by omega)
    have HZ : Hid (onlyB m = false) := by show _ = _; rw [HF.out]; simp [hl1]
    clear HF hl1
    go_wp2
    go_ret
    exact ⟨by rw [HR.out, HZ.out]; rfl, HLo.out⟩
  subst hl1
  by_cases hl2 : n2 = k2
  rotate_left
  · have hn : ((n2 : Int) == (k2 : Int)) = false := beq_eq_false_iff_ne.2 (by omega)
    have HZ : Hid (onlyB m = false) := by show _ = _; rw [HF.out]; simp [hl2]
    clear HF hl2
    go_wp2
    go_ret
    exact ⟨by rw [HR.out, HZ.out]; rfl, HLo.out⟩
  subst hl2
  by_cases hl3 : n3 = k3
  rotate_left
  · have hn : ((n3 : Int) == (k3 : Int)) = false := beq_eq_false_iff_ne.2 (by omega)
    have HZ : Hid (onlyB m = false) := by show _ = _; rw [HF.out]; simp [hl3]
    clear HF hl3
    go_wp2
    go_ret
    exact ⟨by rw [HR.out, HZ.out]; rfl, HLo.out⟩
  subst hl3
  generalize m.ty = ty at p0 HF
  by_cases h5 : ty = 5
  · subst h5
    have HZ : Hid (onlyB m = true) := by show _ = _; rw [HF.out]; simp
    clear HF
    go_wp2
    go_ret
    exact ⟨by rw [HR.out, HZ.out]; rfl, HLo.out⟩
  · have hn : (ty == 5) = false := beq_eq_false_iff_ne.2 h5
    have HZ : Hid (onlyB m = blRl m.r) := by show _ = _; rw [HF.out]; simp [h5]
    clear HF h5
    generalize blRl m.r = bl at HZ HEm
    go_wp2_with (first
      | (refine ldMid 31 (.tmp 86) rfl rfl g 3 rfl (rlc m.r s.cp) _ Tryz.underlying31 rfl (sizeRl _ _) HRl.out ?_)
      | (go_at_call 49; refine (HEm.out).mono ?_; rintro e w4 ⟨rfl, hb4⟩; have HB4 := hid (HLo.out.trans (hb4.mono HLo.out.size)); clear hb4 HEm))
    go_ret
    exact ⟨by rw [HR.out, HZ.out]; rfl, HB4.out⟩
end Go.Proofs.YtllbbbfkdgjffaaGreatDoor
namespace Go.Proofs.YtllbbbfkdgjffaaGreatDoor
open Go.RowKit

theorem ronly_any {T : Nat → Prop} (m : Ms) (s : Sls) (w : World) (hs : Mss T w m s) : Calls Tryz.prog 37 #[.agg (msc m s)] w (OnP w m) := by
  cases h : isTy m.ty
  · exact only_no m s w hs h
  · exact only_ok m s w hs h
end Go.Proofs.YtllbbbfkdgjffaaGreatDoor
namespace Go.Proofs.YtllbbbfkdgjffaaGreatDoor
open Go.RowKit

/-- A held rule's own rule, in a later world. -/
theorem Hds.at {T : Nat → Prop} {w : World} {ao : Option Addr} {n cap : Nat} {l : List Hd} (h : Hds T w (.slice ao n cap) l) {j : Nat} (hj : j < l.length) : ∃ b o u, ao = some ⟨b, o, none⟩ ∧ w.rangeAt b (o + j * 27) (rlc l[j].r u).toList ∧ Cps T w u l[j].r.cp ∧ l[j].Fit := by
  obtain ⟨b, o, rfl, -, u, h1, h2, h3⟩ := h.cell7 j hj
  refine ⟨b, o, u, rfl, range_of fun i hi => ?_, h2, h3⟩
  rw [rlc_size] at hi
  have := h1 i (by omega)
  rw [hdc_rl _ _ i hi] at this
  exact this
theorem Mss.below {T : Nat → Prop} {w w' : World} {m : Ms} {s : Sls} (h : Mss T w m s) (hb : Below w.heap.size w w') : Mss T w' m s := h.carry fun b hb' hT => ⟨hT, hb.block b hb'⟩
theorem MB.on {w w' : World} {b : Nat} {m : Ms} {s : Sls} (h : MB w b m s) (hb : Below w.heap.size w w') : MB w' b m s := (hb.block b (Array.getElem?_eq_some_iff.1 h).1).trans h
/-- Where the document's looks are: the box and the message's memory. -/
structure Bx (T : Nat → Prop) (w : World) (g : Nat) (m : Ms) (s : Sls) (V : World) : Prop where
  low : Below w.heap.size w V
  mb : MB V g m s
  ms : Mss T V m s
theorem Bx.on {T : Nat → Prop} {w : World} {g : Nat} {m : Ms} {s : Sls} {V V' : World} (h : Bx T w g m s V) (hb : Below V.heap.size V V') : Bx T w g m s V' := ⟨h.low.trans (hb.mono h.low.size), h.mb.on hb, h.ms.below hb⟩
theorem Bx.new {T : Nat → Prop} {w : World} {m : Ms} {s : Sls} (hs : Mss T w m s) : Bx T w w.heap.size m s (w.alloc (.cells (msc m s) 37)) := by
  have hb : Below w.heap.size w (w.alloc (.cells (msc m s) 37)) := (Below.refl _ _).alloc (Nat.le_refl _) _
  exact ⟨hb, heap_alloc_new _ _, hs.below hb⟩
theorem okDo_0 {x : Int} (h : ¬ 0 ≤ x) : okDo x = false := decide_eq_false (by omega)
theorem okDo_3 {x : Int} (h0 : 0 ≤ x) : okDo x = decide (x ≤ 3) := by
  unfold okDo; rw [Bool.eq_iff_iff, decide_eq_true_iff, decide_eq_true_iff]; omega
set_option maxHeartbeats 6400000 in
set_option maxRecDepth 100000 in
theorem rright_any {T : Nat → Prop} (m : Ms) (s : Sls) (w : World) (hs : Mss T w m s) (hf : m.Fit) :
    Calls Tryz.prog 17 #[.agg (msc m s)] w fun e w' => e = .returned (.bool (okMs m)) ∧ Below w.heap.size w w' := by
  have hB := Bx.new hs
  obtain ⟨W1, HW1⟩ : ∃ W, Hid (w.alloc (.cells (msc m s) 37) = W) := ⟨_, rfl⟩
  rw [HW1.out] at hB
  obtain ⟨g, hg⟩ : ∃ g, g = w.heap.size := ⟨_, rfl⟩
  rw [← hg] at hB
  have HG := hid hg
  have HL := hid hB.mb
  have HC := hid (ronly_any m s W1 hB.ms)
  have HO : Hid (∀ w2, Below W1.heap.size W1 w2 → Bx T w g m s w2) := fun w2 h2 => hB.on h2
  have HFa : Hid (∀ x r u, Cps T x u r.cp → r.Fit → Calls Tryz.prog 38 #[.agg (rlc r u)] x fun e w' => e = .returned (.bool (okRl r)) ∧ Below x.heap.size x w') := fun x r u hc hr => rfair_any r u hc hr
  have HR := hid (okMs_right m)
  have HFit := hid hf
  have hdw := hf.dw
  have hpo := hf.po
  clear hg hB hs hf
  cases ha : (isTy m.ty && onlyB m) with
  | false =>
    have HZ : Hid (okMs m = false) := by show _ = _; rw [HR.out, ← Bool.and_assoc, ha]; rfl
    unfold OnP at HC
    rw [ha] at HC
    clear ha HR
    go_enter Tryz.func17, Tryz.ntmps17
    go_upto_region 1 with (refine bxMs (.tmp 0) rfl rfl m s rfl W1 HW1 ?_)
    rw [← HG.out]
    go_wp2_with (first
      | (refine ldRow 37 (.tmp 1) rfl rfl g rfl 37 (msc m s) _ Tryz.underlying37 rfl (sizeMs m s) HL.out ?_)
      | (go_at_call 37; refine (HC.out).mono ?_; rintro e w2 ⟨rfl, hb2⟩; have HX2 := hid (HO.out w2 hb2).low; clear hb2 HC))
    go_ret
    exact ⟨by rw [HZ.out]; rfl, HX2.out⟩
  | true =>
    have HZ : Hid (okMs m = rightB m) := by show _ = _; rw [HR.out, ← Bool.and_assoc, ha]; rfl
    unfold OnP at HC
    rw [ha] at HC
    clear ha HR
    go_enter Tryz.func17, Tryz.ntmps17
    go_upto_region 1 with (refine bxMs (.tmp 0) rfl rfl m s rfl W1 HW1 ?_)
    rw [← HG.out]
    go_upto_region 3 with (first
      | (refine ldRow 37 (.tmp 1) rfl rfl g rfl 37 (msc m s) _ Tryz.underlying37 rfl (sizeMs m s) HL.out ?_)
      | (go_at_call 37; refine (HC.out).mono ?_; rintro e w2 ⟨rfl, hb2⟩; have HX2 := hid (HO.out w2 hb2); clear hb2 HC))
    obtain ⟨p0, p1, p2, p28, p29, p30, p31, p32, p33, p34, p35⟩ := mb_cells HX2.out.mb
    clear p1 p29 p30 p31 p32 p33 p35
    have HRr := hid (mb_range HX2.out.mb)
    obtain ⟨ah, ch, eh, -⟩ := HX2.out.ms.hs.form
    rw [eh] at p34
    have hhl := HX2.out.ms.hs.len
    have HHs := hid HX2.out.ms.hs
    rw [eh] at HHs
    have HTy : Hid (rightB m = if m.ty = 5 then okDo m.dw && okRl m.r else if m.ty = 11 then m.hs.all okHd && okMo m.po else true) := rfl
    clear eh
    generalize m.ty = ty at p0 HTy
    by_cases h5 : ty = 5
    · subst h5
      have HT5 : Hid (rightB m = (okDo m.dw && okRl m.r)) := by show _ = _; rw [HTy.out]; rfl
      have HF := hid (HFa.out w2 m.r s.cp HX2.out.ms.cp HFit.out.r)
      clear HTy HFa p34 p28 HHs
      generalize m.dw = d at p2 HT5 hdw
      by_cases hd0 : 0 ≤ d
      · have e1 : decide ((0 : Int) ≤ d) = true := decide_eq_true hd0
        have HD := hid (okDo_3 hd0)
        by_cases hd3 : d ≤ 3
        · have e2 : decide (d ≤ 3) = true := decide_eq_true hd3
          have HZ2 : Hid (okMs m = okRl m.r) := by show _ = _; rw [HZ.out, HT5.out, HD.out, e2]; rfl
          clear HZ HT5 HD
          generalize okRl m.r = ok at HZ2 HF
          go_wp2_with (first
            | (refine ldMid 31 (.tmp 20) rfl rfl g 3 rfl (rlc m.r s.cp) _ Tryz.underlying31 rfl (sizeRl _ _) HRr.out ?_)
            | (go_at_call 38; refine (HF.out).mono ?_; rintro e w4 ⟨rfl, hb4⟩; have HB4 := hid (HX2.out.on hb4).low; clear hb4 HF))
          go_ret
          exact ⟨by rw [HZ2.out]; rfl, HB4.out⟩
        · have e2 : decide (d ≤ 3) = false := decide_eq_false hd3
          have HZ2 : Hid (okMs m = false) := by show _ = _; rw [HZ.out, HT5.out, HD.out, e2]; rfl
          clear HZ HT5 HD HF
          go_wp2
          go_ret
          exact ⟨by rw [HZ2.out]; rfl, HX2.out.low⟩
      · have e1 : decide ((0 : Int) ≤ d) = false := decide_eq_false hd0
        have HZ2 : Hid (okMs m = false) := by show _ = _; rw [HZ.out, HT5.out, okDo_0 hd0]; rfl
        clear HZ HT5 HF
        go_wp2
        go_ret
        exact ⟨by rw [HZ2.out]; rfl, HX2.out.low⟩
    · have t5 : (ty == 5) = false := beq_eq_false_iff_ne.2 h5
      by_cases h11 : ty = 11
      · subst h11
        have HT11 : Hid (rightB m = (m.hs.all okHd && okMo m.po)) := by show _ = _; rw [HTy.out, if_neg h5, if_pos rfl]
        clear HTy h5 p2
        go_upto_region 8 with fail
        go_loopw [3] (fun i wr => ∃ k : Nat, k ≤ m.hs.length ∧ i = .int .i64 k ∧ (m.hs.take k).all okHd = true ∧ Below w2.heap.size w2 wr) (fun i _ => m.hs.length - (intOf i).toNat)
        case atStart => exact ⟨0, by omega, rfl, by simp, Below.refl _ _⟩
        case round =>
          obtain ⟨k, hk, rfl, hall, hlow⟩ := hrel
          generalize wr = wx at *
          have hX := HX2.out.on hlow
          have r34 : wx.cell? ⟨g, 34, none⟩ = some (.slice ah m.hs.length ch) := by rw [hlow.cell (p := ⟨g, 34, none⟩) (cell_lt p34)]; exact p34
          have r28 : wx.cell? ⟨g, 28, none⟩ = some (.int .u16 m.po) := by rw [hlow.cell (p := ⟨g, 28, none⟩) (cell_lt p28)]; exact p28
          have HA := hid hall
          have HLo := hid hlow
          have HXx := hid hX
          have hHx : Hds T wx (.slice ah m.hs.length ch) m.hs := Hds.carry (fun b hb hT => ⟨hT, hlow.block b hb⟩) HHs.out
          clear hall hlow hX
          by_cases hlt : k < m.hs.length
          · have hkl : decide ((k : Int) < (m.hs.length : Int)) = true := decide_eq_true (by omega)
            obtain ⟨b, o, u, rfl, hr, hcu, hfu⟩ := hHx.at hlt
            have HC2 := hid (HFa.out wx m.hs[k].r u hcu hfu.1)
            have HRk := hid hr
            have hmem : m.hs[k] ∈ m.hs := List.getElem_mem hlt
            have HNo : Hid (okRl m.hs[k].r = false → okMs m = false) := fun he => by
              rw [HZ.out, HT11.out]
              have : m.hs.all okHd = false := by
                rw [Bool.eq_false_iff]
                intro h'
                have := List.all_eq_true.1 h' _ hmem
                unfold okHd at this
                rw [he] at this; cases this
              rw [this]; rfl
            have HYes : Hid (okRl m.hs[k].r = true → (m.hs.take (k + 1)).all okHd = true) := fun he => by
              rw [List.take_succ_eq_append_getElem hlt, List.all_append, HA.out]
              simp [okHd, he]
            clear hr hcu hfu hHx hmem HA p34 p28 r28
            generalize m.hs[k].r = rr at HC2 HRk HNo HYes
            cases hb : okRl rr with
            | false =>
              rw [hb] at HC2
              have HZ2 := hid (HNo.out hb)
              go_wp2_with (first
                | (refine ldMid 31 (.tmp 37) rfl rfl b (o + k * 27) rfl (rlc rr u) _ Tryz.underlying31 rfl (sizeRl _ _) HRk.out ?_)
                | (go_at_call 38; refine (HC2.out).mono ?_; rintro e w4 ⟨rfl, hb4⟩; have HB4 := hid (HXx.out.on hb4).low; clear hb4 HC2))
              go_ret
              exact ⟨by rw [HZ2.out]; rfl, HB4.out⟩
            | true =>
              rw [hb] at HC2
              have HT := hid (HYes.out hb)
              go_wp2_with (first
                | (refine ldMid 31 (.tmp 37) rfl rfl b (o + k * 27) rfl (rlc rr u) _ Tryz.underlying31 rfl (sizeRl _ _) HRk.out ?_)
                | (go_at_call 38; refine (HC2.out).mono ?_; rintro e w4 ⟨rfl, hb4⟩; have HB4 := hid (HLo.out.trans (hb4.mono HLo.out.size)); clear hb4 HC2))
              go_roundw
              case rel => exact ⟨k + 1, by omega, by go_num, HT.out, HB4.out⟩
              case measure => simp [intOf]; omega
          · obtain rfl : k = m.hs.length := by omega
            have hkl : decide ((m.hs.length : Int) < (m.hs.length : Int)) = false := by simp
            have HZ2 : Hid (okMs m = decide (m.po ≤ 1)) := by
              show _ = _
              have h1 := HA.out
              rw [List.take_length] at h1
              rw [HZ.out, HT11.out, h1]; rfl
            clear hHx HA HZ HT11 p28 p34
            generalize m.po = po at r28 HZ2 hpo
            go_wp2
            go_ret
            exact ⟨by rw [HZ2.out]; rfl, HXx.out.low⟩
      · have t11 : (ty == 11) = false := beq_eq_false_iff_ne.2 h11
        have HZ2 : Hid (okMs m = true) := by show _ = _; rw [HZ.out, HTy.out, if_neg h5, if_neg h11]
        clear HZ HTy h5 h11
        go_wp2
        go_ret
        exact ⟨by rw [HZ2.out]; rfl, HX2.out.low⟩
end Go.Proofs.YtllbbbfkdgjffaaGreatDoor
namespace Go.Proofs.YtllbbbfkdgjffaaGreatDoor
open Go.RowKit

set_option maxHeartbeats 6400000 in
set_option maxRecDepth 100000 in
theorem rcheck7_any {T : Nat → Prop} (m : Ms) (s : Sls) (w : World) (hs : Mss T w m s) (hf : m.Fit) (hT : ∀ x, T x → x < w.heap.size) :
    Calls Tryz.prog 9 #[.agg (msc m s)] w fun e w' => e = .returned (.int .i64 (enE m)) ∧ Below w.heap.size w w' := by
  have hB := Bx.new hs
  obtain ⟨W1, HW1⟩ : ∃ W, Hid (w.alloc (.cells (msc m s) 37) = W) := ⟨_, rfl⟩
  rw [HW1.out] at hB
  obtain ⟨g, hg⟩ : ∃ g, g = w.heap.size := ⟨_, rfl⟩
  rw [← hg] at hB
  have HG := hid hg
  have HL := hid hB.mb
  have HC := hid (rright_any m s W1 hB.ms hf)
  have HO : Hid (∀ w2, Below W1.heap.size W1 w2 → Bx T w g m s w2) := fun w2 h2 => hB.on h2
  have HGr : Hid (∀ x r u, Cps T x u r.cp → Calls Tryz.prog 18 #[.agg (rlc r u)] x fun e w' => e = .returned (.bool (decide (8192 < cpn r.cp r.cp.length))) ∧ Below x.heap.size x w') := fun x r u hc => rgreat_any r u hc
  have HWd : Hid (∀ x, Bx T w g m s x → m.ps.length ≤ 8192 → m.ed.length ≤ 8192 → m.fr.length ≤ 8192 → m.hs.length ≤ 8192 → cpn m.r.cp m.r.cp.length ≤ 8192 → (∀ h ∈ m.hs, cpn h.r.cp h.r.cp.length ≤ 8192) → Calls Tryz.prog 16 #[.agg (msc m s)] x fun e w' => (∃ ao cap, e = .returned (.slice ao (encMs m).length cap)) ∧ Below w.heap.size w w') := fun x hx h1 h2 h3 h4 h5 h6 => by
    refine (rwords_any m s x hx.ms hf (fun y hy => Nat.lt_of_lt_of_le (hT y hy) hx.low.size) h1 h2 h3 h4 h5 h6).mono ?_
    rintro e w' ⟨hb, b, v, -, rfl, ho⟩
    refine ⟨?_, hx.low.trans (hb.mono hx.low.size)⟩
    obtain ⟨g', c', e, -⟩ := ho.form (by simp only [encMs, List.length_append, dg_len]; omega)
    exact ⟨_, _, by rw [e]⟩
  clear hg hB hs hf hT
  cases ha : okMs m with
  | false =>
    have HZ : Hid (enE m = 70) := (enE_bad ha).1
    rw [ha] at HC
    clear ha
    go_enter Tryz.func9, Tryz.ntmps9
    go_upto_region 1 with (refine bxMs (.tmp 0) rfl rfl m s rfl W1 HW1 ?_)
    rw [← HG.out]
    go_wp2_with (first
      | (refine ldRow 37 (.tmp 1) rfl rfl g rfl 37 (msc m s) _ Tryz.underlying37 rfl (sizeMs m s) HL.out ?_)
      | (go_at_call 17; refine (HC.out).mono ?_; rintro e w2 ⟨rfl, hb2⟩; have HX2 := hid (HO.out w2 hb2).low; clear hb2 HC))
    go_ret
    exact ⟨by rw [HZ.out]; rfl, HX2.out⟩
  | true =>
    have HBig : Hid (big m → enE m = 3) := fun hb => enE_big ha hb
    have HLen := hid (enE_len ha)
    rw [ha] at HC
    clear ha
    go_enter Tryz.func9, Tryz.ntmps9
    go_upto_region 1 with (refine bxMs (.tmp 0) rfl rfl m s rfl W1 HW1 ?_)
    rw [← HG.out]
    go_upto_region 3 with (first
      | (refine ldRow 37 (.tmp 1) rfl rfl g rfl 37 (msc m s) _ Tryz.underlying37 rfl (sizeMs m s) HL.out ?_)
      | (go_at_call 17; refine (HC.out).mono ?_; rintro e w2 ⟨rfl, hb2⟩; have HX2 := hid (HO.out w2 hb2); clear hb2 HC))
    obtain ⟨a1, c1, a2, c2, a3, c3, a4, c4, p0, p2, p28, p29, p30, p35, p31, p32, p33, p34, pl⟩ := on_cells HX2.out.mb HX2.out.ms
    have HP34 := hid p34
    obtain ⟨pl1, pl2, pl4⟩ := pl
    have pl3 : m.fr.length ≤ 140737488355328 := by
      obtain ⟨ao, cap, e, h1, h2, -⟩ := HX2.out.ms.fr
      exact h2
    have HRr := hid (mb_range HX2.out.mb)
    clear p0 p2 p28 p29 p30 p35
    have HE1 : Hid (8192 < m.ps.length → enE m = 3) := fun h => HBig.out (Or.inl h)
    have HE2 : Hid (8192 < m.ed.length → enE m = 3) := fun h => HBig.out (Or.inr (Or.inl h))
    have HE3 : Hid (8192 < m.fr.length → enE m = 3) := fun h => HBig.out (Or.inr (Or.inr (Or.inl h)))
    have HE4 : Hid (8192 < m.hs.length → enE m = 3) := fun h => HBig.out (Or.inr (Or.inr (Or.inr (Or.inl h))))
    have HE5 : Hid (8192 < cpn m.r.cp m.r.cp.length → enE m = 3) := fun h => HBig.out (Or.inr (Or.inr (Or.inr (Or.inr (Or.inl h)))))
    have HE6 : Hid (∀ h ∈ m.hs, 8192 < cpn h.r.cp h.r.cp.length → enE m = 3) := fun h hm hc => HBig.out (Or.inr (Or.inr (Or.inr (Or.inr (Or.inr ⟨h, hm, hc⟩)))))
    have HG5 := hid (HGr.out w2 m.r s.cp HX2.out.ms.cp)
    clear HBig
    by_cases h1 : 8192 < m.ps.length
    · have hd : decide ((8192 : Int) < (m.ps.length : Int)) = true := decide_eq_true (by omega)
      have HZ := hid (HE1.out h1)
      clear HE1 HE2 HE3 HE4 HE5 HE6 HG5 HGr HWd HLen h1
      go_wp2
      go_ret
      exact ⟨by rw [HZ.out]; rfl, HX2.out.low⟩
    have hd1 : decide ((8192 : Int) < (m.ps.length : Int)) = false := decide_eq_false (by omega)
    by_cases h2 : 8192 < m.ed.length
    · have hd : decide ((8192 : Int) < (m.ed.length : Int)) = true := decide_eq_true (by omega)
      have HZ := hid (HE2.out h2)
      clear HE1 HE2 HE3 HE4 HE5 HE6 HG5 HGr HWd HLen h2
      go_wp2
      go_ret
      exact ⟨by rw [HZ.out]; rfl, HX2.out.low⟩
    have hd2 : decide ((8192 : Int) < (m.ed.length : Int)) = false := decide_eq_false (by omega)
    by_cases h3 : 8192 < m.fr.length
    · have hd : decide ((8192 : Int) < (m.fr.length : Int)) = true := decide_eq_true (by omega)
      have HZ := hid (HE3.out h3)
      clear HE1 HE2 HE3 HE4 HE5 HE6 HG5 HGr HWd HLen h3
      go_wp2
      go_ret
      exact ⟨by rw [HZ.out]; rfl, HX2.out.low⟩
    have hd3 : decide ((8192 : Int) < (m.fr.length : Int)) = false := decide_eq_false (by omega)
    by_cases h4 : 8192 < m.hs.length
    · have hd : decide ((8192 : Int) < (m.hs.length : Int)) = true := decide_eq_true (by omega)
      have HZ := hid (HE4.out h4)
      clear HE1 HE2 HE3 HE4 HE5 HE6 HG5 HGr HWd HLen h4
      go_wp2
      go_ret
      exact ⟨by rw [HZ.out]; rfl, HX2.out.low⟩
    have hd4 : decide ((8192 : Int) < (m.hs.length : Int)) = false := decide_eq_false (by omega)
    by_cases h5 : 8192 < cpn m.r.cp m.r.cp.length
    · have HZ := hid (HE5.out h5)
      rw [decide_eq_true h5] at HG5
      clear HE1 HE2 HE3 HE4 HE5 HE6 HGr HWd HLen h5
      go_wp2_with (first
        | (refine ldMid 31 (.tmp 30) rfl rfl g 3 rfl (rlc m.r s.cp) _ Tryz.underlying31 rfl (sizeRl _ _) HRr.out ?_)
        | (go_at_call 18; refine (HG5.out).mono ?_; rintro e w4 ⟨rfl, hb4⟩; have HB4 := hid (HX2.out.on hb4).low; clear hb4 HG5))
      go_ret
      exact ⟨by rw [HZ.out]; rfl, HB4.out⟩
    rw [decide_eq_false h5] at HG5
    go_upto_region 6 with (first
      | (refine ldMid 31 (.tmp 30) rfl rfl g 3 rfl (rlc m.r s.cp) _ Tryz.underlying31 rfl (sizeRl _ _) HRr.out ?_)
      | (go_at_call 18; refine (HG5.out).mono ?_; rintro e w3 ⟨rfl, hb3⟩; have HX3 := hid (HX2.out.on hb3); have HB3 := hid hb3; clear hb3 HG5))
    clear p31 p32 p33 p34
    go_loopw [3] (fun i wr => ∃ k : Nat, k ≤ m.hs.length ∧ i = .int .i64 k ∧ (∀ h ∈ m.hs.take k, cpn h.r.cp h.r.cp.length ≤ 8192) ∧ Below w2.heap.size w2 wr) (fun i _ => m.hs.length - (intOf i).toNat)
    case atStart => exact ⟨0, by omega, rfl, by simp, HB3.out⟩
    case round =>
      obtain ⟨k, hk, rfl, hall, hlow⟩ := hrel
      generalize wr = wx at *
      have r34 : wx.cell? ⟨g, 34, none⟩ = some (.slice a4 m.hs.length c4) := by rw [hlow.cell (p := ⟨g, 34, none⟩) (cell_lt HP34.out)]; exact HP34.out
      have hX := HX2.out.on hlow
      have hHx : Hds T wx s.hs m.hs := hX.ms.hs
      obtain ⟨a9, c9, e9, -⟩ := hHx.form
      have hss : s.hs = .slice a4 m.hs.length c4 := by
        have q := (mb_cells HX2.out.mb).2.2.2.2.2.2.2.2.2.1
        rw [HP34.out] at q
        exact (Option.some.inj q).symm
      rw [hss] at hHx
      have HA := hid hall
      have HLo := hid hlow
      have HXx := hid hX
      clear hall hlow hX e9 hss
      by_cases hlt : k < m.hs.length
      · have hkl : decide ((k : Int) < (m.hs.length : Int)) = true := decide_eq_true (by omega)
        obtain ⟨b, o, u, rfl, hr, hcu, hfu⟩ := hHx.at hlt
        have HC2 := hid (HGr.out wx m.hs[k].r u hcu)
        have HRk := hid hr
        have hmem : m.hs[k] ∈ m.hs := List.getElem_mem hlt
        have HNo := hid (HE6.out m.hs[k] hmem)
        have HYes : Hid (cpn m.hs[k].r.cp m.hs[k].r.cp.length ≤ 8192 → ∀ h ∈ m.hs.take (k + 1), cpn h.r.cp h.r.cp.length ≤ 8192) := fun he h hh => by
          rw [List.take_succ_eq_append_getElem hlt, List.mem_append] at hh
          rcases hh with hh | hh
          · exact HA.out h hh
          · simp only [List.mem_cons, List.not_mem_nil, or_false] at hh
            subst hh; exact he
        clear hr hcu hfu hHx hmem HA
        generalize m.hs[k].r = rr at HC2 HRk HNo HYes
        by_cases h8 : 8192 < cpn rr.cp rr.cp.length
        · rw [decide_eq_true h8] at HC2
          have HZ2 := hid (HNo.out h8)
          clear h8 HNo HYes HE1 HE2 HE3 HE4 HE5 HE6 HWd HLen
          go_wp2_with (first
            | (refine ldMid 31 (.tmp 45) rfl rfl b (o + k * 27) rfl (rlc rr u) _ Tryz.underlying31 rfl (sizeRl _ _) HRk.out ?_)
            | (go_at_call 18; refine (HC2.out).mono ?_; rintro e w4 ⟨rfl, hb4⟩; have HB4 := hid (HXx.out.on hb4).low; clear hb4 HC2))
          go_ret
          exact ⟨by rw [HZ2.out]; rfl, HB4.out⟩
        · rw [decide_eq_false h8] at HC2
          have HT := hid (HYes.out (by omega))
          clear h8 HNo HYes HE1 HE2 HE3 HE4 HE5 HE6 HWd HLen
          go_wp2_with (first
            | (refine ldMid 31 (.tmp 45) rfl rfl b (o + k * 27) rfl (rlc rr u) _ Tryz.underlying31 rfl (sizeRl _ _) HRk.out ?_)
            | (go_at_call 18; refine (HC2.out).mono ?_; rintro e w4 ⟨rfl, hb4⟩; have HB4 := hid (HLo.out.trans (hb4.mono HLo.out.size)); clear hb4 HC2))
          go_roundw
          case rel => exact ⟨k + 1, by omega, by go_num, HT.out, HB4.out⟩
          case measure => simp [intOf]; omega
      · obtain rfl : k = m.hs.length := by omega
        have hkl : decide ((m.hs.length : Int) < (m.hs.length : Int)) = false := by simp
        have hA := HA.out
        rw [List.take_length] at hA
        have HC3 := hid (HWd.out wx HXx.out (by omega) (by omega) (by omega) (by omega) (by omega) hA)
        have HL3 := hid HXx.out.mb
        clear hHx HA hA HE1 HE2 HE3 HE4 HE5 HE6 HWd HGr
        generalize (encMs m).length = n at HC3 HLen
        by_cases hn : 8192 < n
        · have HZ2 : Hid (enE m = 3) := by show _ = _; rw [HLen.out, if_pos hn]
          have hd9 : decide ((8192 : Int) < (n : Int)) = true := decide_eq_true (by omega)
          go_wp2_with (first
            | (refine ldRow 37 (.tmp 1) rfl rfl g rfl 37 (msc m s) _ Tryz.underlying37 rfl (sizeMs m s) HL3.out ?_)
            | (go_at_call 16; refine (HC3.out).mono ?_; rintro e w4 ⟨⟨a0, c0, rfl⟩, hb4⟩; have HB4 := hid hb4; clear hb4 HC3))
          go_ret
          exact ⟨by rw [HZ2.out]; rfl, HB4.out⟩
        · have HZ2 : Hid (enE m = 0) := by show _ = _; rw [HLen.out, if_neg hn]
          have hd9 : decide ((8192 : Int) < (n : Int)) = false := decide_eq_false (by omega)
          go_wp2_with (first
            | (refine ldRow 37 (.tmp 1) rfl rfl g rfl 37 (msc m s) _ Tryz.underlying37 rfl (sizeMs m s) HL3.out ?_)
            | (go_at_call 16; refine (HC3.out).mono ?_; rintro e w4 ⟨⟨a0, c0, rfl⟩, hb4⟩; have HB4 := hid hb4; clear hb4 HC3))
          go_ret
          exact ⟨by rw [HZ2.out]; rfl, HB4.out⟩
end Go.Proofs.YtllbbbfkdgjffaaGreatDoor
namespace Go.Proofs.YtllbbbfkdgjffaaGreatDoor
open Go.RowKit

def wkM : Ms := { zMs with ty := 12, po := 3, up := true }
theorem wk_cells : msc wkM zSl = #[.int .i8 12, .int .u32 0, .int .i8 0, .int .i64 0, .int .u64 0, .int .u64 0, .int .u64 0, .int .u64 0, .int .u64 0, .int .u64 0, .int .u64 0, .int .u64 0, .int .u64 0, .int .u64 0, .int .u64 0, .int .u64 0, .int .u64 0, .int .u64 0, .int .u64 0, .int .u64 0, .int .u64 0, .int .u64 0, .int .u64 0, .int .u64 0, .int .u64 0, .int .u64 0, nilS, .int .u64 0, .int .u16 3, .bool true, .int .u16 0, nilS, nilS, nilS, nilS, .int .u16 0] := by kernel_rfl
theorem wk_en : enE wkM = 0 ∧ enL wkM = [1, 12, 0, 11, 0, 0, 0, 0, 0, 3, 1] := by decide
theorem wk_de : deE [1, 2, 0] = 51 := by decide
theorem inB0 : InB 0 := by unfold InB; decide
theorem in16_0 : In16 0 := by unfold In16; decide
theorem wk_fit : wkM.Fit := ⟨by decide, by decide, by decide, ⟨by decide, fun _ _ => inB0, fun _ _ => rfl, by simp [wkM, zMs, zRl], inB0⟩, by show In16 3; unfold In16; decide, in16_0, by simp [wkM, zMs], by simp [wkM, zMs], by simp [wkM, zMs, IsB], by simp [wkM, zMs], in16_0⟩
theorem buildWk (w : World) : (Instr.build 37 #[(0, .int .i8 12), (4, .int .u16 3), (5, .bool true)]).run Tryz.prog w = .ok (.agg (msc wkM zSl)) w := by
  rw [wk_cells]
  show _ = _
  kernel_rfl
theorem bldWk {ops : Array Oper} {rest : List Oper} {o : Oper} {a : Act} {w : World} {Q : Exit → Act → World → Prop} (ho : o.op = .build 37 #[(0, .const (.int .i8 12)), (4, .const (.int .u16 3)), (5, .const (.bool true))]) (hw : Region.wanted o (yielded ops a.tmps) = true)
    (h : wpList Tryz.prog ops Q rest (a.put o.dst (.agg (msc wkM zSl))) w) : wpList Tryz.prog ops Q (o :: rest) a w := by
  unfold wpList
  rw [if_pos hw]
  refine Or.inl ?_
  unfold Oper.wp execOp
  have := buildWk w
  simp only [ho, List.map_toArray, List.map_cons, List.map_nil, Act.eval, Sem.run_bind, Sem.run_pure, Result.andThen_ok, this]
  exact h
set_option maxHeartbeats 1600000 in
set_option maxRecDepth 100000 in
theorem wakes_any (w : World) (ht : Tab w) : Calls Tryz.prog 10 #[] w fun e w' => e = .returned (.bool true) ∧ Below w.heap.size w w' := by
  have HE := hid (encode_any (T := fun _ => False) wkM zSl w ⟨Lst.nil _ _ _ _, Lst.nil _ _ _ _, Lst.nil _ _ _ _, SlC.nil _ _, Lst.nil _ _ _ _⟩ wk_fit (fun _ h => h.elim) ht)
  rw [wk_en.1, wk_en.2] at HE
  have HT := hid ht
  clear ht
  go_enter Tryz.func10, Tryz.ntmps10
  go_upto_region 2 with (first
    | (refine bldWk rfl rfl ?_)
    | (go_at_call 6; refine (HE.out).mono ?_; rintro e w1 ⟨hb, v, rfl, hv⟩
       have HB1 := hid hb
       have HV1 := hid hv
       clear hb hv))
  have hz2 : (w1.alloc (.cells (([1, 2, 0] : List Int).map (Value.int .u8)).toArray 5)).heap.size = w1.heap.size + 1 := by simp
  have hb2 : Below w1.heap.size w1 (w1.alloc (.cells (([1, 2, 0] : List Int).map (Value.int .u8)).toArray 5)) := (Below.refl _ _).alloc (Nat.le_refl _) _
  have hs2 := SlC.of (sl_lit w1 [1, 2, 0] (by simp [IsB]) (by simp))
  have HD := hid (decode_any (T := fun x => x < w1.heap.size + 1) [1, 2, 0] _ _ hs2 (fun x hx => by rw [hz2]; exact hx) ((HT.out.on HB1.out).on hb2))
  have hsl1 : SlC (fun x => x < w1.heap.size) w1 v [1, 12, 0, 11, 0, 0, 0, 0, 0, 3, 1] := SlC.own HV1.out (by simp) (by simp [IsB]) (fun _ _ h => h)
  rw [(de_short (bs := [1, 2, 0]) (by decide)).1, (de_short (bs := [1, 2, 0]) (by decide)).2] at HD
  have HS1 := hid hsl1
  have HB2 := hid (And.intro hb2 hz2)
  have HFin : Hid (∀ w3 (o : Obj), Below (w1.alloc (.cells (([1, 2, 0] : List Int).map (Value.int .u8)).toArray 5)).heap.size (w1.alloc (.cells (([1, 2, 0] : List Int).map (Value.int .u8)).toArray 5)) w3 → Below w1.heap.size w1 (w3.alloc o)) := fun w3 o h => (HB2.out.1.trans (h.mono (by have := HB2.out.2; omega))).alloc (by have := h.size; have := HB2.out.2; omega) _
  clear hb2 hs2 hsl1 hz2
  obtain ⟨va, vc, rfl⟩ : ∃ va vc, v = .slice va 11 vc := by
    rcases HV1.out.2 with ⟨-, e⟩ | ⟨g, cap, cur, rfl, _⟩
    · cases e
    · exact ⟨_, _, rfl⟩
  go_upto_region 3 with (first
    | (refine stNew 37 (.tmp 3) (.tmp 13) rfl rfl w3 37 (msc zMs zSl) (msc zMs s3) (by rw [← zero_ms0]) rfl rfl (sizeMs _ _) (by rw [msc_size, msc_size]) HOne.out ?_)
    | (go_at_call 11; refine (HD.out).mono ?_; rintro e w3 ⟨hb, s3, rfl, hm⟩
       have HB3 := hid hb
       have HOne := hid hm.one
       clear hb hm))
  have hb4 := HFin.out w3 (.cells (msc zMs s3) 37) HB3.out
  have HB4 := hid (HB1.out.trans (hb4.mono HB1.out.size))
  have cv : (convert 34 9 (.slice va 11 vc)).run Tryz.prog (w3.alloc (.cells (msc zMs s3) 37)) = .ok (.string { data := #[1, 12, 0, 11, 0, 0, 0, 0, 0, 3, 1] }) (w3.alloc (.cells (msc zMs s3) 37)) := conv_sl (HS1.out.carry (T := fun _ => True) fun k hk _ => ⟨trivial, hb4.block k hk⟩).sl
  clear hb4 HFin HB3 HS1 HV1
  generalize w3.alloc (.cells (msc zMs s3) 37) = V at cv HB4 ⊢
  go_wp2
  go_ret
  exact ⟨rfl, HB4.out⟩
end Go.Proofs.YtllbbbfkdgjffaaGreatDoor
