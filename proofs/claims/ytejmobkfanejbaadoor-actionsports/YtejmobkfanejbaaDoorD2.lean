/-
  Proved here: the document's has and Run: what goes out, copy by copy, and whether there is a punt; no old memory turns. Condition: fewer than a million actions.
-/
import Derived.Test.YtejmobkfanejbaaDoorB6
namespace Go.Proofs.YtejmobkfanejbaaDoor
open Go.RowKit

set_option maxHeartbeats 1600000 in
set_option maxRecDepth 100000 in
theorem has_any {T : Nat → Prop} {w : World} {v : Value} {ps : List Int} (h : Pts T w v ps) (x : Int) :
    Calls Tryd.prog 27 #[v, .int .u64 x] w fun e w' => e = .returned (.bool (here ps x)) ∧ w' = w := by
  obtain ⟨ao, cap, rfl, hcap⟩ := h.form
  have hlen := h.len
  have H := hid h
  clear h
  go_enter Tryd.func27, Tryd.ntmps27
  go_wp2
  go_loop [5] (fun i => ∃ q : Nat, q ≤ ps.length ∧ i = .int .i64 q ∧ here (ps.take q) x = false) (fun i => ps.length - (intOf i).toNat)
  case atStart => exact ⟨0, by omega, rfl, by simp [here]⟩
  case round =>
    obtain ⟨q, hq, rfl, hno⟩ := hrel
    have HN := hid hno
    clear hno
    by_cases hlt : q < ps.length
    · obtain ⟨g, o, rfl, d0, p0, p1⟩ := H.out.at (Below.refl _ _) hlt
      have HY : Hid ((ps[q] == x) = true → here ps x = true) := fun h' => here_yes hlt h'
      have HZ : Hid ((ps[q] == x) = false → here (ps.take (q + 1)) x = false) := fun h' => by rw [take_one' ps q hlt, here_one, HN.out, h']; rfl
      clear HN
      generalize ps[q] = p at d0 p0 p1 HY HZ
      cases hc : (p == x)
      · have HF := hid (HZ.out hc)
        go_wp2
        go_round
        case rel => exact ⟨q + 1, by omega, by go_num, HF.out⟩
        case measure => simp [intOf]; omega
      · have HF := hid (HY.out hc)
        go_wp2
        go_ret
        exact ⟨by rw [HF.out]; rfl, rfl⟩
    · obtain rfl : q = ps.length := by omega
      have HF : Hid (here ps x = false) := by have := HN.out; rw [List.take_length] at this; exact this
      go_wp2
      go_ret
      exact ⟨by rw [HF.out]; rfl, rfl⟩
/-- Where the document's Run is, j actions of a copy done. -/
structure Dis (w : World) (h : Nat → Int) (ps : List Int) (L : List (Nat → Int)) (g : Nat) (l : List Ac) (k : Nat) (v : Value) (wr : World) : Prop where
  low : Below w.heap.size w wr
  box : Blk wr w.heap.size 11 24 h
  own : Blk wr g 11 24 (aft h (l.take k))
  hs : Hs (fun b => w.heap.size + 1 ≤ b ∧ b ≠ g) wr v (L ++ flt ps (sens h (l.take k)))
theorem Dis.more {w : World} {h : Nat → Int} {ps : List Int} {L : List (Nat → Int)} {g : Nat} {l : List Ac} {k : Nat} {v : Value} {wr w' : World} (q : Dis w h ps L g l k v wr) (hb : Below wr.heap.size wr w') : Dis w h ps L g l k v w' :=
  ⟨q.low.trans (hb.mono q.low.size), q.box.on hb, q.own.on hb, q.hs.carry fun b hb' hS => ⟨hS, hb.block b hb'⟩⟩
theorem Dis.keep {w : World} {h : Nat → Int} {ps : List Int} {L : List (Nat → Int)} {g : Nat} {l : List Ac} {k : Nat} {v : Value} {wr : World} (q : Dis w h ps L g l k v wr) (hk : k < l.length) (h1 : setH (aft h (l.take k)) l[k] = aft h (l.take k)) (h2 : flt ps (sen1 (aft h (l.take k)) l[k]) = []) : Dis w h ps L g l (k + 1) v wr := by
  refine ⟨q.low, q.box, ?_, ?_⟩
  · rw [take_one' l k hk, aft_one, h1]; exact q.own
  · rw [take_one' l k hk, sens_one, show ∀ a b, flt ps (a ++ b) = flt ps a ++ flt ps b from fun a b => by simp [flt], h2, List.append_nil]; exact q.hs
theorem Dis.set {w : World} {h : Nat → Int} {ps : List Int} {L : List (Nat → Int)} {g : Nat} {l : List Ac} {k : Nat} {v : Value} {wr : World} (q : Dis w h ps L g l k v wr) (hg : w.heap.size < g) (hk : k < l.length) (h1 : l[k].dw = 0) (h2 : isF l[k].fd = true) (j : Nat) (hj : l[k].fd = (j : Int)) : Dis w h ps L g l (k + 1) v (wr.setCell ⟨g, j, none⟩ (.int .u64 l[k].n)) := by
  refine ⟨q.low.setCell (p := ⟨g, j, none⟩) (by show w.heap.size ≤ g; omega) _, q.box.setOther _ _ _ (by omega), ?_, ?_⟩
  · rw [take_one' l k hk, aft_one]
    unfold setH
    rw [if_pos ⟨h1, h2⟩, show l[k].fd.toNat = j by rw [hj]; rfl]
    exact q.own.set j _
  · rw [take_one' l k hk, sens_one, show sen1 (aft h (l.take k)) l[k] = [] by unfold sen1; rw [if_neg (by omega)], List.append_nil]
    exact q.hs.carry fun b _ hS => ⟨hS, heap_setCell_other wr ⟨g, j, none⟩ b _ hS.2⟩
theorem Dis.out {w : World} {h : Nat → Int} {ps : List Int} {L : List (Nat → Int)} {g : Nat} {l : List Ac} {k : Nat} {v v' : Value} {wr w' : World} (q : Dis w h ps L g l k v wr) (hg : w.heap.size < g) (hk : k < l.length) (h1 : l[k].dw = 1) (hy : here ps (atP (aft h (l.take k)) l[k].n 9) = true) (hO : Only (fun b => (w.heap.size + 1 ≤ b ∧ b ≠ g) ∨ wr.heap.size ≤ b) wr w') (hH : Hs (fun b => (w.heap.size + 1 ≤ b ∧ b ≠ g) ∨ wr.heap.size ≤ b) w' v' ((L ++ flt ps (sens h (l.take k))) ++ [atP (aft h (l.take k)) l[k].n])) : Dis w h ps L g l (k + 1) v' w' := by
  have hgl := q.own.lt
  have hge : ∀ b, (w.heap.size + 1 ≤ b ∧ b ≠ g) ∨ wr.heap.size ≤ b → w.heap.size + 1 ≤ b ∧ b ≠ g := fun b hb => by omega
  refine ⟨q.low.trans (hO.below fun b hb => by have := hge b hb; omega), ?_, ?_, ?_⟩
  · unfold Blk
    rw [hO.block w.heap.size (fun hb => by have := hge _ hb; omega)]
    exact q.box
  · rw [take_one' l k hk, aft_one, setH_no (by omega)]
    unfold Blk
    rw [hO.block g (fun hb => (hge _ hb).2 rfl)]
    exact q.own
  · rw [take_one' l k hk, sens_one, show sen1 (aft h (l.take k)) l[k] = [atP (aft h (l.take k)) l[k].n] by unfold sen1; rw [if_pos h1], flt_one, if_pos hy, ← List.append_assoc]
    exact hH.carry fun b _ hS => ⟨hge b hS, rfl⟩
set_option maxHeartbeats 12800000 in
set_option maxRecDepth 100000 in
theorem drun_any {T T' : Nat → Prop} {w : World} {v vp : Value} {c : List (List Ac)} {ps : List Int} (h : Nat → Int) (hc : Cps T w v c) (hp : Pts T' w vp ps) (hn : cnt c < 1000000) :
    Calls Tryd.prog 15 #[hv h, v, vp] w (RuP w h ps c) := by
  obtain ⟨ao, cap, rfl, -⟩ := hc.form
  obtain ⟨ap, cp, rfl, -⟩ := hp.form
  have hlen := hc.len
  obtain ⟨W0, hW0⟩ : ∃ W0, W0 = w.alloc (.cells (row 11 h) 24) := ⟨_, rfl⟩
  have hB0 : Below w.heap.size w W0 := by rw [hW0]; exact (Below.refl _ _).alloc (Nat.le_refl _) _
  have hA : Blk W0 w.heap.size 11 24 h := by rw [hW0]; exact Blk.new w 11 24 h
  have HQ0 : Hid (Rus w h ps c 0 nilS W0) := ⟨hB0, hA, by simpa [outs] using Hs.nil _ _⟩
  have H := hid hc
  have HP : Hid (∀ w' x, Below w.heap.size w w' → Calls Tryd.prog 27 #[.slice ap ps.length cp, .int .u64 x] w' fun e w2 => e = .returned (.bool (here ps x)) ∧ w2 = w') := fun w' x hb => has_any (Pts.on hp hb) x
  have HW0 := hid hW0
  obtain ⟨iR, hiR, hiz, his, -⟩ := info_parts infoHDR
  clear hc hp hW0 hB0 hA
  go_enter Tryd.func15, Tryd.ntmps15
  go_upto_region 1 with fail
  rw [← HW0.out]
  clear HW0
  go_upto_region 2 with fail
  go_loopw [6, 7, 8] (fun s p i wr => ∃ (k : Nat) (s' : Value), k ≤ c.length ∧ i = .int .i64 k ∧ p = .bool (pnts (c.take k)) ∧ s' = s ∧ Rus w h ps c k s' wr) (fun _ _ i _ => c.length - (intOf i).toNat)
  case atStart => exact ⟨0, _, by omega, rfl, by simp [pnts], rfl, HQ0.out⟩
  case round =>
    clear HQ0
    obtain ⟨k, s, hk, rfl, rfl, rfl, hq⟩ := hrel
    generalize wr = wx at *
    by_cases hlt : k < c.length
    · have hkl : decide ((k : Int) < (c.length : Int)) = true := decide_eq_true (by omega)
      obtain ⟨b, o, a1, c1, rfl, fw, -, hl1, hu⟩ := H.out.at (Below.refl _ _) hlt
      have hfb : b < w.heap.size := cell_lt fw
      have f0 : wx.cell? ⟨b, o + k, none⟩ = some (.slice a1 c[k].length c1) := by rw [hq.low.cell (p := ⟨b, o + k, none⟩) hfb]; exact fw
      have hbx := hq.box
      obtain ⟨W1, hW1⟩ : ∃ W1, W1 = wx.alloc (.cells (row 11 h) 24) := ⟨_, rfl⟩
      have hb1 : Below wx.heap.size wx W1 := by rw [hW1]; exact (Below.refl _ _).alloc (Nat.le_refl _) _
      have hown : Blk W1 wx.heap.size 11 24 h := by rw [hW1]; exact Blk.new wx 11 24 h
      have hgw : w.heap.size < wx.heap.size := hq.box.lt
      have HPn : Hid (pnts (c.take (k + 1)) = (pnts (c.take k) || pnt c[k])) := by show _ = _; rw [take_one' c k hlt, pnts_one]
      have HOu : Hid (outs h ps (c.take (k + 1)) = outs h ps (c.take k) ++ flt ps (sens h c[k])) := by show _ = _; rw [take_one' c k hlt, outs_one]
      have hcl : (outs h ps (c.take k)).length + c[k].length < 1000000 := by
        have h1 := outs_len h ps (c.take k)
        have h3 := cnt_take c (k + 1)
        rw [take_one' c k hlt, cnt_one] at h3
        omega
      have HD0 : Hid (Dis w h ps (outs h ps (c.take k)) wx.heap.size c[k] 0 s W1) := by
        have hlw : Below w.heap.size w W1 := hq.low.trans (hb1.mono hq.low.size)
        refine Dis.mk hlw (hq.box.on hb1) (by simpa [aft] using hown) ?_
        have := hq.hs.carry (T := fun b => w.heap.size + 1 ≤ b ∧ b ≠ wx.heap.size) (w' := W1) fun b hb hS => ⟨⟨hS, by omega⟩, hb1.block b hb⟩
        simpa [sens, flt] using this
      have HW1 := hid hW1
      have HU := hid hu
      clear hq hu hW1 hb1 hown
      generalize pnts (c.take k) = pb at HPn
      generalize outs h ps (c.take k) = L at HD0 HOu hcl
      generalize c[k] = y at f0 fw HU HPn HOu hcl HD0 hl1
      have HFw := hid fw
      clear fw
      go_upto_region 5 with (first
        | (refine ld24 (.tmp 3) rfl _ rfl rfl h hbx ?_)
        | (refine stNew 24 (.tmp 9) (.tmp 20) rfl rfl wx 24 _ (row 11 h) rfl rfl rfl (size24 _) (by rw [row_size]; rfl) (row_one _ _) ?_))
      rw [← HW1.out]
      clear HW1
      go_upto_region 6 with fail
      go_loopw [6, 7, 10] (fun s p i wr => ∃ (j : Nat) (s' : Value), j ≤ y.length ∧ i = .int .i64 j ∧ p = .bool (pb || pnt (y.take j)) ∧ s' = s ∧ Dis w h ps L wx.heap.size y j s' wr) (fun _ _ i _ => y.length - (intOf i).toNat)
      case atStart => exact ⟨0, _, by omega, rfl, by simp [pnt], rfl, HD0.out⟩
      case round =>
        clear HD0
        obtain ⟨j, s, hj, rfl, rfl, rfl, hq⟩ := hrel
        generalize wr = wy at *
        have f1 : wy.cell? ⟨b, o + k, none⟩ = some (.slice a1 y.length c1) := by rw [hq.low.cell (p := ⟨b, o + k, none⟩) hfb]; exact HFw.out
        by_cases hjt : j < y.length
        · have hjl : decide ((j : Int) < (y.length : Int)) = true := decide_eq_true (by omega)
          have hsl : (L ++ flt ps (sens h (y.take j))).length < 1000000 := by
            have h1 := sens_len h (y.take j)
            have h2 := flt_len ps (sens h (y.take j))
            have h3 : (y.take j).length ≤ y.length := by simp; omega
            rw [List.length_append]
            omega
          obtain ⟨p, q, rfl, g0, g1, g2, hfit⟩ := HU.out.at hq.low hjt
          obtain ⟨W1, hW1⟩ : ∃ W1, W1 = wy.alloc (.cells #[.int .i8 y[j].dw, .int .i8 y[j].fd, .int .u64 y[j].n] 48) := ⟨_, rfl⟩
          have hb1 : Below wy.heap.size wy W1 := by rw [hW1]; exact (Below.refl _ _).alloc (Nat.le_refl _) _
          have hG1 : W1.heap[wy.heap.size]? = some (.cells #[.int .i8 y[j].dw, .int .i8 y[j].fd, .int .u64 y[j].n] 48 (0, 0)) := by rw [hW1]; exact heap_alloc_new _ _
          have q1 := hq.more hb1
          have c0 : W1.cell? ⟨wy.heap.size, 0, none⟩ = some (.int .i8 y[j].dw) := by rw [cell_of_row _ _ _ _ _ _ hG1]; rfl
          have cc1 : W1.cell? ⟨wy.heap.size, 1, none⟩ = some (.int .i8 y[j].fd) := by rw [cell_of_row _ _ _ _ _ _ hG1]; rfl
          have cc2 : W1.cell? ⟨wy.heap.size, 2, none⟩ = some (.int .u64 y[j].n) := by rw [cell_of_row _ _ _ _ _ _ hG1]; rfl
          have hown := q1.own
          have HPn1 : Hid (pnt (y.take (j + 1)) = (pnt (y.take j) || y[j].dw == 2)) := by show _ = _; rw [take_one' y j hjt, pnt_one]
          have hgl : wy.heap.size < W1.heap.size := (Array.getElem?_eq_some_iff.1 hG1).1
          have HW1 := hid hW1
          have HLow := hid q1.low
          have HKeep := hid (fun (h1 : setH (aft h (y.take j)) y[j] = aft h (y.take j)) (h2 : flt ps (sen1 (aft h (y.take j)) y[j]) = []) => q1.keep hjt h1 h2)
          have HSet := hid (fun (h1 : y[j].dw = 0) (h2 : isF y[j].fd = true) (i : Nat) (hi : y[j].fd = (i : Int)) => q1.set hgw hjt h1 h2 i hi)
          have HOut := hid (fun (v' : Value) (w2 w' : World) (hb2 : Below W1.heap.size W1 w2) (h1 : y[j].dw = 1) hy hO hH => (q1.more hb2).out (v' := v') (w' := w') hgw hjt h1 hy hO hH)
          have HMore := hid (fun (w2 : World) (hb2 : Below W1.heap.size W1 w2) => q1.more hb2)
          have HKeep2 := hid (fun (w2 : World) (hb2 : Below W1.heap.size W1 w2) (h1 : setH (aft h (y.take j)) y[j] = aft h (y.take j)) (h2 : flt ps (sen1 (aft h (y.take j)) y[j]) = []) => (q1.more hb2).keep hjt h1 h2)
          have HHs := hid (fun (w2 : World) (hb2 : Below W1.heap.size W1 w2) => (q1.more hb2).hs)
          obtain ⟨s3, k3, rfl⟩ := hq.hs.form
          clear hq hW1 hb1 hG1 q1
          generalize L ++ flt ps (sens h (y.take j)) = sl at hsl HOut HHs HKeep HSet HKeep2
          generalize aft h (y.take j) = hk' at hown HKeep HOut HSet HKeep2
          generalize hp0 : pnt (y.take j) = pj at HPn1
          clear hp0 HMore
          obtain ⟨a, ha⟩ : ∃ a, a = y[j] := ⟨_, rfl⟩
          rw [← ha] at g0 g1 g2 hfit c0 cc1 cc2 HPn1 HW1 HKeep HSet HOut HKeep2
          clear ha
          obtain ⟨d, f, n⟩ := a
          by_cases h0 : d = 0
          · subst h0
            have HPn' : Hid (pnt (y.take (j + 1)) = pj) := by show _ = _; rw [HPn1.out]; simp
            have hfr : -128 ≤ f ∧ f < 128 := hfit.2.1
            by_cases hf0 : 0 ≤ f
            · by_cases hf1 : f < 11
              · have hf : isF f = true := isF_iff.2 ⟨hf0, hf1⟩
                obtain ⟨i, rfl⟩ := Int.eq_ofNat_of_zero_le hf0
                have hi : i < 11 := by omega
                have HN := hid (HSet.out rfl hf i rfl)
                have hcj := hown.cell i hi
                have hfz := hown.frozen i
                have hd1 : decide ((0 : Int) ≤ (i : Int)) = true := decide_eq_true (by omega)
                have hd2 : decide ((i : Int) < 11) = true := decide_eq_true (by omega)
                clear HKeep HSet HOut HPn1 HHs HKeep2 hf
                go_upto_region 9 with fail
                rw [← HW1.out]
                clear HW1
                go_wp2
                go_roundw
                case rel => exact ⟨j + 1, _, by omega, by go_num, by rw [HPn'.out], rfl, HN.out⟩
                case measure => simp [intOf]; omega
              · have hf : isF f = false := isF_false.2 (by omega)
                have HN := hid (HKeep.out (setH_no (by rw [hf]; simp)) (by unfold sen1; rw [if_neg (by show ¬ (0 : Int) = 1; omega)]; rfl))
                have hd1 : decide ((0 : Int) ≤ f) = true := decide_eq_true hf0
                have hd2 : decide (f < 11) = false := by simp; omega
                clear HKeep HSet HOut HPn1 HHs HKeep2 hf
                go_upto_region 9 with fail
                rw [← HW1.out]
                clear HW1
                go_wp2
                go_roundw
                case rel => exact ⟨j + 1, _, by omega, by go_num, by rw [HPn'.out], rfl, HN.out⟩
                case measure => simp [intOf]; omega
            · have hf : isF f = false := isF_false.2 (by omega)
              have HN := hid (HKeep.out (setH_no (by rw [hf]; simp)) (by unfold sen1; rw [if_neg (by show ¬ (0 : Int) = 1; omega)]; rfl))
              have hd1 : decide ((0 : Int) ≤ f) = false := by simp; omega
              clear HKeep HSet HOut HPn1 HHs HKeep2 hf
              go_upto_region 9 with fail
              rw [← HW1.out]
              clear HW1
              go_wp2
              go_roundw
              case rel => exact ⟨j + 1, _, by omega, by go_num, by rw [HPn'.out], rfl, HN.out⟩
              case measure => simp [intOf]; omega
          · have t0 : (d == 0) = false := beq_eq_false_iff_ne.2 h0
            by_cases h1 : d = 1
            · subst h1
              have HPn' : Hid (pnt (y.take (j + 1)) = pj) := by show _ = _; rw [HPn1.out]; simp
              obtain ⟨W2, hW2⟩ : ∃ W2, W2 = W1.alloc (.cells (row 11 hk') 24) := ⟨_, rfl⟩
              have hb2 : Below W1.heap.size W1 W2 := by rw [hW2]; exact (Below.refl _ _).alloc (Nat.le_refl _) _
              have hS2 : Blk W2 W1.heap.size 11 24 hk' := by rw [hW2]; exact Blk.new W1 11 24 hk'
              have d2 : W2.cell? ⟨wy.heap.size, 2, none⟩ = some (.int .u64 n) := by rw [hb2.cell (p := ⟨wy.heap.size, 2, none⟩) hgl]; exact cc2
              have HW2 := hid hW2
              clear hW2
              by_cases hn0 : n = 0
              · subst hn0
                obtain ⟨W3, hW3⟩ : ∃ W3, W3 = W2 := ⟨_, rfl⟩
                rw [← hW3] at hb2 hS2 d2 HW2
                clear hW3
                have e9 : atP hk' 0 = hk' := by unfold atP; rw [if_pos rfl]
                have hb3 := hb2
                have hS3 : Blk W3 W1.heap.size 11 24 (atP hk' 0) := by rw [e9]; exact hS2
                clear hS2 hb2 e9
                have HHas := hid (HP.out W3 (atP hk' 0 9) (HLow.out.trans (hb3.mono HLow.out.size)))
                have hc9 := hS3.cell 9 (by omega)
                have HH3 := hid (HHs.out W3 hb3)
                have HO3 := hid (HOut.out · W3 · hb3 rfl)
                have HK3 : Hid (here ps (atP hk' 0 9) = false → Dis w h ps L wx.heap.size y (j + 1) (.slice s3 sl.length k3) W3) := fun he => HKeep2.out W3 hb3 (setH_no (by show ¬ ((1 : Int) = 0 ∧ _); omega)) (by unfold sen1; rw [if_pos rfl]; unfold flt; simp [he])
                clear HKeep HSet HPn1 HKeep2 HHs HOut hb3 HLow
                go_upto_region 9 with fail
                rw [← HW1.out]
                clear HW1
                go_upto_region 15 with (first
                  | (refine ld24 (.tmp 9) rfl _ rfl rfl hk' hown ?_)
                  | (refine stNew 24 (.tmp 12) (.tmp 56) rfl rfl W1 24 _ (row 11 hk') rfl rfl rfl (size24 _) (by rw [row_size]; rfl) (row_one _ _) ?_))
                rw [← HW2.out]
                clear HW2
                cases hy : here ps (atP hk' 0 9)
                · rw [hy] at HHas
                  have HN := hid (HK3.out hy)
                  clear HK3 HO3 HH3
                  go_wp2_with (go_at_call 27; refine (HHas.out).mono ?_; rintro e w4 ⟨rfl, rfl⟩; clear HHas)
                  go_roundw
                  case rel => exact ⟨j + 1, _, by omega, by go_num, by rw [HPn'.out], rfl, HN.out⟩
                  case measure => simp [intOf]; omega
                · rw [hy] at HHas
                  clear HK3
                  go_wp2_with (first
                    | (go_at_call 27; refine (HHas.out).mono ?_; rintro e w4 ⟨rfl, rfl⟩; clear HHas)
                    | (refine ld24 (.tmp 12) rfl _ rfl rfl (atP hk' 0) hS3 ?_)
                    | (refine bldSl 37 24 (.tmp 69) rfl rfl (row 11 (atP hk' 0)) rfl Tryd.underlying37 iR _ 11 hiR hiz his (row_size _ _) (by omega) (by omega) ?_)
                    | (at_builtin; refine appH (.tmp 68) (.tmp 70) rfl rfl (f := atP hk' 0) (w0 := w4) rfl rfl rfl HH3.out hsl ?_
                       intro v3 w3 hO3 hH3
                       have HN := hid (HO3.out v3 w3 hy hO3 hH3)
                       obtain ⟨s5, k5, rfl⟩ := hH3.form
                       rw [List.length_append] at HN
                       clear hO3 hH3 HO3 HH3))
                  go_roundw
                  case rel => exact ⟨j + 1, _, by omega, by go_num, by rw [HPn'.out], rfl, HN.out⟩
                  case measure => simp [intOf]; omega
              · have hne : (n != 0) = true := by simpa using hn0
                have hfz := hS2.frozen 9
                have hcz := hS2.cell 9 (by omega)
                have e9 : atP hk' n = upd hk' 9 n := by unfold atP; rw [if_neg hn0]
                obtain ⟨W3, hW3⟩ : ∃ W3, W3 = W2.setCell ⟨W1.heap.size, 9, none⟩ (.int .u64 n) := ⟨_, rfl⟩
                have hb3 : Below W1.heap.size W1 W3 := by rw [hW3]; exact hb2.setCell (p := ⟨W1.heap.size, 9, none⟩) (Nat.le_refl _) _
                have hS3 : Blk W3 W1.heap.size 11 24 (atP hk' n) := by rw [hW3, e9]; exact hS2.set 9 n
                have HW3 := hid hW3
                clear hW3 hb2 hS2 e9 hn0
                have HHas := hid (HP.out W3 (atP hk' n 9) (HLow.out.trans (hb3.mono HLow.out.size)))
                have hc9 := hS3.cell 9 (by omega)
                have HH3 := hid (HHs.out W3 hb3)
                have HO3 := hid (HOut.out · W3 · hb3 rfl)
                have HK3 : Hid (here ps (atP hk' n 9) = false → Dis w h ps L wx.heap.size y (j + 1) (.slice s3 sl.length k3) W3) := fun he => HKeep2.out W3 hb3 (setH_no (by show ¬ ((1 : Int) = 0 ∧ _); omega)) (by unfold sen1; rw [if_pos rfl]; unfold flt; simp [he])
                clear HKeep HSet HPn1 HKeep2 HHs HOut hb3 HLow
                go_upto_region 9 with fail
                rw [← HW1.out]
                clear HW1
                go_upto_region 15 with (first
                  | (refine ld24 (.tmp 9) rfl _ rfl rfl hk' hown ?_)
                  | (refine stNew 24 (.tmp 12) (.tmp 56) rfl rfl W1 24 _ (row 11 hk') rfl rfl rfl (size24 _) (by rw [row_size]; rfl) (row_one _ _) ?_))
                rw [← HW2.out]
                clear HW2
                go_upto_region 17 with fail
                rw [← HW3.out]
                clear HW3 hcz hfz d2
                cases hy : here ps (atP hk' n 9)
                · rw [hy] at HHas
                  have HN := hid (HK3.out hy)
                  clear HK3 HO3 HH3
                  go_wp2_with (go_at_call 27; refine (HHas.out).mono ?_; rintro e w4 ⟨rfl, rfl⟩; clear HHas)
                  go_roundw
                  case rel => exact ⟨j + 1, _, by omega, by go_num, by rw [HPn'.out], rfl, HN.out⟩
                  case measure => simp [intOf]; omega
                · rw [hy] at HHas
                  clear HK3
                  go_wp2_with (first
                    | (go_at_call 27; refine (HHas.out).mono ?_; rintro e w4 ⟨rfl, rfl⟩; clear HHas)
                    | (refine ld24 (.tmp 12) rfl _ rfl rfl (atP hk' n) hS3 ?_)
                    | (refine bldSl 37 24 (.tmp 69) rfl rfl (row 11 (atP hk' n)) rfl Tryd.underlying37 iR _ 11 hiR hiz his (row_size _ _) (by omega) (by omega) ?_)
                    | (at_builtin; refine appH (.tmp 68) (.tmp 70) rfl rfl (f := atP hk' n) (w0 := w4) rfl rfl rfl HH3.out hsl ?_
                       intro v3 w3 hO3 hH3
                       have HN := hid (HO3.out v3 w3 hy hO3 hH3)
                       obtain ⟨s5, k5, rfl⟩ := hH3.form
                       rw [List.length_append] at HN
                       clear hO3 hH3 HO3 HH3))
                  go_roundw
                  case rel => exact ⟨j + 1, _, by omega, by go_num, by rw [HPn'.out], rfl, HN.out⟩
                  case measure => simp [intOf]; omega
            · have t1 : (d == 1) = false := beq_eq_false_iff_ne.2 h1
              have HN := hid (HKeep.out (setH_no (by rintro ⟨h', _⟩; exact h0 h')) (by unfold sen1; rw [if_neg h1]; rfl))
              by_cases h2 : d = 2
              · subst h2
                have HPn' : Hid ((pb || pnt (y.take (j + 1))) = true) := by show _ = _; rw [HPn1.out]; simp
                clear HKeep HSet HOut HPn1 HHs HKeep2
                go_upto_region 9 with fail
                rw [← HW1.out]
                clear HW1
                go_wp2
                go_roundw
                case rel => exact ⟨j + 1, _, by omega, by go_num, by rw [HPn'.out], rfl, HN.out⟩
                case measure => simp [intOf]; omega
              · have t2 : (d == 2) = false := beq_eq_false_iff_ne.2 h2
                have HPn' : Hid (pnt (y.take (j + 1)) = pj) := by show _ = _; rw [HPn1.out]; show (pj || d == 2) = pj; rw [t2, Bool.or_false]
                clear HKeep HSet HOut HPn1 HHs HKeep2
                go_upto_region 9 with fail
                rw [← HW1.out]
                clear HW1
                go_wp2
                go_roundw
                case rel => exact ⟨j + 1, _, by omega, by go_num, by rw [HPn'.out], rfl, HN.out⟩
                case measure => simp [intOf]; omega
        · obtain rfl : j = y.length := by omega
          have hjl : decide ((y.length : Int) < (y.length : Int)) = false := by simp
          have HF : Hid (Rus w h ps c (k + 1) s wy) := by
            have h1 := hq.hs
            rw [List.take_length] at h1
            refine Rus.mk hq.low hq.box ?_
            rw [HOu.out]
            exact h1.carry fun b _ hS => ⟨hS.1, rfl⟩
          have HPf : Hid (pnts (c.take (k + 1)) = (pb || pnt (y.take y.length))) := by show _ = _; rw [HPn.out, List.take_length]
          obtain ⟨s3, k3, rfl⟩ := hq.hs.form
          generalize pnt (y.take y.length) = pp at HPf
          clear hq
          go_wp2
          go_roundw
          case rel => exact ⟨k + 1, _, by omega, by go_num, by rw [HPf.out], rfl, HF.out⟩
          case measure => simp [intOf]; omega
    · obtain rfl : k = c.length := by omega
      have hkl : decide ((c.length : Int) < (c.length : Int)) = false := by simp
      have HF : Hid (Below w.heap.size w wx ∧ Hs (fun b => w.heap.size ≤ b) wx s (outs h ps c)) := by
        have := hq.hs
        rw [List.take_length] at this
        exact ⟨hq.low, this.carry fun b _ hS => ⟨by omega, rfl⟩⟩
      rw [List.take_length]
      obtain ⟨s3, k3, rfl⟩ := hq.hs.form
      clear hq
      go_wp2
      refine bodyPost_ret (results_tmp2 rfl _ _ _) rfl ?_
      exact ⟨_, rfl, HF.out.1, HF.out.2⟩
end Go.Proofs.YtejmobkfanejbaaDoor
