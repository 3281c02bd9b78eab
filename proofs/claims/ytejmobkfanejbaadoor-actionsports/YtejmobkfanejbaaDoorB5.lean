/-
  Proved here: runCopy of package actions: what a copy sends, and whether it punts; no old memory turns. Conditions: the widths' table holds its eleven numbers; fewer than a million actions.
-/
import Derived.Test.YtejmobkfanejbaaDoorB4
namespace Go.Proofs.YtejmobkfanejbaaDoor
open Go.RowKit

/-- Where runCopy is, its first k actions done. -/
structure Rcs (w : World) (h : Nat → Int) (l : List Ac) (k : Nat) (v : Value) (wr : World) : Prop where
  low : Below w.heap.size w wr
  box : Blk wr w.heap.size 11 24 (aft h (l.take k))
  hs : Hs (fun b => w.heap.size + 1 ≤ b) wr v (sens h (l.take k))
theorem Rcs.more {w : World} {h : Nat → Int} {l : List Ac} {k : Nat} {v : Value} {wr w' : World} (q : Rcs w h l k v wr) (hb : Below wr.heap.size wr w') : Rcs w h l k v w' :=
  ⟨q.low.trans (hb.mono q.low.size), q.box.on hb, q.hs.carry fun b hb' hS => ⟨hS, hb.block b hb'⟩⟩
theorem Rcs.keep {w : World} {h : Nat → Int} {l : List Ac} {k : Nat} {v : Value} {wr : World} (q : Rcs w h l k v wr) (hk : k < l.length) (h1 : setH (aft h (l.take k)) l[k] = aft h (l.take k)) (h2 : l[k].dw ≠ 1) : Rcs w h l (k + 1) v wr := by
  refine ⟨q.low, ?_, ?_⟩
  · rw [take_one' l k hk, aft_one, h1]; exact q.box
  · rw [take_one' l k hk, sens_one, show sen1 (aft h (l.take k)) l[k] = [] by unfold sen1; rw [if_neg h2], List.append_nil]; exact q.hs
theorem setH_no {h : Nat → Int} {a : Ac} (h1 : ¬ (a.dw = 0 ∧ isF a.fd = true)) : setH h a = h := by unfold setH; rw [if_neg h1]
theorem Rcs.set {w : World} {h : Nat → Int} {l : List Ac} {k : Nat} {v : Value} {wr : World} (q : Rcs w h l k v wr) (hk : k < l.length) (h1 : l[k].dw = 0) (h2 : isF l[k].fd = true) (j : Nat) (hj : l[k].fd = (j : Int)) : Rcs w h l (k + 1) v (wr.setCell ⟨w.heap.size, j, none⟩ (.int .u64 l[k].n)) := by
  refine ⟨q.low.setCell (p := ⟨w.heap.size, j, none⟩) (Nat.le_refl _) _, ?_, ?_⟩
  · rw [take_one' l k hk, aft_one]
    unfold setH
    rw [if_pos ⟨h1, h2⟩, show l[k].fd.toNat = j by rw [hj]; rfl]
    exact q.box.set j _
  · rw [take_one' l k hk, sens_one, show sen1 (aft h (l.take k)) l[k] = [] by unfold sen1; rw [if_neg (by omega)], List.append_nil]
    exact q.hs.carry fun b _ hS => ⟨hS, heap_setCell_other wr ⟨w.heap.size, j, none⟩ b _ (by show b ≠ w.heap.size; omega)⟩
theorem Rcs.out {w : World} {h : Nat → Int} {l : List Ac} {k : Nat} {v v' : Value} {wr w' : World} (q : Rcs w h l k v wr) (hk : k < l.length) (h1 : l[k].dw = 1) (hO : Only (fun b => w.heap.size + 1 ≤ b ∨ wr.heap.size ≤ b) wr w') (hH : Hs (fun b => w.heap.size + 1 ≤ b ∨ wr.heap.size ≤ b) w' v' (sens h (l.take k) ++ [atP (aft h (l.take k)) l[k].n])) : Rcs w h l (k + 1) v' w' := by
  have hge : ∀ b, w.heap.size + 1 ≤ b ∨ wr.heap.size ≤ b → w.heap.size + 1 ≤ b := fun b hb => by
    have := q.box.lt; omega
  refine ⟨q.low.trans (hO.below fun b hb => by have := hge b hb; omega), ?_, ?_⟩
  · rw [take_one' l k hk, aft_one, setH_no (by omega)]
    unfold Blk
    rw [hO.block w.heap.size (fun hb => by have := hge _ hb; omega)]
    exact q.box
  · rw [take_one' l k hk, sens_one, show sen1 (aft h (l.take k)) l[k] = [atP (aft h (l.take k)) l[k].n] by unfold sen1; rw [if_pos h1]]
    exact hH.carry fun b _ hS => ⟨hge b hS, rfl⟩
set_option maxHeartbeats 6400000 in
set_option maxRecDepth 100000 in
theorem runCopy_any {T : Nat → Prop} {w : World} {v : Value} {l : List Ac} (h : Nat → Int) (hl : Acs T w v l) (hw : Tab w) (hn : l.length < 1000000) :
    Calls Tryd.prog 25 #[hv h, v] w fun e w' => ∃ v', e = .returned (.tuple #[v', .bool (pnt l)]) ∧ Below w.heap.size w w' ∧ Hs (fun b => w.heap.size ≤ b) w' v' (sens h l) := by
  obtain ⟨ao, cap, rfl, hcap⟩ := hl.form
  obtain ⟨W0, hW0⟩ : ∃ W0, W0 = w.alloc (.cells (row 11 h) 24) := ⟨_, rfl⟩
  have hB0 : Below w.heap.size w W0 := by rw [hW0]; exact (Below.refl _ _).alloc (Nat.le_refl _) _
  have hA : Blk W0 w.heap.size 11 24 h := by rw [hW0]; exact Blk.new w 11 24 h
  have HQ0 : Hid (Rcs w h l 0 nilS W0) := ⟨hB0, by simpa [aft] using hA, by simpa [sens] using Hs.nil _ _⟩
  have H := hid hl
  have HT := hid hw
  have HW0 := hid hW0
  have hs0 := sens_len h l
  obtain ⟨iR, hiR, hiz, his, -⟩ := info_parts infoHDR
  clear hl hw hW0 hB0 hA
  go_enter Tryd.func25, Tryd.ntmps25
  go_upto_region 1 with fail
  rw [← HW0.out]
  clear HW0
  go_upto_region 2 with fail
  go_loopw [4, 5, 10] (fun s p i wr => ∃ (k : Nat) (s' : Value), k ≤ l.length ∧ i = .int .i64 k ∧ p = .bool (pnt (l.take k)) ∧ s' = s ∧ Rcs w h l k s' wr) (fun _ _ i _ => l.length - (intOf i).toNat)
  case atStart => exact ⟨0, _, by omega, rfl, by simp [pnt], rfl, HQ0.out⟩
  case round =>
    clear HQ0
    obtain ⟨k, s, hk, rfl, rfl, rfl, hq⟩ := hrel
    generalize wr = wx at *
    by_cases hlt : k < l.length
    · have hkl : decide ((k : Int) < (l.length : Int)) = true := decide_eq_true (by omega)
      have hsl : (sens h (l.take k)).length < 1000000 := by
        have := sens_len h (l.take k)
        have : (l.take k).length ≤ l.length := by simp; omega
        omega
      obtain ⟨p, q, rfl, g0, g1, g2, hfit⟩ := H.out.at hq.low hlt
      obtain ⟨W1, hW1⟩ : ∃ W1, W1 = wx.alloc (.cells #[.int .i8 l[k].dw, .int .i8 l[k].fd, .int .u64 l[k].n] 48) := ⟨_, rfl⟩
      have hb1 : Below wx.heap.size wx W1 := by rw [hW1]; exact (Below.refl _ _).alloc (Nat.le_refl _) _
      have hG1 : W1.heap[wx.heap.size]? = some (.cells #[.int .i8 l[k].dw, .int .i8 l[k].fd, .int .u64 l[k].n] 48 (0, 0)) := by rw [hW1]; exact heap_alloc_new _ _
      have q1 := hq.more hb1
      have c0 : W1.cell? ⟨wx.heap.size, 0, none⟩ = some (.int .i8 l[k].dw) := by rw [cell_of_row _ _ _ _ _ _ hG1]; rfl
      have c1 : W1.cell? ⟨wx.heap.size, 1, none⟩ = some (.int .i8 l[k].fd) := by rw [cell_of_row _ _ _ _ _ _ hG1]; rfl
      have c2 : W1.cell? ⟨wx.heap.size, 2, none⟩ = some (.int .u64 l[k].n) := by rw [cell_of_row _ _ _ _ _ _ hG1]; rfl
      have hgl : wx.heap.size < W1.heap.size := (Array.getElem?_eq_some_iff.1 hG1).1
      have HC := hid (isField_any l[k].fd W1 (HT.out.on q1.low))
      have hbx := q1.box
      have HPn : Hid (pnt (l.take (k + 1)) = (pnt (l.take k) || l[k].dw == 2)) := by show _ = _; rw [take_one' l k hlt, pnt_one]
      have HQ1 := hid q1
      have HW1 := hid hW1
      have HKeep := hid (fun (h1 : setH (aft h (l.take k)) l[k] = aft h (l.take k)) (h2 : l[k].dw ≠ 1) => q1.keep hlt h1 h2)
      have HSet := hid (fun (h1 : l[k].dw = 0) (h2 : isF l[k].fd = true) (j : Nat) (hj : l[k].fd = (j : Int)) => q1.set hlt h1 h2 j hj)
      have HOut := hid (fun (v' : Value) (w2 w' : World) (hb2 : Below W1.heap.size W1 w2) (h1 : l[k].dw = 1) hO hH => (q1.more hb2).out (v' := v') (w' := w') hlt h1 hO hH)
      have HHs := hid (fun (w2 : World) (hb2 : Below W1.heap.size W1 w2) => (q1.more hb2).hs)
      clear hq hW1 hb1 hG1 q1
      generalize sens h (l.take k) = sl at hsl HOut HHs
      generalize aft h (l.take k) = hk' at hbx HKeep HOut HSet
      generalize hp0 : pnt (l.take k) = pb at HPn
      clear hp0
      obtain ⟨a, ha⟩ : ∃ a, a = l[k] := ⟨_, rfl⟩
      rw [← ha] at g0 g1 g2 hfit c0 c1 c2 HC HPn HW1 HKeep HSet HOut
      clear ha
      obtain ⟨d, f, n⟩ := a
      by_cases h0 : d = 0
      · subst h0
        have HPn' : Hid (pnt (l.take (k + 1)) = pb) := by show _ = _; rw [HPn.out]; simp
        cases hf : isF f
        · have HN := hid (HKeep.out (setH_no (by rw [hf]; simp)) (by show (0 : Int) ≠ 1; omega))
          rw [hf] at HC
          clear HKeep HSet HOut HPn HHs HQ1
          go_upto_region 4 with fail
          rw [← HW1.out]
          clear HW1
          go_wp2_with (go_at_call 32; refine (HC.out).mono ?_; rintro e w' ⟨rfl, rfl⟩; clear HC)
          go_roundw
          case rel => exact ⟨k + 1, _, by omega, by go_num, by rw [HPn'.out], rfl, HN.out⟩
          case measure => simp [intOf]; omega
        · have hfb := isF_iff.1 hf
          rw [hf] at HC
          obtain ⟨j, rfl⟩ := Int.eq_ofNat_of_zero_le hfb.1
          have hj : j < 11 := by omega
          have HN := hid (HSet.out rfl hf j rfl)
          have hcj := hbx.cell j hj
          have hfz := hbx.frozen j
          clear HKeep HSet HOut HPn HHs HQ1 hfb
          go_upto_region 4 with fail
          rw [← HW1.out]
          clear HW1
          go_wp2_with (go_at_call 32; refine (HC.out).mono ?_; rintro e w' ⟨rfl, rfl⟩; clear HC)
          go_roundw
          case rel => exact ⟨k + 1, _, by omega, by go_num, by rw [HPn'.out], rfl, HN.out⟩
          case measure => simp [intOf]; omega
      · have t0 : (d == 0) = false := beq_eq_false_iff_ne.2 h0
        by_cases h1 : d = 1
        · subst h1
          have HPn' : Hid (pnt (l.take (k + 1)) = pb) := by show _ = _; rw [HPn.out]; simp
          have HAt := hid (atPort_any hk' n W1)
          clear HKeep HSet HPn HC HQ1
          go_upto_region 4 with fail
          rw [← HW1.out]
          clear HW1
          go_wp2_with (first
            | (refine ld24 (.tmp 2) rfl _ rfl rfl hk' hbx ?_)
            | (go_at_call 33; refine (HAt.out).mono ?_; rintro e w2 ⟨rfl, hb2⟩; have HH2 := hid (HHs.out w2 hb2); have HO2 := hid (HOut.out · w2 · hb2 rfl); clear hb2 HAt HOut HHs)
            | (refine bldSl 37 24 (.tmp 32) rfl rfl (row 11 (atP hk' n)) rfl Tryd.underlying37 iR _ 11 hiR hiz his (row_size _ _) (by omega) (by omega) ?_)
            | (at_builtin; refine appH (.tmp 28) (.tmp 33) rfl rfl (f := atP hk' n) (w0 := w2) rfl rfl rfl HH2.out hsl ?_
               intro v3 w3 hO3 hH3
               have HN := hid (HO2.out v3 w3 hO3 hH3)
               obtain ⟨s3, k3, rfl⟩ := hH3.form
               rw [List.length_append] at HN
               clear hO3 hH3 HO2 HH2))
          go_roundw
          case rel => exact ⟨k + 1, _, by omega, by go_num, by rw [HPn'.out], rfl, HN.out⟩
          case measure => simp [intOf]; omega
        · have t1 : (d == 1) = false := beq_eq_false_iff_ne.2 h1
          have HN := hid (HKeep.out (setH_no (by rintro ⟨h', _⟩; exact h0 h')) h1)
          by_cases h2 : d = 2
          · subst h2
            have HPn' : Hid (pnt (l.take (k + 1)) = true) := by show _ = _; rw [HPn.out]; simp
            clear HKeep HSet HOut HPn HHs HQ1 HC
            go_upto_region 4 with fail
            rw [← HW1.out]
            clear HW1
            go_wp2
            go_roundw
            case rel => exact ⟨k + 1, _, by omega, by go_num, by rw [HPn'.out], rfl, HN.out⟩
            case measure => simp [intOf]; omega
          · have t2 : (d == 2) = false := beq_eq_false_iff_ne.2 h2
            have HPn' : Hid (pnt (l.take (k + 1)) = pb) := by show _ = _; rw [HPn.out]; show (pb || d == 2) = pb; rw [t2, Bool.or_false]
            clear HKeep HSet HOut HPn HHs HQ1 HC
            go_upto_region 4 with fail
            rw [← HW1.out]
            clear HW1
            go_wp2
            go_roundw
            case rel => exact ⟨k + 1, _, by omega, by go_num, by rw [HPn'.out], rfl, HN.out⟩
            case measure => simp [intOf]; omega
    · obtain rfl : k = l.length := by omega
      have hkl : decide ((l.length : Int) < (l.length : Int)) = false := by simp
      have HF : Hid (Below w.heap.size w wx ∧ Hs (fun b => w.heap.size ≤ b) wx s (sens h l)) := by
        have := hq.hs
        rw [List.take_length] at this
        exact ⟨hq.low, this.carry fun b _ hS => ⟨by omega, rfl⟩⟩
      rw [List.take_length]
      clear hq
      go_wp2
      refine bodyPost_ret (results_tmp2 rfl _ _ _) rfl ?_
      exact ⟨_, rfl, HF.out.1, HF.out.2⟩
end Go.Proofs.YtejmobkfanejbaaDoor
