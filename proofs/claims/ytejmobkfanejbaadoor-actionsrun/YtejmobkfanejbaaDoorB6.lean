/-
  Proved here: appendThere and Run of package actions: what goes out, copy by copy, and whether there is a punt; no old memory turns. Conditions: the widths' table holds its eleven numbers; fewer than a million actions.
-/
import Derived.Test.YtejmobkfanejbaaDoorB5
namespace Go.Proofs.YtejmobkfanejbaaDoor
open Go.RowKit

theorem flt_one (ps : List Int) (l : List (Nat → Int)) (x : Nat → Int) : flt ps (l ++ [x]) = flt ps l ++ if here ps (x 9) = true then [x] else [] := by
  unfold flt
  rw [List.filter_append]
  cases hx : here ps (x 9) <;> simp [hx]
set_option maxHeartbeats 6400000 in
set_option maxRecDepth 100000 in
theorem appendThere_any {T S : Nat → Prop} {w : World} {v vp vs : Value} {l ss : List (Nat → Int)} {ps : List Int} (hl : Hs S w v l) (hs : Hs (fun b => ¬ S b) w vs ss) (hp : Pts T w vp ps) (hT : ∀ b, T b → ¬ S b) (hn : l.length + ss.length < 1000000) :
    Calls Tryd.prog 26 #[v, vp, vs] w fun e w' => ∃ v', e = .returned v' ∧ Only (fun b => S b ∨ w.heap.size ≤ b) w w' ∧ Hs (fun b => S b ∨ w.heap.size ≤ b) w' v' (l ++ flt ps ss) := by
  obtain ⟨ao, cap, rfl⟩ := hs.form
  obtain ⟨a0, c0, rfl⟩ := hl.form
  obtain ⟨ap, cp, rfl, -⟩ := hp.form
  have H := hid hl
  have HSs := hid hs
  have HP := hid hp
  have HT := hid hT
  obtain ⟨iR, hiR, hiz, his, -⟩ := info_parts infoHDR
  clear hl hs hp hT
  go_enter Tryd.func26, Tryd.ntmps26
  go_upto_region 2 with fail
  go_loopw [0, 11] (fun s i wr => ∃ (k : Nat) (s' : Value), k ≤ ss.length ∧ i = .int .i64 k ∧ s' = s ∧ Only (fun b => S b ∨ w.heap.size ≤ b) w wr ∧ Hs (fun b => S b ∨ w.heap.size ≤ b) wr s' (l ++ flt ps (ss.take k))) (fun _ i _ => ss.length - (intOf i).toNat)
  case atStart => exact ⟨0, _, by omega, rfl, rfl, Only.refl _ _, by simpa [flt] using H.out.carry fun b _ hS => ⟨Or.inl hS, rfl⟩⟩
  case round =>
    obtain ⟨k, s, hk, rfl, rfl, hO, hH⟩ := hrel
    generalize wr = wx at *
    have hold : ∀ b, b < w.heap.size → ¬ S b → wx.heap[b]? = w.heap[b]? := fun b hb hS => hO.block b fun h => h.elim hS (by omega)
    by_cases hlt : k < ss.length
    · have hkl : decide ((k : Int) < (ss.length : Int)) = true := decide_eq_true (by omega)
      have hsx : Hs (fun b => ¬ S b) wx (.slice ao ss.length cap) ss := HSs.out.carry fun b hb hS => ⟨hS, hold b hb hS⟩
      have hpx : Pts T wx (.slice ap ps.length cp) ps := Pts.carry (fun b hb hS => ⟨hS, hold b hb (HT.out b hS)⟩) HP.out
      obtain ⟨b, o, rfl, -, -, hr⟩ := hsx.range hlt
      have HTk := hid (take_one' ss k hlt)
      have hfl : (l ++ flt ps (ss.take k)).length < 1000000 := by
        have h1 := flt_len ps (ss.take k)
        have h2 : (ss.take k).length ≤ ss.length := by simp; omega
        rw [List.length_append]; omega
      generalize ss[k] = x at hr HTk
      obtain ⟨W1, hW1⟩ : ∃ W1, W1 = wx.alloc (.cells (row 11 x) 24) := ⟨_, rfl⟩
      have hb1 : Below wx.heap.size wx W1 := by rw [hW1]; exact (Below.refl _ _).alloc (Nat.le_refl _) _
      have hbx : Blk W1 wx.heap.size 11 24 x := by rw [hW1]; exact Blk.new wx 11 24 x
      have hc9 := hbx.cell 9 (by omega)
      have HC := hid (isThere_any (Pts.on hpx hb1) (x 9))
      have HW1 := hid hW1
      have HB2 : Hid (∀ w2, Below W1.heap.size W1 w2 → Only (fun b => S b ∨ w.heap.size ≤ b) w w2 ∧ Hs (fun b => S b ∨ w.heap.size ≤ b) w2 s (l ++ flt ps (ss.take k)) ∧ Blk w2 wx.heap.size 11 24 x ∧ w.heap.size ≤ w2.heap.size) := fun w2 h2 => by
        have h3 : Below wx.heap.size wx w2 := hb1.trans (h2.mono hb1.size)
        have hO2 := hO.trans (Only.of h3 fun j hj => Or.inr (Nat.le_trans hO.size hj))
        exact ⟨hO2, hH.carry fun b hb hS => ⟨hS, h3.block b hb⟩, hbx.on h2, hO2.size⟩
      have HR := hid hr
      obtain ⟨s3, k3, rfl⟩ := hH.form
      clear hO hH hold hsx hpx hW1 hb1 hr
      cases hy : here ps (x 9)
      · rw [hy] at HC
        have HFl : Hid (l ++ flt ps (ss.take (k + 1)) = l ++ flt ps (ss.take k)) := by show _ = _; rw [HTk.out, flt_one, hy]; simp
        generalize l ++ flt ps (ss.take k) = L at hfl HB2 HFl
        go_upto_region 4 with (first
          | (refine ldMid 24 (.tmp 13) rfl rfl b (o + k * 11) rfl (row 11 x) _ Tryd.underlying24 rfl (size24 _) HR.out ?_)
          | (refine stNew 24 (.tmp 8) (.tmp 14) rfl rfl wx 24 _ (row 11 x) rfl rfl rfl (size24 _) (by rw [row_size]; rfl) (row_one _ _) ?_))
        rw [← HW1.out]
        clear HW1
        go_wp2_with (go_at_call 34; refine (HC.out).mono ?_; rintro e w2 ⟨rfl, hb2⟩; have HN := hid (HB2.out w2 hb2); clear hb2 HC HB2)
        go_roundw
        case rel => exact ⟨k + 1, _, by omega, by go_num, rfl, HN.out.1, by rw [HFl.out]; exact HN.out.2.1⟩
        case measure => simp [intOf]; omega
      · rw [hy] at HC
        have HFl : Hid (l ++ flt ps (ss.take (k + 1)) = (l ++ flt ps (ss.take k)) ++ [x]) := by show _ = _; rw [HTk.out, flt_one, hy]; simp
        generalize l ++ flt ps (ss.take k) = L at hfl HB2 HFl
        go_upto_region 4 with (first
          | (refine ldMid 24 (.tmp 13) rfl rfl b (o + k * 11) rfl (row 11 x) _ Tryd.underlying24 rfl (size24 _) HR.out ?_)
          | (refine stNew 24 (.tmp 8) (.tmp 14) rfl rfl wx 24 _ (row 11 x) rfl rfl rfl (size24 _) (by rw [row_size]; rfl) (row_one _ _) ?_))
        rw [← HW1.out]
        clear HW1
        go_wp2_with (first
          | (go_at_call 34; refine (HC.out).mono ?_; rintro e w2 ⟨rfl, hb2⟩; obtain ⟨m1, m2, m3, m4⟩ := HB2.out w2 hb2; have HM1 := hid (And.intro m1 m4); have HM2 := hid m2; clear hb2 HC HB2 m1 m2 m4)
          | (refine ld24 (.tmp 8) rfl _ rfl rfl x m3 ?_)
          | (refine bldSl 37 24 (.tmp 20) rfl rfl (row 11 x) rfl Tryd.underlying37 iR _ 11 hiR hiz his (row_size _ _) (by omega) (by omega) ?_)
          | (at_builtin; refine appH (.tmp 19) (.tmp 21) rfl rfl (f := x) (w0 := w2) rfl rfl rfl HM2.out hfl ?_
             intro v3 w3 hO3 hH3
             have HO3 := hid hO3
             have HH3 := hid hH3
             obtain ⟨s4, k4, rfl⟩ := hH3.form
             clear hO3 hH3))
        go_roundw
        case rel =>
          refine ⟨k + 1, _, by omega, by go_num, rfl, HM1.out.1.trans (HO3.out.mono fun b hb => ?_), ?_⟩
          · have := HM1.out.2
            rcases hb with (hb | hb) | hb
            · exact Or.inl hb
            · exact Or.inr hb
            · exact Or.inr (by omega)
          · rw [HFl.out]
            have hh := HH3.out
            rw [List.length_append] at hh
            have := HM1.out.2
            refine Rw.carry hh fun b _ hb => ⟨?_, rfl⟩
            rcases hb with (hb | hb) | hb
            · exact Or.inl hb
            · exact Or.inr hb
            · exact Or.inr (by omega)
        case measure => simp [intOf]; omega
    · obtain rfl : k = ss.length := by omega
      have hkl : decide ((ss.length : Int) < (ss.length : Int)) = false := by simp
      rw [List.take_length] at hH
      have HF := hid (And.intro hO hH)
      obtain ⟨s3, k3, rfl⟩ := hH.form
      clear hO hH hold
      go_wp2
      go_ret
      exact ⟨_, rfl, HF.out.1, HF.out.2⟩
/-- Where Run is, its first k copies done. -/
structure Rus (w : World) (h : Nat → Int) (ps : List Int) (c : List (List Ac)) (k : Nat) (v : Value) (wr : World) : Prop where
  low : Below w.heap.size w wr
  box : Blk wr w.heap.size 11 24 h
  hs : Hs (fun b => w.heap.size + 1 ≤ b) wr v (outs h ps (c.take k))
/-- What Run leaves. -/
def RuP (w : World) (h : Nat → Int) (ps : List Int) (c : List (List Ac)) (e : Ending) (w' : World) : Prop := ∃ v', e = .returned (.tuple #[v', .bool (pnts c)]) ∧ Below w.heap.size w w' ∧ Hs (fun b => w.heap.size ≤ b) w' v' (outs h ps c)
set_option maxHeartbeats 6400000 in
set_option maxRecDepth 100000 in
theorem run_any {T T' : Nat → Prop} {w : World} {v vp : Value} {c : List (List Ac)} {ps : List Int} (h : Nat → Int) (hc : Cps T w v c) (hp : Pts T' w vp ps) (hw : Tab w) (hn : cnt c < 1000000) :
    Calls Tryd.prog 14 #[hv h, v, vp] w (RuP w h ps c) := by
  obtain ⟨ao, cap, rfl, -⟩ := hc.form
  obtain ⟨ap, cp, rfl, -⟩ := hp.form
  have hlen := hc.len
  obtain ⟨W0, hW0⟩ : ∃ W0, W0 = w.alloc (.cells (row 11 h) 24) := ⟨_, rfl⟩
  have hB0 : Below w.heap.size w W0 := by rw [hW0]; exact (Below.refl _ _).alloc (Nat.le_refl _) _
  have hA : Blk W0 w.heap.size 11 24 h := by rw [hW0]; exact Blk.new w 11 24 h
  have HQ0 : Hid (Rus w h ps c 0 nilS W0) := ⟨hB0, hA, by simpa [outs] using Hs.nil _ _⟩
  have H := hid hc
  have HP : Hid (∀ w', Below w.heap.size w w' → Pts (fun b => b < w.heap.size) w' (.slice ap ps.length cp) ps) := fun w' hb => Pts.carry (T := fun b => b < w.heap.size) (fun b _ hb' => ⟨hb', rfl⟩) (Pts.on (by
    obtain ⟨ao', cap', e1, e2, e3, e4, e5⟩ := hp
    refine ⟨ao', cap', e1, e2, e3, e4, fun hne => ?_⟩
    obtain ⟨b, o, -, e6, e7⟩ := e5 hne
    exact ⟨b, o, cell_lt (e7 0 (List.length_pos_iff.2 hne)).1, e6, e7⟩) hb)
  have HT := hid hw
  have HW0 := hid hW0
  clear hc hp hw hW0 hB0 hA
  go_enter Tryd.func14, Tryd.ntmps14
  go_upto_region 1 with fail
  rw [← HW0.out]
  clear HW0
  go_upto_region 2 with fail
  go_loopw [6, 7, 14] (fun s p i wr => ∃ (k : Nat) (s' : Value), k ≤ c.length ∧ i = .int .i64 k ∧ p = .bool (pnts (c.take k)) ∧ s' = s ∧ Rus w h ps c k s' wr) (fun _ _ i _ => c.length - (intOf i).toNat)
  case atStart => exact ⟨0, _, by omega, rfl, by simp [pnts], rfl, HQ0.out⟩
  case round =>
    clear HQ0
    obtain ⟨k, s, hk, rfl, rfl, rfl, hq⟩ := hrel
    generalize wr = wx at *
    by_cases hlt : k < c.length
    · have hkl : decide ((k : Int) < (c.length : Int)) = true := decide_eq_true (by omega)
      obtain ⟨b, o, a1, c1, rfl, f0, -, -, hu⟩ := H.out.at hq.low hlt
      have hbx := hq.box
      have hyl : c[k].length < 1000000 := by have := cnt_mem hlt; omega
      have HC := hid (runCopy_any h hu (HT.out.on hq.low) hyl)
      have HPn : Hid (pnts (c.take (k + 1)) = (pnts (c.take k) || pnt c[k])) := by show _ = _; rw [take_one' c k hlt, pnts_one]
      have hcl : (outs h ps (c.take k)).length + (sens h c[k]).length < 1000000 := by
        have h1 := outs_len h ps (c.take k)
        have h2 := sens_len h c[k]
        have h3 := cnt_take c (k + 1)
        rw [take_one' c k hlt, cnt_one] at h3
        omega
      have HNx : Hid (∀ w1 vs, Below wx.heap.size wx w1 → Hs (fun b => wx.heap.size ≤ b) w1 vs (sens h c[k]) → Calls Tryd.prog 26 #[s, .slice ap ps.length cp, vs] w1 fun e w' => ∃ v', e = .returned v' ∧ Rus w h ps c (k + 1) v' w' ∧ ∃ s3 k3, v' = .slice s3 (outs h ps (c.take (k + 1))).length k3) := fun w1 vs hb1 hs1 => by
        have hlow1 := hq.low.trans (hb1.mono hq.low.size)
        have hbl := hq.box.lt
        have hl1 : Hs (fun b => w.heap.size + 1 ≤ b ∧ b < wx.heap.size) w1 s (outs h ps (c.take k)) := hq.hs.carry fun b hb hS => ⟨⟨hS, hb⟩, hb1.block b hb⟩
        refine (appendThere_any hl1 (hs1.carry fun b _ hS => ⟨by omega, rfl⟩) (HP.out w1 hlow1) (fun b hb => by omega) hcl).mono ?_
        rintro e w' ⟨v', rfl, hO, hH⟩
        have hge : ∀ b, (w.heap.size + 1 ≤ b ∧ b < wx.heap.size) ∨ w1.heap.size ≤ b → w.heap.size + 1 ≤ b := fun b hb => by
          have := hb1.size
          omega
        have hH' : Hs (fun b => w.heap.size + 1 ≤ b) w' v' (outs h ps (c.take (k + 1))) := by
          rw [take_one' c k hlt, outs_one]
          exact hH.carry fun b _ hS => ⟨hge b hS, rfl⟩
        refine ⟨v', rfl, ⟨hlow1.trans (hO.below fun b hb => by have := hge b hb; omega), ?_, hH'⟩, hH'.form⟩
        unfold Blk
        rw [hO.block w.heap.size (fun hb => by have := hge _ hb; omega), hb1.block _ hbl]
        exact hq.box
      obtain ⟨s3, k3, rfl⟩ := hq.hs.form
      clear hq hu hyl
      generalize pnts (c.take k) = pb at HPn
      generalize pnt c[k] = pc at HPn HC
      generalize sens h c[k] = se at HC HNx hcl
      generalize (outs h ps (c.take k)).length = nn at HNx hcl
      generalize (outs h ps (c.take (k + 1))).length = nm at HNx
      generalize c[k] = y at f0 HC
      cases pb with
      | true =>
        have HPn' : Hid (pnts (c.take (k + 1)) = true) := by show _ = _; rw [HPn.out]; rfl
        clear HPn
        go_wp2_with (first
          | (refine ld24 (.tmp 3) rfl _ rfl rfl h hbx ?_)
          | (go_at_call 25; refine (HC.out).mono ?_; rintro e w1 ⟨vs, rfl, hb1, hs1⟩; have HX := hid (HNx.out w1 vs hb1 hs1); obtain ⟨s5, k5, rfl⟩ := hs1.form; clear hb1 hs1 HC HNx)
          | (go_at_call 26; refine (HX.out).mono ?_; rintro e w2 ⟨v', rfl, hq2, s6, k6, rfl⟩; have HQ2 := hid hq2; clear hq2 HX))
        go_roundw
        case rel => exact ⟨k + 1, _, by omega, by go_num, by rw [HPn'.out], rfl, HQ2.out⟩
        case measure => simp [intOf]; omega
      | false =>
        have HPn' : Hid (pnts (c.take (k + 1)) = pc) := by show _ = _; rw [HPn.out]; rfl
        clear HPn
        go_wp2_with (first
          | (refine ld24 (.tmp 3) rfl _ rfl rfl h hbx ?_)
          | (go_at_call 25; refine (HC.out).mono ?_; rintro e w1 ⟨vs, rfl, hb1, hs1⟩; have HX := hid (HNx.out w1 vs hb1 hs1); obtain ⟨s5, k5, rfl⟩ := hs1.form; clear hb1 hs1 HC HNx)
          | (go_at_call 26; refine (HX.out).mono ?_; rintro e w2 ⟨v', rfl, hq2, s6, k6, rfl⟩; have HQ2 := hid hq2; clear hq2 HX))
        go_roundw
        case rel => exact ⟨k + 1, _, by omega, by go_num, by rw [HPn'.out], rfl, HQ2.out⟩
        case measure => simp [intOf]; omega
    · obtain rfl : k = c.length := by omega
      have hkl : decide ((c.length : Int) < (c.length : Int)) = false := by simp
      have HF : Hid (Below w.heap.size w wx ∧ Hs (fun b => w.heap.size ≤ b) wx s (outs h ps c)) := by
        have := hq.hs
        rw [List.take_length] at this
        exact ⟨hq.low, this.carry fun b _ hS => ⟨by omega, rfl⟩⟩
      rw [List.take_length]
      obtain ⟨s3, k3, rfl⟩ := hq.hs.form
      clear hq
      go_wp2
      refine bodyPost_ret (results_tmp2 rfl _ _ _) rfl ?_
      exact ⟨_, rfl, HF.out.1, HF.out.2⟩
end Go.Proofs.YtejmobkfanejbaaDoor
