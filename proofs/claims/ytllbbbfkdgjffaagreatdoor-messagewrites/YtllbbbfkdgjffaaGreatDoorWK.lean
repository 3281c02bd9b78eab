/-
  Proved here: the document's Check and Encode (of package tollbridgeref07) answer as a message's bytes and error say; no old memory turns. Conditions: the message's memory is old and as it says, its numbers of their types.
-/
/-
  Proved here: the laws' look at a short message says true. Conditions: the tables hold their numbers.
-/
import Derived.Test.YtllbbbfkdgjffaaGreatDoorOS
import Derived.Test.YtllbbbfkdgjffaaGreatDoorLR
import Derived.Test.YtllbbbfkdgjffaaGreatDoorEN
import Derived.Test.YtllbbbfkdgjffaaGreatDoorDE
namespace Go.Proofs.YtllbbbfkdgjffaaGreatDoor
open Go.RowKit

set_option maxHeartbeats 6400000 in
set_option maxRecDepth 100000 in
theorem rcheck7_any {T : Nat → Prop} (m : Ms) (s : Sls) (w : World) (hs : Mss T w m s) (hf : m.Fit) (hT : ∀ x, T x → x < w.heap.size) :
    Calls Tryz.prog 9 #[.agg (msc m s)] w fun e w' => e = .returned (.int .i64 (enE m)) ∧ Below w.heap.size w w' := by
  have hB := Bx.new hs
  obtain ⟨W1, HW1⟩ : ∃ W, Hid (w.alloc (.cells (msc m s) 37) = W) := ⟨_, rfl⟩
  rw [HW1.out] at hB
  obtain ⟨g, hg⟩ : ∃ g, g = w.heap.size := ⟨_, rfl⟩
  rw [← hg] at hB
  have HG := hid hg
  have HL := hid hB.mb
  have HC := hid (rright_any m s W1 hB.ms hf)
  have HO : Hid (∀ w2, Below W1.heap.size W1 w2 → Bx T w g m s w2) := fun w2 h2 => hB.on h2
  have HGr : Hid (∀ x r u, Cps T x u r.cp → Calls Tryz.prog 18 #[.agg (rlc r u)] x fun e w' => e = .returned (.bool (decide (8192 < cpn r.cp r.cp.length))) ∧ Below x.heap.size x w') := fun x r u hc => rgreat_any r u hc
  have HWd : Hid (∀ x, Bx T w g m s x → m.ps.length ≤ 8192 → m.ed.length ≤ 8192 → m.fr.length ≤ 8192 → m.hs.length ≤ 8192 → cpn m.r.cp m.r.cp.length ≤ 8192 → (∀ h ∈ m.hs, cpn h.r.cp h.r.cp.length ≤ 8192) → Calls Tryz.prog 16 #[.agg (msc m s)] x fun e w' => (∃ ao cap, e = .returned (.slice ao (encMs m).length cap)) ∧ Below w.heap.size w w') := fun x hx h1 h2 h3 h4 h5 h6 => by
    refine (rwords_any m s x hx.ms hf (fun y hy => Nat.lt_of_lt_of_le (hT y hy) hx.low.size) h1 h2 h3 h4 h5 h6).mono ?_
    rintro e w' ⟨hb, b, v, -, rfl, ho⟩
    refine ⟨?_, hx.low.trans (hb.mono hx.low.size)⟩
    obtain ⟨g', c', e, -⟩ := ho.form (by simp only [encMs, List.length_append, dg_len]; omega)
    exact ⟨_, _, by rw [e]⟩
  clear hg hB hs hf hT
  cases ha : okMs m with
  | false =>
    have HZ : Hid (enE m = 70) := (enE_bad ha).1
    rw [ha] at HC
    clear ha
    go_enter Tryz.func9, Tryz.ntmps9
    go_upto_region 1 with (refine bxMs (.tmp 0) rfl rfl m s rfl W1 HW1 ?_)
    rw [← HG.out]
    go_wp2_with (first
      | (refine ldRow 37 (.tmp 1) rfl rfl g rfl 37 (msc m s) _ Tryz.underlying37 rfl (sizeMs m s) HL.out ?_)
      | (go_at_call 17; refine (HC.out).mono ?_; rintro e w2 ⟨rfl, hb2⟩; have HX2 := hid (HO.out w2 hb2).low; clear hb2 HC))
    go_ret
    exact ⟨by rw [HZ.out]; rfl, HX2.out⟩
  | true =>
    have HBig : Hid (big m → enE m = 3) := fun hb => enE_big ha hb
    have HLen := hid (enE_len ha)
    rw [ha] at HC
    clear ha
    go_enter Tryz.func9, Tryz.ntmps9
    go_upto_region 1 with (refine bxMs (.tmp 0) rfl rfl m s rfl W1 HW1 ?_)
    rw [← HG.out]
    go_upto_region 3 with (first
      | (refine ldRow 37 (.tmp 1) rfl rfl g rfl 37 (msc m s) _ Tryz.underlying37 rfl (sizeMs m s) HL.out ?_)
      | (go_at_call 17; refine (HC.out).mono ?_; rintro e w2 ⟨rfl, hb2⟩; have HX2 := hid (HO.out w2 hb2); clear hb2 HC))
    obtain ⟨a1, c1, a2, c2, a3, c3, a4, c4, p0, p2, p28, p29, p30, p35, p31, p32, p33, p34, pl⟩ := on_cells HX2.out.mb HX2.out.ms
    have HP34 := hid p34
    obtain ⟨pl1, pl2, pl4⟩ := pl
    have pl3 : m.fr.length ≤ 140737488355328 := by
      obtain ⟨ao, cap, e, h1, h2, -⟩ := HX2.out.ms.fr
      exact h2
    have HRr := hid (mb_range HX2.out.mb)
    clear p0 p2 p28 p29 p30 p35
    have HE1 : Hid (8192 < m.ps.length → enE m = 3) := fun h => HBig.out (Or.inl h)
    have HE2 : Hid (8192 < m.ed.length → enE m = 3) := fun h => HBig.out (Or.inr (Or.inl h))
    have HE3 : Hid (8192 < m.fr.length → enE m = 3) := fun h => HBig.out (Or.inr (Or.inr (Or.inl h)))
    have HE4 : Hid (8192 < m.hs.length → enE m = 3) := fun h => HBig.out (Or.inr (Or.inr (Or.inr (Or.inl h))))
    have HE5 : Hid (8192 < cpn m.r.cp m.r.cp.length → enE m = 3) := fun h => HBig.out (Or.inr (Or.inr (Or.inr (Or.inr (Or.inl h)))))
    have HE6 : Hid (∀ h ∈ m.hs, 8192 < cpn h.r.cp h.r.cp.length → enE m = 3) := fun h hm hc => HBig.out (Or.inr (Or.inr (Or.inr (Or.inr (Or.inr ⟨h, hm, hc⟩)))))
    have HG5 := hid (HGr.out w2 m.r s.cp HX2.out.ms.cp)
    clear HBig
    by_cases h1 : 8192 < m.ps.length
    · have hd : decide ((8192 : Int) < (m.ps.length : Int)) = true := decide_eq_true (by omega)
      have HZ := hid (HE1.out h1)
      clear HE1 HE2 HE3 HE4 HE5 HE6 HG5 HGr HWd HLen h1
      go_wp2
      go_ret
      exact ⟨by rw [HZ.out]; rfl, HX2.out.low⟩
    have hd1 : decide ((8192 : Int) < (m.ps.length : Int)) = false := decide_eq_false (by omega)
    by_cases h2 : 8192 < m.ed.length
    · have hd : decide ((8192 : Int) < (m.ed.length : Int)) = true := decide_eq_true (by omega)
      have HZ := hid (HE2.out h2)
      clear HE1 HE2 HE3 HE4 HE5 HE6 HG5 HGr HWd HLen h2
      go_wp2
      go_ret
      exact ⟨by rw [HZ.out]; rfl, HX2.out.low⟩
    have hd2 : decide ((8192 : Int) < (m.ed.length : Int)) = false := decide_eq_false (by omega)
    by_cases h3 : 8192 < m.fr.length
    · have hd : decide ((8192 : Int) < (m.fr.length : Int)) = true := decide_eq_true (by omega)
      have HZ := hid (HE3.out h3)
      clear HE1 HE2 HE3 HE4 HE5 HE6 HG5 HGr HWd HLen h3
      go_wp2
      go_ret
      exact ⟨by rw [HZ.out]; rfl, HX2.out.low⟩
    have hd3 : decide ((8192 : Int) < (m.fr.length : Int)) = false := decide_eq_false (by omega)
    by_cases h4 : 8192 < m.hs.length
    · have hd : decide ((8192 : Int) < (m.hs.length : Int)) = true := decide_eq_true (by omega)
      have HZ := hid (HE4.out h4)
      clear HE1 HE2 HE3 HE4 HE5 HE6 HG5 HGr HWd HLen h4
      go_wp2
      go_ret
      exact ⟨by rw [HZ.out]; rfl, HX2.out.low⟩
    have hd4 : decide ((8192 : Int) < (m.hs.length : Int)) = false := decide_eq_false (by omega)
    by_cases h5 : 8192 < cpn m.r.cp m.r.cp.length
    · have HZ := hid (HE5.out h5)
      rw [decide_eq_true h5] at HG5
      clear HE1 HE2 HE3 HE4 HE5 HE6 HGr HWd HLen h5
      go_wp2_with (first
        | (refine ldMid 31 (.tmp 30) rfl rfl g 3 rfl (rlc m.r s.cp) _ Tryz.underlying31 rfl (sizeRl _ _) HRr.out ?_)
        | (go_at_call 18; refine (HG5.out).mono ?_; rintro e w4 ⟨rfl, hb4⟩; have HB4 := hid (HX2.out.on hb4).low; clear hb4 HG5))
      go_ret
      exact ⟨by rw [HZ.out]; rfl, HB4.out⟩
    rw [decide_eq_false h5] at HG5
    go_upto_region 6 with (first
      | (refine ldMid 31 (.tmp 30) rfl rfl g 3 rfl (rlc m.r s.cp) _ Tryz.underlying31 rfl (sizeRl _ _) HRr.out ?_)
      | (go_at_call 18; refine (HG5.out).mono ?_; rintro e w3 ⟨rfl, hb3⟩; have HX3 := hid (HX2.out.on hb3); have HB3 := hid hb3; clear hb3 HG5))
    clear p31 p32 p33 p34
    go_loopw [3] (fun i wr => ∃ k : Nat, k ≤ m.hs.length ∧ i = .int .i64 k ∧ (∀ h ∈ m.hs.take k, cpn h.r.cp h.r.cp.length ≤ 8192) ∧ Below w2.heap.size w2 wr) (fun i _ => m.hs.length - (intOf i).toNat)
    case atStart => exact ⟨0, by omega, rfl, by simp, HB3.out⟩
    case round =>
      obtain ⟨k, hk, rfl, hall, hlow⟩ := hrel
      generalize wr = wx at *
      have r34 : wx.cell? ⟨g, 34, none⟩ = some (.slice a4 m.hs.length c4) := by rw [hlow.cell (p := ⟨g, 34, none⟩) (cell_lt HP34.out)]; exact HP34.out
      have hX := HX2.out.on hlow
      have hHx : Hds T wx s.hs m.hs := hX.ms.hs
      obtain ⟨a9, c9, e9, -⟩ := hHx.form
      have hss : s.hs = .slice a4 m.hs.length c4 := by
        have q := (mb_cells HX2.out.mb).2.2.2.2.2.2.2.2.2.1
        rw [HP34.out] at q
        exact (Option.some.inj q).symm
      rw [hss] at hHx
      have HA := hid hall
      have HLo := hid hlow
      have HXx := hid hX
      clear hall hlow hX e9 hss
      by_cases hlt : k < m.hs.length
      · have hkl : decide ((k : Int) < (m.hs.length : Int)) = true := decide_eq_true (by omega)
        obtain ⟨b, o, u, rfl, hr, hcu, hfu⟩ := hHx.at hlt
        have HC2 := hid (HGr.out wx m.hs[k].r u hcu)
        have HRk := hid hr
        have hmem : m.hs[k] ∈ m.hs := List.getElem_mem hlt
        have HNo := hid (HE6.out m.hs[k] hmem)
        have HYes : Hid (cpn m.hs[k].r.cp m.hs[k].r.cp.length ≤ 8192 → ∀ h ∈ m.hs.take (k + 1), cpn h.r.cp h.r.cp.length ≤ 8192) := fun he h hh => by
          rw [List.take_succ_eq_append_getElem hlt, List.mem_append] at hh
          rcases hh with hh | hh
          · exact HA.out h hh
          · simp only [List.mem_cons, List.not_mem_nil, or_false] at hh
            subst hh; exact he
        clear hr hcu hfu hHx hmem HA
        generalize m.hs[k].r = rr at HC2 HRk HNo HYes
        by_cases h8 : 8192 < cpn rr.cp rr.cp.length
        · rw [decide_eq_true h8] at HC2
          have HZ2 := hid (HNo.out h8)
          clear h8 HNo HYes HE1 HE2 HE3 HE4 HE5 HE6 HWd HLen
          go_wp2_with (first
            | (refine ldMid 31 (.tmp 45) rfl rfl b (o + k * 27) rfl (rlc rr u) _ Tryz.underlying31 rfl (sizeRl _ _) HRk.out ?_)
            | (go_at_call 18; refine (HC2.out).mono ?_; rintro e w4 ⟨rfl, hb4⟩; have HB4 := hid (HXx.out.on hb4).low; clear hb4 HC2))
          go_ret
          exact ⟨by rw [HZ2.out]; rfl, HB4.out⟩
        · rw [decide_eq_false h8] at HC2
          have HT := hid (HYes.out (by omega))
          clear h8 HNo HYes HE1 HE2 HE3 HE4 HE5 HE6 HWd HLen
          go_wp2_with (first
            | (refine ldMid 31 (.tmp 45) rfl rfl b (o + k * 27) rfl (rlc rr u) _ Tryz.underlying31 rfl (sizeRl _ _) HRk.out ?_)
            | (go_at_call 18; refine (HC2.out).mono ?_; rintro e w4 ⟨rfl, hb4⟩; have HB4 := hid (HLo.out.trans (hb4.mono HLo.out.size)); clear hb4 HC2))
          go_roundw
          case rel => exact ⟨k + 1, by omega, by go_num, HT.out, HB4.out⟩
          case measure => simp [intOf]; omega
      · obtain rfl : k = m.hs.length := by omega
        have hkl : decide ((m.hs.length : Int) < (m.hs.length : Int)) = false := by simp
        have hA := HA.out
        rw [List.take_length] at hA
        have HC3 := hid (HWd.out wx HXx.out (by omega) (by omega) (by omega) (by omega) (by omega) hA)
        have HL3 := hid HXx.out.mb
        clear hHx HA hA HE1 HE2 HE3 HE4 HE5 HE6 HWd HGr
        generalize (encMs m).length = n at HC3 HLen
        by_cases hn : 8192 < n
        · have HZ2 : Hid (enE m = 3) := by show _ = _; rw [HLen.out, if_pos hn]
          have hd9 : decide ((8192 : Int) < (n : Int)) = true := decide_eq_true (by omega)
          go_wp2_with (first
            | (refine ldRow 37 (.tmp 1) rfl rfl g rfl 37 (msc m s) _ Tryz.underlying37 rfl (sizeMs m s) HL3.out ?_)
            | (go_at_call 16; refine (HC3.out).mono ?_; rintro e w4 ⟨⟨a0, c0, rfl⟩, hb4⟩; have HB4 := hid hb4; clear hb4 HC3))
          go_ret
          exact ⟨by rw [HZ2.out]; rfl, HB4.out⟩
        · have HZ2 : Hid (enE m = 0) := by show _ = _; rw [HLen.out, if_neg hn]
          have hd9 : decide ((8192 : Int) < (n : Int)) = false := decide_eq_false (by omega)
          go_wp2_with (first
            | (refine ldRow 37 (.tmp 1) rfl rfl g rfl 37 (msc m s) _ Tryz.underlying37 rfl (sizeMs m s) HL3.out ?_)
            | (go_at_call 16; refine (HC3.out).mono ?_; rintro e w4 ⟨⟨a0, c0, rfl⟩, hb4⟩; have HB4 := hid hb4; clear hb4 HC3))
          go_ret
          exact ⟨by rw [HZ2.out]; rfl, HB4.out⟩
end Go.Proofs.YtllbbbfkdgjffaaGreatDoor
namespace Go.Proofs.YtllbbbfkdgjffaaGreatDoor
open Go.RowKit

def wkM : Ms := { zMs with ty := 12, po := 3, up := true }
theorem wk_cells : msc wkM zSl = #[.int .i8 12, .int .u32 0, .int .i8 0, .int .i64 0, .int .u64 0, .int .u64 0, .int .u64 0, .int .u64 0, .int .u64 0, .int .u64 0, .int .u64 0, .int .u64 0, .int .u64 0, .int .u64 0, .int .u64 0, .int .u64 0, .int .u64 0, .int .u64 0, .int .u64 0, .int .u64 0, .int .u64 0, .int .u64 0, .int .u64 0, .int .u64 0, .int .u64 0, .int .u64 0, nilS, .int .u64 0, .int .u16 3, .bool true, .int .u16 0, nilS, nilS, nilS, nilS, .int .u16 0] := by kernel_rfl
theorem wk_en : enE wkM = 0 ∧ enL wkM = [1, 12, 0, 11, 0, 0, 0, 0, 0, 3, 1] := by decide
theorem wk_de : deE [1, 2, 0] = 51 := by decide
theorem inB0 : InB 0 := by unfold InB; decide
theorem in16_0 : In16 0 := by unfold In16; decide
theorem wk_fit : wkM.Fit := ⟨by decide, by decide, by decide, ⟨by decide, fun _ _ => inB0, fun _ _ => rfl, by simp [wkM, zMs, zRl], inB0⟩, by show In16 3; unfold In16; decide, in16_0, by simp [wkM, zMs], by simp [wkM, zMs], by simp [wkM, zMs, IsB], by simp [wkM, zMs], in16_0⟩
theorem buildWk (w : World) : (Instr.build 37 #[(0, .int .i8 12), (4, .int .u16 3), (5, .bool true)]).run Tryz.prog w = .ok (.agg (msc wkM zSl)) w := by
  rw [wk_cells]
  show _ = _
  kernel_rfl
theorem bldWk {ops : Array Oper} {rest : List Oper} {o : Oper} {a : Act} {w : World} {Q : Exit → Act → World → Prop} (ho : o.op = .build 37 #[(0, .const (.int .i8 12)), (4, .const (.int .u16 3)), (5, .const (.bool true))]) (hw : Region.wanted o (yielded ops a.tmps) = true)
    (h : wpList Tryz.prog ops Q rest (a.put o.dst (.agg (msc wkM zSl))) w) : wpList Tryz.prog ops Q (o :: rest) a w := by
  unfold wpList
  rw [if_pos hw]
  refine Or.inl ?_
  unfold Oper.wp execOp
  have := buildWk w
  simp only [ho, List.map_toArray, List.map_cons, List.map_nil, Act.eval, Sem.run_bind, Sem.run_pure, Result.andThen_ok, this]
  exact h
set_option maxHeartbeats 1600000 in
set_option maxRecDepth 100000 in
theorem wakes_any (w : World) (ht : Tab w) : Calls Tryz.prog 10 #[] w fun e w' => e = .returned (.bool true) ∧ Below w.heap.size w w' := by
  have HE := hid (encode_any (T := fun _ => False) wkM zSl w ⟨Lst.nil _ _ _ _, Lst.nil _ _ _ _, Lst.nil _ _ _ _, SlC.nil _ _, Lst.nil _ _ _ _⟩ wk_fit (fun _ h => h.elim) ht)
  rw [wk_en.1, wk_en.2] at HE
  have HT := hid ht
  clear ht
  go_enter Tryz.func10, Tryz.ntmps10
  go_upto_region 2 with (first
    | (refine bldWk rfl rfl ?_)
    | (go_at_call 6; refine (HE.out).mono ?_; rintro e w1 ⟨hb, v, rfl, hv⟩
       have HB1 := hid hb
       have HV1 := hid hv
       clear hb hv))
  have hz2 : (w1.alloc (.cells (([1, 2, 0] : List Int).map (Value.int .u8)).toArray 5)).heap.size = w1.heap.size + 1 := by simp
  have hb2 : Below w1.heap.size w1 (w1.alloc (.cells (([1, 2, 0] : List Int).map (Value.int .u8)).toArray 5)) := (Below.refl _ _).alloc (Nat.le_refl _) _
  have hs2 := SlC.of (sl_lit w1 [1, 2, 0] (by simp [IsB]) (by simp))
  have HD := hid (decode_any (T := fun x => x < w1.heap.size + 1) [1, 2, 0] _ _ hs2 (fun x hx => by rw [hz2]; exact hx) ((HT.out.on HB1.out).on hb2))
  have hsl1 : SlC (fun x => x < w1.heap.size) w1 v [1, 12, 0, 11, 0, 0, 0, 0, 0, 3, 1] := SlC.own HV1.out (by simp) (by simp [IsB]) (fun _ _ h => h)
  rw [(de_short (bs := [1, 2, 0]) (by decide)).1, (de_short (bs := [1, 2, 0]) (by decide)).2] at HD
  have HS1 := hid hsl1
  have HB2 := hid (And.intro hb2 hz2)
  have HFin : Hid (∀ w3 (o : Obj), Below (w1.alloc (.cells (([1, 2, 0] : List Int).map (Value.int .u8)).toArray 5)).heap.size (w1.alloc (.cells (([1, 2, 0] : List Int).map (Value.int .u8)).toArray 5)) w3 → Below w1.heap.size w1 (w3.alloc o)) := fun w3 o h => (HB2.out.1.trans (h.mono (by have := HB2.out.2; omega))).alloc (by have := h.size; have := HB2.out.2; omega) _
  clear hb2 hs2 hsl1 hz2
  obtain ⟨va, vc, rfl⟩ : ∃ va vc, v = .slice va 11 vc := by
    rcases HV1.out.2 with ⟨-, e⟩ | ⟨g, cap, cur, rfl, _⟩
    · cases e
    · exact ⟨_, _, rfl⟩
  go_upto_region 3 with (first
    | (refine stNew 37 (.tmp 3) (.tmp 13) rfl rfl w3 37 (msc zMs zSl) (msc zMs s3) (by rw [← zero_ms0]) rfl rfl (sizeMs _ _) (by rw [msc_size, msc_size]) HOne.out ?_)
    | (go_at_call 11; refine (HD.out).mono ?_; rintro e w3 ⟨hb, s3, rfl, hm⟩
       have HB3 := hid hb
       have HOne := hid hm.one
       clear hb hm))
  have hb4 := HFin.out w3 (.cells (msc zMs s3) 37) HB3.out
  have HB4 := hid (HB1.out.trans (hb4.mono HB1.out.size))
  have cv : (convert 34 9 (.slice va 11 vc)).run Tryz.prog (w3.alloc (.cells (msc zMs s3) 37)) = .ok (.string { data := #[1, 12, 0, 11, 0, 0, 0, 0, 0, 3, 1] }) (w3.alloc (.cells (msc zMs s3) 37)) := conv_sl (HS1.out.carry (T := fun _ => True) fun k hk _ => ⟨trivial, hb4.block k hk⟩).sl
  clear hb4 HFin HB3 HS1 HV1
  generalize w3.alloc (.cells (msc zMs s3) 37) = V at cv HB4 ⊢
  go_wp2
  go_ret
  exact ⟨rfl, HB4.out⟩
end Go.Proofs.YtllbbbfkdgjffaaGreatDoor
