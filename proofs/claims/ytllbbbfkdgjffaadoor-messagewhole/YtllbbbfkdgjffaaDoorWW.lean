/-
  Proved here: MessageWhole's body says true. Conditions: the tables hold their numbers; the message's memory is old.
-/
import Derived.Test.YtllbbbfkdgjffaaDoorWK
import Derived.Test.YtllbbbfkdgjffaaDoorDJ
namespace Go.Proofs.YtllbbbfkdgjffaaDoor
open Go.RowKit

theorem place (k N : Int) (h0 : 0 < N) (h1 : N ≤ 1000000) : ∃ p : Nat, (Go.RowKit.wrap64 (k.tmod N + N)).tmod N = (p : Int) ∧ (p : Int) < N := by
  have ha := Int.natAbs_tmod k N
  have hb := Nat.mod_lt k.natAbs (show 0 < N.natAbs by omega)
  rw [← ha] at hb
  have hw : Go.RowKit.wrap64 (k.tmod N + N) = k.tmod N + N := by
    unfold Go.RowKit.wrap64
    omega
  rw [hw]
  have hn := Int.tmod_nonneg N (show 0 ≤ k.tmod N + N by omega)
  have hlt := Int.tmod_lt_of_pos (k.tmod N + N) h0
  exact ⟨((k.tmod N + N).tmod N).toNat, by omega, by omega⟩
theorem enE_zero {m : Ms} (h : enE m = 0) : okMs m = true ∧ (encMs m).length ≤ 8192 := by
  unfold enE at h
  split at h
  case isFalse => exact absurd h (by decide)
  case isTrue h1 =>
    split at h
    case isFalse => exact absurd h (by decide)
    case isTrue h2 => exact ⟨h1, h2⟩
theorem bxMs {ops : Array Oper} {rest : List Oper} {o : Oper} {a : Act} {w : World} {Q : Exit → Act → World → Prop} (x : Operand) (ho : o.op = .box 37 x) (hw : Region.wanted o (yielded ops a.tmps) = true) (m : Ms) (s : Sls) (hx : a.eval x = .agg (msc m s)) (W : World) (hW : Hid (w.alloc (.cells (msc m s) 37) = W))
    (h : wpList Tryd.prog ops Q rest (a.put o.dst (ptr w.heap.size)) W) : wpList Tryd.prog ops Q (o :: rest) a w := by
  unfold wpList
  rw [if_pos hw]
  refine Or.inl ?_
  unfold Oper.wp execOp
  have hrun : (Instr.box 37 (.agg (msc m s))).run Tryd.prog w = .ok (ptr w.heap.size) (w.alloc (.cells (msc m s) 37)) := rfl
  simp only [ho, hx, Sem.run_bind, Sem.run_pure, Result.andThen_ok, hrun, hW.out]
  exact h
theorem owns_to {base : Nat} {w w' : World} {v : Value} {ys : List Int} (h : Owns base w v ys) (hk : ∀ k, v.ownBlock = some k → w'.heap[k]? = w.heap[k]?) : Owns base w' v ys := by
  refine ⟨h.1, ?_⟩
  rcases h.2 with h2 | ⟨g, cap, cur, rfl, hb, hg, hr⟩
  · exact Or.inl h2
  · exact Or.inr ⟨g, cap, cur, rfl, hb, (hk g rfl).trans hg, hr⟩
set_option maxHeartbeats 3200000 in
set_option maxRecDepth 100000 in
theorem mwhole_any {T : Nat → Prop} {w : World} (m : Ms) (s : Sls) (cut more : Int) (hm : Mss T w m s) (hf : m.Fit) (hT : ∀ x, T x → x < w.heap.size) (h0 : 0 ≤ more) (h1 : more < 256) (ht : Tab w) :
    Calls Tryd.prog 3 #[.agg (msc m s), .int .i64 cut, .int .u8 more] w fun e w' => e = .returned (.bool true) ∧ Below w.heap.size w w' := by
  have hb1 : Below w.heap.size w (w.alloc (.cells (msc m s) 37)) := (Below.refl _ _).alloc (Nat.le_refl _) _
  have hm1 : MB (w.alloc (.cells (msc m s) 37)) w.heap.size m s := heap_alloc_new _ _
  have hz1 : (w.alloc (.cells (msc m s) 37)).heap.size = w.heap.size + 1 := by simp
  obtain ⟨W1, HW1⟩ : ∃ W, Hid (w.alloc (.cells (msc m s) 37) = W) := ⟨_, rfl⟩
  rw [HW1.out] at hb1 hm1 hz1
  have HTb := hid ht
  have HM1 := hid hm1
  have HE := hid (encode_any (T := T) m s W1 (hm.carry fun b hb h => ⟨h, hb1.block b hb⟩) hf (fun x hx => by have := hT x hx; omega) (ht.on hb1))
  have HB1 := hid hb1
  have HW : Hid (∀ W, Below w.heap.size w W → Calls Tryd.prog 5 #[] W fun e w' => e = .returned (.bool true) ∧ Below W.heap.size W w') := fun W hW => wakes_any W (HTb.out.on hW)
  clear hb1 hm1 hm ht
  by_cases he : enE m = 0
  · have hz := enE_zero he
    have hL : enL m = encMs m := (enE_good hz.1 hz.2).2
    rw [he, hL] at HE
    obtain ⟨bs, hbs⟩ : ∃ bs, bs = encMs m := ⟨_, rfl⟩
    have h8 : 8 ≤ bs.length := by rw [hbs, encMs_len]; omega
    have h9 : bs.length ≤ 8192 := by rw [hbs]; exact hz.2
    have hB : IsB bs := hbs ▸ encMs_isB hf
    have hcut : ∀ k, k < bs.length → deE (bs.take k) = 51 := by intro k hk; rw [hbs] at hk ⊢; exact de_cut hz.2 hk
    have hmore : deE (bs ++ [more]) = 70 := by rw [hbs]; exact de_more hz.2 more
    rw [← hbs] at HE
    clear hbs hz hL he
    go_enter Tryd.func3, Tryd.ntmps3
    go_upto_region 2 with (first
      | (refine bxMs (.tmp 0) rfl rfl m s rfl W1 HW1 ?_)
      | (refine ldRow 37 (.tmp 3) rfl rfl w.heap.size rfl 37 (msc m s) _ Tryd.underlying37 rfl (sizeMs m s) HM1.out ?_)
      | (go_at_call 4; refine (HE.out).mono ?_; rintro e w2 ⟨hb, v2, rfl, hv⟩
         have HB2 := hid (HB1.out.trans (hb.mono HB1.out.size))
         have hz2 := hb.size
         clear hb))
    clear HM1 HE HW1
    obtain ⟨g, c, rfl, hg⟩ := hv.form (by omega)
    have hl0 : ((bs.length : Int) == 0) = false := beq_eq_false_iff_ne.2 (by omega)
    obtain ⟨p, hp1, hp2⟩ := place cut bs.length (by omega) (by omega)
    have hcc : bs.length ≤ c := by
      rcases hv.2 with ⟨e, _⟩ | ⟨g', cap, cur, e, _, _, hc, _⟩
      · cases e
      · cases e; exact hc
    have hg2 : g < w2.heap.size := by
      have := (hv.cell 0 (by omega)).1
      exact cell_lt this
    have HO2 := hid hv
    have HD1 := hid (decode_any (T := fun x => x < w2.heap.size) _ _ w2 ((SlC.own (S := fun x => x < w2.heap.size) hv (by omega) hB (fun _ _ h => h)).cut 0 p c (by omega) (by omega)) (fun _ h => h) (HTb.out.on HB2.out))
    rw [List.drop_zero, hcut p (by omega)] at HD1
    generalize deM (bs.take p) = m3 at HD1
    clear hv hcut
    go_upto_region 5 with fail
    have hp3 : ¬ (p : Int) < 0 := by omega
    have hp4 : (p : Int) ≤ (c : Int) := by omega
    go_upto_region 6 with (first
      | (refine stNew 37 (.tmp 10) (.tmp 46) rfl rfl w3 37 (msc zMs zSl) (msc m3 s3) (by rw [← zero_ms0]) rfl rfl (sizeMs _ _) (by rw [msc_size, msc_size]) HOne3.out ?_
         generalize w3.alloc (.cells (msc m3 s3) 37) = V3 at HB3 HO3 ⊢)
      | (go_at_call 6; refine (HD1.out).mono ?_; rintro e w3 ⟨hb, s3, rfl, hm3⟩
         have hz3 := hb.size
         have HOne3 := hid hm3.one
         have HB3 := hid ((HB2.out.trans (hb.mono HB2.out.size)).alloc (by have := HB2.out.size; omega) (.cells (msc m3 s3) 37))
         have HO3 : Hid (Owns W1.heap.size (w3.alloc (.cells (msc m3 s3) 37)) (.slice (some ⟨g, 0, none⟩) bs.length c) bs) := owns_to HO2.out fun k hk => by
           simp [Value.ownBlock] at hk
           subst hk
           exact (heap_alloc_old _ _ (by omega)).trans (hb.block _ hg2)
         clear hb hm3))
    clear HD1 HO2
    have hz4 : W1.heap.size ≤ V3.heap.size := by
      have h := HB3.out.size
      have := cell_lt (HO3.out.cell 0 (by omega)).1
      have := hg
      omega
    have HO4 : Hid (Owns W1.heap.size (V3.alloc (.cells #[.int .u8 more] 5)) (.slice (some ⟨g, 0, none⟩) bs.length c) bs) := owns_to HO3.out fun k hk => by
      simp [Value.ownBlock] at hk
      subst hk
      exact heap_alloc_old _ _ (cell_lt (HO3.out.cell 0 (by omega)).1)
    have HS4 : Hid (Sl (V3.heap.size + 1) (V3.alloc (.cells #[.int .u8 more] 5)) (.slice (some ⟨V3.heap.size, 0, none⟩) 1 1) [more]) := sl_lit V3 [more] (IsB.cons h0 h1 IsB.nil) (by simp)
    have HB4 := hid (HB3.out.alloc HB3.out.size (.cells #[.int .u8 more] 5))
    have hz5 : W1.heap.size ≤ (V3.alloc (.cells #[.int .u8 more] 5)).heap.size := by simp; omega
    have HF : Hid (∀ v5 w5, Ext W1.heap.size (V3.alloc (.cells #[.int .u8 more] 5)) (.slice (some ⟨g, 0, none⟩) bs.length c) w5 v5 (bs ++ [more]) → Below w.heap.size w w5 ∧ Calls Tryd.prog 6 #[v5] w5 fun e w' => Below w5.heap.size w5 w' ∧ ∃ s, e = .returned (.tuple #[.agg (msc (deM (bs ++ [more])) s), .int .i64 70]) ∧ Mss (fun x => w5.heap.size ≤ x ∧ x < w'.heap.size) w' (deM (bs ++ [more])) s) := by
      show ∀ _, _
      intro v5 w5 X
      have hbel := HB4.out.trans ((X.below HO4.out hz5).mono (show w.heap.size ≤ W1.heap.size by omega))
      refine ⟨hbel, ?_⟩
      have := decode_any (T := fun x => x < w5.heap.size) (bs ++ [more]) v5 w5 (SlC.own X.own (by simp; omega) (hB.app (IsB.cons h0 h1 IsB.nil)) (fun _ _ h => h)) (fun _ h => h) (HTb.out.on hbel)
      rw [hmore] at this
      exact this
    have hl5 : bs.length + [more].length ≤ 140737488355328 := by simp; omega
    generalize deM (bs ++ [more]) = m5 at HF
    clear hmore
    clear HO3 HB2 HB1 HTb hp1 hp3 hp4 hg hg2 hcc
    go_upto_region 7 with (first
      | (at_builtin; refine app22 (.tmp 49) (.tmp 51) rfl rfl rfl rfl HO4.out HS4.out hz5 hl5 ?_
         intro v5 w5 X5
         obtain ⟨hb5, hd5⟩ := HF.out v5 w5 X5
         have HB5 := hid hb5
         have HD5 := hid hd5
         clear X5 hb5 hd5)
      | (refine stNew 37 (.tmp 12) (.tmp 54) rfl rfl w6 37 (msc zMs zSl) (msc m5 s6) (by rw [← zero_ms0]) rfl rfl (sizeMs _ _) (by rw [msc_size, msc_size]) HOne6.out ?_
         generalize w6.alloc (.cells (msc m5 s6) 37) = V6 at HB6 ⊢)
      | (go_at_call 6; refine (HD5.out).mono ?_; rintro e w6 ⟨hb, s6, rfl, hm6⟩
         have HOne6 := hid hm6.one
         have HB6 := hid ((HB5.out.trans (hb.mono HB5.out.size)).alloc (by have := HB5.out.size; have := hb.size; omega) (.cells (msc m5 s6) 37))
         clear hb hm6))
    clear HO4 HS4 HB4 HF HD5 HOne6 HB5
    go_wp2_with (go_at_call 5; refine (HW.out _ HB6.out).mono ?_; rintro e w7 ⟨rfl, hb⟩; have HB7 := hid (HB6.out.trans (hb.mono HB6.out.size)); clear hb)
    go_ret
    exact ⟨rfl, HB7.out⟩
  · have hq : (enE m == 0) = false := beq_eq_false_iff_ne.2 he
    have hq' : (enE m != 0) = true := by rw [bne, hq]; rfl
    generalize enE m = x at HE hq hq'
    go_enter Tryd.func3, Tryd.ntmps3
    go_upto_region 2 with (first
      | (refine bxMs (.tmp 0) rfl rfl m s rfl W1 HW1 ?_)
      | (refine ldRow 37 (.tmp 3) rfl rfl w.heap.size rfl 37 (msc m s) _ Tryd.underlying37 rfl (sizeMs m s) HM1.out ?_)
      | (go_at_call 4; refine (HE.out).mono ?_; rintro e w2 ⟨hb, v2, rfl, hv⟩; have HB2 := hid (HB1.out.trans (hb.mono HB1.out.size)); clear hb hv))
    clear HM1 HE HW1
    go_wp2_with (go_at_call 5; refine (HW.out _ HB2.out).mono ?_; rintro e w7 ⟨rfl, hb⟩; have HB7 := hid (HB2.out.trans (hb.mono HB2.out.size)); clear hb)
    go_ret
    exact ⟨rfl, HB7.out⟩
end Go.Proofs.YtllbbbfkdgjffaaDoor
