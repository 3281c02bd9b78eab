/-
  Proved here: the document's words (of package tollbridgeref07) are a message's bytes. Conditions: the message's memory is old, its numbers of their types; fewer than 2 to 31 bytes.
-/
import Derived.Test.YtllbbbfkdgjffaaGreatDoorR1
import Derived.Test.YtllbbbfkdgjffaaGreatDoorDJ
namespace Go.Proofs.YtllbbbfkdgjffaaGreatDoor
open Go.RowKit

theorem owns_two {base : Nat} (w : World) (x y : Int) (hb : base ≤ w.heap.size) : Owns base (w.alloc (.cells #[.int .u8 x, .int .u8 y] 5)) (.slice (some ⟨w.heap.size, 0, none⟩) 2 2) [x, y] :=
  ⟨by simp, Or.inr ⟨w.heap.size, 2, #[.int .u8 x, .int .u8 y], rfl, hb, heap_alloc_new _ _, by simp, by unfold maxLen; omega, by simp, by simp⟩⟩
theorem encRl_le (r : Rl) : (encRl r).length ≤ 150 + 12 * cpn r.cp r.cp.length := by
  have h1 := encMt_len r.mt
  have h2 := encCps_len r.cp
  simp only [encRl, encCs, List.length_append, dg_len, h2, cpn, List.take_length]
  omega
theorem flat_le {α : Type} {enc : α → List Int} {c : Nat} : ∀ l : List α, (∀ x ∈ l, (enc x).length ≤ c) → (l.flatMap enc).length ≤ c * l.length
  | [], _ => by simp
  | a :: l, h => by
    have h1 := h a (by simp)
    have h2 := flat_le l fun x hx => h x (by simp [hx])
    rw [List.flatMap_cons, List.length_append, List.length_cons, Nat.mul_add, Nat.mul_one]
    omega
theorem encMs_two (m : Ms) (B : List Int) (h : B = body m) : [1, m.ty % 256] ++ dg ((B.length : Int) + 8) 2 ++ dg m.id 4 ++ B = encMs m := by
  unfold encMs
  rw [h, dg1_cv, dg1_cv]
  have e : (((8 + (body m).length : Nat)) : Int) = ((body m).length : Int) + 8 := by omega
  rw [e]
  simp

set_option maxHeartbeats 6400000 in
set_option maxRecDepth 100000 in
theorem rwords_any {T : Nat → Prop} (m : Ms) (s : Sls) (w : World) (hs : Mss T w m s) (hf : m.Fit) (hT : ∀ x, T x → x < w.heap.size) (hl1 : m.ps.length ≤ 8192) (hl2 : m.ed.length ≤ 8192) (hl3 : m.fr.length ≤ 8192) (hl4 : m.hs.length ≤ 8192) (hl5 : cpn m.r.cp m.r.cp.length ≤ 8192) (hl6 : ∀ h ∈ m.hs, cpn h.r.cp h.r.cp.length ≤ 8192) :
    Calls Tryz.prog 16 #[.agg (msc m s)] w fun e w' => Below w.heap.size w w' ∧ ∃ b v, w.heap.size ≤ b ∧ e = .returned v ∧ Owns b w' v (encMs m) := by
  have hM1 : MB (w.alloc (.cells (msc m s) 37)) w.heap.size m s := heap_alloc_new _ _
  have hbw : Below w.heap.size w (w.alloc (.cells (msc m s) 37)) := (Below.refl w.heap.size w).alloc (Nat.le_refl _) (.cells (msc m s) 37)
  have hs1 : Mss T (w.alloc (.cells (msc m s) 37)) m s := hs.carry (T' := T) fun b hb' h => ⟨h, hbw.block b hb'⟩
  have hgl : w.heap.size < (w.alloc (.cells (msc m s) 37)).heap.size := by simp
  obtain ⟨W, HWe⟩ : ∃ W, Hid (w.alloc (.cells (msc m s) 37) = W) := ⟨_, rfl⟩
  rw [HWe.out] at hM1 hbw hs1 hgl
  obtain ⟨g, hg⟩ : ∃ g, g = w.heap.size := ⟨_, rfl⟩
  rw [← hg] at hM1 hgl
  have hTW : ∀ x, T x → x < W.heap.size := fun x hx => by have := hT x hx; omega
  have HFin : Hid (∀ z, Below W.heap.size W z → Below w.heap.size w z) := fun z h => hbw.trans (h.mono hbw.size)
  have HSz : Hid (w.heap.size ≤ W.heap.size) := hbw.size
  have HF : Hid (∀ z v ys, Ext W.heap.size W nilS z v ys → Below W.heap.size W z ∧ MB z g m s ∧ Mss T z m s) := fun z v ys h => by
    have hb := h.belowNil
    refine ⟨hb, ?_, hs1.carry (T' := T) fun b hb' ht => ⟨ht, hb.block b hb'⟩⟩
    show _ = _
    rw [hb.block g hgl]; exact hM1
  have HPn : Hid (∀ z vz ys n k, Ext W.heap.size W nilS z vz ys → ys.length ≤ 2147483648 → k ≤ 8 → Calls Tryz.prog 33 #[vz, .int .u64 n, .int .i64 (k : Nat)] z fun e w' => ∃ v', e = .returned v' ∧ Ext W.heap.size W nilS w' v' (ys ++ dg n k)) := fun z vz ys n k hE hl hk => by
    refine (put7_any W.heap.size k n vz ys z hk hE.own hl hE.grown.size).mono ?_
    rintro e w' ⟨v', rfl, h2⟩
    exact ⟨v', rfl, hE.trans h2⟩
  have HPo : Hid (∀ z vz ys u l, Ext W.heap.size W nilS z vz ys → Shs T z u l → ys.length + 2 + 2 * l.length ≤ 2147483648 → Calls Tryz.prog 34 #[vz, u] z fun e w' => ∃ v', e = .returned v' ∧ Ext W.heap.size W nilS w' v' (ys ++ encSh l)) := fun z vz ys u l hE hu hl => by
    refine (rports_any W.heap.size vz u ys l z hE.own hu hTW hl hE.grown.size).mono ?_
    rintro e w' ⟨v', rfl, h2⟩
    exact ⟨v', rfl, hE.trans h2⟩
  have HRu : Hid (∀ z vz ys r u, Ext W.heap.size W nilS z vz ys → Cps T z u r.cp → r.Fit → ys.length + 12 * cpn r.cp r.cp.length ≤ 2147470000 → Calls Tryz.prog 35 #[vz, .agg (rlc r u)] z fun e w' => ∃ v', e = .returned v' ∧ Ext W.heap.size W nilS w' v' (ys ++ encRl r)) := fun z vz ys r u hE hu hfr hl => by
    refine (rrule_any W.heap.size vz ys r u z hE.own hu hfr hTW hl hE.grown.size).mono ?_
    rintro e w' ⟨v', rfl, h2⟩
    exact ⟨v', rfl, hE.trans h2⟩
  have HE0 : Hid (Ext W.heap.size W nilS W nilS []) := Ext.refl Owns.isNil
  have HFit := hid hf
  have HG := hid hg
  obtain ⟨i0, i1⟩ := hf.id
  obtain ⟨c0, -⟩ := mb_cells hM1
  have HTl : Hid (∀ z vb B, Ext W.heap.size W nilS z vb B → B = body m → B.length ≤ 2147480000 → Hid (Sl z.heap.size z vb B) ∧ Hid (∀ y h ys, Ext z.heap.size (z.alloc (.cells #[.int .u8 1, .int .u8 (m.ty % 256)] 5)) (.slice (some ⟨z.heap.size, 0, none⟩) 2 2) y h ys → Hid (Sl z.heap.size y vb B) ∧ Below w.heap.size w y ∧ y.cell? ⟨g, 1, none⟩ = some (.int .u32 m.id))) := by
    show ∀ _, _
    intro z vb B hE hB hl
    have hS := Sl.own hE.own (by omega) (by rw [hB]; exact flat_isB _ fun x _ => encF_isB HFit.out x)
    refine ⟨hS, ?_⟩
    show ∀ _, _
    intro y h ys hy
    have hb1 : Below z.heap.size z (z.alloc (.cells #[.int .u8 1, .int .u8 (m.ty % 256)] 5)) := (Below.refl _ _).alloc (Nat.le_refl _) _
    have hb2 := hb1.trans (hy.below (owns_two z 1 (m.ty % 256) (Nat.le_refl _)) (by simp))
    obtain ⟨q1, q2, -⟩ := HF.out z vb B hE
    refine ⟨hS.on hb2, HFin.out _ (q1.trans (hb2.mono q1.size)), ?_⟩
    have hM3 : MB y g m s := by
      show _ = _
      rw [hb2.block g (Nat.lt_of_lt_of_le hgl q1.size)]; exact q2
    exact (mb_cells hM3).2.1
  clear hs hf hT hM1 hbw hs1 hgl hg hTW
  by_cases h4 : m.ty = 4
  · have HBe : Hid (body m = dg m.sw 2 ++ (encSh m.ps ++ encSh m.ed)) := by
      show _ = _
      unfold body pts
      rw [if_pos h4]
      simp [encF]
    have t4 : (m.ty == 4) = true := by simp [h4]
    obtain ⟨-, b0, s0⟩ := HF.out _ _ _ HE0.out
    obtain ⟨c0, c1, c2, c28, c29, c30, c31, c32, c33, c34, c35⟩ := mb_cells b0
    have HM0 := hid b0
    have HS0 := hid s0
    obtain ⟨w0, w1⟩ := HFit.out.sw
    have hcv : IntKind.u64.wrap m.sw = m.sw := by rw [IntKind.wrap_u64]; omega
    clear b0 s0 h4
    go_enter Tryz.func16, Tryz.ntmps16
    go_upto_region 1 with fail
    rw [HWe.out, ← HG.out]
    go_upto_region 5 with (go_at_call 33; refine (HPn.out _ _ _ _ 2 HE0.out (by simp only [List.length_nil]; omega) (by omega)).mono ?_; rintro e w1 ⟨v1, rfl, hE1⟩; have HE1 := hid hE1; obtain ⟨-, b1, s1⟩ := HF.out _ _ _ hE1; obtain ⟨-, -, d2_1, d28_1, d29_1, d30_1, d31_1, d32_1, d33_1, d34_1, d35_1⟩ := mb_cells b1; have HM1 := hid b1; have HS1 := hid s1; clear hE1 b1 s1)
    go_upto_region 6 with (go_at_call 34; refine (HPo.out _ _ _ _ _ HE1.out HS1.out.ps (by simp only [List.length_append, List.length_nil, dg_len]; omega)).mono ?_; rintro e w2 ⟨v2, rfl, hE2⟩; have HE2 := hid hE2; obtain ⟨-, b2, s2⟩ := HF.out _ _ _ hE2; obtain ⟨-, -, d2_2, d28_2, d29_2, d30_2, d31_2, d32_2, d33_2, d34_2, d35_2⟩ := mb_cells b2; have HM2 := hid b2; have HS2 := hid s2; clear hE2 b2 s2)
    go_upto_region 29 with (go_at_call 34; refine (HPo.out _ _ _ _ _ HE2.out HS2.out.ed (by simp only [List.length_append, List.length_nil, dg_len, encSh, flat2]; omega)).mono ?_; rintro e w3 ⟨v3, rfl, hE3⟩; have HE3 := hid hE3; obtain ⟨-, b3, s3⟩ := HF.out _ _ _ hE3; obtain ⟨-, -, d2_3, d28_3, d29_3, d30_3, d31_3, d32_3, d33_3, d34_3, d35_3⟩ := mb_cells b3; have HM3 := hid b3; have HS3 := hid s3; clear hE3 b3 s3)
    obtain ⟨B, hB, HX⟩ : ∃ B, B = body m ∧ Hid (Ext W.heap.size W nilS w3 v3 B) := ⟨_, rfl, by show Ext _ _ _ _ _ _; rw [HBe.out]; simpa only [List.nil_append, List.append_assoc, dg1_cv, List.cons_append] using HE3.out⟩
    have hBl : B.length ≤ 2147480000 := by
      rw [hB, HBe.out]
      simp only [List.length_append, dg_len, encSh, flat2]
      omega
    have HBe := hid hB
    generalize w3 = Z at *
    generalize v3 = vb at *
    clear hB
    obtain ⟨HSb, HKb⟩ := HTl.out _ _ _ HX.out HBe.out hBl
    obtain ⟨-, b2, -⟩ := HF.out _ _ _ HX.out
    obtain ⟨t0, -⟩ := mb_cells b2
    obtain ⟨va, vc, hv, -⟩ := HSb.out
    subst hv
    have hBc : ((B.length : Nat) : Int) < 9223372036854775800 := by omega
    have hw8 : IntKind.i64.wrap ((B.length : Int) + 8) = (B.length : Int) + 8 := by rw [IntKind.wrap_i64]; omega
    have hu8 : IntKind.u64.wrap ((B.length : Int) + 8) = (B.length : Int) + 8 := by rw [IntKind.wrap_u64]; omega
    clear b2
    go_upto_region 30 with fail
    have HH0 := hid (Ext.refl (owns_two Z 1 (m.ty % 256) (Nat.le_refl _)))
    have hzb : Z.heap.size ≤ (Z.alloc (.cells #[.int .u8 1, .int .u8 (m.ty % 256)] 5)).heap.size := by simp
    generalize hZ1 : Z.alloc (.cells #[.int .u8 1, .int .u8 (m.ty % 256)] 5) = Z1 at HH0 HKb hzb
    generalize hH : Value.slice (some ⟨Z.heap.size, 0, none⟩) 2 2 = vh at HH0 HKb
    clear hZ1 hH t0
    have HPh : Hid (∀ y h ys n k, Ext Z.heap.size Z1 vh y h ys → ys.length ≤ 2147483648 → k ≤ 8 → Calls Tryz.prog 33 #[h, .int .u64 n, .int .i64 (k : Nat)] y fun e w' => ∃ v', e = .returned v' ∧ Ext Z.heap.size Z1 vh w' v' (ys ++ dg n k)) := fun y h ys n k hE hl hk => by
      refine (put7_any Z.heap.size k n h ys y hk hE.own hl (Nat.le_trans hzb hE.grown.size)).mono ?_
      rintro e w' ⟨v', rfl, h2⟩
      exact ⟨v', rfl, hE.trans h2⟩
    go_upto_region 31 with (go_at_call 33; refine (HPh.out _ _ _ _ 2 HH0.out (by simp) (by omega)).mono ?_; rintro e y1 ⟨h1, rfl, hE1⟩; obtain ⟨-, -, r1⟩ := HKb.out _ _ _ hE1; have HH1 := hid hE1; clear hE1)
    go_upto_region 32 with (go_at_call 33; refine (HPh.out _ _ _ _ 4 HH1.out (by simp [dg_len]) (by omega)).mono ?_; rintro e y2 ⟨h2, rfl, hE2⟩; obtain ⟨S2, W2, -⟩ := HKb.out _ _ _ hE2; have HH2 := hid hE2; clear hE2)
    have HW2 := hid W2
    clear W2
    go_wp2_with (at_builtin; refine app22 (.tmp 133) (.tmp 134) rfl rfl rfl rfl HH2.out.own S2.out (Nat.le_trans hzb HH2.out.grown.size) (by simp only [List.length_append, List.length_cons, List.length_nil, dg_len]; omega) ?_; intro v3 w3 hE3)
    have HH3 := hid (HH2.out.trans hE3)
    clear hE3
    go_ret
    have hfin := HH3.out.own
    rw [encMs_two m B HBe.out] at hfin
    exact ⟨(HKb.out _ _ _ HH3.out).2.1, Z.heap.size, v3, Nat.le_trans HSz.out (HF.out _ _ _ HX.out).1.size, rfl, hfin⟩
  by_cases h5 : m.ty = 5
  · have HBe : Hid (body m = dg m.dw 1 ++ encRl m.r) := by
      show _ = _
      unfold body pts
      rw [if_neg (by omega), if_pos h5]
      simp [encF]
    have t4 : (m.ty == 4) = false := by simp [h5]
    have t5 : (m.ty == 5) = true := by simp [h5]
    obtain ⟨-, b0, s0⟩ := HF.out _ _ _ HE0.out
    obtain ⟨c0, c1, c2, c28, c29, c30, c31, c32, c33, c34, c35⟩ := mb_cells b0
    have HM0 := hid b0
    have HS0 := hid s0
    have hrl := encRl_le m.r
    clear b0 s0 h5
    go_enter Tryz.func16, Tryz.ntmps16
    go_upto_region 1 with fail
    rw [HWe.out, ← HG.out]
    go_upto_region 9 with (at_builtin; refine app22 (.tmp 25) (.tmp 29) rfl rfl rfl rfl (HE0.out.own.alloc _) (sl_one W _ (Int.emod_nonneg _ (by omega)) (Int.emod_lt_of_pos _ (by omega))) (by simp) (by simp) ?_; intro v1 w1 hE1'; have hE1 := hE1'.allocFirst HE0.out.own; clear hE1'; have HE1 := hid hE1; obtain ⟨-, b1, s1⟩ := HF.out _ _ _ hE1; obtain ⟨-, -, d2_1, d28_1, d29_1, d30_1, d31_1, d32_1, d33_1, d34_1, d35_1⟩ := mb_cells b1; have HM1 := hid b1; have HS1 := hid s1; clear hE1 b1 s1)
    go_upto_region 29 with (first | (refine ldMid 31 (.tmp 32) rfl rfl _ 3 rfl (rlc m.r s.cp) _ Tryz.underlying31 rfl (sizeRl m.r s.cp) (mb_range HM1.out) ?_) | (go_at_call 35; refine (HRu.out _ _ _ _ _ HE1.out HS1.out.cp HFit.out.r (by simp only [List.length_append, List.length_nil, List.length_cons]; omega)).mono ?_; rintro e w2 ⟨v2, rfl, hE2⟩; have HE2 := hid hE2; obtain ⟨-, b2, s2⟩ := HF.out _ _ _ hE2; obtain ⟨-, -, d2_2, d28_2, d29_2, d30_2, d31_2, d32_2, d33_2, d34_2, d35_2⟩ := mb_cells b2; have HM2 := hid b2; have HS2 := hid s2; clear hE2 b2 s2))
    obtain ⟨B, hB, HX⟩ : ∃ B, B = body m ∧ Hid (Ext W.heap.size W nilS w2 v2 B) := ⟨_, rfl, by show Ext _ _ _ _ _ _; rw [HBe.out]; simpa only [List.nil_append, List.append_assoc, dg1_cv, List.cons_append] using HE2.out⟩
    have hBl : B.length ≤ 2147480000 := by
      rw [hB, HBe.out]
      simp only [List.length_append, dg_len]
      omega
    have HBe := hid hB
    generalize w2 = Z at *
    generalize v2 = vb at *
    clear hB
    obtain ⟨HSb, HKb⟩ := HTl.out _ _ _ HX.out HBe.out hBl
    obtain ⟨-, b2, -⟩ := HF.out _ _ _ HX.out
    obtain ⟨t0, -⟩ := mb_cells b2
    obtain ⟨va, vc, hv, -⟩ := HSb.out
    subst hv
    have hBc : ((B.length : Nat) : Int) < 9223372036854775800 := by omega
    have hw8 : IntKind.i64.wrap ((B.length : Int) + 8) = (B.length : Int) + 8 := by rw [IntKind.wrap_i64]; omega
    have hu8 : IntKind.u64.wrap ((B.length : Int) + 8) = (B.length : Int) + 8 := by rw [IntKind.wrap_u64]; omega
    clear b2
    go_upto_region 30 with fail
    have HH0 := hid (Ext.refl (owns_two Z 1 (m.ty % 256) (Nat.le_refl _)))
    have hzb : Z.heap.size ≤ (Z.alloc (.cells #[.int .u8 1, .int .u8 (m.ty % 256)] 5)).heap.size := by simp
    generalize hZ1 : Z.alloc (.cells #[.int .u8 1, .int .u8 (m.ty % 256)] 5) = Z1 at HH0 HKb hzb
    generalize hH : Value.slice (some ⟨Z.heap.size, 0, none⟩) 2 2 = vh at HH0 HKb
    clear hZ1 hH t0
    have HPh : Hid (∀ y h ys n k, Ext Z.heap.size Z1 vh y h ys → ys.length ≤ 2147483648 → k ≤ 8 → Calls Tryz.prog 33 #[h, .int .u64 n, .int .i64 (k : Nat)] y fun e w' => ∃ v', e = .returned v' ∧ Ext Z.heap.size Z1 vh w' v' (ys ++ dg n k)) := fun y h ys n k hE hl hk => by
      refine (put7_any Z.heap.size k n h ys y hk hE.own hl (Nat.le_trans hzb hE.grown.size)).mono ?_
      rintro e w' ⟨v', rfl, h2⟩
      exact ⟨v', rfl, hE.trans h2⟩
    go_upto_region 31 with (go_at_call 33; refine (HPh.out _ _ _ _ 2 HH0.out (by simp) (by omega)).mono ?_; rintro e y1 ⟨h1, rfl, hE1⟩; obtain ⟨-, -, r1⟩ := HKb.out _ _ _ hE1; have HH1 := hid hE1; clear hE1)
    go_upto_region 32 with (go_at_call 33; refine (HPh.out _ _ _ _ 4 HH1.out (by simp [dg_len]) (by omega)).mono ?_; rintro e y2 ⟨h2, rfl, hE2⟩; obtain ⟨S2, W2, -⟩ := HKb.out _ _ _ hE2; have HH2 := hid hE2; clear hE2)
    have HW2 := hid W2
    clear W2
    go_wp2_with (at_builtin; refine app22 (.tmp 133) (.tmp 134) rfl rfl rfl rfl HH2.out.own S2.out (Nat.le_trans hzb HH2.out.grown.size) (by simp only [List.length_append, List.length_cons, List.length_nil, dg_len]; omega) ?_; intro v3 w3 hE3)
    have HH3 := hid (HH2.out.trans hE3)
    clear hE3
    go_ret
    have hfin := HH3.out.own
    rw [encMs_two m B HBe.out] at hfin
    exact ⟨(HKb.out _ _ _ HH3.out).2.1, Z.heap.size, v3, Nat.le_trans HSz.out (HF.out _ _ _ HX.out).1.size, rfl, hfin⟩
  by_cases h6 : m.ty = 6
  · have HBe : Hid (body m = dg m.po 2 ++ (dg m.fr.length 2 ++ m.fr)) := by
      show _ = _
      unfold body pts
      rw [if_neg (by omega), if_neg (by omega), if_pos (by omega)]
      simp [encF]
    have t4 : (m.ty == 4) = false := by simp [h6]
    have t5 : (m.ty == 5) = false := by simp [h6]
    have t6 : (m.ty == 6) = true := by simp [h6]
    obtain ⟨-, b0, s0⟩ := HF.out _ _ _ HE0.out
    obtain ⟨c0, c1, c2, c28, c29, c30, c31, c32, c33, c34, c35⟩ := mb_cells b0
    have HM0 := hid b0
    have HS0 := hid s0
    obtain ⟨w0, w1⟩ := HFit.out.po
    have hcv : IntKind.u64.wrap m.po = m.po := by rw [IntKind.wrap_u64]; omega
    have hcf : IntKind.u64.wrap (m.fr.length : Int) = (m.fr.length : Int) := by rw [IntKind.wrap_u64]; omega
    obtain ⟨fa, fc, hfr, -⟩ := s0.fr
    clear b0 s0 h6
    go_enter Tryz.func16, Tryz.ntmps16
    go_upto_region 1 with fail
    rw [HWe.out, ← HG.out]
    go_upto_region 13 with (go_at_call 33; refine (HPn.out _ _ _ _ 2 HE0.out (by simp only [List.length_nil]; omega) (by omega)).mono ?_; rintro e w1 ⟨v1, rfl, hE1⟩; have HE1 := hid hE1; obtain ⟨-, b1, s1⟩ := HF.out _ _ _ hE1; obtain ⟨-, -, d2_1, d28_1, d29_1, d30_1, d31_1, d32_1, d33_1, d34_1, d35_1⟩ := mb_cells b1; have HM1 := hid b1; have HS1 := hid s1; clear hE1 b1 s1; rw [hfr] at d33_1)
    go_upto_region 14 with (go_at_call 33; refine (HPn.out _ _ _ _ 2 HE1.out (by simp only [List.length_append, List.length_nil, dg_len]; omega) (by omega)).mono ?_; rintro e w2 ⟨v2, rfl, hE2⟩; have HE2 := hid hE2; obtain ⟨-, b2, s2⟩ := HF.out _ _ _ hE2; obtain ⟨-, -, d2_2, d28_2, d29_2, d30_2, d31_2, d32_2, d33_2, d34_2, d35_2⟩ := mb_cells b2; have HM2 := hid b2; have HS2 := hid s2; clear hE2 b2 s2; have HSf2 := hid (HS2.out.fr.sl); rw [hfr] at d33_2 HSf2)
    go_upto_region 29 with (first | (at_builtin; refine app22 (.tmp 49) (.tmp 51) rfl rfl rfl rfl HE2.out.own HSf2.out HE2.out.grown.size (by simp only [List.length_append, List.length_nil, dg_len]; omega) ?_; intro v3 w3 hE3'; have hE3 := HE2.out.trans hE3'; clear hE3'; have HE3 := hid hE3; obtain ⟨-, b3, s3⟩ := HF.out _ _ _ hE3; obtain ⟨-, -, d2_3, d28_3, d29_3, d30_3, d31_3, d32_3, d33_3, d34_3, d35_3⟩ := mb_cells b3; have HM3 := hid b3; have HS3 := hid s3; clear hE3 b3 s3))
    obtain ⟨B, hB, HX⟩ : ∃ B, B = body m ∧ Hid (Ext W.heap.size W nilS w3 v3 B) := ⟨_, rfl, by show Ext _ _ _ _ _ _; rw [HBe.out]; simpa only [List.nil_append, List.append_assoc, dg1_cv, List.cons_append] using HE3.out⟩
    have hBl : B.length ≤ 2147480000 := by
      rw [hB, HBe.out]
      simp only [List.length_append, dg_len]
      omega
    have HBe := hid hB
    generalize w3 = Z at *
    generalize v3 = vb at *
    clear hB
    obtain ⟨HSb, HKb⟩ := HTl.out _ _ _ HX.out HBe.out hBl
    obtain ⟨-, b2, -⟩ := HF.out _ _ _ HX.out
    obtain ⟨t0, -⟩ := mb_cells b2
    obtain ⟨va, vc, hv, -⟩ := HSb.out
    subst hv
    have hBc : ((B.length : Nat) : Int) < 9223372036854775800 := by omega
    have hw8 : IntKind.i64.wrap ((B.length : Int) + 8) = (B.length : Int) + 8 := by rw [IntKind.wrap_i64]; omega
    have hu8 : IntKind.u64.wrap ((B.length : Int) + 8) = (B.length : Int) + 8 := by rw [IntKind.wrap_u64]; omega
    clear b2
    go_upto_region 30 with fail
    have HH0 := hid (Ext.refl (owns_two Z 1 (m.ty % 256) (Nat.le_refl _)))
    have hzb : Z.heap.size ≤ (Z.alloc (.cells #[.int .u8 1, .int .u8 (m.ty % 256)] 5)).heap.size := by simp
    generalize hZ1 : Z.alloc (.cells #[.int .u8 1, .int .u8 (m.ty % 256)] 5) = Z1 at HH0 HKb hzb
    generalize hH : Value.slice (some ⟨Z.heap.size, 0, none⟩) 2 2 = vh at HH0 HKb
    clear hZ1 hH t0
    have HPh : Hid (∀ y h ys n k, Ext Z.heap.size Z1 vh y h ys → ys.length ≤ 2147483648 → k ≤ 8 → Calls Tryz.prog 33 #[h, .int .u64 n, .int .i64 (k : Nat)] y fun e w' => ∃ v', e = .returned v' ∧ Ext Z.heap.size Z1 vh w' v' (ys ++ dg n k)) := fun y h ys n k hE hl hk => by
      refine (put7_any Z.heap.size k n h ys y hk hE.own hl (Nat.le_trans hzb hE.grown.size)).mono ?_
      rintro e w' ⟨v', rfl, h2⟩
      exact ⟨v', rfl, hE.trans h2⟩
    go_upto_region 31 with (go_at_call 33; refine (HPh.out _ _ _ _ 2 HH0.out (by simp) (by omega)).mono ?_; rintro e y1 ⟨h1, rfl, hE1⟩; obtain ⟨-, -, r1⟩ := HKb.out _ _ _ hE1; have HH1 := hid hE1; clear hE1)
    go_upto_region 32 with (go_at_call 33; refine (HPh.out _ _ _ _ 4 HH1.out (by simp [dg_len]) (by omega)).mono ?_; rintro e y2 ⟨h2, rfl, hE2⟩; obtain ⟨S2, W2, -⟩ := HKb.out _ _ _ hE2; have HH2 := hid hE2; clear hE2)
    have HW2 := hid W2
    clear W2
    go_wp2_with (at_builtin; refine app22 (.tmp 133) (.tmp 134) rfl rfl rfl rfl HH2.out.own S2.out (Nat.le_trans hzb HH2.out.grown.size) (by simp only [List.length_append, List.length_cons, List.length_nil, dg_len]; omega) ?_; intro v3 w3 hE3)
    have HH3 := hid (HH2.out.trans hE3)
    clear hE3
    go_ret
    have hfin := HH3.out.own
    rw [encMs_two m B HBe.out] at hfin
    exact ⟨(HKb.out _ _ _ HH3.out).2.1, Z.heap.size, v3, Nat.le_trans HSz.out (HF.out _ _ _ HX.out).1.size, rfl, hfin⟩
  by_cases h7 : m.ty = 7
  · have HBe : Hid (body m = dg m.po 2 ++ (dg m.fr.length 2 ++ m.fr)) := by
      show _ = _
      unfold body pts
      rw [if_neg (by omega), if_neg (by omega), if_pos (by omega)]
      simp [encF]
    have t4 : (m.ty == 4) = false := by simp [h7]
    have t5 : (m.ty == 5) = false := by simp [h7]
    have t6 : (m.ty == 6) = false := by simp [h7]
    have t7 : (m.ty == 7) = true := by simp [h7]
    obtain ⟨-, b0, s0⟩ := HF.out _ _ _ HE0.out
    obtain ⟨c0, c1, c2, c28, c29, c30, c31, c32, c33, c34, c35⟩ := mb_cells b0
    have HM0 := hid b0
    have HS0 := hid s0
    obtain ⟨w0, w1⟩ := HFit.out.po
    have hcv : IntKind.u64.wrap m.po = m.po := by rw [IntKind.wrap_u64]; omega
    have hcf : IntKind.u64.wrap (m.fr.length : Int) = (m.fr.length : Int) := by rw [IntKind.wrap_u64]; omega
    obtain ⟨fa, fc, hfr, -⟩ := s0.fr
    clear b0 s0 h7
    go_enter Tryz.func16, Tryz.ntmps16
    go_upto_region 1 with fail
    rw [HWe.out, ← HG.out]
    go_upto_region 13 with (go_at_call 33; refine (HPn.out _ _ _ _ 2 HE0.out (by simp only [List.length_nil]; omega) (by omega)).mono ?_; rintro e w1 ⟨v1, rfl, hE1⟩; have HE1 := hid hE1; obtain ⟨-, b1, s1⟩ := HF.out _ _ _ hE1; obtain ⟨-, -, d2_1, d28_1, d29_1, d30_1, d31_1, d32_1, d33_1, d34_1, d35_1⟩ := mb_cells b1; have HM1 := hid b1; have HS1 := hid s1; clear hE1 b1 s1; rw [hfr] at d33_1)
    go_upto_region 14 with (go_at_call 33; refine (HPn.out _ _ _ _ 2 HE1.out (by simp only [List.length_append, List.length_nil, dg_len]; omega) (by omega)).mono ?_; rintro e w2 ⟨v2, rfl, hE2⟩; have HE2 := hid hE2; obtain ⟨-, b2, s2⟩ := HF.out _ _ _ hE2; obtain ⟨-, -, d2_2, d28_2, d29_2, d30_2, d31_2, d32_2, d33_2, d34_2, d35_2⟩ := mb_cells b2; have HM2 := hid b2; have HS2 := hid s2; clear hE2 b2 s2; have HSf2 := hid (HS2.out.fr.sl); rw [hfr] at d33_2 HSf2)
    go_upto_region 29 with (first | (at_builtin; refine app22 (.tmp 49) (.tmp 51) rfl rfl rfl rfl HE2.out.own HSf2.out HE2.out.grown.size (by simp only [List.length_append, List.length_nil, dg_len]; omega) ?_; intro v3 w3 hE3'; have hE3 := HE2.out.trans hE3'; clear hE3'; have HE3 := hid hE3; obtain ⟨-, b3, s3⟩ := HF.out _ _ _ hE3; obtain ⟨-, -, d2_3, d28_3, d29_3, d30_3, d31_3, d32_3, d33_3, d34_3, d35_3⟩ := mb_cells b3; have HM3 := hid b3; have HS3 := hid s3; clear hE3 b3 s3))
    obtain ⟨B, hB, HX⟩ : ∃ B, B = body m ∧ Hid (Ext W.heap.size W nilS w3 v3 B) := ⟨_, rfl, by show Ext _ _ _ _ _ _; rw [HBe.out]; simpa only [List.nil_append, List.append_assoc, dg1_cv, List.cons_append] using HE3.out⟩
    have hBl : B.length ≤ 2147480000 := by
      rw [hB, HBe.out]
      simp only [List.length_append, dg_len]
      omega
    have HBe := hid hB
    generalize w3 = Z at *
    generalize v3 = vb at *
    clear hB
    obtain ⟨HSb, HKb⟩ := HTl.out _ _ _ HX.out HBe.out hBl
    obtain ⟨-, b2, -⟩ := HF.out _ _ _ HX.out
    obtain ⟨t0, -⟩ := mb_cells b2
    obtain ⟨va, vc, hv, -⟩ := HSb.out
    subst hv
    have hBc : ((B.length : Nat) : Int) < 9223372036854775800 := by omega
    have hw8 : IntKind.i64.wrap ((B.length : Int) + 8) = (B.length : Int) + 8 := by rw [IntKind.wrap_i64]; omega
    have hu8 : IntKind.u64.wrap ((B.length : Int) + 8) = (B.length : Int) + 8 := by rw [IntKind.wrap_u64]; omega
    clear b2
    go_upto_region 30 with fail
    have HH0 := hid (Ext.refl (owns_two Z 1 (m.ty % 256) (Nat.le_refl _)))
    have hzb : Z.heap.size ≤ (Z.alloc (.cells #[.int .u8 1, .int .u8 (m.ty % 256)] 5)).heap.size := by simp
    generalize hZ1 : Z.alloc (.cells #[.int .u8 1, .int .u8 (m.ty % 256)] 5) = Z1 at HH0 HKb hzb
    generalize hH : Value.slice (some ⟨Z.heap.size, 0, none⟩) 2 2 = vh at HH0 HKb
    clear hZ1 hH t0
    have HPh : Hid (∀ y h ys n k, Ext Z.heap.size Z1 vh y h ys → ys.length ≤ 2147483648 → k ≤ 8 → Calls Tryz.prog 33 #[h, .int .u64 n, .int .i64 (k : Nat)] y fun e w' => ∃ v', e = .returned v' ∧ Ext Z.heap.size Z1 vh w' v' (ys ++ dg n k)) := fun y h ys n k hE hl hk => by
      refine (put7_any Z.heap.size k n h ys y hk hE.own hl (Nat.le_trans hzb hE.grown.size)).mono ?_
      rintro e w' ⟨v', rfl, h2⟩
      exact ⟨v', rfl, hE.trans h2⟩
    go_upto_region 31 with (go_at_call 33; refine (HPh.out _ _ _ _ 2 HH0.out (by simp) (by omega)).mono ?_; rintro e y1 ⟨h1, rfl, hE1⟩; obtain ⟨-, -, r1⟩ := HKb.out _ _ _ hE1; have HH1 := hid hE1; clear hE1)
    go_upto_region 32 with (go_at_call 33; refine (HPh.out _ _ _ _ 4 HH1.out (by simp [dg_len]) (by omega)).mono ?_; rintro e y2 ⟨h2, rfl, hE2⟩; obtain ⟨S2, W2, -⟩ := HKb.out _ _ _ hE2; have HH2 := hid hE2; clear hE2)
    have HW2 := hid W2
    clear W2
    go_wp2_with (at_builtin; refine app22 (.tmp 133) (.tmp 134) rfl rfl rfl rfl HH2.out.own S2.out (Nat.le_trans hzb HH2.out.grown.size) (by simp only [List.length_append, List.length_cons, List.length_nil, dg_len]; omega) ?_; intro v3 w3 hE3)
    have HH3 := hid (HH2.out.trans hE3)
    clear hE3
    go_ret
    have hfin := HH3.out.own
    rw [encMs_two m B HBe.out] at hfin
    exact ⟨(HKb.out _ _ _ HH3.out).2.1, Z.heap.size, v3, Nat.le_trans HSz.out (HF.out _ _ _ HX.out).1.size, rfl, hfin⟩
  by_cases h12 : m.ty = 12
  · have HBe : Hid (body m = dg m.po 2 ++ dg (flag m.up) 1) := by
      show _ = _
      unfold body pts
      rw [if_neg (by omega), if_neg (by omega), if_neg (by omega), if_neg (by omega), if_pos h12]
      simp [encF]
    have t4 : (m.ty == 4) = false := by simp [h12]
    have t5 : (m.ty == 5) = false := by simp [h12]
    have t6 : (m.ty == 6) = false := by simp [h12]
    have t7 : (m.ty == 7) = false := by simp [h12]
    have t11 : (m.ty == 11) = false := by simp [h12]
    have t12 : (m.ty == 12) = true := by simp [h12]
    obtain ⟨-, b0, s0⟩ := HF.out _ _ _ HE0.out
    obtain ⟨c0, c1, c2, c28, c29, c30, c31, c32, c33, c34, c35⟩ := mb_cells b0
    have HM0 := hid b0
    have HS0 := hid s0
    obtain ⟨w0, w1⟩ := HFit.out.po
    have hcv : IntKind.u64.wrap m.po = m.po := by rw [IntKind.wrap_u64]; omega
    clear b0 s0 h12
    go_enter Tryz.func16, Tryz.ntmps16
    go_upto_region 1 with fail
    rw [HWe.out, ← HG.out]
    go_upto_region 26 with (go_at_call 33; refine (HPn.out _ _ _ _ 2 HE0.out (by simp only [List.length_nil]; omega) (by omega)).mono ?_; rintro e w1 ⟨v1, rfl, hE1⟩; have HE1 := hid hE1; obtain ⟨-, b1, s1⟩ := HF.out _ _ _ hE1; obtain ⟨-, -, d2_1, d28_1, d29_1, d30_1, d31_1, d32_1, d33_1, d34_1, d35_1⟩ := mb_cells b1; have HM1 := hid b1; have HS1 := hid s1; clear hE1 b1 s1)
    go_upto_region 29 with (first | (go_at_call 33; refine (HPn.out _ _ _ _ 1 HE1.out (by simp only [List.length_append, List.length_nil, dg_len]; omega) (by omega)).mono ?_; rintro e w2 ⟨v2, rfl, hE2⟩; have HE2 := hid hE2; obtain ⟨-, b2, s2⟩ := HF.out _ _ _ hE2; obtain ⟨-, -, d2_2, d28_2, d29_2, d30_2, d31_2, d32_2, d33_2, d34_2, d35_2⟩ := mb_cells b2; have HM2 := hid b2; have HS2 := hid s2; clear hE2 b2 s2) | (go_at_call 36; refine (rflag_any m.up _).mono ?_; rintro e w9 ⟨rfl, hw9⟩; subst hw9))
    obtain ⟨B, hB, HX⟩ : ∃ B, B = body m ∧ Hid (Ext W.heap.size W nilS w2 v2 B) := ⟨_, rfl, by show Ext _ _ _ _ _ _; rw [HBe.out]; simpa only [List.nil_append, List.append_assoc, dg1_cv, List.cons_append] using HE2.out⟩
    have hBl : B.length ≤ 2147480000 := by
      rw [hB, HBe.out]
      simp only [List.length_append, dg_len]
      omega
    have HBe := hid hB
    generalize w2 = Z at *
    generalize v2 = vb at *
    clear hB
    obtain ⟨HSb, HKb⟩ := HTl.out _ _ _ HX.out HBe.out hBl
    obtain ⟨-, b2, -⟩ := HF.out _ _ _ HX.out
    obtain ⟨t0, -⟩ := mb_cells b2
    obtain ⟨va, vc, hv, -⟩ := HSb.out
    subst hv
    have hBc : ((B.length : Nat) : Int) < 9223372036854775800 := by omega
    have hw8 : IntKind.i64.wrap ((B.length : Int) + 8) = (B.length : Int) + 8 := by rw [IntKind.wrap_i64]; omega
    have hu8 : IntKind.u64.wrap ((B.length : Int) + 8) = (B.length : Int) + 8 := by rw [IntKind.wrap_u64]; omega
    clear b2
    go_upto_region 30 with fail
    have HH0 := hid (Ext.refl (owns_two Z 1 (m.ty % 256) (Nat.le_refl _)))
    have hzb : Z.heap.size ≤ (Z.alloc (.cells #[.int .u8 1, .int .u8 (m.ty % 256)] 5)).heap.size := by simp
    generalize hZ1 : Z.alloc (.cells #[.int .u8 1, .int .u8 (m.ty % 256)] 5) = Z1 at HH0 HKb hzb
    generalize hH : Value.slice (some ⟨Z.heap.size, 0, none⟩) 2 2 = vh at HH0 HKb
    clear hZ1 hH t0
    have HPh : Hid (∀ y h ys n k, Ext Z.heap.size Z1 vh y h ys → ys.length ≤ 2147483648 → k ≤ 8 → Calls Tryz.prog 33 #[h, .int .u64 n, .int .i64 (k : Nat)] y fun e w' => ∃ v', e = .returned v' ∧ Ext Z.heap.size Z1 vh w' v' (ys ++ dg n k)) := fun y h ys n k hE hl hk => by
      refine (put7_any Z.heap.size k n h ys y hk hE.own hl (Nat.le_trans hzb hE.grown.size)).mono ?_
      rintro e w' ⟨v', rfl, h2⟩
      exact ⟨v', rfl, hE.trans h2⟩
    go_upto_region 31 with (go_at_call 33; refine (HPh.out _ _ _ _ 2 HH0.out (by simp) (by omega)).mono ?_; rintro e y1 ⟨h1, rfl, hE1⟩; obtain ⟨-, -, r1⟩ := HKb.out _ _ _ hE1; have HH1 := hid hE1; clear hE1)
    go_upto_region 32 with (go_at_call 33; refine (HPh.out _ _ _ _ 4 HH1.out (by simp [dg_len]) (by omega)).mono ?_; rintro e y2 ⟨h2, rfl, hE2⟩; obtain ⟨S2, W2, -⟩ := HKb.out _ _ _ hE2; have HH2 := hid hE2; clear hE2)
    have HW2 := hid W2
    clear W2
    go_wp2_with (at_builtin; refine app22 (.tmp 133) (.tmp 134) rfl rfl rfl rfl HH2.out.own S2.out (Nat.le_trans hzb HH2.out.grown.size) (by simp only [List.length_append, List.length_cons, List.length_nil, dg_len]; omega) ?_; intro v3 w3 hE3)
    have HH3 := hid (HH2.out.trans hE3)
    clear hE3
    go_ret
    have hfin := HH3.out.own
    rw [encMs_two m B HBe.out] at hfin
    exact ⟨(HKb.out _ _ _ HH3.out).2.1, Z.heap.size, v3, Nat.le_trans HSz.out (HF.out _ _ _ HX.out).1.size, rfl, hfin⟩
  by_cases h13 : m.ty = 13
  · have HBe : Hid (body m = dg m.co 2) := by
      show _ = _
      unfold body pts
      rw [if_neg (by omega), if_neg (by omega), if_neg (by omega), if_neg (by omega), if_neg (by omega), if_pos h13]
      simp [encF]
    have t4 : (m.ty == 4) = false := by simp [h13]
    have t5 : (m.ty == 5) = false := by simp [h13]
    have t6 : (m.ty == 6) = false := by simp [h13]
    have t7 : (m.ty == 7) = false := by simp [h13]
    have t11 : (m.ty == 11) = false := by simp [h13]
    have t12 : (m.ty == 12) = false := by simp [h13]
    have t13 : (m.ty == 13) = true := by simp [h13]
    obtain ⟨-, b0, s0⟩ := HF.out _ _ _ HE0.out
    obtain ⟨c0, c1, c2, c28, c29, c30, c31, c32, c33, c34, c35⟩ := mb_cells b0
    have HM0 := hid b0
    have HS0 := hid s0
    obtain ⟨w0, w1⟩ := HFit.out.co
    have hcv : IntKind.u64.wrap m.co = m.co := by rw [IntKind.wrap_u64]; omega
    clear b0 s0 h13
    go_enter Tryz.func16, Tryz.ntmps16
    go_upto_region 1 with fail
    rw [HWe.out, ← HG.out]
    go_upto_region 29 with (go_at_call 33; refine (HPn.out _ _ _ _ 2 HE0.out (by simp only [List.length_nil]; omega) (by omega)).mono ?_; rintro e w1 ⟨v1, rfl, hE1⟩; have HE1 := hid hE1; obtain ⟨-, b1, s1⟩ := HF.out _ _ _ hE1; obtain ⟨-, -, d2_1, d28_1, d29_1, d30_1, d31_1, d32_1, d33_1, d34_1, d35_1⟩ := mb_cells b1; have HM1 := hid b1; have HS1 := hid s1; clear hE1 b1 s1)
    obtain ⟨B, hB, HX⟩ : ∃ B, B = body m ∧ Hid (Ext W.heap.size W nilS w1 v1 B) := ⟨_, rfl, by show Ext _ _ _ _ _ _; rw [HBe.out]; simpa only [List.nil_append, List.append_assoc, dg1_cv, List.cons_append] using HE1.out⟩
    have hBl : B.length ≤ 2147480000 := by
      rw [hB, HBe.out]
      simp only [dg_len]
      omega
    have HBe := hid hB
    generalize w1 = Z at *
    generalize v1 = vb at *
    clear hB
    obtain ⟨HSb, HKb⟩ := HTl.out _ _ _ HX.out HBe.out hBl
    obtain ⟨-, b2, -⟩ := HF.out _ _ _ HX.out
    obtain ⟨t0, -⟩ := mb_cells b2
    obtain ⟨va, vc, hv, -⟩ := HSb.out
    subst hv
    have hBc : ((B.length : Nat) : Int) < 9223372036854775800 := by omega
    have hw8 : IntKind.i64.wrap ((B.length : Int) + 8) = (B.length : Int) + 8 := by rw [IntKind.wrap_i64]; omega
    have hu8 : IntKind.u64.wrap ((B.length : Int) + 8) = (B.length : Int) + 8 := by rw [IntKind.wrap_u64]; omega
    clear b2
    go_upto_region 30 with fail
    have HH0 := hid (Ext.refl (owns_two Z 1 (m.ty % 256) (Nat.le_refl _)))
    have hzb : Z.heap.size ≤ (Z.alloc (.cells #[.int .u8 1, .int .u8 (m.ty % 256)] 5)).heap.size := by simp
    generalize hZ1 : Z.alloc (.cells #[.int .u8 1, .int .u8 (m.ty % 256)] 5) = Z1 at HH0 HKb hzb
    generalize hH : Value.slice (some ⟨Z.heap.size, 0, none⟩) 2 2 = vh at HH0 HKb
    clear hZ1 hH t0
    have HPh : Hid (∀ y h ys n k, Ext Z.heap.size Z1 vh y h ys → ys.length ≤ 2147483648 → k ≤ 8 → Calls Tryz.prog 33 #[h, .int .u64 n, .int .i64 (k : Nat)] y fun e w' => ∃ v', e = .returned v' ∧ Ext Z.heap.size Z1 vh w' v' (ys ++ dg n k)) := fun y h ys n k hE hl hk => by
      refine (put7_any Z.heap.size k n h ys y hk hE.own hl (Nat.le_trans hzb hE.grown.size)).mono ?_
      rintro e w' ⟨v', rfl, h2⟩
      exact ⟨v', rfl, hE.trans h2⟩
    go_upto_region 31 with (go_at_call 33; refine (HPh.out _ _ _ _ 2 HH0.out (by simp) (by omega)).mono ?_; rintro e y1 ⟨h1, rfl, hE1⟩; obtain ⟨-, -, r1⟩ := HKb.out _ _ _ hE1; have HH1 := hid hE1; clear hE1)
    go_upto_region 32 with (go_at_call 33; refine (HPh.out _ _ _ _ 4 HH1.out (by simp [dg_len]) (by omega)).mono ?_; rintro e y2 ⟨h2, rfl, hE2⟩; obtain ⟨S2, W2, -⟩ := HKb.out _ _ _ hE2; have HH2 := hid hE2; clear hE2)
    have HW2 := hid W2
    clear W2
    go_wp2_with (at_builtin; refine app22 (.tmp 133) (.tmp 134) rfl rfl rfl rfl HH2.out.own S2.out (Nat.le_trans hzb HH2.out.grown.size) (by simp only [List.length_append, List.length_cons, List.length_nil, dg_len]; omega) ?_; intro v3 w3 hE3)
    have HH3 := hid (HH2.out.trans hE3)
    clear hE3
    go_ret
    have hfin := HH3.out.own
    rw [encMs_two m B HBe.out] at hfin
    exact ⟨(HKb.out _ _ _ HH3.out).2.1, Z.heap.size, v3, Nat.le_trans HSz.out (HF.out _ _ _ HX.out).1.size, rfl, hfin⟩
  by_cases h11 : m.ty = 11
  · have HBe : Hid (body m = dg m.po 2 ++ (dg m.hs.length 2 ++ m.hs.flatMap encHd)) := by
      show _ = _
      unfold body pts
      rw [if_neg (by omega), if_neg (by omega), if_neg (by omega), if_pos h11]
      simp [encF, encHs]
    have t4 : (m.ty == 4) = false := by simp [h11]
    have t5 : (m.ty == 5) = false := by simp [h11]
    have t6 : (m.ty == 6) = false := by simp [h11]
    have t7 : (m.ty == 7) = false := by simp [h11]
    have t11 : (m.ty == 11) = true := by simp [h11]
    obtain ⟨-, b0, s0⟩ := HF.out _ _ _ HE0.out
    obtain ⟨c0, c1, c2, c28, c29, c30, c31, c32, c33, c34, c35⟩ := mb_cells b0
    have HM0 := hid b0
    have HS0 := hid s0
    obtain ⟨w0, w1⟩ := HFit.out.po
    have hcv : IntKind.u64.wrap m.po = m.po := by rw [IntKind.wrap_u64]; omega
    have hcf : IntKind.u64.wrap (m.hs.length : Int) = (m.hs.length : Int) := by rw [IntKind.wrap_u64]; omega
    obtain ⟨ha, hc, hhs, -⟩ := s0.hs.form
    clear b0 s0 h11
    go_enter Tryz.func16, Tryz.ntmps16
    go_upto_region 1 with fail
    rw [HWe.out, ← HG.out]
    go_upto_region 17 with (go_at_call 33; refine (HPn.out _ _ _ _ 2 HE0.out (by simp only [List.length_nil]; omega) (by omega)).mono ?_; rintro e w1 ⟨v1, rfl, hE1⟩; have HE1 := hid hE1; obtain ⟨-, b1, s1⟩ := HF.out _ _ _ hE1; obtain ⟨-, -, d2_1, d28_1, d29_1, d30_1, d31_1, d32_1, d33_1, d34_1, d35_1⟩ := mb_cells b1; have HM1 := hid b1; have HS1 := hid s1; clear hE1 b1 s1; rw [hhs] at d34_1)
    go_upto_region 19 with (go_at_call 33; refine (HPn.out _ _ _ _ 2 HE1.out (by simp only [List.length_append, List.length_nil, dg_len]; omega) (by omega)).mono ?_; rintro e w2 ⟨v2, rfl, hE2⟩; have HE2 := hid hE2; obtain ⟨-, b2, s2⟩ := HF.out _ _ _ hE2; obtain ⟨-, -, d2_2, d28_2, d29_2, d30_2, d31_2, d32_2, d33_2, d34_2, d35_2⟩ := mb_cells b2; have HM2 := hid b2; have HS2 := hid s2; clear hE2 b2 s2; rw [hhs] at d34_2)
    have HfB : Hid (∀ p, p ≤ m.hs.length → ((m.hs.take p).flatMap encHd).length ≤ 98470 * p) := by
      show ∀ _, _
      intro p hp
      have := flat_le (enc := encHd) (c := 98470) (m.hs.take p) (fun x hx => by
        have h1 := encRl_le x.r
        have h2 := hl6 x (List.mem_of_mem_take hx)
        simp only [encHd, List.length_append, dg_len]; omega)
      rw [List.length_take, Nat.min_eq_left hp] at this
      exact this
    go_loopw [3, 4] (fun b i wr => ∃ p : Nat, p ≤ m.hs.length ∧ i = .int .i64 p ∧ Ext W.heap.size W nilS wr b (dg m.po 2 ++ (dg m.hs.length 2 ++ (m.hs.take p).flatMap encHd))) (fun _ i _ => m.hs.length - (intOf i).toNat)
    case atStart => exact ⟨0, by omega, rfl, by simpa using HE2.out⟩
    case round =>
      obtain ⟨p, hp, rfl, hE⟩ := hrel
      generalize wr = wz at *
      have HE3 := hid hE
      have hfb := HfB.out p hp
      clear HE1 HE2 HS1 HS2 HM1 HM2 d2_1 d28_1 d29_1 d30_1 d31_1 d32_1 d33_1 d34_1 d35_1 d2_2 d28_2 d29_2 d30_2 d31_2 d32_2 d33_2 d34_2 d35_2
      by_cases hlt : p < m.hs.length
      · have e1 : decide ((p : Int) < (m.hs.length : Int)) = true := decide_eq_true (by omega)
        have hw1 : IntKind.i64.wrap ((p : Int) + 1) = (p : Int) + 1 := by rw [IntKind.wrap_i64]; omega
        have hH := HS0.out.hs
        rw [hhs] at hH
        obtain ⟨b, o, hao, hTb, u, hcl, hCp, hFt⟩ := hH.cell7 p hlt
        have hbb : b < W.heap.size := by
          have := hcl 0 (by omega)
          rw [hdc_rl _ _ 0 (by omega), rlc_rk] at this
          exact cell_lt this
        have hq6 := hl6 m.hs[p] (List.getElem_mem hlt)
        have HSt : Hid ((m.hs.take (p + 1)).flatMap encHd = (m.hs.take p).flatMap encHd ++ encHd m.hs[p]) := by
          show _ = _
          rw [List.take_succ_eq_append_getElem hlt, List.flatMap_append]; simp
        generalize m.hs[p] = h at hcl hCp hFt hq6 HSt
        subst hao
        have HX : Hid (∀ z vz zs, Ext W.heap.size W nilS z vz zs → z.cell? ⟨g, 34, none⟩ = some (.slice (some ⟨b, o, none⟩) m.hs.length hc) ∧ z.cell? ⟨b, o + p * 27 + 25, none⟩ = some (.int .u64 h.pk) ∧ z.cell? ⟨b, o + p * 27 + 26, none⟩ = some (.int .u64 h.bt) ∧ Hid (z.rangeAt b (o + p * 27) (rlc h.r u).toList) ∧ Hid (Cps T z u h.r.cp)) := by
          show ∀ _, _
          intro z vz zs hz
          obtain ⟨q1, q2, -⟩ := HF.out z vz zs hz
          obtain ⟨-, -, -, -, -, -, -, -, -, k34, -⟩ := mb_cells q2
          refine ⟨by rw [k34, hhs], ?_, ?_, range_of fun i hi => ?_, Cps.carry (fun k hk ht => ⟨ht, q1.block k hk⟩) hCp⟩
          · rw [q1.cell (p := ⟨b, o + p * 27 + 25, none⟩) hbb]; exact (hcl 25 (by omega)).trans (hdc_pk h u)
          · rw [q1.cell (p := ⟨b, o + p * 27 + 26, none⟩) hbb]; exact (hcl 26 (by omega)).trans (hdc_bt h u)
          · rw [rlc_size] at hi
            rw [q1.cell (p := ⟨b, o + p * 27 + i, none⟩) hbb]; exact (hcl i (by omega)).trans (hdc_rl h u i hi)
        obtain ⟨k34, k25, k26, KR, KC⟩ := HX.out _ _ _ hE
        have HFt := hid hFt.1
        have hEl : (encRl h.r).length ≤ 98470 := by have := encRl_le h.r; omega
        have hyl : (dg m.po 2 ++ (dg m.hs.length 2 ++ (m.hs.take p).flatMap encHd)).length ≤ 900000000 := by simp only [List.length_append, dg_len]; omega
        generalize hY : dg m.po 2 ++ (dg m.hs.length 2 ++ (m.hs.take p).flatMap encHd) = Y at HE3 hyl
        have HY := hid hY
        clear hE hcl hCp hFt hH hY hfb
        go_upto_region 22 with (first | (refine ldMid 31 (.tmp 78) rfl rfl _ _ rfl (rlc h.r u) _ Tryz.underlying31 rfl (sizeRl h.r u) KR.out ?_) | (go_at_call 35; refine (HRu.out _ _ _ _ _ HE3.out KC.out HFt.out (by omega)).mono ?_; rintro e w4 ⟨v4, rfl, hE4⟩; obtain ⟨j34, j25, j26, JR, JC⟩ := HX.out _ _ _ hE4; have HE4 := hid hE4; clear hE4))
        go_upto_region 23 with (go_at_call 33; refine (HPn.out _ _ _ _ 8 HE4.out (by simp only [List.length_append]; omega) (by omega)).mono ?_; rintro e w5 ⟨v5, rfl, hE5⟩; obtain ⟨l34, l25, l26, LR, LC⟩ := HX.out _ _ _ hE5; have HE5 := hid hE5; clear hE5)
        go_wp2_with (go_at_call 33; refine (HPn.out _ _ _ _ 8 HE5.out (by simp only [List.length_append, dg_len]; omega) (by omega)).mono ?_; rintro e w6 ⟨v6, rfl, hE6⟩; have HE6 := hid hE6; clear hE6)
        go_roundw
        case rel =>
          refine ⟨p + 1, by omega, by go_num, ?_⟩
          have := HE6.out
          rw [← HY.out] at this
          rw [HSt.out]
          simpa only [encHd, List.append_assoc] using this
        case measure => simp [intOf]; omega
      · obtain rfl : p = m.hs.length := by omega
        have e1 : decide ((m.hs.length : Int) < (m.hs.length : Int)) = false := by simp
        rw [List.take_length] at HE3 hfb
        obtain ⟨-, k0, -⟩ := HF.out _ _ _ hE
        obtain ⟨-, -, -, -, -, -, -, -, -, k34, -⟩ := mb_cells k0
        rw [hhs] at k34
        clear hE k0
        go_upto_region 29 with fail
        obtain ⟨B, hB, HX⟩ : ∃ B, B = body m ∧ Hid (Ext W.heap.size W nilS wz u3 B) := ⟨_, rfl, by show Ext _ _ _ _ _ _; rw [HBe.out]; simpa only [List.nil_append, List.append_assoc, dg1_cv, List.cons_append] using HE3.out⟩
        have hBl : B.length ≤ 2147480000 := by
          rw [hB, HBe.out]
          simp only [List.length_append, dg_len]
          omega
        have HBe := hid hB
        generalize wz = Z at *
        generalize u3 = vb at *
        clear hB
        obtain ⟨HSb, HKb⟩ := HTl.out _ _ _ HX.out HBe.out hBl
        obtain ⟨-, b2, -⟩ := HF.out _ _ _ HX.out
        obtain ⟨t0, -⟩ := mb_cells b2
        obtain ⟨va, vc, hv, -⟩ := HSb.out
        subst hv
        have hBc : ((B.length : Nat) : Int) < 9223372036854775800 := by omega
        have hw8 : IntKind.i64.wrap ((B.length : Int) + 8) = (B.length : Int) + 8 := by rw [IntKind.wrap_i64]; omega
        have hu8 : IntKind.u64.wrap ((B.length : Int) + 8) = (B.length : Int) + 8 := by rw [IntKind.wrap_u64]; omega
        clear b2
        go_upto_region 30 with fail
        have HH0 := hid (Ext.refl (owns_two Z 1 (m.ty % 256) (Nat.le_refl _)))
        have hzb : Z.heap.size ≤ (Z.alloc (.cells #[.int .u8 1, .int .u8 (m.ty % 256)] 5)).heap.size := by simp
        generalize hZ1 : Z.alloc (.cells #[.int .u8 1, .int .u8 (m.ty % 256)] 5) = Z1 at HH0 HKb hzb
        generalize hH : Value.slice (some ⟨Z.heap.size, 0, none⟩) 2 2 = vh at HH0 HKb
        clear hZ1 hH t0
        have HPh : Hid (∀ y h ys n k, Ext Z.heap.size Z1 vh y h ys → ys.length ≤ 2147483648 → k ≤ 8 → Calls Tryz.prog 33 #[h, .int .u64 n, .int .i64 (k : Nat)] y fun e w' => ∃ v', e = .returned v' ∧ Ext Z.heap.size Z1 vh w' v' (ys ++ dg n k)) := fun y h ys n k hE hl hk => by
          refine (put7_any Z.heap.size k n h ys y hk hE.own hl (Nat.le_trans hzb hE.grown.size)).mono ?_
          rintro e w' ⟨v', rfl, h2⟩
          exact ⟨v', rfl, hE.trans h2⟩
        go_upto_region 31 with (go_at_call 33; refine (HPh.out _ _ _ _ 2 HH0.out (by simp) (by omega)).mono ?_; rintro e y1 ⟨h1, rfl, hE1⟩; obtain ⟨-, -, r1⟩ := HKb.out _ _ _ hE1; have HH1 := hid hE1; clear hE1)
        go_upto_region 32 with (go_at_call 33; refine (HPh.out _ _ _ _ 4 HH1.out (by simp [dg_len]) (by omega)).mono ?_; rintro e y2 ⟨h2, rfl, hE2⟩; obtain ⟨S2, W2, -⟩ := HKb.out _ _ _ hE2; have HH2 := hid hE2; clear hE2)
        have HW2 := hid W2
        clear W2
        go_wp2_with (at_builtin; refine app22 (.tmp 133) (.tmp 134) rfl rfl rfl rfl HH2.out.own S2.out (Nat.le_trans hzb HH2.out.grown.size) (by simp only [List.length_append, List.length_cons, List.length_nil, dg_len]; omega) ?_; intro v3 w3 hE3)
        have HH3 := hid (HH2.out.trans hE3)
        clear hE3
        go_ret
        have hfin := HH3.out.own
        rw [encMs_two m B HBe.out] at hfin
        exact ⟨(HKb.out _ _ _ HH3.out).2.1, Z.heap.size, v3, Nat.le_trans HSz.out (HF.out _ _ _ HX.out).1.size, rfl, hfin⟩

  have t4 : (m.ty == 4) = false := beq_eq_false_iff_ne.2 (by omega)
  have t5 : (m.ty == 5) = false := beq_eq_false_iff_ne.2 (by omega)
  have t6 : (m.ty == 6) = false := beq_eq_false_iff_ne.2 (by omega)
  have t7 : (m.ty == 7) = false := beq_eq_false_iff_ne.2 (by omega)
  have t11 : (m.ty == 11) = false := beq_eq_false_iff_ne.2 (by omega)
  have t12 : (m.ty == 12) = false := beq_eq_false_iff_ne.2 (by omega)
  have t13 : (m.ty == 13) = false := beq_eq_false_iff_ne.2 (by omega)
  have HBe : Hid (([] : List Int) = body m) := by
    show _ = _
    unfold body pts
    rw [if_neg h4, if_neg h5, if_neg (by omega), if_neg h11, if_neg h12, if_neg h13]; rfl
  go_enter Tryz.func16, Tryz.ntmps16
  go_upto_region 1 with fail
  rw [HWe.out, ← HG.out]
  go_upto_region 29 with fail
  obtain ⟨B, hB⟩ : ∃ B : List Int, B = [] := ⟨_, rfl⟩
  rw [← hB] at HBe
  obtain ⟨vb, hvb, HX⟩ : ∃ vb, Value.slice none 0 0 = vb ∧ Hid (Ext W.heap.size W nilS W vb B) := ⟨nilS, rfl, by rw [hB]; exact HE0.out⟩
  rw [hvb]
  have hBl : B.length ≤ 2147480000 := by rw [hB]; simp
  clear hB hvb h4 h5 h6 h7 h11 h12 h13
  obtain ⟨HSb, HKb⟩ := HTl.out _ _ _ HX.out HBe.out hBl
  obtain ⟨-, b2, -⟩ := HF.out _ _ _ HX.out
  obtain ⟨t0, -⟩ := mb_cells b2
  obtain ⟨va, vc, hv, -⟩ := HSb.out
  subst hv
  have hBc : ((B.length : Nat) : Int) < 9223372036854775800 := by omega
  have hw8 : IntKind.i64.wrap ((B.length : Int) + 8) = (B.length : Int) + 8 := by rw [IntKind.wrap_i64]; omega
  have hu8 : IntKind.u64.wrap ((B.length : Int) + 8) = (B.length : Int) + 8 := by rw [IntKind.wrap_u64]; omega
  clear b2
  go_upto_region 30 with fail
  have HH0 := hid (Ext.refl (owns_two W 1 (m.ty % 256) (Nat.le_refl _)))
  have hzb : W.heap.size ≤ (W.alloc (.cells #[.int .u8 1, .int .u8 (m.ty % 256)] 5)).heap.size := by simp
  generalize hZ1 : W.alloc (.cells #[.int .u8 1, .int .u8 (m.ty % 256)] 5) = Z1 at HH0 HKb hzb
  generalize hH : Value.slice (some ⟨W.heap.size, 0, none⟩) 2 2 = vh at HH0 HKb
  clear hZ1 hH t0
  have HPh : Hid (∀ y h ys n k, Ext W.heap.size Z1 vh y h ys → ys.length ≤ 2147483648 → k ≤ 8 → Calls Tryz.prog 33 #[h, .int .u64 n, .int .i64 (k : Nat)] y fun e w' => ∃ v', e = .returned v' ∧ Ext W.heap.size Z1 vh w' v' (ys ++ dg n k)) := fun y h ys n k hE hl hk => by
    refine (put7_any W.heap.size k n h ys y hk hE.own hl (Nat.le_trans hzb hE.grown.size)).mono ?_
    rintro e w' ⟨v', rfl, h2⟩
    exact ⟨v', rfl, hE.trans h2⟩
  go_upto_region 31 with (go_at_call 33; refine (HPh.out _ _ _ _ 2 HH0.out (by simp) (by omega)).mono ?_; rintro e y1 ⟨h1, rfl, hE1⟩; obtain ⟨-, -, r1⟩ := HKb.out _ _ _ hE1; have HH1 := hid hE1; clear hE1)
  go_upto_region 32 with (go_at_call 33; refine (HPh.out _ _ _ _ 4 HH1.out (by simp [dg_len]) (by omega)).mono ?_; rintro e y2 ⟨h2, rfl, hE2⟩; obtain ⟨S2, W2, -⟩ := HKb.out _ _ _ hE2; have HH2 := hid hE2; clear hE2)
  have HW2 := hid W2
  clear W2
  go_wp2_with (at_builtin; refine app22 (.tmp 133) (.tmp 134) rfl rfl rfl rfl HH2.out.own S2.out (Nat.le_trans hzb HH2.out.grown.size) (by simp only [List.length_append, List.length_cons, List.length_nil, dg_len]; omega) ?_; intro v3 w3 hE3)
  have HH3 := hid (HH2.out.trans hE3)
  clear hE3
  go_ret
  have hfin := HH3.out.own
  rw [encMs_two m B HBe.out] at hfin
  exact ⟨(HKb.out _ _ _ HH3.out).2.1, W.heap.size, v3, Nat.le_trans HSz.out (HF.out _ _ _ HX.out).1.size, rfl, hfin⟩
end Go.Proofs.YtllbbbfkdgjffaaGreatDoor
