/-
  Proved here: the document's great (of package tollbridgeref07) says whether a rule has more than 8192 copies and actions. Condition: the list's own blocks are old ones.
-/
/-
  Proved here: the document's rule (of package tollbridgeref07) appends a rule's bytes. Conditions: the list's blocks are old ones; fewer than 2 to 31 bytes.
-/
/-
  Proved here: the document's Check returns 0 or 20 as 'chk' says, for every match; no old memory turns. No condition.
-/
/-
  Proved here: the document's fair (of package tollbridgeref07) says whether a rule is one. No condition.
-/
import Derived.Test.YtllbbbfkdgjffaaGreatDoorW7
namespace Go.Proofs.YtllbbbfkdgjffaaGreatDoor
open Go.RowKit

theorem Lst.cell7 {α : Type} {T : Nat → Prop} {k : Nat} {R : World → (Nat → Option Value) → α → Prop} {w : World} {ao : Option Addr} {n cap : Nat} {l : List α} (h : Lst T k R w (.slice ao n cap) l) (j : Nat) (hj : j < l.length) : ∃ b o, ao = some ⟨b, o, none⟩ ∧ T b ∧ R w (fun i => w.cell? ⟨b, o + j * k + i, none⟩) l[j] := by
  obtain ⟨ao', cap', he, -, -, -, h5⟩ := h
  obtain ⟨b, o, hT, rfl, hc⟩ := h5 (fun e => by rw [e] at hj; simp at hj)
  simp only [Value.slice.injEq] at he
  obtain ⟨rfl, -, -⟩ := he
  exact ⟨b, o, rfl, hT, hc j hj⟩
/-- Copies and their actions, counted. -/
def cpn (l : List (List Ac)) (j : Nat) : Nat := l.length + ((l.take j).map List.length).sum
theorem cpn_step (l : List (List Ac)) (j : Nat) (h : j < l.length) : cpn l (j + 1) = cpn l j + l[j].length := by
  unfold cpn
  rw [List.take_succ_eq_append_getElem h, List.map_append, List.sum_append]
  simp; omega
theorem cpn_le (l : List (List Ac)) (j k : Nat) : cpn l j ≤ cpn l (j + k) := by
  induction k with
  | zero => exact Nat.le_refl _
  | succ k ih =>
    by_cases h : j + k < l.length
    · have := cpn_step l (j + k) h
      rw [← Nat.add_assoc]; omega
    · unfold cpn at *
      rw [List.take_of_length_le (i := j + k) (by omega)] at ih
      rw [List.take_of_length_le (i := j + (k + 1)) (by omega)]
      exact ih
set_option maxHeartbeats 1600000 in
set_option maxRecDepth 100000 in
theorem rgreat_any {T : Nat → Prop} {w : World} (r : Rl) (u : Value) (hu : Cps T w u r.cp) :
    Calls Tryz.prog 18 #[.agg (rlc r u)] w fun e w' => e = .returned (.bool (decide (8192 < cpn r.cp r.cp.length))) ∧ Below w.heap.size w w' := by
  have hb1 : Below w.heap.size w (w.alloc (.cells (rlc r u) 31)) := (Below.refl _ _).alloc (Nat.le_refl _) _
  have hg1 : (w.alloc (.cells (rlc r u) 31)).heap[w.heap.size]? = some (.cells (rlc r u) 31 (0, 0)) := heap_alloc_new _ _
  have hu1 : Cps T (w.alloc (.cells (rlc r u) 31)) u r.cp := Cps.carry (fun k hk h => ⟨h, heap_alloc_old _ _ hk⟩) hu
  obtain ⟨ua, uc, hue, -⟩ := hu.form
  have hlen := hu.len
  obtain ⟨W, HWe⟩ : ∃ W, Hid (w.alloc (.cells (rlc r u) 31) = W) := ⟨_, rfl⟩
  rw [HWe.out] at hb1 hg1 hu1
  have c23 := (rl_cells (t := 31) hg1).2.1
  subst hue
  have HB := hid hb1
  have HU := hid hu1
  obtain ⟨g, hg⟩ : ∃ g, g = w.heap.size := ⟨_, rfl⟩
  rw [← hg] at c23
  have HG := hid hg
  obtain ⟨L, hL⟩ : ∃ L, L = r.cp := ⟨_, rfl⟩
  rw [← hL] at HU c23 hlen HWe
  rw [← hL]
  clear hb1 hg1 hu1 hu hg hL
  go_enter Tryz.func18, Tryz.ntmps18
  go_upto_region 1 with fail
  rw [HWe.out, ← HG.out]
  go_upto_region 3 with fail
  go_loopw [3, 4] (fun n i wr => ∃ j : Nat, j ≤ L.length ∧ i = .int .i64 j ∧ n = .int .i64 (cpn L j : Nat) ∧ cpn L j ≤ 281474976710656 + 8192 ∧ wr = W) (fun _ i _ => L.length - (intOf i).toNat)
  case atStart => exact ⟨0, by omega, rfl, by simp [cpn], by simp [cpn]; omega, rfl⟩
  case round =>
    obtain ⟨j, hj, rfl, rfl, hbd, hwr⟩ := hrel
    generalize wr = wx at *
    subst hwr
    by_cases hlt : j < L.length
    · by_cases h8 : cpn L j ≤ 8192
      · obtain ⟨b, o, rfl, hTb, x, f0, hx⟩ := HU.out.cell7 j hlt
        simp only [Nat.add_zero, Nat.mul_one] at f0
        have HS := hid (cpn_step L j hlt)
        have hxl := hx.len
        obtain ⟨xa, xc, rfl, -⟩ := hx.form
        generalize L[j] = y at *
        obtain ⟨n, hn⟩ : ∃ n, n = cpn L j := ⟨_, rfl⟩
        rw [← hn] at HS h8
        rw [← hn]
        have d1 : decide ((j : Int) < (L.length : Int)) = true := decide_eq_true (by omega)
        have d2 : decide ((n : Int) ≤ 8192) = true := decide_eq_true (by omega)
        have hw1 : IntKind.i64.wrap ((j : Int) + 1) = (j : Int) + 1 := by rw [IntKind.wrap_i64]; omega
        have hw2 : IntKind.i64.wrap ((n : Int) + (y.length : Int)) = ((n + y.length : Nat) : Int) := by rw [IntKind.wrap_i64]; omega
        clear hbd hn hx
        go_wp2
        go_roundw
        case rel => exact ⟨j + 1, by omega, by go_num, by rw [HS.out, Int.natCast_add], by rw [HS.out]; omega, by trivial⟩
        case measure => simp [intOf]; omega
      · have hge := cpn_le L j (L.length - j)
        rw [show j + (L.length - j) = L.length by omega] at hge
        have hr : decide (8192 < cpn L L.length) = true := decide_eq_true (by omega)
        have HR := hid hr
        obtain ⟨n, hn⟩ : ∃ n, n = cpn L j := ⟨_, rfl⟩
        rw [← hn] at h8
        rw [← hn]
        have d1 : decide ((j : Int) < (L.length : Int)) = true := decide_eq_true (by omega)
        have d2 : decide ((n : Int) ≤ 8192) = false := decide_eq_false (by omega)
        have d3 : decide ((8192 : Int) < (n : Int)) = true := decide_eq_true (by omega)
        clear hge hr hn
        go_wp2
        go_ret
        exact ⟨by rw [HR.out]; simp, HB.out⟩
    · obtain rfl : j = L.length := by omega
      obtain ⟨n, hn⟩ : ∃ n, n = cpn L L.length := ⟨_, rfl⟩
      rw [← hn]
      have d1 : decide ((L.length : Int) < (L.length : Int)) = false := by simp
      have d3 : decide ((8192 : Int) < (n : Int)) = decide (8192 < n) := by simp; omega
      have HN := hid hn
      clear hn
      go_wp2
      go_ret
      exact ⟨by rw [← HN.out]; simp, HB.out⟩
end Go.Proofs.YtllbbbfkdgjffaaGreatDoor
namespace Go.Proofs.YtllbbbfkdgjffaaGreatDoor
open Go.RowKit

theorem sl_two (w : World) (x y : Int) (h0 : 0 ≤ x) (h1 : x < 256) (h2 : 0 ≤ y) (h3 : y < 256) : Sl (w.heap.size + 1) (w.alloc (.cells #[.int .u8 x, .int .u8 y] 5)) (.slice (some ⟨w.heap.size, 0, none⟩) 2 2) [x, y] :=
  ⟨_, 2, rfl, by simp, by simp, IsB.cons h0 h1 (IsB.cons h2 h3 IsB.nil), (fun h => by cases h), fun _ => ⟨w.heap.size, 0, by omega, rfl, fun j hj => by
    have : j = 0 ∨ j = 1 := by simp at hj; omega
    rcases this with rfl | rfl <;> simp⟩⟩
theorem dg4_cv (n : Int) : dg (wrap32 n % 4294967296) 4 = dg n 4 := by
  have e : wrap32 n % 4294967296 = n % 4294967296 := by
    unfold wrap32; omega
  rw [e]
  simp only [dg, Int.reducePow, Nat.reduceMul]
  refine List.cons_eq_cons.2 ⟨by omega, List.cons_eq_cons.2 ⟨by omega, List.cons_eq_cons.2 ⟨by omega, List.cons_eq_cons.2 ⟨by omega, rfl⟩⟩⟩⟩
theorem dg1_cv (n : Int) : dg n 1 = [n % 256] := by simp [dg]
theorem encCps_len (l : List (List Ac)) : (l.flatMap encCp).length = 2 * l.length + 10 * (l.map List.length).sum := by
  have hA : ∀ x : List Ac, (x.flatMap encAc).length = 10 * x.length := fun x => by
    induction x with
    | nil => rfl
    | cons a x ih =>
      rw [List.flatMap_cons, List.length_append, ih]
      simp only [encAc, List.length_append, dg_len, List.length_cons]; omega
  induction l with
  | nil => rfl
  | cons a l ih =>
    rw [List.flatMap_cons, List.length_append, ih]
    simp only [encCp, List.length_append, dg_len, hA, List.length_cons, List.map_cons, List.sum_cons]; omega
theorem encAcs_len (x : List Ac) : (x.flatMap encAc).length = 10 * x.length := by
  induction x with
  | nil => rfl
  | cons a x ih =>
    rw [List.flatMap_cons, List.length_append, ih]
    simp only [encAc, List.length_append, dg_len, List.length_cons]; omega
theorem encMt_len (m : Nat → Int) : (encMt m).length ≤ 134 := by
  have := fs_len m 11
  simp only [encMt, List.length_append, dg_len]; omega
set_option maxHeartbeats 3200000 in
set_option maxRecDepth 100000 in
theorem rrule_any {T : Nat → Prop} (base : Nat) (v : Value) (xs : List Int) (r : Rl) (u : Value) (w : World) (hown : Owns base w v xs) (hu : Cps T w u r.cp) (hf : r.Fit) (hT : ∀ b, T b → b < base) (hlen : xs.length + 12 * cpn r.cp r.cp.length ≤ 2147470000) (hbase : base ≤ w.heap.size) :
    Calls Tryz.prog 35 #[v, .agg (rlc r u)] w fun e w' => ∃ v', e = .returned v' ∧ Ext base w v w' v' (xs ++ encRl r) := by
  obtain ⟨W, hW⟩ : ∃ W, W = w.alloc (.cells (rlc r u) 31) := ⟨_, rfl⟩
  obtain ⟨g, hg⟩ : ∃ g, g = w.heap.size := ⟨_, rfl⟩
  have hg1 : W.heap[g]? = some (.cells (rlc r u) 31 (0, 0)) := by rw [hW, hg]; exact heap_alloc_new _ _
  have hO0 : Owns base W v xs := by rw [hW]; exact hown.alloc _
  have hb0 : base ≤ W.heap.size := by rw [hW]; simp; omega
  have hu1 : Cps T W u r.cp := by rw [hW]; exact Cps.carry (fun k hk h => ⟨h, heap_alloc_old _ _ hk⟩) hu
  have HFin : Hid (∀ z vz ys, Ext base W v z vz ys → Ext base w v z vz ys) := fun z vz ys h => by
    rw [hW] at h
    exact h.allocFirst hown
  have HC : Hid (∀ z vz ys, Ext base W v z vz ys → z.cell? ⟨g, 0, none⟩ = some (.int .i64 r.rk) ∧ z.cell? ⟨g, 23, none⟩ = some u ∧ z.cell? ⟨g, 24, none⟩ = some (.int .u64 r.ck) ∧ Hid (z.rangeAt g 1 (row 22 r.mt).toList)) := fun z vz ys h => rl_cells (t := 31) (h.block hO0 hg1 (by decide))
  have HL : Hid (∀ z vz ys, Ext base W v z vz ys → Cps T z u r.cp) := fun z vz ys h => Cps.carry (fun k _ hk => ⟨hk, (h.below hO0 hb0).block k (hT k hk)⟩) hu1
  have HB : Hid (∀ z vz ys, Ext base W v z vz ys → Below base W z) := fun z vz ys h => h.below hO0 hb0
  have HT := hid hT
  have HBs := hid hb0
  have HPn : Hid (∀ z vz ys n k, Ext base W v z vz ys → ys.length ≤ 2147483648 → k ≤ 8 → Calls Tryz.prog 33 #[vz, .int .u64 n, .int .i64 (k : Nat)] z fun e w' => ∃ v', e = .returned v' ∧ Ext base W v w' v' (ys ++ dg n k)) := fun z vz ys n k hE hl hk => by
    refine (put7_any base k n vz ys z hk hE.own hl (Nat.le_trans hb0 hE.grown.size)).mono ?_
    rintro e w' ⟨v', rfl, h2⟩
    exact ⟨v', rfl, hE.trans h2⟩
  have HMt : Hid (∀ z vz ys, Ext base W v z vz ys → ys.length ≤ 2147480000 → Calls Tryz.prog 47 #[vz, mv r.mt] z fun e w' => ∃ v', e = .returned v' ∧ Ext base W v w' v' (ys ++ encMt r.mt)) := fun z vz ys hE hl => by
    refine (rmatch_any base vz ys r.mt z hE.own hl (Nat.le_trans hb0 hE.grown.size)).mono ?_
    rintro e w' ⟨v', rfl, h2⟩
    exact ⟨v', rfl, hE.trans h2⟩
  have HE0 := hid (Ext.refl hO0)
  obtain ⟨q0, q1, q2, Q3⟩ := HC.out W v xs HE0.out
  obtain ⟨ua, uc, hue, -⟩ := hu.form
  have hlL := hu.len
  have hfr := hf.1
  have hck := hf.2.2.2.2
  subst hue
  have HW := hid hW
  have HG := hid hg
  clear hown hu hf hT hbase hg1 hO0 hb0 hu1 hW hg
  obtain ⟨L, hL⟩ : ∃ L, L = r.cp := ⟨_, rfl⟩
  rw [← hL] at HC HL hlen q1 hlL HW
  rw [← hL]
  have hml := encMt_len r.mt
  have hcl : (L.length : Int) < 9223372036854775808 := by omega
  have hcv : IntKind.u64.wrap (L.length : Int) = (L.length : Int) := by rw [IntKind.wrap_u64]; omega
  have hc0 : L.length ≤ cpn L L.length := by unfold cpn; omega
  have HLe := hid hL
  clear hL
  go_enter Tryz.func35, Tryz.ntmps35
  go_upto_region 1 with fail
  rw [← HW.out, ← HG.out]
  clear HW HG
  go_upto_region 2 with (go_at_call 33; refine (HPn.out _ _ _ _ 4 HE0.out (by omega) (by omega)).mono ?_; rintro e w1 ⟨v1, rfl, hE1⟩; obtain ⟨s0, s1, s2, S3⟩ := HC.out _ _ _ hE1; have HE1 := hid hE1; clear hE1)
  go_upto_region 3 with (go_at_call 33; refine (HPn.out _ _ _ _ 8 HE1.out (by simp only [List.length_append, dg_len]; omega) (by omega)).mono ?_; rintro e w2 ⟨v2, rfl, hE2⟩; obtain ⟨t0, t1, t2, T3⟩ := HC.out _ _ _ hE2; have HE2 := hid hE2; clear hE2)
  go_upto_region 4 with (first
    | (refine ldMid 28 (.tmp 20) rfl rfl _ 1 rfl (row 22 r.mt) _ Tryz.underlying28 rfl (sizeMt r.mt) T3.out ?_)
    | (go_at_call 47; refine (HMt.out _ _ _ HE2.out (by simp only [List.length_append, dg_len]; omega)).mono ?_; rintro e w3 ⟨v3, rfl, hE3⟩; obtain ⟨p0, p1, p2, P3⟩ := HC.out _ _ _ hE3; have HE3 := hid hE3; clear hE3))
  go_upto_region 6 with (go_at_call 33; refine (HPn.out _ _ _ _ 2 HE3.out (by simp only [List.length_append, dg_len]; omega) (by omega)).mono ?_; rintro e w4 ⟨v4, rfl, hE4⟩; have HE4 := hid hE4; clear hE4)
  obtain ⟨ys, HY, hyl, HYe⟩ : ∃ ys, Hid (Ext base W v w4 v4 ys) ∧ ys.length ≤ xs.length + 148 ∧ Hid (ys = xs ++ (dg r.rk 4 ++ (dg r.ck 8 ++ (encMt r.mt ++ dg L.length 2)))) := by
    refine ⟨_, HE4, ?_, ?_⟩
    · simp only [List.length_append, dg_len]; omega
    · show _ = _
      simp only [List.append_assoc, dg4_cv]
  clear HE1 HE2 HE3 HE4 s0 s1 s2 S3 t0 t1 t2 T3 p0 p1 p2 P3 q0 q1 q2 Q3 HMt
  have HU := hid (HL.out W v xs HE0.out)
  clear HL
  go_loopw [0, 5] (fun b i wr => ∃ p : Nat, p ≤ L.length ∧ i = .int .i64 p ∧ Ext base W v wr b (ys ++ (L.take p).flatMap encCp)) (fun _ i _ => L.length - (intOf i).toNat)
  case atStart => exact ⟨0, by omega, rfl, by simpa using HY.out⟩
  case round =>
    obtain ⟨p, hp, rfl, hE⟩ := hrel
    generalize wr = wx at *
    have HE := hid hE
    obtain ⟨-, p1, -, -⟩ := HC.out _ _ _ hE
    clear hE
    by_cases hlt : p < L.length
    · have d1 : decide ((p : Int) < (L.length : Int)) = true := decide_eq_true (by omega)
      have hw1 : IntKind.i64.wrap ((p : Int) + 1) = (p : Int) + 1 := by rw [IntKind.wrap_i64]; omega
      obtain ⟨b, o, hao, hTb, x, f0, hx⟩ := HU.out.cell7 p hlt
      subst hao
      simp only [Nat.add_zero, Nat.mul_one] at f0
      have hbb := HT.out b hTb
      have HS : Hid ((L.take (p + 1)).flatMap encCp = (L.take p).flatMap encCp ++ encCp L[p]) := by
        show _ = _
        rw [List.take_succ_eq_append_getElem hlt, List.flatMap_append]; simp
      have hbd : ((L.take p).flatMap encCp).length + 2 + 10 * L[p].length ≤ 12 * cpn L L.length := by
        have h1 := cpn_step L p hlt
        have h2 := cpn_le L (p + 1) (L.length - (p + 1))
        rw [show p + 1 + (L.length - (p + 1)) = L.length by omega] at h2
        rw [encCps_len]
        have h3 : (L.take p).length = p := by simp; omega
        unfold cpn at h1 h2 ⊢
        omega
      generalize L[p] = y at hx HS hbd
      obtain ⟨xa, xc, rfl, -⟩ := hx.form
      have hxl := hx.len
      have HX : Hid (∀ z vz zs, Ext base W v z vz zs → z.cell? ⟨g, 23, none⟩ = some (.slice (some ⟨b, o, none⟩) L.length uc) ∧ z.cell? ⟨b, o + p, none⟩ = some (.slice xa y.length xc) ∧ Acs T z (.slice xa y.length xc) y) := fun z vz zs h => ⟨(HC.out z vz zs h).2.1, by rw [(HB.out z vz zs h).cell (p := ⟨b, o + p, none⟩) hbb]; exact f0, Acs.carry (fun k _ hk => ⟨hk, (HB.out z vz zs h).block k (HT.out k hk)⟩) hx⟩
      have f1 := (HX.out _ _ _ HE.out).2.1
      have hyc : IntKind.u64.wrap (y.length : Int) = (y.length : Int) := by rw [IntKind.wrap_u64]; omega
      have hys : ((ys ++ (L.take p).flatMap encCp)).length + 2 + 10 * y.length ≤ 2147480000 := by simp only [List.length_append]; omega
      generalize hZ : ys ++ (L.take p).flatMap encCp = Z at HE hys
      have HZ := hid hZ
      clear f0 hx hbd hZ
      go_upto_region 10 with (go_at_call 33; refine (HPn.out _ _ _ _ 2 HE.out (by omega) (by omega)).mono ?_; rintro e w5 ⟨v5, rfl, hE5⟩; have HE5 := hid hE5; clear hE5)
      clear HE f1 p1
      go_loopw [0, 6] (fun b i wr => ∃ q : Nat, q ≤ y.length ∧ i = .int .i64 q ∧ Ext base W v wr b (Z ++ (dg y.length 2 ++ (y.take q).flatMap encAc))) (fun _ i _ => y.length - (intOf i).toNat)
      case atStart => exact ⟨0, by omega, rfl, by simpa using HE5.out⟩
      case round =>
        obtain ⟨q, hq, rfl, hE⟩ := hrel
        generalize wr = wz at *
        have HE := hid hE
        obtain ⟨p1, p2, p3⟩ := HX.out _ _ _ hE
        clear hE
        by_cases hlt2 : q < y.length
        · have d2 : decide ((q : Int) < (y.length : Int)) = true := decide_eq_true (by omega)
          have hw2 : IntKind.i64.wrap ((q : Int) + 1) = (q : Int) + 1 := by rw [IntKind.wrap_i64]; omega
          obtain ⟨b2, o2, hao, hT2, f0, f1, f2, hfit⟩ := p3.cell7 q hlt2
          subst hao
          simp only [Nat.add_zero] at f0
          have HS2 : Hid ((y.take (q + 1)).flatMap encAc = (y.take q).flatMap encAc ++ encAc y[q]) := by
            show _ = _
            rw [List.take_succ_eq_append_getElem hlt2, List.flatMap_append]; simp
          have hzl : (Z ++ (dg y.length 2 ++ (y.take q).flatMap encAc)).length + 10 ≤ 2147480000 := by
            have h3 : (y.take q).length = q := by simp; omega
            simp only [List.length_append, dg_len, encAcs_len, h3]; omega
          generalize y[q] = a at f0 f1 f2 hfit HS2
          obtain ⟨ad, af, an⟩ := a
          simp only at f0 f1 f2
          generalize hZ2 : Z ++ (dg y.length 2 ++ (y.take q).flatMap encAc) = Z2 at HE hzl
          have HZ2 := hid hZ2
          clear hZ2 p3 hfit
          go_upto_region 13 with fail
          have hg3 : (wz.alloc (.cells #[.int .i8 ad, .int .i8 af, .int .u64 an] 93)).heap[wz.heap.size]? = some (.cells #[.int .i8 ad, .int .i8 af, .int .u64 an] 93 (0, 0)) := heap_alloc_new _ _
          have hE3 : Ext base W v (wz.alloc (.cells #[.int .i8 ad, .int .i8 af, .int .u64 an] 93)) u0 Z2 := HE.out.on ((Below.refl _ _).alloc (Nat.le_refl _) _)
          generalize wz.alloc (.cells #[.int .i8 ad, .int .i8 af, .int .u64 an] 93) = wa at hg3 hE3
          generalize wz.heap.size = ga at hg3
          obtain ⟨k0, k1, k2⟩ := three_cells hg3
          have HK : Hid (∀ z vz zs, Ext base wa u0 z vz zs → z.cell? ⟨ga, 2, none⟩ = some (.int .u64 an)) := fun z vz zs h => (three_cells (h.block hE3.own hg3 (by decide))).2.2
          have hsz := Nat.le_trans HBs.out hE3.grown.size
          have HE3 := hid hE3
          clear hg3 hE3 HE f0 f1 f2
          go_upto_region 14 with (at_builtin; refine app22 (.tmp 63) (.tmp 70) rfl rfl rfl rfl (HE3.out.own.alloc _) (sl_two wa _ _ (Int.emod_nonneg _ (by omega)) (Int.emod_lt_of_pos _ (by omega)) (Int.emod_nonneg _ (by omega)) (Int.emod_lt_of_pos _ (by omega))) (by simp; omega) (by simp only [List.length_cons, List.length_nil]; omega) ?_; intro v6 w6 hE6)
          have hE7 := hE6.allocFirst HE3.out.own
          have k6 := HK.out _ _ _ hE7
          have HE7 := hid (HE3.out.trans hE7)
          clear hE6 hE7 k0 k1 k2
          go_wp2_with (go_at_call 33; refine (HPn.out _ _ _ _ 8 HE7.out (by simp only [List.length_append, List.length_cons, List.length_nil]; omega) (by omega)).mono ?_; rintro e w8 ⟨v8, rfl, hE8⟩; have HE8 := hid hE8; clear hE8)
          go_roundw
          case rel =>
            refine ⟨q + 1, by omega, by go_num, ?_⟩
            have := HE8.out
            rw [← HZ2.out] at this
            rw [HS2.out]
            simpa only [encAc, dg1_cv, List.append_assoc, List.cons_append, List.nil_append] using this
          case measure => simp [intOf]; omega
        · obtain rfl : q = y.length := by omega
          have d2 : decide ((y.length : Int) < (y.length : Int)) = false := by simp
          rw [List.take_length] at HE
          have HE6 : Hid (Ext base W v wz u0 (ys ++ (L.take (p + 1)).flatMap encCp)) := by
            have := HE.out
            rw [← HZ.out] at this
            show Ext _ _ _ _ _ _
            rw [HS.out]
            simpa only [encCp, List.append_assoc] using this
          clear HE p3
          go_wp2
          go_roundw
          case rel => exact ⟨p + 1, by omega, by go_num, HE6.out⟩
          case measure => simp [intOf]; omega
    · obtain rfl : p = L.length := by omega
      have d1 : decide ((L.length : Int) < (L.length : Int)) = false := by simp
      rw [List.take_length] at HE
      go_wp2
      go_ret
      refine ⟨u0, rfl, ?_⟩
      have := HFin.out _ _ _ HE.out
      rw [HYe.out] at this
      simpa only [encRl, encCs, ← HLe.out, List.append_assoc] using this
end Go.Proofs.YtllbbbfkdgjffaaGreatDoor
namespace Go.Proofs.YtllbbbfkdgjffaaGreatDoor
open Go.RowKit

set_option maxHeartbeats 800000 in
/-- WHAT THE DOCUMENT's Check ANSWERS. -/
theorem r2check_any (m : Nat → Int) (w : World) :
    Calls Tryz.prog 50 #[mv m] w fun e w' => e = .returned (.int .i64 (chk m)) ∧ Below w.heap.size w w' := by
  have hB0 : Blk (w.alloc (.cells (row 22 m) 28)) w.heap.size 22 28 m := Blk.new w 22 28 m
  have hlow0 : Below w.heap.size w (w.alloc (.cells (row 22 m) 28)) := (Below.refl _ _).alloc (Nat.le_refl _) _
  go_enter Tryz.func50, Tryz.ntmps50
  go_wp2
  go_loopw [3] (fun i wr => ∃ k : Nat, k ≤ 11 ∧ i = .int .i64 k ∧ allU (fun k => !bad m k) k = true ∧ Blk wr w.heap.size 22 28 m ∧ Below w.heap.size w wr) (fun i _ => 11 - (intOf i).toNat)
  case atStart => exact ⟨0, by omega, rfl, rfl, hB0, hlow0⟩
  case round =>
    clear hB0 hlow0
    obtain ⟨k, hk, rfl, hall, hB, hlow⟩ := hrel
    have HALL : Hid (allU (fun k => !bad m k) k = true) := hall
    clear hall
    by_cases hlt : k < 11
    · have hc1 : wr.cell? ⟨w.heap.size, k, none⟩ = some (.int .u64 (m k)) := hB.cell k (by omega)
      have hc2 : wr.cell? ⟨w.heap.size, 11 + k, none⟩ = some (.int .u64 (m (11 + k))) := hB.cell (11 + k) (by omega)
      have hbd := wid_bd k
      have HC : ∀ W, Hid (Calls Tryz.prog 52 #[.int .i8 (k : Int)] W fun e w' => e = .returned (.int .i64 (wid k)) ∧ w' = W) := fun W => by
        have hC := rwidth_any (k : Int) W
        rw [widV_nat k hlt] at hC
        exact hC
      cases t1 : (m (11 + k) / 2 ^ (wid k).toNat != 0)
      · cases t2 : (bits .andNot .u64 (m k) (m (11 + k)) != 0)
        · have HF : Hid (bad m k = false) := by show bad m k = false; simp [bad, t1, t2]
          go_wp2_with fail
          go_quiet (first | (go_at_call 52; refine Calls.quiet_of_same (HC _).out))
          go_wp2
          go_roundw
          case rel => exact ⟨k + 1, by omega, by go_num, by simp [allU, HALL.out, HF.out], hB.drewN _, bel_drewN hlow _⟩
          case measure => simp [intOf]; omega
        · have HF : Hid (chk m = 20) := by
            show chk m = 20
            exact chk_bad (allU_false hlt (by simp [bad, t2]))
          go_wp2_with fail
          go_quiet (first | (go_at_call 52; refine Calls.quiet_of_same (HC _).out))
          go_wp2
          go_ret
          exact ⟨by rw [HF.out]; rfl, bel_drewN hlow _⟩
      · have HF : Hid (chk m = 20) := by
          show chk m = 20
          exact chk_bad (allU_false hlt (by simp [bad, t1]))
        go_wp2_with fail
        go_quiet (first | (go_at_call 52; refine Calls.quiet_of_same (HC _).out))
        go_wp2
        go_ret
        exact ⟨by rw [HF.out]; rfl, bel_drewN hlow _⟩
    · obtain rfl : k = 11 := by omega
      have HF : Hid (chk m = 0) := by
        show chk m = 0
        exact chk_ok HALL.out
      go_wp2
      go_ret
      exact ⟨by rw [HF.out]; rfl, hlow⟩
end Go.Proofs.YtllbbbfkdgjffaaGreatDoor
namespace Go.Proofs.YtllbbbfkdgjffaaGreatDoor
open Go.RowKit

set_option maxHeartbeats 3200000 in
set_option maxRecDepth 100000 in
theorem rfair_any {T : Nat → Prop} {w : World} (r : Rl) (u : Value) (hu : Cps T w u r.cp) (hf : r.Fit) :
    Calls Tryz.prog 38 #[.agg (rlc r u)] w fun e w' => e = .returned (.bool (okRl r)) ∧ Below w.heap.size w w' := by
  have hb1 : Below w.heap.size w (w.alloc (.cells (rlc r u) 31)) := (Below.refl _ _).alloc (Nat.le_refl _) _
  have hg1 : (w.alloc (.cells (rlc r u) 31)).heap[w.heap.size]? = some (.cells (rlc r u) 31 (0, 0)) := heap_alloc_new _ _
  have hu1 : Cps T (w.alloc (.cells (rlc r u) 31)) u r.cp := Cps.carry (fun k hk h => ⟨h, heap_alloc_old _ _ hk⟩) hu
  obtain ⟨ua, uc, hue, -⟩ := hu.form
  have hlen := hu.len
  obtain ⟨W, HWe⟩ : ∃ W, Hid (w.alloc (.cells (rlc r u) 31) = W) := ⟨_, rfl⟩
  rw [HWe.out] at hb1 hg1 hu1
  have hsz1 : w.heap.size ≤ W.heap.size := hb1.size
  have HFin : Hid (∀ z, Below W.heap.size W z → Below w.heap.size w z) := fun z h => hb1.trans (h.mono hsz1)
  obtain ⟨q0, q1, q2, Q3⟩ := rl_cells (t := 31) hg1
  have hgl : w.heap.size < W.heap.size := (Array.getElem?_eq_some_iff.1 hg1).1
  have HC : Hid (∀ z, Below W.heap.size W z → z.cell? ⟨w.heap.size, 23, none⟩ = some u) := fun z h => (rl_cells (t := 31) ((h.block _ hgl).trans hg1)).2.1
  have HU := hid hu1
  have HM := hid (r2check_any r.mt W)
  have HOk : Hid (okRl r = (okRk r.rk && (mOk r.mt && r.cp.all okCp))) := rfl
  have hfr := hf.1
  subst hue
  obtain ⟨L, hL⟩ : ∃ L, L = r.cp := ⟨_, rfl⟩
  rw [← hL] at HU q1 hlen HWe HC HOk
  rw [← hL]
  obtain ⟨g, hg⟩ : ∃ g, g = w.heap.size := ⟨_, rfl⟩
  rw [← hg] at q0 q1 q2 Q3 HC
  have HG := hid hg
  obtain ⟨OK, hOK⟩ : ∃ OK, OK = okRl r := ⟨_, rfl⟩
  rw [← hOK] at HOk
  rw [← hOK]
  clear hb1 hg1 hu1 hu hf hL hg hsz1 hgl hOK
  by_cases h1 : r.rk < -2147483648
  · have HR : Hid (OK = false) := by
      show OK = false
      rw [HOk.out]
      have : okRk r.rk = false := decide_eq_false (by omega)
      rw [this]; rfl
    have d1 : decide (r.rk < -2147483648) = true := decide_eq_true h1
    clear HM HU HOk HC
    go_enter Tryz.func38, Tryz.ntmps38
    go_upto_region 1 with fail
    rw [HWe.out, ← HG.out]
    go_wp2
    go_ret
    exact ⟨by rw [HR.out]; rfl, HFin.out _ (Below.refl _ _)⟩
  have d1 : decide (r.rk < -2147483648) = false := decide_eq_false h1
  by_cases h2 : 2147483647 < r.rk
  · have HR : Hid (OK = false) := by
      show OK = false
      rw [HOk.out]
      have : okRk r.rk = false := decide_eq_false (by omega)
      rw [this]; rfl
    have d2 : decide (2147483647 < r.rk) = true := decide_eq_true h2
    clear HM HU HOk HC
    go_enter Tryz.func38, Tryz.ntmps38
    go_upto_region 1 with fail
    rw [HWe.out, ← HG.out]
    go_wp2
    go_ret
    exact ⟨by rw [HR.out]; rfl, HFin.out _ (Below.refl _ _)⟩
  have d2 : decide (2147483647 < r.rk) = false := decide_eq_false h2
  have hk : okRk r.rk = true := decide_eq_true (by omega)
  rw [hk, Bool.true_and] at HOk
  clear hk
  cases h3 : mOk r.mt with
  | false =>
    rw [chk_bad h3] at HM
    rw [h3] at HOk
    clear h3 HU HC
    go_enter Tryz.func38, Tryz.ntmps38
    go_upto_region 1 with fail
    rw [HWe.out, ← HG.out]
    go_wp2_with (first
      | (refine ldMid 28 (.tmp 15) rfl rfl _ 1 rfl (row 22 r.mt) _ Tryz.underlying28 rfl (sizeMt r.mt) Q3.out ?_)
      | (go_at_call 50; refine (HM.out).mono ?_; rintro e w2 ⟨rfl, hq⟩; have HQ := hid hq; clear hq HM))
    go_ret
    exact ⟨by rw [HOk.out]; rfl, HFin.out _ HQ.out⟩
  | true =>
    rw [chk_ok h3] at HM
    rw [h3, Bool.true_and] at HOk
    clear h3
    go_enter Tryz.func38, Tryz.ntmps38
    go_upto_region 1 with fail
    rw [HWe.out, ← HG.out]
    go_upto_region 4 with (first
      | (refine ldMid 28 (.tmp 15) rfl rfl _ 1 rfl (row 22 r.mt) _ Tryz.underlying28 rfl (sizeMt r.mt) Q3.out ?_)
      | (go_at_call 50; refine (HM.out).mono ?_; rintro e w2 ⟨rfl, hq⟩; have HQ := hid hq; clear hq HM))
    clear q0 q1 q2 Q3 d1 d2 h1 h2
    go_loopw [3] (fun i wr => ∃ p : Nat, p ≤ L.length ∧ i = .int .i64 p ∧ (L.take p).all okCp = true ∧ Below W.heap.size W wr) (fun i _ => L.length - (intOf i).toNat)
    case atStart => exact ⟨0, by omega, rfl, by simp, HQ.out⟩
    case round =>
      obtain ⟨p, hp, rfl, hall, hB⟩ := hrel
      generalize wr = wx at *
      have HALL := hid hall
      have HB := hid hB
      have p1 := HC.out _ hB
      clear hall hB HQ
      by_cases hlt : p < L.length
      · have d1 : decide ((p : Int) < (L.length : Int)) = true := decide_eq_true (by omega)
        have hw1 : IntKind.i64.wrap ((p : Int) + 1) = (p : Int) + 1 := by rw [IntKind.wrap_i64]; omega
        obtain ⟨b, o, hao, hTb, x, f0, hx⟩ := HU.out.cell7 p hlt
        subst hao
        simp only [Nat.add_zero, Nat.mul_one] at f0
        have hbb := cell_lt f0
        have HS : Hid ((L.take (p + 1)).all okCp = okCp L[p]) := by
          show _ = _
          rw [List.take_succ_eq_append_getElem hlt, List.all_append, HALL.out]; simp
        have HNo : Hid (okCp L[p] = false → OK = false) := fun hq => by
          rw [HOk.out]
          cases h : L.all okCp with
          | false => rfl
          | true => exact absurd (List.all_eq_true.1 h L[p] (List.getElem_mem hlt)) (by rw [hq]; simp)
        generalize L[p] = y at hx HS HNo
        obtain ⟨xa, xc, rfl, -⟩ := hx.form
        have hxl := hx.len
        have HX : Hid (∀ z, Below W.heap.size W z → z.cell? ⟨g, 23, none⟩ = some (.slice (some ⟨b, o, none⟩) L.length uc) ∧ z.cell? ⟨b, o + p, none⟩ = some (.slice xa y.length xc) ∧ Acs T z (.slice xa y.length xc) y) := fun z h => ⟨HC.out z h, by rw [h.cell (p := ⟨b, o + p, none⟩) hbb]; exact f0, Acs.carry (fun k hk ht => ⟨ht, h.block k hk⟩) hx⟩
        clear f0 hx p1 HALL
        obtain ⟨p1, p2, -⟩ := HX.out _ HB.out
        go_upto_region 7 with fail
        clear p1 p2
        go_loopw [4] (fun i wr => ∃ q : Nat, q ≤ y.length ∧ i = .int .i64 q ∧ (y.take q).all okAc = true ∧ Below W.heap.size W wr) (fun i _ => y.length - (intOf i).toNat)
        case atStart => exact ⟨0, by omega, rfl, by simp, HB.out⟩
        case round =>
          obtain ⟨q, hq, rfl, hall, hB⟩ := hrel
          generalize wr = wz at *
          obtain ⟨p1, p2, p3⟩ := HX.out _ hB
          have HALL := hid hall
          have HB2 := hid hB
          clear hall hB HB
          by_cases hlt2 : q < y.length
          · have d2 : decide ((q : Int) < (y.length : Int)) = true := decide_eq_true (by omega)
            have hw2 : IntKind.i64.wrap ((q : Int) + 1) = (q : Int) + 1 := by rw [IntKind.wrap_i64]; omega
            obtain ⟨b2, o2, hao, hT2, f0, f1, f2, hfit⟩ := p3.cell7 q hlt2
            subst hao
            simp only [Nat.add_zero] at f0
            have HS2 : Hid ((y.take (q + 1)).all okAc = okAc y[q]) := by
              show _ = _
              rw [List.take_succ_eq_append_getElem hlt2, List.all_append, HALL.out]; simp
            have HN2 : Hid (okAc y[q] = false → OK = false) := fun hq => HNo.out (by
              cases h : okCp y with
              | false => rfl
              | true => exact absurd (List.all_eq_true.1 h y[q] (List.getElem_mem hlt2)) (by rw [hq]; simp))
            generalize y[q] = a at f0 f1 f2 hfit HS2 HN2
            obtain ⟨ad, af, an⟩ := a
            simp only at f0 f1 f2
            clear p3 HALL hfit
            go_upto_region 10 with fail
            have hg3 : (wz.alloc (.cells #[.int .i8 ad, .int .i8 af, .int .u64 an] 93)).heap[wz.heap.size]? = some (.cells #[.int .i8 ad, .int .i8 af, .int .u64 an] 93 (0, 0)) := heap_alloc_new _ _
            have hE3 : Below W.heap.size W (wz.alloc (.cells #[.int .i8 ad, .int .i8 af, .int .u64 an] 93)) := HB2.out.alloc (by have := HB2.out.size; omega) _
            generalize wz.alloc (.cells #[.int .i8 ad, .int .i8 af, .int .u64 an] 93) = wa at hg3 hE3
            generalize wz.heap.size = ga at hg3
            obtain ⟨k0, k1, k2⟩ := three_cells hg3
            have HA := hid hE3
            clear hg3 hE3 HB2 f0 f1 f2
            by_cases c1 : ad < 0
            · have HR := hid (HN2.out (decide_eq_false (by simp only; omega)))
              have e1 : decide (ad < 0) = true := decide_eq_true c1
              go_wp2
              go_ret
              exact ⟨by rw [HR.out]; rfl, HFin.out _ HA.out⟩
            have e1 : decide (ad < 0) = false := decide_eq_false c1
            by_cases c2 : 2 < ad
            · have HR := hid (HN2.out (decide_eq_false (by simp only; omega)))
              have e2 : decide (2 < ad) = true := decide_eq_true c2
              go_wp2
              go_ret
              exact ⟨by rw [HR.out]; rfl, HFin.out _ HA.out⟩
            have e2 : decide (2 < ad) = false := decide_eq_false c2
            by_cases c3 : af < 0
            · have HR := hid (HN2.out (decide_eq_false (by simp only; omega)))
              have e3 : decide (af < 0) = true := decide_eq_true c3
              go_wp2
              go_ret
              exact ⟨by rw [HR.out]; rfl, HFin.out _ HA.out⟩
            have e3 : decide (af < 0) = false := decide_eq_false c3
            by_cases c4 : ad = 0
            · have HR : Hid (okAc ⟨ad, af, an⟩ = true) := decide_eq_true (by simp only; omega)
              subst c4
              go_wp2
              go_roundw
              case rel => exact ⟨q + 1, by omega, by go_num, by rw [HS2.out]; exact HR.out, HA.out⟩
              case measure => simp [intOf]; omega
            have e4 : (ad != 0) = true := by simp [c4]
            by_cases c5 : af = 0
            · have e5 : (af != 0) = false := by simp [c5]
              by_cases c6 : ad = 2
              · have e6 : (ad == 2) = true := by simp [c6]
                by_cases c7 : an = 0
                · have HR : Hid (okAc ⟨ad, af, an⟩ = true) := decide_eq_true (by simp only; omega)
                  have e7 : (an != 0) = false := by simp [c7]
                  clear c1 c2 c3 c4 c5 c6 c7
                  go_wp2
                  go_roundw
                  case rel => exact ⟨q + 1, by omega, by go_num, by rw [HS2.out]; exact HR.out, HA.out⟩
                  case measure => simp [intOf]; omega
                · have HR := hid (HN2.out (decide_eq_false (by simp only; omega)))
                  have e7 : (an != 0) = true := by simp [c7]
                  clear c1 c2 c3 c4 c5 c6 c7
                  go_wp2
                  go_ret
                  exact ⟨by rw [HR.out]; rfl, HFin.out _ HA.out⟩
              · have HR : Hid (okAc ⟨ad, af, an⟩ = true) := decide_eq_true (by simp only; omega)
                have e6 : (ad == 2) = false := by simp [c6]
                clear c1 c2 c3 c4 c5 c6
                go_wp2
                go_roundw
                case rel => exact ⟨q + 1, by omega, by go_num, by rw [HS2.out]; exact HR.out, HA.out⟩
                case measure => simp [intOf]; omega
            · have HR := hid (HN2.out (decide_eq_false (by simp only; omega)))
              have e5 : (af != 0) = true := by simp [c5]
              clear c1 c2 c3 c4 c5
              go_wp2
              go_ret
              exact ⟨by rw [HR.out]; rfl, HFin.out _ HA.out⟩
          · obtain rfl : q = y.length := by omega
            have d2 : decide ((y.length : Int) < (y.length : Int)) = false := by simp
            rw [List.take_length] at HALL
            clear p3
            go_wp2
            go_roundw
            case rel => exact ⟨p + 1, by omega, by go_num, by rw [HS.out]; exact HALL.out, HB2.out⟩
            case measure => simp [intOf]; omega
      · obtain rfl : p = L.length := by omega
        have d1 : decide ((L.length : Int) < (L.length : Int)) = false := by simp
        rw [List.take_length] at HALL
        go_wp2
        go_ret
        exact ⟨by rw [HOk.out, HALL.out]; rfl, HFin.out _ HB.out⟩
end Go.Proofs.YtllbbbfkdgjffaaGreatDoor
