/-
  Proved here: plainNot and plainStar of package policy. Conditions: the term lies in memory from B on; a Not has its kid.
-/
import Derived.Test.YtjallmncajhamaaDoorTB
namespace Go.Proofs.YtjallmncajhamaaDoor
open Go.RowKit
set_option maxRecDepth 100000

theorem plN_mk (op fd n : Nat) (ks : List Tm) : plN (.mk op fd n ks) = if op = 3 then (match ks with | [] => .mk op fd n ks | x :: _ => x) else if op = 1 then leaf 0 else if op = 0 then leaf 1 else .mk 3 0 0 [.mk op fd n ks] := rfl
theorem plS_mk (op fd n : Nat) (ks : List Tm) : plS (.mk op fd n ks) = if op = 10 then .mk op fd n ks else if op = 6 then .mk 6 0 0 [leaf 1] else .mk 10 0 0 [.mk op fd n ks] := rfl
/-- behind two boxes: the argument's, the result's -/
structure Tw (w : World) (cs : Array Value) (W1 : World) : Prop where
  b : Below w.heap.size w W1
  n : W1.heap[w.heap.size]? = some (.cells cs 26 (0, 0))
  r : W1.heap[w.heap.size + 1]? = some (.cells (tmc 0 0 0 nilS) 26 (0, 0))
  sz : W1.heap.size = w.heap.size + 1 + 1
theorem Tw.new (w : World) (cs : Array Value) : Tw w cs ((w.alloc (.cells cs 26)).alloc (.cells (tmc 0 0 0 nilS) 26)) :=
  ⟨((Below.refl _ _).alloc (Nat.le_refl _) _).alloc (by simp) _, (heap_alloc_old _ _ (by simp)).trans (heap_alloc_new _ _), by have := heap_alloc_new (w.alloc (.cells cs 26)) (.cells (tmc 0 0 0 nilS) 26); simpa using this, by simp⟩
/-- the result, stored -/
theorem Tw.put {w W1 w3 : World} {cs ds : Array Value} (h : Tw w cs W1) (hb : Below W1.heap.size W1 w3) {B : Nat} (_hB : B ≤ w.heap.size) {t : Tm} (ht : UmV (fun b => B ≤ b ∧ b ≠ w.heap.size + 1) w3 t ds) : Below w.heap.size w (w3.setRow (w.heap.size + 1) ds) ∧ UmV (fun b => B ≤ b) (w3.setRow (w.heap.size + 1) ds) t ds :=
  ⟨bel_row (h.b.trans (hb.mono h.b.size)) (by omega) _, um_on ht fun b _ hS => ⟨hS.1, setRow_other w3 _ b _ hS.2⟩⟩
set_option maxHeartbeats 12800000 in
theorem plNot8_any (B : Nat) (t : Tm) (cs : Array Value) (w : World) (hB : B ≤ w.heap.size) (h : UmV (fun b => B ≤ b ∧ b < w.heap.size) w t cs) (hk : t.op = 3 → t.ks ≠ []) : Calls Tryd.prog 68 #[.agg cs] w fun e w' => ∃ ds, e = .returned (.agg ds) ∧ Below w.heap.size w w' ∧ UmV (fun b => B ≤ b) w' (plN t) ds := by
  obtain ⟨op, fd, n, ks⟩ := t
  obtain ⟨v, xs, rfl, h2, h3⟩ := h.get
  obtain ⟨ao, cap, rfl⟩ := h2.form
  have HU := hid h
  obtain ⟨W1, hW1⟩ : ∃ W1, W1 = (w.alloc (.cells (tmc op fd n (.slice ao ks.length cap)) 26)).alloc (.cells (tmc 0 0 0 nilS) 26) := ⟨_, rfl⟩
  have HE : Hid ((w.alloc (.cells #[.int .i8 ((op : Nat) : Int), .int .i8 ((fd : Nat) : Int), .int .u64 ((n : Nat) : Int), .slice ao ks.length cap] 26)).alloc (.cells #[.int .i8 0, .int .i8 0, .int .u64 0, .slice none 0 0] 26) = W1) := hW1.symm
  have HT : Hid (Tw w (tmc op fd n (.slice ao ks.length cap)) W1) := by show Tw _ _ _; rw [hW1]; exact Tw.new _ _
  have c0 := (four_cells HT.out.n).1
  have c3 := (four_cells HT.out.n).2.2.2
  clear hW1 h
  by_cases e3 : op = 3
  · obtain ⟨k, ks', rfl⟩ := List.exists_cons_of_ne_nil (hk e3)
    obtain ⟨g, o, rfl, hc, hg, hgl, x0, x1, x2, x3, hkv, hra⟩ := UmL.kid h2 h3 (j := 0) (by simp)
    simp only [List.getElem_cons_zero, Nat.zero_mul, Nat.add_zero] at hkv hra
    have hp : plN (.mk op fd n (k :: ks')) = k := by rw [plN_mk, if_pos e3]
    have HP := hid hp
    have g3 : (((op : Nat) : Int) == 3) = true := by rw [e3]; rfl
    have HRA : Hid (W1.rangeAt g o (#[x0, x1, x2, x3] : Array Value).toList) := fun i v hi => (cell_same (HT.out.b.block _ hgl)).trans (hra i v hi)
    have hlen : 0 < (k :: ks').length := by simp
    generalize (k :: ks').length = L at HT HE HRA hlen hc c3 ⊢
    have hl0 : decide ((0 : Int) < (L : Int)) = true := by simp; omega
    have hl1 : decide (0 < L) = true := by simp; omega
    have hcp : 0 < cap := by omega
    have HO := hid hkv.one
    have HK := hid hkv
    clear h2 h3 e3 hra hp hk hkv HU
    go_enter Tryd.func68, Tryd.ntmps68
    go_upto_region 1 with fail
    rw [show (w.alloc (.cells #[.int .i8 ((op : Nat) : Int), .int .i8 ((fd : Nat) : Int), .int .u64 ((n : Nat) : Int), .slice (some ⟨g, o, none⟩) L cap] 26)).alloc (.cells #[.int .i8 0, .int .i8 0, .int .u64 0, .slice none 0 0] 26) = W1 from HE.out]
    clear HE
    go_wp2_with (first
      | (refine ldMid 26 (.tmp 9) rfl rfl g o rfl #[x0, x1, x2, x3] _ Tryd.underlying26 rfl sizeTM HRA.out ?_)
      | (refine stRow 26 (.tmp 2) (.tmp 10) rfl rfl (w.heap.size + 1) #[x0, x1, x2, x3] rfl rfl 26 (tmc 0 0 0 nilS) HT.out.r sizeTM rfl HO.out ?_))
    refine bodyPost_ret (v := .agg #[x0, x1, x2, x3]) (res_tm Tryd.results68 _ _ (w.heap.size + 1) _ sizeTM rfl (setRow_heap W1 _ _ _ _ _ HT.out.r)) rfl ?_
    obtain ⟨q1, q2⟩ := HT.out.put (Below.refl _ _) hB (um_on HK.out fun b hb hS => ⟨⟨hS.1, by omega⟩, HT.out.b.block b hb⟩)
    exact ⟨_, rfl, q1, by rw [HP.out]; exact q2⟩
  have g3 : (((op : Nat) : Int) == 3) = false := beq_eq_false_iff_ne.2 (by omega)
  by_cases e1 : op = 1
  · have hp : plN (.mk op fd n ks) = leaf 0 := by rw [plN_mk, if_neg e3, if_pos e1]
    have HP := hid hp
    have g1 : (((op : Nat) : Int) == 1) = true := by rw [e1]; rfl
    have hbt := fun W => run_bt0 0 W
    clear h2 h3 e3 e1 hp hk HU
    go_enter Tryd.func68, Tryd.ntmps68
    go_upto_region 1 with fail
    rw [show (w.alloc (.cells #[.int .i8 ((op : Nat) : Int), .int .i8 ((fd : Nat) : Int), .int .u64 ((n : Nat) : Int), .slice ao ks.length cap] 26)).alloc (.cells #[.int .i8 0, .int .i8 0, .int .u64 0, .slice none 0 0] 26) = W1 from HE.out]
    clear HE
    go_wp2_with (refine stRow 26 (.tmp 2) (.tmp 13) rfl rfl (w.heap.size + 1) (tmc 0 0 0 nilS) rfl rfl 26 (tmc 0 0 0 nilS) HT.out.r sizeTM rfl (tic_one _ _ _ _ _ _) ?_)
    refine bodyPost_ret (v := .agg (tmc 0 0 0 nilS)) (res_tm Tryd.results68 _ _ (w.heap.size + 1) _ sizeTM rfl (setRow_heap W1 _ _ _ _ _ HT.out.r)) rfl ?_
    obtain ⟨q1, q2⟩ := HT.out.put (Below.refl _ _) hB (UmV.leaf (fun b => B ≤ b ∧ b ≠ w.heap.size + 1) W1 0 0 0 none 0)
    exact ⟨_, rfl, q1, by rw [HP.out]; exact q2⟩
  have g1 : (((op : Nat) : Int) == 1) = false := beq_eq_false_iff_ne.2 (by omega)
  by_cases e0 : op = 0
  · have hp : plN (.mk op fd n ks) = leaf 1 := by rw [plN_mk, if_neg e3, if_neg e1, if_pos e0]
    have HP := hid hp
    have g0 : (((op : Nat) : Int) == 0) = true := by rw [e0]; rfl
    have hbt := fun W => run_bt0 1 W
    clear h2 h3 e3 e1 e0 hp hk HU
    go_enter Tryd.func68, Tryd.ntmps68
    go_upto_region 1 with fail
    rw [show (w.alloc (.cells #[.int .i8 ((op : Nat) : Int), .int .i8 ((fd : Nat) : Int), .int .u64 ((n : Nat) : Int), .slice ao ks.length cap] 26)).alloc (.cells #[.int .i8 0, .int .i8 0, .int .u64 0, .slice none 0 0] 26) = W1 from HE.out]
    clear HE
    go_wp2_with (refine stRow 26 (.tmp 2) (.tmp 16) rfl rfl (w.heap.size + 1) (tmc 1 0 0 nilS) rfl rfl 26 (tmc 0 0 0 nilS) HT.out.r sizeTM rfl (tic_one _ _ _ _ _ _) ?_)
    refine bodyPost_ret (v := .agg (tmc 1 0 0 nilS)) (res_tm Tryd.results68 _ _ (w.heap.size + 1) _ sizeTM rfl (setRow_heap W1 _ _ _ _ _ HT.out.r)) rfl ?_
    obtain ⟨q1, q2⟩ := HT.out.put (Below.refl _ _) hB (UmV.leaf (fun b => B ≤ b ∧ b ≠ w.heap.size + 1) W1 1 0 0 none 0)
    exact ⟨_, rfl, q1, by rw [HP.out]; exact q2⟩
  have g0 : (((op : Nat) : Int) == 0) = false := beq_eq_false_iff_ne.2 (by omega)
  have hp : plN (.mk op fd n ks) = .mk 3 0 0 [.mk op fd n ks] := by rw [plN_mk, if_neg e3, if_neg e1, if_neg e0]
  have HP := hid hp
  have HUb : Hid (UmV (fun b => B ≤ b ∧ b ≠ w.heap.size + 1) (W1.alloc (.cells (tmc op fd n (.slice ao ks.length cap)) 26)) (.mk 3 0 0 [.mk op fd n ks]) (tmc 3 0 0 (.slice (some ⟨W1.heap.size, 0, none⟩) 1 1))) :=
    (um_on HU.out fun b hb hS => (⟨⟨hS.1, by omega⟩, HT.out.b.block b hb⟩ : (B ≤ b ∧ b ≠ w.heap.size + 1) ∧ _)).bld 3 (by have := HT.out.sz; omega) (fun b _ h => h)
  have HO := hid (over8_any 3 (some ⟨W1.heap.size, 0, none⟩) 1 1 (W1.alloc (.cells (tmc op fd n (.slice ao ks.length cap)) 26)))
  have HB2 : Hid (Below W1.heap.size W1 (W1.alloc (.cells (tmc op fd n (.slice ao ks.length cap)) 26))) := (Below.refl _ _).alloc (Nat.le_refl _) _
  clear h2 h3 e3 e1 e0 hp hk HU
  go_enter Tryd.func68, Tryd.ntmps68
  go_upto_region 1 with fail
  rw [show (w.alloc (.cells #[.int .i8 ((op : Nat) : Int), .int .i8 ((fd : Nat) : Int), .int .u64 ((n : Nat) : Int), .slice ao ks.length cap] 26)).alloc (.cells #[.int .i8 0, .int .i8 0, .int .u64 0, .slice none 0 0] 26) = W1 from HE.out]
  clear HE
  go_wp2_with (first
    | (refine ldRow 26 (.tmp 1) rfl rfl w.heap.size rfl 26 (tmc op fd n (.slice ao ks.length cap)) _ Tryd.underlying26 rfl sizeTM HT.out.n ?_)
    | (refine bldSl 24 26 (.tmp 17) rfl rfl (tmc op fd n (.slice ao ks.length cap)) rfl Tryd.underlying24 _ _ _ rfl rfl rfl rfl (by decide) (by decide) ?_)
    | (refine stRow 26 (.tmp 2) (.tmp 19) rfl rfl (w.heap.size + 1) (tmc 3 0 0 (.slice (some ⟨W1.heap.size, 0, none⟩) 1 1)) rfl rfl 26 (tmc 0 0 0 nilS) HR3.out sizeTM rfl (tic_one _ _ _ _ _ _) ?_)
    | (go_at_call 98; refine (HO.out).mono ?_; rintro e w3 ⟨rfl, hw⟩; have HB3 := hid (HB2.out.trans (hw.mono HB2.out.size)); have HU3 := hid (um_on HUb.out fun b hb hS => (⟨hS, hw.block b hb⟩ : (B ≤ b ∧ b ≠ w.heap.size + 1) ∧ _)); have HR3 := hid ((HB3.out.block (w.heap.size + 1) (by have := HT.out.sz; omega)).trans HT.out.r); clear hw HO))
  refine bodyPost_ret (v := .agg (tmc 3 0 0 (.slice (some ⟨W1.heap.size, 0, none⟩) 1 1))) (res_tm Tryd.results68 _ _ (w.heap.size + 1) _ sizeTM rfl (setRow_heap w3 _ _ _ _ _ HR3.out)) rfl ?_
  obtain ⟨q1, q2⟩ := HT.out.put HB3.out hB HU3.out
  exact ⟨_, rfl, q1, by rw [HP.out]; exact q2⟩
set_option maxHeartbeats 12800000 in
theorem plStar8_any (B : Nat) (t : Tm) (cs : Array Value) (w : World) (hB : B ≤ w.heap.size) (h : UmV (fun b => B ≤ b ∧ b < w.heap.size) w t cs) : Calls Tryd.prog 70 #[.agg cs] w fun e w' => ∃ ds, e = .returned (.agg ds) ∧ Below w.heap.size w w' ∧ UmV (fun b => B ≤ b) w' (plS t) ds := by
  obtain ⟨op, fd, n, ks⟩ := t
  obtain ⟨v, xs, rfl, h2, h3⟩ := h.get
  obtain ⟨ao, cap, rfl⟩ := h2.form
  have HU := hid h
  obtain ⟨W1, hW1⟩ : ∃ W1, W1 = (w.alloc (.cells (tmc op fd n (.slice ao ks.length cap)) 26)).alloc (.cells (tmc 0 0 0 nilS) 26) := ⟨_, rfl⟩
  have HE : Hid ((w.alloc (.cells #[.int .i8 ((op : Nat) : Int), .int .i8 ((fd : Nat) : Int), .int .u64 ((n : Nat) : Int), .slice ao ks.length cap] 26)).alloc (.cells #[.int .i8 0, .int .i8 0, .int .u64 0, .slice none 0 0] 26) = W1) := hW1.symm
  have HT : Hid (Tw w (tmc op fd n (.slice ao ks.length cap)) W1) := by show Tw _ _ _; rw [hW1]; exact Tw.new _ _
  have c0 := (four_cells HT.out.n).1
  have HUw : Hid (UmV (fun b => B ≤ b ∧ b ≠ w.heap.size + 1) W1 (.mk op fd n ks) (tmc op fd n (.slice ao ks.length cap))) := um_on HU.out fun b hb hS => (⟨⟨hS.1, by omega⟩, HT.out.b.block b hb⟩ : (B ≤ b ∧ b ≠ w.heap.size + 1) ∧ _)
  clear hW1 h h2 h3 HU
  by_cases e3 : op = 10
  · have hp : plS (.mk op fd n ks) = .mk op fd n ks := by rw [plS_mk, if_pos e3]
    have HP := hid hp
    have g3 : (((op : Nat) : Int) == 10) = true := by rw [e3]; rfl
    clear e3 hp
    go_enter Tryd.func70, Tryd.ntmps70
    go_upto_region 1 with fail
    rw [show (w.alloc (.cells #[.int .i8 ((op : Nat) : Int), .int .i8 ((fd : Nat) : Int), .int .u64 ((n : Nat) : Int), .slice ao ks.length cap] 26)).alloc (.cells #[.int .i8 0, .int .i8 0, .int .u64 0, .slice none 0 0] 26) = W1 from HE.out]
    clear HE
    go_wp2_with (first
      | (refine ldRow 26 (.tmp 1) rfl rfl w.heap.size rfl 26 (tmc op fd n (.slice ao ks.length cap)) _ Tryd.underlying26 rfl sizeTM HT.out.n ?_)
      | (refine stRow 26 (.tmp 2) (.tmp 7) rfl rfl (w.heap.size + 1) (tmc op fd n (.slice ao ks.length cap)) rfl rfl 26 (tmc 0 0 0 nilS) HT.out.r sizeTM rfl (tic_one _ _ _ _ _ _) ?_))
    refine bodyPost_ret (v := .agg (tmc op fd n (.slice ao ks.length cap))) (res_tm Tryd.results70 _ _ (w.heap.size + 1) _ sizeTM rfl (setRow_heap W1 _ _ _ _ _ HT.out.r)) rfl ?_
    obtain ⟨q1, q2⟩ := HT.out.put (Below.refl _ _) hB HUw.out
    exact ⟨_, rfl, q1, by rw [HP.out]; exact q2⟩
  have g3 : (((op : Nat) : Int) == 10) = false := beq_eq_false_iff_ne.2 (by omega)
  by_cases e6 : op = 6
  · have hp : plS (.mk op fd n ks) = .mk 6 0 0 [leaf 1] := by rw [plS_mk, if_neg e3, if_pos e6]
    have HP := hid hp
    have g6 : (((op : Nat) : Int) == 6) = true := by rw [e6]; rfl
    have hbt := fun W => run_bt0 1 W
    have HUb : Hid (UmV (fun b => B ≤ b ∧ b ≠ w.heap.size + 1) (W1.alloc (.cells (tmc 1 0 0 nilS) 26)) (.mk 6 0 0 [leaf 1]) (tmc 6 0 0 (.slice (some ⟨W1.heap.size, 0, none⟩) 1 1))) :=
      (UmV.leaf (fun b => B ≤ b ∧ b ≠ w.heap.size + 1) W1 1 0 0 none 0).bld 6 (by have := HT.out.sz; omega) (fun b _ h => h)
    have HO := hid (over8_any 6 (some ⟨W1.heap.size, 0, none⟩) 1 1 (W1.alloc (.cells (tmc 1 0 0 nilS) 26)))
    have HB2 : Hid (Below W1.heap.size W1 (W1.alloc (.cells (tmc 1 0 0 nilS) 26))) := (Below.refl _ _).alloc (Nat.le_refl _) _
    clear e3 e6 hp HUw
    go_enter Tryd.func70, Tryd.ntmps70
    go_upto_region 1 with fail
    rw [show (w.alloc (.cells #[.int .i8 ((op : Nat) : Int), .int .i8 ((fd : Nat) : Int), .int .u64 ((n : Nat) : Int), .slice ao ks.length cap] 26)).alloc (.cells #[.int .i8 0, .int .i8 0, .int .u64 0, .slice none 0 0] 26) = W1 from HE.out]
    clear HE
    go_wp2_with (first
      | (refine bldSl 24 26 (.tmp 10) rfl rfl (tmc 1 0 0 nilS) rfl Tryd.underlying24 _ _ _ rfl rfl rfl rfl (by decide) (by decide) ?_)
      | (refine stRow 26 (.tmp 2) (.tmp 12) rfl rfl (w.heap.size + 1) (tmc 6 0 0 (.slice (some ⟨W1.heap.size, 0, none⟩) 1 1)) rfl rfl 26 (tmc 0 0 0 nilS) HR3.out sizeTM rfl (tic_one _ _ _ _ _ _) ?_)
      | (go_at_call 98; refine (HO.out).mono ?_; rintro e w3 ⟨rfl, hw⟩; have HB3 := hid (HB2.out.trans (hw.mono HB2.out.size)); have HU3 := hid (um_on HUb.out fun b hb hS => (⟨hS, hw.block b hb⟩ : (B ≤ b ∧ b ≠ w.heap.size + 1) ∧ _)); have HR3 := hid ((HB3.out.block (w.heap.size + 1) (by have := HT.out.sz; omega)).trans HT.out.r); clear hw HO))
    refine bodyPost_ret (v := .agg (tmc 6 0 0 (.slice (some ⟨W1.heap.size, 0, none⟩) 1 1))) (res_tm Tryd.results70 _ _ (w.heap.size + 1) _ sizeTM rfl (setRow_heap w3 _ _ _ _ _ HR3.out)) rfl ?_
    obtain ⟨q1, q2⟩ := HT.out.put HB3.out hB HU3.out
    exact ⟨_, rfl, q1, by rw [HP.out]; exact q2⟩
  have g6 : (((op : Nat) : Int) == 6) = false := beq_eq_false_iff_ne.2 (by omega)
  have hp : plS (.mk op fd n ks) = .mk 10 0 0 [.mk op fd n ks] := by rw [plS_mk, if_neg e3, if_neg e6]
  have HP := hid hp
  have HUb : Hid (UmV (fun b => B ≤ b ∧ b ≠ w.heap.size + 1) (W1.alloc (.cells (tmc op fd n (.slice ao ks.length cap)) 26)) (.mk 10 0 0 [.mk op fd n ks]) (tmc 10 0 0 (.slice (some ⟨W1.heap.size, 0, none⟩) 1 1))) :=
    HUw.out.bld 10 (by have := HT.out.sz; omega) (fun b _ h => h)
  have HO := hid (over8_any 10 (some ⟨W1.heap.size, 0, none⟩) 1 1 (W1.alloc (.cells (tmc op fd n (.slice ao ks.length cap)) 26)))
  have HB2 : Hid (Below W1.heap.size W1 (W1.alloc (.cells (tmc op fd n (.slice ao ks.length cap)) 26))) := (Below.refl _ _).alloc (Nat.le_refl _) _
  clear e3 e6 hp HUw
  go_enter Tryd.func70, Tryd.ntmps70
  go_upto_region 1 with fail
  rw [show (w.alloc (.cells #[.int .i8 ((op : Nat) : Int), .int .i8 ((fd : Nat) : Int), .int .u64 ((n : Nat) : Int), .slice ao ks.length cap] 26)).alloc (.cells #[.int .i8 0, .int .i8 0, .int .u64 0, .slice none 0 0] 26) = W1 from HE.out]
  clear HE
  go_wp2_with (first
    | (refine ldRow 26 (.tmp 1) rfl rfl w.heap.size rfl 26 (tmc op fd n (.slice ao ks.length cap)) _ Tryd.underlying26 rfl sizeTM HT.out.n ?_)
    | (refine bldSl 24 26 (.tmp 13) rfl rfl (tmc op fd n (.slice ao ks.length cap)) rfl Tryd.underlying24 _ _ _ rfl rfl rfl rfl (by decide) (by decide) ?_)
    | (refine stRow 26 (.tmp 2) (.tmp 15) rfl rfl (w.heap.size + 1) (tmc 10 0 0 (.slice (some ⟨W1.heap.size, 0, none⟩) 1 1)) rfl rfl 26 (tmc 0 0 0 nilS) HR3.out sizeTM rfl (tic_one _ _ _ _ _ _) ?_)
    | (go_at_call 98; refine (HO.out).mono ?_; rintro e w3 ⟨rfl, hw⟩; have HB3 := hid (HB2.out.trans (hw.mono HB2.out.size)); have HU3 := hid (um_on HUb.out fun b hb hS => (⟨hS, hw.block b hb⟩ : (B ≤ b ∧ b ≠ w.heap.size + 1) ∧ _)); have HR3 := hid ((HB3.out.block (w.heap.size + 1) (by have := HT.out.sz; omega)).trans HT.out.r); clear hw HO))
  refine bodyPost_ret (v := .agg (tmc 10 0 0 (.slice (some ⟨W1.heap.size, 0, none⟩) 1 1))) (res_tm Tryd.results70 _ _ (w.heap.size + 1) _ sizeTM rfl (setRow_heap w3 _ _ _ _ _ HR3.out)) rfl ?_
  obtain ⟨q1, q2⟩ := HT.out.put HB3.out hB HU3.out
  exact ⟨_, rfl, q1, by rw [HP.out]; exact q2⟩
end Go.Proofs.YtjallmncajhamaaDoor
