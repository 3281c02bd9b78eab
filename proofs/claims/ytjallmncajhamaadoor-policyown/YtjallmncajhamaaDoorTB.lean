/-
  Proved here: the small functions of package policy that make and ask plain terms: over, says, saying, plainNot, plainStar. Conditions: the tables; the terms lie in memory from B on; a Filter, a Not has its kid.
-/
import Derived.Test.YtjallmncajhamaaDoorTA
namespace Go.Proofs.YtjallmncajhamaaDoor
open Go.RowKit
set_option maxRecDepth 100000

theorem run_bt0 (op : Int) (W : World) : (Instr.build 26 #[(0, .int .i8 op)]).run Tryd.prog W = .ok (.agg #[.int .i8 op, .int .i8 0, .int .u64 0, .slice none 0 0]) W := by kernel_rfl
theorem run_bt03 (op : Int) (ao : Option Addr) (n c : Nat) (W : World) : (Instr.build 26 #[(0, .int .i8 op), (3, .slice ao n c)]).run Tryd.prog W = .ok (.agg #[.int .i8 op, .int .i8 0, .int .u64 0, .slice ao n c]) W := by kernel_rfl
theorem tic_one (op fd : Int) (n : Nat) (ao : Option Addr) (l c : Nat) : (tic op fd n (.slice ao l c)).all (·.oneCell') = true := by simp [Value.oneCell']
theorem res_tm {fn : Func} {p : Tmp} (h : fn.results = #[.cell p 26]) (tmps : Array Value) (w : World) (g : Nat) (cs : Array Value) (hs : (Tryd.prog.info? 26).map (·.size) = some cs.size)
    (hp : tmps.getD p undef = .pointer (some ⟨g, 0, none⟩)) (hg : w.heap[g]? = some (.cells cs 26 (0, 0))) : (results fn tmps).run Tryd.prog w = .ok (.agg cs) w :=
  results_cell_row h tmps w g 26 cs (0, 0) _ hp hg Tryd.underlying26 rfl hs
theorem over8_any (op : Int) (ao : Option Addr) (n c : Nat) (W : World) : Calls Tryd.prog 98 #[.int .i8 op, .slice ao n c] W fun e W' => e = .returned (.agg (tic op 0 0 (.slice ao n c))) ∧ Below W.heap.size W W' := by
  have hbt := fun W => run_bt03 op ao n c W
  go_enter Tryd.func98, Tryd.ntmps98
  go_wp2
  exact bodyPost_ret (v := .agg (tic op 0 0 (.slice ao n c))) (res_tm Tryd.results98 _ _ W.heap.size _ rfl rfl (heap_alloc_new _ _)) rfl ⟨rfl, (Below.refl _ _).alloc (Nat.le_refl _) _⟩
/-- the j-th kid -/
theorem UmL.kid {S : Nat → Prop} {w : World} {ks : List Tm} {ao : Option Addr} {cap : Nat} {xs : List Value} (h : Rx S 4 w (.slice ao ks.length cap) ks.length xs) (hl : UmL S w ks xs) {j : Nat} (hj : j < ks.length) : ∃ g o, ao = some ⟨g, o, none⟩ ∧ ks.length ≤ cap ∧ S g ∧ g < w.heap.size ∧ ∃ x0 x1 x2 x3, UmV S w ks[j] #[x0, x1, x2, x3] ∧ w.rangeAt g (o + j * 4) (#[x0, x1, x2, x3] : Array Value).toList := by
  obtain ⟨g, o, e, hc, hS, hg, hr⟩ := h.at hj
  obtain ⟨ds, h4, h5⟩ := UmL.at ks xs j hj hl
  obtain ⟨x0, x1, x2, x3, rfl⟩ := arr4 h4.size
  refine ⟨g, o, e, hc, hS, hg, x0, x1, x2, x3, h4, hr _ fun i hi => ?_⟩
  have hi4 : i < 4 := by simpa using hi
  rw [h5 i hi4]
  simp
theorem UmV.cells {S : Nat → Prop} {w : World} {t : Tm} {cs : Array Value} (h : UmV S w t cs) : ∃ ao cap xs, cs = #[.int .i8 ((t.op : Nat) : Int), cs[1]!, cs[2]!, .slice ao t.ks.length cap] ∧ Rx S 4 w (.slice ao t.ks.length cap) t.ks.length xs ∧ UmL S w t.ks xs := by
  obtain ⟨op, fd, n, ks⟩ := t
  obtain ⟨v, xs, rfl, h2, h3⟩ := h.get
  obtain ⟨ao, cap, rfl⟩ := h2.form
  exact ⟨ao, cap, xs, rfl, h2, h3⟩
set_option maxHeartbeats 6400000 in
theorem says8_any (t : Tm) (cs : Array Value) (what : Int) (w : World) (h : UmV (fun b => b < w.heap.size) w t cs) (hk : t.op = 6 → t.ks ≠ []) : Calls Tryd.prog 101 #[.agg cs, .int .i8 what] w fun e w' => e = .returned (.bool (decide ((hd t : Int) = what))) ∧ Below w.heap.size w w' := by
  obtain ⟨op, fd, n, ks⟩ := t
  obtain ⟨v, xs, rfl, h2, h3⟩ := h.get
  obtain ⟨ao, cap, rfl⟩ := h2.form
  have hB1 : Below w.heap.size w (w.alloc (.cells (tmc op fd n (.slice ao ks.length cap)) 26)) := (Below.refl _ _).alloc (Nat.le_refl _) _
  have hN1 : (w.alloc (.cells (tmc op fd n (.slice ao ks.length cap)) 26)).heap[w.heap.size]? = some (.cells (tmc op fd n (.slice ao ks.length cap)) 26 (0, 0)) := heap_alloc_new _ _
  by_cases h6 : op = 6
  · obtain ⟨k, ks', rfl⟩ := List.exists_cons_of_ne_nil (hk h6)
    obtain ⟨g, o, rfl, hc, hg, -, x0, x1, x2, x3, hkv, hra⟩ := UmL.kid h2 h3 (j := 0) (by simp)
    simp only [List.getElem_cons_zero, Nat.zero_mul, Nat.add_zero] at hkv hra
    obtain ⟨kop, kfd, kn, kks⟩ := k
    obtain ⟨kv, kxs, hcs, hk2, -⟩ := hkv.get
    obtain ⟨kao, kcap, rfl⟩ := hk2.form
    replace hra : w.rangeAt g o (tmc kop kfd kn (.slice kao kks.length kcap)).toList := by rw [← hcs]; exact hra
    clear hcs hkv hk2 h2 h3 h hk
    have hr : (hd (.mk op fd n (.mk kop kfd kn kks :: ks')) : Int) = (kop : Int) := by rw [h6]; rfl
    rw [hr]
    have hr2 : decide ((kop : Int) = what) = ((kop : Int) == what) := by rw [Bool.eq_iff_iff]; simp
    rw [hr2]
    have g6 : (((op : Nat) : Int) == 6) = true := by rw [h6]; rfl
    have HRA : Hid ((w.alloc (.cells (tmc op fd n (.slice (some ⟨g, o, none⟩) (Tm.mk kop kfd kn kks :: ks').length cap)) 26)).rangeAt g o (tmc kop kfd kn (.slice kao kks.length kcap)).toList) := fun i v hi => (cell_same (hB1.block _ hg)).trans (hra i v hi)
    have hlen : 0 < (Tm.mk kop kfd kn kks :: ks').length := by simp
    generalize (Tm.mk kop kfd kn kks :: ks').length = L at hB1 hN1 HRA hlen hc ⊢
    obtain ⟨W1, hW1⟩ : ∃ W1, W1 = w.alloc (.cells (tmc op fd n (.slice (some ⟨g, o, none⟩) L cap)) 26) := ⟨_, rfl⟩
    have HE : Hid (w.alloc (.cells #[.int .i8 ((op : Nat) : Int), .int .i8 ((fd : Nat) : Int), .int .u64 ((n : Nat) : Int), .slice (some ⟨g, o, none⟩) L cap] 26) = W1) := hW1.symm
    rw [← hW1] at hB1 hN1 HRA
    have hl0 : decide ((0 : Int) < (L : Int)) = true := by simp; omega
    have hl1 : decide (0 < L) = true := by simp; omega
    have hcp : 0 < cap := by omega
    have c3 := (four_cells hN1).2.2.2
    have c0 := (four_cells hN1).1
    have HN1 := hid hN1
    have HB1 := hid hB1
    clear h6 hr hr2 hW1 hB1 hN1
    go_enter Tryd.func101, Tryd.ntmps101
    go_upto_region 1 with fail
    rw [show w.alloc (.cells #[.int .i8 ((op : Nat) : Int), .int .i8 ((fd : Nat) : Int), .int .u64 ((n : Nat) : Int), .slice (some ⟨g, o, none⟩) L cap] 26) = W1 from HE.out]
    clear HE
    have HN2 : Hid ((W1.setRow w.heap.size (tmc kop kfd kn (.slice kao kks.length kcap))).heap[w.heap.size]? = some (.cells (tmc kop kfd kn (.slice kao kks.length kcap)) 26 (0, 0))) := setRow_heap W1 _ _ _ _ _ HN1.out
    have HB2 : Hid (Below w.heap.size w (W1.setRow w.heap.size (tmc kop kfd kn (.slice kao kks.length kcap)))) := bel_row HB1.out (Nat.le_refl _) _
    have k0 := (four_cells HN2.out).1
    go_wp2_with (first
      | (refine ldMid 26 (.tmp 10) rfl rfl g o rfl (tmc kop kfd kn (.slice kao kks.length kcap)) _ Tryd.underlying26 rfl sizeTM HRA.out ?_)
      | (refine stRow 26 (.tmp 2) (.tmp 11) rfl rfl w.heap.size (tmc kop kfd kn (.slice kao kks.length kcap)) rfl rfl 26 _ HN1.out sizeTM rfl (tic_one _ _ _ _ _ _) ?_))
    go_ret
    exact ⟨rfl, HB2.out⟩
  · have hr : hd (.mk op fd n ks) = op := hd_not h6
    rw [hr]
    have hr2 : decide ((op : Int) = what) = ((op : Int) == what) := by rw [Bool.eq_iff_iff]; simp
    rw [hr2]
    have g6 : (((op : Nat) : Int) == 6) = false := beq_eq_false_iff_ne.2 (by omega)
    have HB1 := hid hB1
    clear hB1 hN1 hr hr2 h6 h h2 h3 hk
    go_enter Tryd.func101, Tryd.ntmps101
    go_wp2
    go_ret
    exact ⟨rfl, HB1.out⟩
theorem UmV.of {S : Nat → Prop} {w : World} {op fd n : Nat} {ks : List Tm} {v : Value} {xs : List Value} (h : Rx S 4 w v ks.length xs) (hl : UmL S w ks xs) : UmV S w (.mk op fd n ks) (tmc op fd n v) := by
  unfold UmV
  rw [ti, TiV, tis_len]
  exact ⟨v, xs, rfl, h, hl⟩
theorem UmV.leaf (S : Nat → Prop) (w : World) (op fd n : Nat) (ao : Option Addr) (c : Nat) : UmV S w (.mk op fd n []) (tmc op fd n (.slice ao 0 c)) := UmV.of ⟨rfl, ao, c, rfl, Nat.zero_le _, fun h => absurd rfl h⟩ (by unfold UmL; rw [tis, TiL])
/-- a slice of one term, just made -/
theorem UmV.bld {S T : Nat → Prop} {w : World} {t : Tm} {cs : Array Value} (h : UmV S w t cs) (op : Nat) (hT : T w.heap.size) (hST : ∀ b, b < w.heap.size → S b → T b) : UmV T (w.alloc (.cells cs 26)) (.mk op 0 0 [t]) (tmc op 0 0 (.slice (some ⟨w.heap.size, 0, none⟩) 1 1)) := by
  have hs := h.size
  refine UmV.of (xs := cs.toList) ⟨by simp [hs], _, _, rfl, Nat.le_refl _, fun _ => ⟨_, _, rfl, hT, by simp, range_blk (heap_alloc_new _ _), rfl, cs, heap_alloc_new _ _, by rw [hs]; exact Nat.le_refl _⟩⟩ ?_
  unfold UmL
  rw [tis, tis, TiL]
  exact ⟨cs, [], by simp, um_on h fun b hb hS => ⟨hST b hb hS, heap_alloc_old _ _ hb⟩, by rw [TiL]⟩
set_option maxHeartbeats 6400000 in
theorem saying8_any (what op : Nat) (w : World) (hT : TabP w) (hz : 3 ≤ w.heap.size) (ho : op < 11) : Calls Tryd.prog 102 #[.int .i8 ((what : Nat) : Int), .int .i8 ((op : Nat) : Int)] w fun e w' => ∃ ds, e = .returned (.agg ds) ∧ Below w.heap.size w w' ∧ UmV (fun b => w.heap.size ≤ b) w' (sayT what op) ds := by
  have hbt := fun W => run_bt0 ((what : Nat) : Int) W
  obtain ⟨W1, hW1⟩ : ∃ W1, W1 = (w.alloc (.cells (tmc 0 0 0 nilS) 26)).alloc (.cells (tmc what 0 0 nilS) 26) := ⟨_, rfl⟩
  have hB1 : Below w.heap.size w W1 := by rw [hW1]; exact ((Below.refl _ _).alloc (Nat.le_refl _) _).alloc (by simp) _
  have hR1 : W1.heap[w.heap.size]? = some (.cells (tmc 0 0 0 nilS) 26 (0, 0)) := by rw [hW1]; exact (heap_alloc_old _ _ (by simp)).trans (heap_alloc_new _ _)
  have hN1 : W1.heap[w.heap.size + 1]? = some (.cells (tmc what 0 0 nilS) 26 (0, 0)) := by rw [hW1]; have := heap_alloc_new (w.alloc (.cells (tmc 0 0 0 nilS) 26)) (.cells (tmc what 0 0 nilS) 26); simpa using this
  have hsz : W1.heap.size = w.heap.size + 1 + 1 := by rw [hW1]; simp
  have HE : Hid ((w.alloc (.cells #[.int .i8 0, .int .i8 0, .int .u64 0, .slice none 0 0] 26)).alloc (.cells #[.int .i8 ((what : Nat) : Int), .int .i8 0, .int .u64 0, .slice none 0 0] 26) = W1) := hW1.symm
  have c0 : W1.cell? ⟨0, op * 5, none⟩ = some (.int .i8 ((wsd op : Nat) : Int)) := (hT.on hB1 hz).wt op ho 0 _ rfl
  have g11 : decide ((11 : Int) ≤ (op : Int)) = false := decide_eq_false (by omega)
  have HB1 := hid hB1
  have HR1 := hid hR1
  have HN1 := hid hN1
  have HSZ := hid hsz
  clear hW1 hB1 hR1 hN1 hsz hT
  go_enter Tryd.func102, Tryd.ntmps102
  go_upto_region 2 with (refine stNew 26 (.tmp 5) (.tmp 7) rfl rfl (w.alloc (.cells (tmc 0 0 0 nilS) 26)) 26 (tmc 0 0 0 nilS) (tmc what 0 0 nilS) rfl rfl rfl sizeTM rfl rfl ?_)
  rw [show (w.alloc (.cells #[.int .i8 0, .int .i8 0, .int .u64 0, .slice none 0 0] 26)).alloc (.cells #[.int .i8 ((what : Nat) : Int), .int .i8 0, .int .u64 0, .slice none 0 0] 26) = W1 from HE.out]
  clear HE
  by_cases h6 : 6 ≤ op
  · have hw1 : wsd op = 1 := by unfold wsd; rw [if_neg (by omega)]
    rw [hw1] at c0
    have hs : sayT what op = .mk 6 0 0 [leaf what] := by unfold sayT; rw [if_pos h6]
    have HSy := hid hs
    have hO := over8_any 6 (some ⟨W1.heap.size, 0, none⟩) 1 1 (W1.alloc (.cells (tmc what 0 0 nilS) 26))
    have HO := hid hO
    have HU : Hid (UmV (fun b => w.heap.size < b) (W1.alloc (.cells (tmc what 0 0 nilS) 26)) (.mk 6 0 0 [leaf what]) (tmc 6 0 0 (.slice (some ⟨W1.heap.size, 0, none⟩) 1 1))) := (UmV.leaf (fun b => w.heap.size < b) W1 what 0 0 none 0).bld 6 (by have := HSZ.out; omega) (fun b _ h => h)
    have HB2 : Hid (Below W1.heap.size W1 (W1.alloc (.cells (tmc what 0 0 nilS) 26))) := (Below.refl _ _).alloc (Nat.le_refl _) _
    clear hO hs h6 hw1
    go_wp2_with (first
      | (refine ldRow 26 (.tmp 5) rfl rfl (w.heap.size + 1) rfl 26 (tmc what 0 0 nilS) _ Tryd.underlying26 rfl sizeTM HN1.out ?_)
      | (refine bldSl 24 26 (.tmp 13) rfl rfl (tmc what 0 0 nilS) rfl Tryd.underlying24 _ _ _ rfl rfl rfl rfl (by decide) (by decide) ?_)
      | (refine stRow 26 (.tmp 4) (.tmp 15) rfl rfl w.heap.size (tmc 6 0 0 (.slice (some ⟨W1.heap.size, 0, none⟩) 1 1)) rfl rfl 26 (tmc 0 0 0 nilS) HR3.out sizeTM rfl (tic_one _ _ _ _ _ _) ?_)
      | (go_at_call 98; refine (HO.out).mono ?_; rintro e w3 ⟨rfl, hw⟩; have HB3 := hid hw; have HR3 := hid ((hw.block w.heap.size (by have := HSZ.out; have := HB2.out.size; omega)).trans ((HB2.out.block w.heap.size (by have := HSZ.out; omega)).trans HR1.out)); clear hw HO))
    have hbR : Below w.heap.size w (w3.setRow w.heap.size (tmc 6 0 0 (.slice (some ⟨W1.heap.size, 0, none⟩) 1 1))) := bel_row (HB1.out.trans ((HB2.out.trans (HB3.out.mono HB2.out.size)).mono HB1.out.size)) (Nat.le_refl _) _
    refine bodyPost_ret (v := .agg (tmc 6 0 0 (.slice (some ⟨W1.heap.size, 0, none⟩) 1 1))) (res_tm Tryd.results102 _ _ w.heap.size _ sizeTM rfl (setRow_heap w3 _ _ _ _ _ HR3.out)) rfl ?_
    refine ⟨_, rfl, hbR, ?_⟩
    rw [HSy.out]
    exact um_on HU.out fun b hb hS => ⟨by omega, (setRow_other w3 _ b _ (by omega)).trans (HB3.out.block b hb)⟩
  · have hw1 : wsd op = 0 := by unfold wsd; rw [if_pos (by omega)]
    rw [hw1] at c0
    have hs : sayT what op = leaf what := by unfold sayT; rw [if_neg h6]
    have HSy := hid hs
    clear hs h6 hw1
    go_wp2_with (first
      | (refine ldRow 26 (.tmp 5) rfl rfl (w.heap.size + 1) rfl 26 (tmc what 0 0 nilS) _ Tryd.underlying26 rfl sizeTM HN1.out ?_)
      | (refine stRow 26 (.tmp 4) (.tmp 16) rfl rfl w.heap.size (tmc what 0 0 nilS) rfl rfl 26 (tmc 0 0 0 nilS) HR1.out sizeTM rfl (tic_one _ _ _ _ _ _) ?_))
    have hbR : Below w.heap.size w (W1.setRow w.heap.size (tmc what 0 0 nilS)) := bel_row HB1.out (Nat.le_refl _) _
    refine bodyPost_ret (v := .agg (tmc what 0 0 nilS)) (res_tm Tryd.results102 _ _ w.heap.size _ sizeTM rfl (setRow_heap W1 _ _ _ _ _ HR1.out)) rfl ?_
    exact ⟨_, rfl, hbR, by rw [HSy.out]; exact UmV.leaf _ _ _ _ _ _ _⟩
end Go.Proofs.YtjallmncajhamaaDoor
