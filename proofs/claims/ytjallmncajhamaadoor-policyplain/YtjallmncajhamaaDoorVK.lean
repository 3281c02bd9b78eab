/-
  Proved here: filter, is and joined of the document's layer 18. Conditions: the terms lie in old memory; what is a Filter has its kid.
-/
import Derived.Test.YtjallmncajhamaaDoorVI
import Derived.Test.YtjallmncajhamaaDoorVB
namespace Go.Proofs.YtjallmncajhamaaDoor
open Go.RowKit
set_option maxRecDepth 100000

theorem run_btz (n : Nat) (W : World) : (Instr.build 26 #[(0, .int .i8 ((n : Nat) : Int))]).run Tryd.prog W = .ok (.agg #[.int .i8 ((n : Nat) : Int), .int .i8 0, .int .u64 0, .slice none 0 0]) W := by kernel_rfl
theorem tmc_one (op fd n : Nat) (ao : Option Addr) (l c : Nat) : (tmc op fd n (.slice ao l c)).all (·.oneCell') = true := by simp [Value.oneCell']
theorem um_lf9 (S : Nat → Prop) (w : World) (op : Nat) : UmV S w (leaf op) (tmc op 0 0 nilS) := by
  unfold UmV
  rw [ti_leaf]
  exact TiV.leaf _ _ _ _ _
theorem um_bld9 {S T : Nat → Prop} {w : World} {t : Tm} {c : Array Value} (h : UmV S w t c) (op : Nat) (hT : T w.heap.size) (hST : ∀ b, b < w.heap.size → S b → T b) : UmV T (w.alloc (.cells c 26)) (.mk op 0 0 [t]) (tmc op 0 0 (.slice (some ⟨w.heap.size, 0, none⟩) 1 1)) := by
  unfold UmV
  rw [ti, tis, tis]
  exact TiV.bld h (op : Int) hT hST
set_option maxHeartbeats 6400000 in
theorem rfil_any (what : Nat) (w : World) : Calls Tryd.prog 73 #[.int .i8 ((what : Nat) : Int)] w fun e w' => ∃ ds, e = .returned (.agg ds) ∧ Below w.heap.size w w' ∧ UmV (fun b => w.heap.size ≤ b) w' (.mk 6 0 0 [leaf what]) ds := by
  obtain ⟨W1, hW1⟩ : ∃ W1, W1 = w.alloc (.cells (tmc 0 0 0 nilS) 26) := ⟨_, rfl⟩
  have HE : Hid (w.alloc (.cells #[.int .i8 0, .int .i8 0, .int .u64 0, .slice none 0 0] 26) = W1) := hW1.symm
  have hb1 : Below w.heap.size w W1 := by rw [hW1]; exact (Below.refl _ _).alloc (Nat.le_refl _) _
  have hr1 : W1.heap[w.heap.size]? = some (.cells (tmc 0 0 0 nilS) 26 (0, 0)) := by rw [hW1]; exact heap_alloc_new _ _
  have hz1 : W1.heap.size = w.heap.size + 1 := by rw [hW1]; simp
  have HU : Hid (UmV (fun b => w.heap.size < b) (W1.alloc (.cells (tmc what 0 0 nilS) 26)) (.mk 6 0 0 [leaf what]) (tmc 6 0 0 (.slice (some ⟨W1.heap.size, 0, none⟩) 1 1))) := um_bld9 (um_lf9 (fun b => w.heap.size < b) W1 what) 6 (by omega) (fun b _ h => h)
  have HR2 : Hid ((W1.alloc (.cells (tmc what 0 0 nilS) 26)).heap[w.heap.size]? = some (.cells (tmc 0 0 0 nilS) 26 (0, 0))) := (heap_alloc_old _ _ (by omega)).trans hr1
  have HB2 : Hid (Below w.heap.size w (W1.alloc (.cells (tmc what 0 0 nilS) 26))) := hb1.alloc (by omega) _
  have hbz := fun W => run_btz what W
  have hbt := fun W => run_bt03 6 (some ⟨W1.heap.size, 0, none⟩) 1 1 W
  clear hW1 hb1 hr1 hz1
  go_enter Tryd.func73, Tryd.ntmps73
  go_upto_region 1 with fail
  rw [show w.alloc (.cells #[.int .i8 0, .int .i8 0, .int .u64 0, .slice none 0 0] 26) = W1 from HE.out]
  clear HE
  go_wp2_with (first
    | (refine bldSl 24 26 (.tmp 4) rfl rfl (tmc what 0 0 nilS) rfl Tryd.underlying24 _ _ _ rfl rfl rfl rfl (by decide) (by decide) ?_)
    | (refine stRow 26 (.tmp 2) (.tmp 6) rfl rfl w.heap.size (tmc 6 0 0 (.slice (some ⟨W1.heap.size, 0, none⟩) 1 1)) rfl rfl 26 (tmc 0 0 0 nilS) HR2.out sizeTM rfl (tmc_one _ _ _ _ _ _) ?_))
  refine bodyPost_ret (v := .agg (tmc 6 0 0 (.slice (some ⟨W1.heap.size, 0, none⟩) 1 1))) (res_tm Tryd.results73 _ _ w.heap.size _ sizeTM rfl (setRow_heap _ _ _ _ _ _ HR2.out)) rfl ?_
  exact ⟨_, rfl, bel_row HB2.out (Nat.le_refl _) _, um_on HU.out fun b _ hSb => ⟨by omega, setRow_other _ _ b _ (by omega)⟩⟩
set_option maxHeartbeats 6400000 in
theorem ris_any (f : Bool) (what : Nat) (t : Tm) (cs : Array Value) (w : World) (ht : UmV (fun b => b < w.heap.size) w t cs) (h6 : t.op = 6 → t.ks ≠ []) : Calls Tryd.prog 104 #[.agg cs, .int .i8 ((what : Nat) : Int), .bool f] w fun e w' => e = .returned (.bool (saysD f what t)) ∧ Below w.heap.size w w' := by
  obtain ⟨op, fd, n, ks⟩ := t
  obtain ⟨v, xs, rfl, h2, h3⟩ := ht.get
  obtain ⟨ao, cap, rfl⟩ := h2.form
  obtain ⟨W1, hW1⟩ : ∃ W1, W1 = w.alloc (.cells (tmc op fd n (.slice ao ks.length cap)) 26) := ⟨_, rfl⟩
  have HE : Hid (w.alloc (.cells #[.int .i8 ((op : Nat) : Int), .int .i8 ((fd : Nat) : Int), .int .u64 ((n : Nat) : Int), .slice ao ks.length cap] 26) = W1) := hW1.symm
  have HB : Hid (Below w.heap.size w W1) := by show Below _ _ _; rw [hW1]; exact (Below.refl _ _).alloc (Nat.le_refl _) _
  have hN : W1.heap[w.heap.size]? = some (.cells (tmc op fd n (.slice ao ks.length cap)) 26 (0, 0)) := by rw [hW1]; exact heap_alloc_new _ _
  have c0 := (four_cells hN).1
  have c3 := (four_cells hN).2.2.2
  obtain ⟨r, hr⟩ : ∃ r, r = saysD f what (.mk op fd n ks) := ⟨_, rfl⟩
  rw [← hr]
  clear hW1 hN ht
  cases f with
  | true =>
    by_cases e6 : op = 6
    · obtain ⟨k, ks', rfl⟩ := List.exists_cons_of_ne_nil (h6 e6)
      obtain ⟨g, o, rfl, hc, hg, hgl, y0, y1, y2, y3, hkv, hra⟩ := UmL.kid h2 h3 (j := 0) (by simp)
      simp only [List.getElem_cons_zero, Nat.zero_mul, Nat.add_zero] at hkv hra
      obtain ⟨kop, kfd, kn, kks⟩ := k
      obtain ⟨kv, kxs, ek, -, -⟩ := hkv.get
      simp only [Array.mk.injEq, List.cons.injEq, and_true] at ek
      obtain ⟨rfl, -, -, -⟩ := ek
      have k0 : W1.cell? ⟨g, o, none⟩ = some (.int .i8 ((kop : Nat) : Int)) := by
        have := hra 0 (.int .i8 ((kop : Nat) : Int)) (by simp)
        rw [Nat.add_zero] at this
        exact (cell_same (HB.out.block g hgl)).trans this
      have d6 : (((op : Nat) : Int) == 6) = true := by rw [e6]; rfl
      have d6' : decide (((op : Nat) : Int) = 6) = true := decide_eq_true (by omega)
      have d6'' : decide (op = 6) = true := decide_eq_true e6
      have dr : (((kop : Nat) : Int) == ((what : Nat) : Int)) = r := by
        rw [hr]; unfold saysD
        rw [if_pos rfl]
        show _ = (decide (op = 6) && decide (kop = what))
        rw [d6'', Bool.true_and, Bool.eq_iff_iff]; simp; omega
      have dr' : decide (((kop : Nat) : Int) = ((what : Nat) : Int)) = r := by rw [← dr]; rfl
      have dr'' : decide (kop = what) = r := by rw [← dr']; exact decide_eq_decide.2 (by omega)
      have hl0 : 0 < (Tm.mk kop kfd kn kks :: ks').length := by simp
      generalize (Tm.mk kop kfd kn kks :: ks').length = L at HE c3 hl0 ⊢
      have dl : decide (0 < L) = true := decide_eq_true hl0
      clear hr e6 hra hkv h2 h3 h6
      go_enter Tryd.func104, Tryd.ntmps104
      go_upto_region 1 with fail
      rw [show w.alloc (.cells #[.int .i8 ((op : Nat) : Int), .int .i8 ((fd : Nat) : Int), .int .u64 ((n : Nat) : Int), .slice (some ⟨g, o, none⟩) L cap] 26) = W1 from HE.out]
      clear HE
      go_wp2
      go_ret
      exact ⟨rfl, HB.out⟩
    · have d6 : (((op : Nat) : Int) == 6) = false := beq_eq_false_iff_ne.2 (by omega)
      have d6' : decide (((op : Nat) : Int) = 6) = false := decide_eq_false (by omega)
      have d6'' : decide (op = 6) = false := decide_eq_false e6
      obtain rfl : r = false := by
        rw [hr]; unfold saysD
        rw [if_pos rfl]
        show (decide (op = 6) && _) = _
        rw [d6'']; rfl
      clear hr h2 h3 h6 e6
      go_enter Tryd.func104, Tryd.ntmps104
      go_upto_region 1 with fail
      rw [show w.alloc (.cells #[.int .i8 ((op : Nat) : Int), .int .i8 ((fd : Nat) : Int), .int .u64 ((n : Nat) : Int), .slice ao ks.length cap] 26) = W1 from HE.out]
      clear HE
      go_wp2
      go_ret
      exact ⟨rfl, HB.out⟩
  | false =>
    have dr : (((op : Nat) : Int) == ((what : Nat) : Int)) = r := by
      rw [hr]; unfold saysD
      rw [if_neg (by decide)]
      show _ = decide (op = what)
      rw [Bool.eq_iff_iff]; simp; omega
    have dr' : decide (((op : Nat) : Int) = ((what : Nat) : Int)) = r := by rw [← dr]; rfl
    have dr'' : decide (op = what) = r := by rw [← dr']; exact decide_eq_decide.2 (by omega)
    clear hr h2 h3 h6
    go_enter Tryd.func104, Tryd.ntmps104
    go_upto_region 1 with fail
    rw [show w.alloc (.cells #[.int .i8 ((op : Nat) : Int), .int .i8 ((fd : Nat) : Int), .int .u64 ((n : Nat) : Int), .slice ao ks.length cap] 26) = W1 from HE.out]
    clear HE
    go_wp2
    go_ret
    exact ⟨rfl, HB.out⟩
/-- a row that is left -/
def finD (op : Nat) (none : Tm) : List Tm → Tm
  | [] => none
  | [x] => x
  | a :: b :: l => .mk op 0 0 (a :: b :: l)
set_option maxHeartbeats 6400000 in
theorem rjoin_any (op : Nat) (ks : List Tm) (no : Tm) (ao : Option Addr) (cap : Nat) (xs : List Value) (cs : Array Value) (S : Nat → Prop) (w : World) (hl : ks.length ≤ 4096) (h2 : Rx S 4 w (.slice ao ks.length cap) ks.length xs) (h3 : UmL S w ks xs) (hn : UmV S w no cs) : Calls Tryd.prog 72 #[.int .i8 ((op : Nat) : Int), .slice ao ks.length cap, .agg cs] w fun e w' => ∃ ds, e = .returned (.agg ds) ∧ Below w.heap.size w w' ∧ UmV (fun b => b < w.heap.size ∧ S b) w' (finD op no ks) ds := by
  have hn4 := hn.size
  obtain ⟨x0, x1, x2, x3, rfl⟩ := arr4 hn4
  obtain ⟨W1, hW1⟩ : ∃ W1, W1 = (w.alloc (.cells #[x0, x1, x2, x3] 26)).alloc (.cells (tmc 0 0 0 nilS) 26) := ⟨_, rfl⟩
  have HE : Hid ((w.alloc (.cells #[x0, x1, x2, x3] 26)).alloc (.cells #[.int .i8 0, .int .i8 0, .int .u64 0, .slice none 0 0] 26) = W1) := hW1.symm
  have HT : Hid (Tw w #[x0, x1, x2, x3] W1) := by show Tw _ _ _; rw [hW1]; exact Tw.new _ _
  have HO := hid hn.one
  clear hW1
  match ks, hl, h2, h3 with
  | [], _, h2, h3 =>
    have HU : Hid (UmV (fun b => b < w.heap.size ∧ S b) W1 no #[x0, x1, x2, x3]) := um_on hn fun b hb hS => ⟨⟨hb, hS⟩, HT.out.b.block b hb⟩
    clear h2 h3 hn
    go_enter Tryd.func72, Tryd.ntmps72
    go_upto_region 1 with fail
    rw [show (w.alloc (.cells #[x0, x1, x2, x3] 26)).alloc (.cells #[.int .i8 0, .int .i8 0, .int .u64 0, .slice none 0 0] 26) = W1 from HE.out]
    clear HE
    go_wp2_with (first
      | (refine ldRow 26 (.tmp 5) rfl rfl w.heap.size rfl 26 #[x0, x1, x2, x3] _ Tryd.underlying26 rfl sizeTM HT.out.n ?_)
      | (refine stRow 26 (.tmp 6) (.tmp 10) rfl rfl (w.heap.size + 1) #[x0, x1, x2, x3] rfl rfl 26 (tmc 0 0 0 nilS) HT.out.r sizeTM rfl HO.out ?_))
    refine bodyPost_ret (v := .agg #[x0, x1, x2, x3]) (res_tm Tryd.results72 _ _ (w.heap.size + 1) _ sizeTM rfl (setRow_heap _ _ _ _ _ _ HT.out.r)) rfl ?_
    exact ⟨_, rfl, bel_row HT.out.b (by omega) _, um_on HU.out fun b _ hSb => ⟨hSb, setRow_other _ _ b _ (by omega)⟩⟩
  | [x], _, h2, h3 =>
    obtain ⟨g, o, rfl, hc, hg, hgl, y0, y1, y2, y3, hkv, hra⟩ := UmL.kid h2 h3 (j := 0) (by simp)
    simp only [List.getElem_cons_zero, Nat.zero_mul, Nat.add_zero] at hkv hra
    have HRA : Hid (W1.rangeAt g o (#[y0, y1, y2, y3] : Array Value).toList) := fun i v hi => (cell_same (HT.out.b.block g hgl)).trans (hra i v hi)
    have HOk := hid hkv.one
    have HU : Hid (UmV (fun b => b < w.heap.size ∧ S b) W1 x #[y0, y1, y2, y3]) := um_on hkv fun b hb hS => ⟨⟨hb, hS⟩, HT.out.b.block b hb⟩
    clear h2 h3 hn hkv hra
    go_enter Tryd.func72, Tryd.ntmps72
    go_upto_region 1 with fail
    rw [show (w.alloc (.cells #[x0, x1, x2, x3] 26)).alloc (.cells #[.int .i8 0, .int .i8 0, .int .u64 0, .slice none 0 0] 26) = W1 from HE.out]
    clear HE
    go_wp2_with (first
      | (refine ldMid 26 (.tmp 15) rfl rfl g o rfl #[y0, y1, y2, y3] _ Tryd.underlying26 rfl sizeTM HRA.out ?_)
      | (refine stRow 26 (.tmp 6) (.tmp 16) rfl rfl (w.heap.size + 1) #[y0, y1, y2, y3] rfl rfl 26 (tmc 0 0 0 nilS) HT.out.r sizeTM rfl HOk.out ?_))
    refine bodyPost_ret (v := .agg #[y0, y1, y2, y3]) (res_tm Tryd.results72 _ _ (w.heap.size + 1) _ sizeTM rfl (setRow_heap _ _ _ _ _ _ HT.out.r)) rfl ?_
    exact ⟨_, rfl, bel_row HT.out.b (by omega) _, um_on HU.out fun b _ hSb => ⟨hSb, setRow_other _ _ b _ (by omega)⟩⟩
  | a :: b :: l, hl, h2, h3 =>
    have HU : Hid (UmV (fun b => b < w.heap.size ∧ S b) W1 (.mk op 0 0 (a :: b :: l)) (tmc op 0 0 (.slice ao (a :: b :: l).length cap))) := by
      have hc : ∀ q, q < w.heap.size → S q → (q < w.heap.size ∧ S q) ∧ W1.heap[q]? = w.heap[q]? := fun q hb hS => ⟨⟨hb, hS⟩, HT.out.b.block q hb⟩
      show UmV _ _ _ _
      unfold UmV
      rw [ti, TiV]
      refine ⟨_, xs, rfl, ?_, TiL.carry hc _ _ h3⟩
      rw [tis_len]
      exact h2.carry hc
    have hL2 : 2 ≤ (a :: b :: l).length := by simp
    show Calls _ _ _ _ fun e w' => ∃ ds, e = .returned (.agg ds) ∧ Below w.heap.size w w' ∧ UmV (fun b => b < w.heap.size ∧ S b) w' (.mk op 0 0 (a :: b :: l)) ds
    generalize a :: b :: l = ks at HU hL2 hl ⊢
    obtain ⟨L, hL⟩ : ∃ L, L = ks.length := ⟨_, rfl⟩
    rw [← hL] at HU hL2 hl ⊢
    have e0 : (((L : Nat) : Int) == 0) = false := beq_eq_false_iff_ne.2 (by omega)
    have e0' : decide (((L : Nat) : Int) = 0) = false := decide_eq_false (by omega)
    have e0'' : decide (L = 0) = false := decide_eq_false (by omega)
    have e1 : (((L : Nat) : Int) == 1) = false := beq_eq_false_iff_ne.2 (by omega)
    have e1' : decide (((L : Nat) : Int) = 1) = false := decide_eq_false (by omega)
    have e1'' : decide (L = 1) = false := decide_eq_false (by omega)
    have hbt := fun W => run_bt03 ((op : Nat) : Int) ao L cap W
    clear hL h2 h3 hn
    go_enter Tryd.func72, Tryd.ntmps72
    go_upto_region 1 with fail
    rw [show (w.alloc (.cells #[x0, x1, x2, x3] 26)).alloc (.cells #[.int .i8 0, .int .i8 0, .int .u64 0, .slice none 0 0] 26) = W1 from HE.out]
    clear HE
    go_wp2_with (refine stRow 26 (.tmp 6) (.tmp 19) rfl rfl (w.heap.size + 1) (tmc op 0 0 (.slice ao L cap)) rfl rfl 26 (tmc 0 0 0 nilS) HT.out.r sizeTM rfl (tmc_one _ _ _ _ _ _) ?_)
    refine bodyPost_ret (v := .agg (tmc op 0 0 (.slice ao L cap))) (res_tm Tryd.results72 _ _ (w.heap.size + 1) _ sizeTM rfl (setRow_heap _ _ _ _ _ _ HT.out.r)) rfl ?_
    exact ⟨_, rfl, bel_row HT.out.b (by omega) _, um_on HU.out fun b _ hSb => ⟨hSb, setRow_other _ _ b _ (by omega)⟩⟩
end Go.Proofs.YtjallmncajhamaaDoor
