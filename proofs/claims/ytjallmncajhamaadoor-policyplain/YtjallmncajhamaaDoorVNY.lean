/-
  Proved here: plain of the document's layer 18 at terms of some Ops. Conditions: at most 4096 terms; the term is a predicate (or a policy).
-/
import Derived.Test.YtjallmncajhamaaDoorVM
namespace Go.Proofs.YtjallmncajhamaaDoor
open Go.RowKit
set_option maxRecDepth 100000

set_option maxHeartbeats 25600000 in
theorem rplain_6 (N : Nat) (HIH : Hid (∀ (t : Tm) (cs : Array Value) (b : Bool) (S : Nat → Prop) (w : World), sz t ≤ N → N ≤ 4096 → oneT b t = true → UmV S w t cs → Calls Tryd.prog 47 #[.agg cs] w fun e w' => ∃ ds, e = .returned (.agg ds) ∧ Below w.heap.size w w' ∧ UmV (Old S w) w' (pl t) ds)) (fd n : Nat) (ks : List Tm) (cs : Array Value) (b : Bool) (S : Nat → Prop) (w : World) (hN : sz (.mk 6 fd n ks) ≤ N + 1) (hsm : N + 1 ≤ 4096) (h1 : oneT b (.mk 6 fd n ks) = true) (ht : UmV S w (.mk 6 fd n ks) cs) : Calls Tryd.prog 47 #[.agg cs] w fun e w' => ∃ ds, e = .returned (.agg ds) ∧ Below w.heap.size w w' ∧ UmV (Old S w) w' (pl (.mk 6 fd n ks)) ds := by
  obtain ⟨v, xs, rfl, h2, h3⟩ := ht.get
  obtain ⟨ao, cap, rfl⟩ := h2.form
  obtain ⟨s1, l1, l2, w1, ok⟩ := oneT_iff.1 h1
  rw [sz] at hN
  have hkl : ks.length ≤ 4096 := by have := len_le_szs ks; omega
  obtain ⟨W1, hW1⟩ : ∃ W1, W1 = (w.alloc (.cells (tmc 6 fd n (.slice ao ks.length cap)) 26)).alloc (.cells (tmc 0 0 0 nilS) 26) := ⟨_, rfl⟩
  have HE : Hid ((w.alloc (.cells (tmc 6 fd n (.slice ao ks.length cap)) 26)).alloc (.cells #[.int .i8 0, .int .i8 0, .int .u64 0, .slice none 0 0] 26) = W1) := hW1.symm
  have HT : Hid (Tw w (tmc 6 fd n (.slice ao ks.length cap)) W1) := by show Tw _ _ _; rw [hW1]; exact Tw.new _ _
  have c0 := (four_cells HT.out.n).1
  have c3 := (four_cells HT.out.n).2.2.2
  have HZ := hid HT.out.sz
  clear hW1
  obtain ⟨k, rfl⟩ := len_one l1 l2
  obtain ⟨g, o, rfl, hc, hg, hgl, y0, y1, y2, y3, hkv, hra⟩ := UmL.kid h2 h3 (j := 0) (by simp)
  simp only [List.getElem_cons_zero, Nat.zero_mul, Nat.add_zero] at hkv hra
  have hok := ok k (List.mem_cons_self ..)
  have hks : sz k ≤ N := by rw [szs, szs] at hN; omega
  have hw : fd = 0 ∧ n = 0 := by simpa [nwT] using w1
  obtain ⟨rfl, rfl⟩ := hw
  have HRA : Hid (W1.rangeAt g o (#[y0, y1, y2, y3] : Array Value).toList) := fun i v hi => (cell_same (HT.out.b.block g hgl)).trans (hra i v hi)
  have HC := hid (HIH.out k #[y0, y1, y2, y3] _ (fun b => b < w.heap.size ∧ S b) W1 hks (by omega) hok (um_on hkv fun b hb hS => ⟨⟨hb, hS⟩, HT.out.b.block b hb⟩))
  have HGK := hid (gd_pl _ k hok (by omega))
  have hc1 : 1 ≤ cap := hc
  have HPl : Hid (pl (.mk 6 0 0 [k]) = .mk 6 0 0 [pl k]) := by show _ = _; rw [pl_mk]; rfl
  clear h1 h2 h3 ht s1 l1 l2 w1 ok hN hkl hra hkv hg hgl hok hks hc
  go_enter Tryd.func47, Tryd.ntmps47
  go_upto_region 1 with fail
  rw [show (w.alloc (.cells (tmc 6 0 0 (.slice (some ⟨g, o, none⟩) 1 cap)) 26)).alloc (.cells #[.int .i8 0, .int .i8 0, .int .u64 0, .slice none 0 0] 26) = W1 from HE.out]
  clear HE
  go_upto_region 23 with fail
  go_wp2_with (first
    | (refine ldMid 26 (.tmp 67) rfl rfl g o rfl #[y0, y1, y2, y3] _ Tryd.underlying26 rfl sizeTM HRA.out ?_)
    | (go_at_call 47; refine (HC.out).mono ?_; rintro e w3 ⟨ds, rfl, hw, hd⟩; have HW3 := hid hw; have HD3 := hid hd; have hds4 := hd.size; have hbt := fun W => run_bt03 6 (some ⟨w3.heap.size, 0, none⟩) 1 1 W; have HR3 : Hid ((w3.alloc (.cells ds 26)).heap[w.heap.size + 1]? = some (.cells (tmc 0 0 0 nilS) 26 (0, 0))) := (heap_alloc_old _ _ (by have := hw.size; have := HZ.out; omega)).trans ((hw.block _ (by have := HZ.out; omega)).trans HT.out.r); clear hw hd HC)
    | (refine bldSl 24 26 (.tmp 69) rfl rfl ds rfl Tryd.underlying24 _ _ _ rfl rfl rfl hds4 (by decide) (by decide) ?_)
    | (refine stRow 26 (.tmp 2) (.tmp 71) rfl rfl (w.heap.size + 1) (tmc 6 0 0 (.slice (some ⟨w3.heap.size, 0, none⟩) 1 1)) rfl rfl 26 (tmc 0 0 0 nilS) HR3.out sizeTM rfl (tmc_one _ _ _ _ _ _) ?_))
  refine bodyPost_ret (v := .agg (tmc 6 0 0 (.slice (some ⟨w3.heap.size, 0, none⟩) 1 1))) (res_tm Tryd.results47 _ _ (w.heap.size + 1) _ sizeTM rfl (setRow_heap _ _ _ _ _ _ HR3.out)) rfl ?_
  rw [HPl.out]
  have hz := HZ.out
  have hz3 := HW3.out.size
  have hb3 : Below w.heap.size w (w3.alloc (.cells ds 26)) := (HT.out.b.trans (HW3.out.mono HT.out.b.size)).alloc (by omega) _
  refine ⟨_, rfl, tw_fin hb3 (um_bld9 HD3.out 6 (Or.inr (by omega)) fun b hb hS => ?_)⟩
  rcases hS with ⟨-, h⟩ | h
  · exact Or.inl h
  · exact Or.inr (by omega)
end Go.Proofs.YtjallmncajhamaaDoor
namespace Go.Proofs.YtjallmncajhamaaDoor
open Go.RowKit
set_option maxRecDepth 100000

set_option maxHeartbeats 25600000 in
theorem rplain_8 (N : Nat) (HIH : Hid (∀ (t : Tm) (cs : Array Value) (b : Bool) (S : Nat → Prop) (w : World), sz t ≤ N → N ≤ 4096 → oneT b t = true → UmV S w t cs → Calls Tryd.prog 47 #[.agg cs] w fun e w' => ∃ ds, e = .returned (.agg ds) ∧ Below w.heap.size w w' ∧ UmV (Old S w) w' (pl t) ds)) (fd n : Nat) (ks : List Tm) (cs : Array Value) (b : Bool) (S : Nat → Prop) (w : World) (hN : sz (.mk 8 fd n ks) ≤ N + 1) (hsm : N + 1 ≤ 4096) (h1 : oneT b (.mk 8 fd n ks) = true) (ht : UmV S w (.mk 8 fd n ks) cs) : Calls Tryd.prog 47 #[.agg cs] w fun e w' => ∃ ds, e = .returned (.agg ds) ∧ Below w.heap.size w w' ∧ UmV (Old S w) w' (pl (.mk 8 fd n ks)) ds := by
  obtain ⟨v, xs, rfl, h2, h3⟩ := ht.get
  obtain ⟨ao, cap, rfl⟩ := h2.form
  obtain ⟨s1, l1, l2, w1, ok⟩ := oneT_iff.1 h1
  rw [sz] at hN
  have hkl : ks.length ≤ 4096 := by have := len_le_szs ks; omega
  obtain ⟨W1, hW1⟩ : ∃ W1, W1 = (w.alloc (.cells (tmc 8 fd n (.slice ao ks.length cap)) 26)).alloc (.cells (tmc 0 0 0 nilS) 26) := ⟨_, rfl⟩
  have HE : Hid ((w.alloc (.cells (tmc 8 fd n (.slice ao ks.length cap)) 26)).alloc (.cells #[.int .i8 0, .int .i8 0, .int .u64 0, .slice none 0 0] 26) = W1) := hW1.symm
  have HT : Hid (Tw w (tmc 8 fd n (.slice ao ks.length cap)) W1) := by show Tw _ _ _; rw [hW1]; exact Tw.new _ _
  have c0 := (four_cells HT.out.n).1
  have c3 := (four_cells HT.out.n).2.2.2
  have HZ := hid HT.out.sz
  clear hW1
  obtain ⟨g1, g2, -⟩ := gd_pls _ ks ok (by omega)
  rw [pls_map] at g1 g2
  have HSide : Hid (∀ k ∈ ks.map pl, oneT (decide (8 ≤ 5)) k = true ∧ Nf k) := g1
  have HRo := hid (rrow_any (fun b => b < w.heap.size ∧ S b) 8 fd n 0 0 true ks (tmc 8 fd n (.slice ao ks.length cap)) W1 (um_on ht fun b hb hS => ⟨⟨hb, hS⟩, HT.out.b.block b hb⟩) (by omega) hkl (row_good rfl fun k hk => (g1 k hk).1) (fun S1 j hj cs W hv => HIH.out ks[j] cs _ S1 W (by have := szs_mem (List.getElem_mem hj); omega) (by omega) (ok _ (List.getElem_mem hj)) hv))
  have HLo : Hid ((outD 8 0 true (ks.map pl)).length ≤ 4096) := by
    show _ ≤ _
    unfold outD
    exact Nat.le_trans (List.length_filter_le _ _) (Nat.le_trans (flt_len _ _) (by omega))
  clear h1 h2 h3 ht s1 l1 l2 w1 ok hN g1 g2
  have HPn : Hid (pl (.mk 8 fd n ks) = finD 8 (sayT 0 8) (outD 8 0 true (ks.map pl))) := pl_left (op := 8) rfl HSide.out (hd_11 fun k hk => (HSide.out k hk).1)
  go_enter Tryd.func47, Tryd.ntmps47
  go_upto_region 1 with fail
  rw [show (w.alloc (.cells (tmc 8 fd n (.slice ao ks.length cap)) 26)).alloc (.cells #[.int .i8 0, .int .i8 0, .int .u64 0, .slice none 0 0] 26) = W1 from HE.out]
  clear HE
  go_upto_region 25 with fail
  obtain ⟨fo, hfo⟩ : ∃ fo, fo = fndD 8 0 true (ks.map pl) := ⟨_, rfl⟩
  obtain ⟨O, hO⟩ : ∃ O, O = outD 8 0 true (ks.map pl) := ⟨_, rfl⟩
  rw [← hfo, ← hO] at HRo
  rw [← hO] at HLo HPn
  clear hfo hO HSide
  go_upto_region 26 with (first
    | (refine ldRow 26 (.tmp 1) rfl rfl w.heap.size rfl 26 (tmc 8 fd n (.slice ao ks.length cap)) _ Tryd.underlying26 rfl sizeTM HT.out.n ?_)
    | (go_at_call 71; refine (HRo.out).mono ?_; rintro e w2 ⟨oo, oc, zs, rfl, hw, hx, hl⟩; have HW2 := hid hw; have HX2 := hid hx; have HL2 := hid hl; clear hw hx hl HRo))
  have hz := HZ.out
  have hz2 := HW2.out.size
  have HB2 := hid (HT.out.b.trans (HW2.out.mono HT.out.b.size))
  have HR2 : Hid (w2.heap[w.heap.size + 1]? = some (.cells (tmc 0 0 0 nilS) 26 (0, 0))) := (HW2.out.block _ (by omega)).trans HT.out.r
  have HOl : Hid (∀ b, Old (fun b => b < w.heap.size ∧ S b) W1 b → (b < w.heap.size ∧ S b) ∨ w.heap.size + 1 < b) := fun b hS => by
    rcases hS with ⟨-, h⟩ | h
    · exact Or.inl h
    · exact Or.inr (by omega)
  have HZ2 : Hid (W1.heap.size ≤ w2.heap.size) := hz2
  clear hz hz2 HT c0 c3
  have HPl2 := HPn
  have HF := hid (rfil_any 0 w2)
  have HJ : Hid (∀ (es : Array Value) (W : World), Below w2.heap.size w2 W → UmV (fun b => w2.heap.size ≤ b) W (.mk 6 0 0 [leaf 0]) es → Calls Tryd.prog 72 #[.int .i8 8, .slice oo O.length oc, .agg es] W fun e w' => ∃ ds, e = .returned (.agg ds) ∧ Below W.heap.size W w' ∧ UmV (fun b => b < W.heap.size ∧ Old (fun b => b < w.heap.size ∧ S b) W1 b) w' (finD 8 (sayT 0 8) O) ds) := fun es W hb he => by
    have hc : ∀ b, b < w2.heap.size → Old (fun b => b < w.heap.size ∧ S b) W1 b → Old (fun b => b < w.heap.size ∧ S b) W1 b ∧ W.heap[b]? = w2.heap[b]? := fun b hl h => ⟨h, hb.block b hl⟩
    exact rjoin_any 8 O (sayT 0 8) oo oc zs es (Old (fun b => b < w.heap.size ∧ S b) W1) W HLo.out (HX2.out.carry hc) (UmL.carry hc _ _ HL2.out) (um_on he fun b _ hS => ⟨Or.inr (by have := HZ2.out; omega), rfl⟩)
  go_wp2_with (first
    | (go_at_call 73; refine (HF.out).mono ?_; rintro e w3 ⟨fs, rfl, hw, he⟩; have HB3 := hid (HB2.out.trans (hw.mono HB2.out.size)); have HJ3 := hid (HJ.out fs w3 hw he); have HR3 := hid ((hw.block _ (Array.getElem?_eq_some_iff.1 HR2.out).1).trans HR2.out); clear hw he HF HJ)
    | (go_at_call 72; refine (HJ3.out).mono ?_; rintro e w4 ⟨es, rfl, hw, he⟩; have HW4 := hid hw; have HE4 := hid he; have HR4 := hid ((hw.block _ (Array.getElem?_eq_some_iff.1 HR3.out).1).trans HR3.out); clear hw he HJ3)
    | (refine stRow 26 (.tmp 2) (.tmp 81) rfl rfl (w.heap.size + 1) es rfl rfl 26 (tmc 0 0 0 nilS) HR4.out HE4.out.info (by rw [HE4.out.size]; rfl) HE4.out.one ?_))
  refine bodyPost_ret (v := .agg es) (res_tm Tryd.results47 _ _ (w.heap.size + 1) _ HE4.out.info rfl (setRow_heap _ _ _ _ _ _ HR4.out)) rfl ?_
  rw [HPl2.out]
  exact ⟨_, rfl, tw_fin (HB3.out.trans (HW4.out.mono HB3.out.size)) (um_on HE4.out fun b _ hS => ⟨HOl.out b hS.2, rfl⟩)⟩
end Go.Proofs.YtjallmncajhamaaDoor
namespace Go.Proofs.YtjallmncajhamaaDoor
open Go.RowKit
set_option maxRecDepth 100000

set_option maxHeartbeats 25600000 in
theorem rplain_9 (N : Nat) (HIH : Hid (∀ (t : Tm) (cs : Array Value) (b : Bool) (S : Nat → Prop) (w : World), sz t ≤ N → N ≤ 4096 → oneT b t = true → UmV S w t cs → Calls Tryd.prog 47 #[.agg cs] w fun e w' => ∃ ds, e = .returned (.agg ds) ∧ Below w.heap.size w w' ∧ UmV (Old S w) w' (pl t) ds)) (fd n : Nat) (ks : List Tm) (cs : Array Value) (b : Bool) (S : Nat → Prop) (w : World) (hN : sz (.mk 9 fd n ks) ≤ N + 1) (hsm : N + 1 ≤ 4096) (h1 : oneT b (.mk 9 fd n ks) = true) (ht : UmV S w (.mk 9 fd n ks) cs) : Calls Tryd.prog 47 #[.agg cs] w fun e w' => ∃ ds, e = .returned (.agg ds) ∧ Below w.heap.size w w' ∧ UmV (Old S w) w' (pl (.mk 9 fd n ks)) ds := by
  obtain ⟨v, xs, rfl, h2, h3⟩ := ht.get
  obtain ⟨ao, cap, rfl⟩ := h2.form
  obtain ⟨s1, l1, l2, w1, ok⟩ := oneT_iff.1 h1
  rw [sz] at hN
  have hkl : ks.length ≤ 4096 := by have := len_le_szs ks; omega
  obtain ⟨W1, hW1⟩ : ∃ W1, W1 = (w.alloc (.cells (tmc 9 fd n (.slice ao ks.length cap)) 26)).alloc (.cells (tmc 0 0 0 nilS) 26) := ⟨_, rfl⟩
  have HE : Hid ((w.alloc (.cells (tmc 9 fd n (.slice ao ks.length cap)) 26)).alloc (.cells #[.int .i8 0, .int .i8 0, .int .u64 0, .slice none 0 0] 26) = W1) := hW1.symm
  have HT : Hid (Tw w (tmc 9 fd n (.slice ao ks.length cap)) W1) := by show Tw _ _ _; rw [hW1]; exact Tw.new _ _
  have c0 := (four_cells HT.out.n).1
  have c3 := (four_cells HT.out.n).2.2.2
  have HZ := hid HT.out.sz
  clear hW1
  obtain ⟨g1, g2, -⟩ := gd_pls _ ks ok (by omega)
  rw [pls_map] at g1 g2
  have HSide : Hid (∀ k ∈ ks.map pl, oneT (decide (9 ≤ 5)) k = true ∧ Nf k) := g1
  have HRo := hid (rrow_any (fun b => b < w.heap.size ∧ S b) 9 fd n 1 0 true ks (tmc 9 fd n (.slice ao ks.length cap)) W1 (um_on ht fun b hb hS => ⟨⟨hb, hS⟩, HT.out.b.block b hb⟩) (by omega) hkl (row_good rfl fun k hk => (g1 k hk).1) (fun S1 j hj cs W hv => HIH.out ks[j] cs _ S1 W (by have := szs_mem (List.getElem_mem hj); omega) (by omega) (ok _ (List.getElem_mem hj)) hv))
  have HLo : Hid ((outD 9 1 true (ks.map pl)).length ≤ 4096) := by
    show _ ≤ _
    unfold outD
    exact Nat.le_trans (List.length_filter_le _ _) (Nat.le_trans (flt_len _ _) (by omega))
  clear h1 h2 h3 ht s1 l1 l2 w1 ok hN g1 g2
  have HPf : Hid (fndD 9 0 true (ks.map pl) = true → pl (.mk 9 fd n ks) = sayT 0 9) := fun h => pl_found (op := 9) rfl HSide.out (by decide) h
  have HPn : Hid (fndD 9 0 true (ks.map pl) = false → pl (.mk 9 fd n ks) = finD 9 (sayT 1 9) (outD 9 1 true (ks.map pl))) := fun h => pl_none (op := 9) rfl HSide.out (by decide) h
  go_enter Tryd.func47, Tryd.ntmps47
  go_upto_region 1 with fail
  rw [show (w.alloc (.cells (tmc 9 fd n (.slice ao ks.length cap)) 26)).alloc (.cells #[.int .i8 0, .int .i8 0, .int .u64 0, .slice none 0 0] 26) = W1 from HE.out]
  clear HE
  go_upto_region 28 with fail
  obtain ⟨fo, hfo⟩ : ∃ fo, fo = fndD 9 0 true (ks.map pl) := ⟨_, rfl⟩
  obtain ⟨O, hO⟩ : ∃ O, O = outD 9 1 true (ks.map pl) := ⟨_, rfl⟩
  rw [← hfo, ← hO] at HRo
  rw [← hO] at HLo HPn
  rw [← hfo] at HPf HPn
  clear hfo hO HSide
  go_upto_region 29 with (first
    | (refine ldRow 26 (.tmp 1) rfl rfl w.heap.size rfl 26 (tmc 9 fd n (.slice ao ks.length cap)) _ Tryd.underlying26 rfl sizeTM HT.out.n ?_)
    | (go_at_call 71; refine (HRo.out).mono ?_; rintro e w2 ⟨oo, oc, zs, rfl, hw, hx, hl⟩; have HW2 := hid hw; have HX2 := hid hx; have HL2 := hid hl; clear hw hx hl HRo))
  have hz := HZ.out
  have hz2 := HW2.out.size
  have HB2 := hid (HT.out.b.trans (HW2.out.mono HT.out.b.size))
  have HR2 : Hid (w2.heap[w.heap.size + 1]? = some (.cells (tmc 0 0 0 nilS) 26 (0, 0))) := (HW2.out.block _ (by omega)).trans HT.out.r
  have HOl : Hid (∀ b, Old (fun b => b < w.heap.size ∧ S b) W1 b → (b < w.heap.size ∧ S b) ∨ w.heap.size + 1 < b) := fun b hS => by
    rcases hS with ⟨-, h⟩ | h
    · exact Or.inl h
    · exact Or.inr (by omega)
  have HZ2 : Hid (W1.heap.size ≤ w2.heap.size) := hz2
  clear hz hz2 HT c0 c3
  cases fo with
  | true =>
    have HPl2 : Hid (pl (.mk 9 fd n ks) = .mk 6 0 0 [leaf 0]) := HPf.out rfl
    have HF := hid (rfil_any 0 w2)
    go_wp2_with (first
      | (go_at_call 73; refine (HF.out).mono ?_; rintro e w4 ⟨es, rfl, hw, he⟩; have HW4 := hid hw; have HE4 := hid he; have HR4 := hid ((hw.block _ (Array.getElem?_eq_some_iff.1 HR2.out).1).trans HR2.out); clear hw he HF)
      | (refine stRow 26 (.tmp 2) (.tmp 90) rfl rfl (w.heap.size + 1) es rfl rfl 26 (tmc 0 0 0 nilS) HR4.out HE4.out.info (by rw [HE4.out.size]; rfl) HE4.out.one ?_))
    refine bodyPost_ret (v := .agg es) (res_tm Tryd.results47 _ _ (w.heap.size + 1) _ HE4.out.info rfl (setRow_heap _ _ _ _ _ _ HR4.out)) rfl ?_
    rw [HPl2.out]
    exact ⟨_, rfl, tw_fin (HB2.out.trans (HW4.out.mono HB2.out.size)) (um_on HE4.out fun b _ hS => ⟨Or.inr (by have := (Array.getElem?_eq_some_iff.1 HR2.out).1; omega), rfl⟩)⟩
  | false =>
    have HPl2 := hid (HPn.out rfl)
    have HF := hid (rfil_any 1 w2)
    have HJ : Hid (∀ (es : Array Value) (W : World), Below w2.heap.size w2 W → UmV (fun b => w2.heap.size ≤ b) W (.mk 6 0 0 [leaf 1]) es → Calls Tryd.prog 72 #[.int .i8 9, .slice oo O.length oc, .agg es] W fun e w' => ∃ ds, e = .returned (.agg ds) ∧ Below W.heap.size W w' ∧ UmV (fun b => b < W.heap.size ∧ Old (fun b => b < w.heap.size ∧ S b) W1 b) w' (finD 9 (sayT 1 9) O) ds) := fun es W hb he => by
      have hc : ∀ b, b < w2.heap.size → Old (fun b => b < w.heap.size ∧ S b) W1 b → Old (fun b => b < w.heap.size ∧ S b) W1 b ∧ W.heap[b]? = w2.heap[b]? := fun b hl h => ⟨h, hb.block b hl⟩
      exact rjoin_any 9 O (sayT 1 9) oo oc zs es (Old (fun b => b < w.heap.size ∧ S b) W1) W HLo.out (HX2.out.carry hc) (UmL.carry hc _ _ HL2.out) (um_on he fun b _ hS => ⟨Or.inr (by have := HZ2.out; omega), rfl⟩)
    go_wp2_with (first
      | (go_at_call 73; refine (HF.out).mono ?_; rintro e w3 ⟨fs, rfl, hw, he⟩; have HB3 := hid (HB2.out.trans (hw.mono HB2.out.size)); have HJ3 := hid (HJ.out fs w3 hw he); have HR3 := hid ((hw.block _ (Array.getElem?_eq_some_iff.1 HR2.out).1).trans HR2.out); clear hw he HF HJ)
      | (go_at_call 72; refine (HJ3.out).mono ?_; rintro e w4 ⟨es, rfl, hw, he⟩; have HW4 := hid hw; have HE4 := hid he; have HR4 := hid ((hw.block _ (Array.getElem?_eq_some_iff.1 HR3.out).1).trans HR3.out); clear hw he HJ3)
      | (refine stRow 26 (.tmp 2) (.tmp 93) rfl rfl (w.heap.size + 1) es rfl rfl 26 (tmc 0 0 0 nilS) HR4.out HE4.out.info (by rw [HE4.out.size]; rfl) HE4.out.one ?_))
    refine bodyPost_ret (v := .agg es) (res_tm Tryd.results47 _ _ (w.heap.size + 1) _ HE4.out.info rfl (setRow_heap _ _ _ _ _ _ HR4.out)) rfl ?_
    rw [HPl2.out]
    exact ⟨_, rfl, tw_fin (HB3.out.trans (HW4.out.mono HB3.out.size)) (um_on HE4.out fun b _ hS => ⟨HOl.out b hS.2, rfl⟩)⟩
end Go.Proofs.YtjallmncajhamaaDoor
namespace Go.Proofs.YtjallmncajhamaaDoor
open Go.RowKit
set_option maxRecDepth 100000

set_option maxHeartbeats 25600000 in
theorem rplain_10 (N : Nat) (HIH : Hid (∀ (t : Tm) (cs : Array Value) (b : Bool) (S : Nat → Prop) (w : World), sz t ≤ N → N ≤ 4096 → oneT b t = true → UmV S w t cs → Calls Tryd.prog 47 #[.agg cs] w fun e w' => ∃ ds, e = .returned (.agg ds) ∧ Below w.heap.size w w' ∧ UmV (Old S w) w' (pl t) ds)) (fd n : Nat) (ks : List Tm) (cs : Array Value) (b : Bool) (S : Nat → Prop) (w : World) (hN : sz (.mk 10 fd n ks) ≤ N + 1) (hsm : N + 1 ≤ 4096) (h1 : oneT b (.mk 10 fd n ks) = true) (ht : UmV S w (.mk 10 fd n ks) cs) : Calls Tryd.prog 47 #[.agg cs] w fun e w' => ∃ ds, e = .returned (.agg ds) ∧ Below w.heap.size w w' ∧ UmV (Old S w) w' (pl (.mk 10 fd n ks)) ds := by
  obtain ⟨v, xs, rfl, h2, h3⟩ := ht.get
  obtain ⟨ao, cap, rfl⟩ := h2.form
  obtain ⟨s1, l1, l2, w1, ok⟩ := oneT_iff.1 h1
  rw [sz] at hN
  have hkl : ks.length ≤ 4096 := by have := len_le_szs ks; omega
  obtain ⟨W1, hW1⟩ : ∃ W1, W1 = (w.alloc (.cells (tmc 10 fd n (.slice ao ks.length cap)) 26)).alloc (.cells (tmc 0 0 0 nilS) 26) := ⟨_, rfl⟩
  have HE : Hid ((w.alloc (.cells (tmc 10 fd n (.slice ao ks.length cap)) 26)).alloc (.cells #[.int .i8 0, .int .i8 0, .int .u64 0, .slice none 0 0] 26) = W1) := hW1.symm
  have HT : Hid (Tw w (tmc 10 fd n (.slice ao ks.length cap)) W1) := by show Tw _ _ _; rw [hW1]; exact Tw.new _ _
  have c0 := (four_cells HT.out.n).1
  have c3 := (four_cells HT.out.n).2.2.2
  have HZ := hid HT.out.sz
  clear hW1
  obtain ⟨k, rfl⟩ := len_one l1 l2
  obtain ⟨g, o, rfl, hc, hg, hgl, y0, y1, y2, y3, hkv, hra⟩ := UmL.kid h2 h3 (j := 0) (by simp)
  simp only [List.getElem_cons_zero, Nat.zero_mul, Nat.add_zero] at hkv hra
  have hok := ok k (List.mem_cons_self ..)
  have hks : sz k ≤ N := by rw [szs, szs] at hN; omega
  have hw : fd = 0 ∧ n = 0 := by simpa [nwT] using w1
  obtain ⟨rfl, rfl⟩ := hw
  have HRA : Hid (W1.rangeAt g o (#[y0, y1, y2, y3] : Array Value).toList) := fun i v hi => (cell_same (HT.out.b.block g hgl)).trans (hra i v hi)
  have HC := hid (HIH.out k #[y0, y1, y2, y3] _ (fun b => b < w.heap.size ∧ S b) W1 hks (by omega) hok (um_on hkv fun b hb hS => ⟨⟨hb, hS⟩, HT.out.b.block b hb⟩))
  have HGK := hid (gd_pl _ k hok (by omega))
  have hc1 : 1 ≤ cap := hc
  have HPl : Hid (pl (.mk 10 0 0 [k]) = plS (pl k)) := by show _ = _; rw [pl_mk]; rfl
  clear h1 h2 h3 ht s1 l1 l2 w1 ok hN hkl hra hkv hg hgl hok hks hc
  go_enter Tryd.func47, Tryd.ntmps47
  go_upto_region 1 with fail
  rw [show (w.alloc (.cells (tmc 10 0 0 (.slice (some ⟨g, o, none⟩) 1 cap)) 26)).alloc (.cells #[.int .i8 0, .int .i8 0, .int .u64 0, .slice none 0 0] 26) = W1 from HE.out]
  clear HE
  go_upto_region 33 with fail
  go_upto_region 34 with (first
    | (refine ldMid 26 (.tmp 98) rfl rfl g o rfl #[y0, y1, y2, y3] _ Tryd.underlying26 rfl sizeTM HRA.out ?_)
    | (go_at_call 47; refine (HC.out).mono ?_; rintro e w2 ⟨ds, rfl, hw, hd⟩; have HW2 := hid hw; have HD2 := hid hd; clear hw hd HC)
    | (refine stNew 26 (.tmp 12) (.tmp 100) rfl rfl w2 26 (tmc 0 0 0 nilS) ds rfl rfl rfl HD2.out.info (by rw [HD2.out.size]; rfl) HD2.out.one ?_))
  obtain ⟨K, hK⟩ : ∃ K, K = pl k := ⟨_, rfl⟩
  rw [← hK] at HD2 HPl HGK
  clear hK
  obtain ⟨kop, kfd, kn, kks⟩ := K
  obtain ⟨kv, zs, hcs, hk2, hk3⟩ := HD2.out.get
  obtain ⟨kao, kcap, rfl⟩ := hk2.form
  subst hcs
  have hz := HZ.out
  have hz2 := HW2.out.size
  have hb3 : Below w2.heap.size w2 (w2.alloc (.cells (tmc kop kfd kn (.slice kao kks.length kcap)) 26)) := (Below.refl _ _).alloc (Nat.le_refl _) _
  have HB3 := hid ((HT.out.b.trans (HW2.out.mono HT.out.b.size)).trans (hb3.mono (by omega)))
  have HN3 : Hid ((w2.alloc (.cells (tmc kop kfd kn (.slice kao kks.length kcap)) 26)).heap[w2.heap.size]? = some (.cells (tmc kop kfd kn (.slice kao kks.length kcap)) 26 (0, 0))) := heap_alloc_new _ _
  have HR3 : Hid ((w2.alloc (.cells (tmc kop kfd kn (.slice kao kks.length kcap)) 26)).heap[w.heap.size + 1]? = some (.cells (tmc 0 0 0 nilS) 26 (0, 0))) := (hb3.block _ (by omega)).trans ((HW2.out.block _ (by omega)).trans HT.out.r)
  have hcar : ∀ b, b < w2.heap.size → Old (fun b => b < w.heap.size ∧ S b) W1 b → ((b < w.heap.size ∧ S b) ∨ w.heap.size + 1 < b) ∧ (w2.alloc (.cells (tmc kop kfd kn (.slice kao kks.length kcap)) 26)).heap[b]? = w2.heap[b]? := fun b hb hS => ⟨by
    rcases hS with ⟨-, h⟩ | h
    · exact Or.inl h
    · exact Or.inr (by omega), heap_alloc_old _ _ hb⟩
  have HU3 := hid (um_on HD2.out hcar)
  have HKx : Hid (Rx (fun b => (b < w.heap.size ∧ S b) ∨ w.heap.size + 1 < b) 4 (w2.alloc (.cells (tmc kop kfd kn (.slice kao kks.length kcap)) 26)) (.slice kao kks.length kcap) kks.length zs ∧ UmL (fun b => (b < w.heap.size ∧ S b) ∨ w.heap.size + 1 < b) (w2.alloc (.cells (tmc kop kfd kn (.slice kao kks.length kcap)) 26)) kks zs) := ⟨hk2.carry hcar, UmL.carry hcar _ _ hk3⟩
  have HK0 : Hid (w.heap.size + 1 < w2.heap.size) := by show _ < _; omega
  clear hcar hk2 hk3 hb3 HW2 HD2 hz hz2 HRA c0 c3 HT HZ
  generalize w2.alloc (.cells (tmc kop kfd kn (.slice kao kks.length kcap)) 26) = w3 at HB3 HN3 HR3 HU3 HKx ⊢
  generalize w2.heap.size = Kb at HN3 HK0 ⊢
  have d0 := (four_cells HN3.out).1
  have d3 := (four_cells HN3.out).2.2.2
  by_cases k3 : kop = 10
  · have HPl2 : Hid (pl (.mk 10 0 0 [k]) = .mk kop kfd kn kks) := by show _ = _; rw [HPl.out]; unfold plS; rw [if_pos (show (Tm.mk kop kfd kn kks).op = 10 from k3)]
    have e10 : (((kop : Nat) : Int) == 10) = true := beq_iff_eq.2 (by omega)
    have e10' : decide (((kop : Nat) : Int) = 10) = true := decide_eq_true (by omega)
    have e10'' : decide (kop = 10) = true := decide_eq_true (by omega)
    clear k3 HPl
    go_wp2_with (first
      | (refine ldRow 26 (.tmp 12) rfl rfl Kb rfl 26 (tmc kop kfd kn (.slice kao kks.length kcap)) _ Tryd.underlying26 rfl sizeTM HN3.out ?_)
      | (refine stRow 26 (.tmp 2) (.tmp 104) rfl rfl (w.heap.size + 1) (tmc kop kfd kn (.slice kao kks.length kcap)) rfl rfl 26 (tmc 0 0 0 nilS) HR3.out sizeTM rfl (tmc_one _ _ _ _ _ _) ?_))
    refine bodyPost_ret (v := .agg (tmc kop kfd kn (.slice kao kks.length kcap))) (res_tm Tryd.results47 _ _ (w.heap.size + 1) _ sizeTM rfl (setRow_heap _ _ _ _ _ _ HR3.out)) rfl ?_
    rw [HPl2.out]
    exact ⟨_, rfl, tw_fin HB3.out HU3.out⟩
  have e10 : (((kop : Nat) : Int) == 10) = false := beq_eq_false_iff_ne.2 (by omega)
  have e10' : decide (((kop : Nat) : Int) = 10) = false := decide_eq_false (by omega)
  have e10'' : decide (kop = 10) = false := decide_eq_false (by omega)
  by_cases k6 : kop = 6
  · have HPl2 : Hid (pl (.mk 10 0 0 [k]) = .mk 6 0 0 [leaf 1]) := by show _ = _; rw [HPl.out]; unfold plS; rw [if_neg (show ¬ (Tm.mk kop kfd kn kks).op = 10 from k3), if_pos (show (Tm.mk kop kfd kn kks).op = 6 from k6)]
    have e6 : (((kop : Nat) : Int) == 6) = true := beq_iff_eq.2 (by omega)
    have e6' : decide (((kop : Nat) : Int) = 6) = true := decide_eq_true (by omega)
    have e6'' : decide (kop = 6) = true := decide_eq_true (by omega)
    clear k6 k3 HPl
    have HF := hid (rfil_any 1 w3)
    go_wp2_with (first
      | (go_at_call 73; refine (HF.out).mono ?_; rintro e w4 ⟨es, rfl, hw, he⟩; have HW4 := hid hw; have HE4 := hid he; have HR4 := hid ((hw.block _ (Array.getElem?_eq_some_iff.1 HR3.out).1).trans HR3.out); clear hw he HF)
      | (refine stRow 26 (.tmp 2) (.tmp 108) rfl rfl (w.heap.size + 1) es rfl rfl 26 (tmc 0 0 0 nilS) HR4.out HE4.out.info (by rw [HE4.out.size]; rfl) HE4.out.one ?_))
    refine bodyPost_ret (v := .agg es) (res_tm Tryd.results47 _ _ (w.heap.size + 1) _ HE4.out.info rfl (setRow_heap _ _ _ _ _ _ HR4.out)) rfl ?_
    rw [HPl2.out]
    exact ⟨_, rfl, tw_fin (HB3.out.trans (HW4.out.mono HB3.out.size)) (um_on HE4.out fun b _ hS => ⟨Or.inr (by have := (Array.getElem?_eq_some_iff.1 HR3.out).1; omega), rfl⟩)⟩
  have e6 : (((kop : Nat) : Int) == 6) = false := beq_eq_false_iff_ne.2 (by omega)
  have e6' : decide (((kop : Nat) : Int) = 6) = false := decide_eq_false (by omega)
  have e6'' : decide (kop = 6) = false := decide_eq_false (by omega)
  have HPl2 : Hid (pl (.mk 10 0 0 [k]) = .mk 10 0 0 [.mk kop kfd kn kks]) := by show _ = _; rw [HPl.out]; unfold plS; rw [if_neg (show ¬ (Tm.mk kop kfd kn kks).op = 10 from k3), if_neg (show ¬ (Tm.mk kop kfd kn kks).op = 6 from k6)]
  clear k6 k3 HPl
  have hbt := fun W => run_bt03 10 (some ⟨w3.heap.size, 0, none⟩) 1 1 W
  have HR4 : Hid ((w3.alloc (.cells (tmc kop kfd kn (.slice kao kks.length kcap)) 26)).heap[w.heap.size + 1]? = some (.cells (tmc 0 0 0 nilS) 26 (0, 0))) := (heap_alloc_old _ _ (Array.getElem?_eq_some_iff.1 HR3.out).1).trans HR3.out
  have HZ3 : Hid (w.heap.size + 1 < w3.heap.size) := (Array.getElem?_eq_some_iff.1 HR3.out).1
  go_wp2_with (first
    | (refine ldRow 26 (.tmp 12) rfl rfl Kb rfl 26 (tmc kop kfd kn (.slice kao kks.length kcap)) _ Tryd.underlying26 rfl sizeTM HN3.out ?_)
    | (refine bldSl 24 26 (.tmp 109) rfl rfl (tmc kop kfd kn (.slice kao kks.length kcap)) rfl Tryd.underlying24 _ _ _ rfl rfl rfl rfl (by decide) (by decide) ?_)
    | (refine stRow 26 (.tmp 2) (.tmp 111) rfl rfl (w.heap.size + 1) (tmc 10 0 0 (.slice (some ⟨w3.heap.size, 0, none⟩) 1 1)) rfl rfl 26 (tmc 0 0 0 nilS) HR4.out sizeTM rfl (tmc_one _ _ _ _ _ _) ?_))
  refine bodyPost_ret (v := .agg (tmc 10 0 0 (.slice (some ⟨w3.heap.size, 0, none⟩) 1 1))) (res_tm Tryd.results47 _ _ (w.heap.size + 1) _ sizeTM rfl (setRow_heap _ _ _ _ _ _ HR4.out)) rfl ?_
  rw [HPl2.out]
  exact ⟨_, rfl, tw_fin (HB3.out.alloc (by have := HZ3.out; omega) _) (um_bld9 HU3.out 10 (Or.inr HZ3.out) fun b _ h => h)⟩
end Go.Proofs.YtjallmncajhamaaDoor
