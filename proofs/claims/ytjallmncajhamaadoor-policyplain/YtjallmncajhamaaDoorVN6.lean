/-
  Proved here: plain of the document's layer 18 at terms of some Ops. Conditions: at most 4096 terms; the term is a predicate (or a policy).
-/
import Derived.Test.YtjallmncajhamaaDoorVM
namespace Go.Proofs.YtjallmncajhamaaDoor
open Go.RowKit
set_option maxRecDepth 100000

set_option maxHeartbeats 25600000 in
theorem rplain_6 (N : Nat) (HIH : Hid (∀ (t : Tm) (cs : Array Value) (b : Bool) (S : Nat → Prop) (w : World), sz t ≤ N → N ≤ 4096 → oneT b t = true → UmV S w t cs → Calls Tryd.prog 47 #[.agg cs] w fun e w' => ∃ ds, e = .returned (.agg ds) ∧ Below w.heap.size w w' ∧ UmV (Old S w) w' (pl t) ds)) (fd n : Nat) (ks : List Tm) (cs : Array Value) (b : Bool) (S : Nat → Prop) (w : World) (hN : sz (.mk 6 fd n ks) ≤ N + 1) (hsm : N + 1 ≤ 4096) (h1 : oneT b (.mk 6 fd n ks) = true) (ht : UmV S w (.mk 6 fd n ks) cs) : Calls Tryd.prog 47 #[.agg cs] w fun e w' => ∃ ds, e = .returned (.agg ds) ∧ Below w.heap.size w w' ∧ UmV (Old S w) w' (pl (.mk 6 fd n ks)) ds := by
  obtain ⟨v, xs, rfl, h2, h3⟩ := ht.get
  obtain ⟨ao, cap, rfl⟩ := h2.form
  obtain ⟨s1, l1, l2, w1, ok⟩ := oneT_iff.1 h1
  rw [sz] at hN
  have hkl : ks.length ≤ 4096 := by have := len_le_szs ks; omega
  obtain ⟨W1, hW1⟩ : ∃ W1, W1 = (w.alloc (.cells (tmc 6 fd n (.slice ao ks.length cap)) 26)).alloc (.cells (tmc 0 0 0 nilS) 26) := ⟨_, rfl⟩
  have HE : Hid ((w.alloc (.cells (tmc 6 fd n (.slice ao ks.length cap)) 26)).alloc (.cells #[.int .i8 0, .int .i8 0, .int .u64 0, .slice none 0 0] 26) = W1) := hW1.symm
  have HT : Hid (Tw w (tmc 6 fd n (.slice ao ks.length cap)) W1) := by show Tw _ _ _; rw [hW1]; exact Tw.new _ _
  have c0 := (four_cells HT.out.n).1
  have c3 := (four_cells HT.out.n).2.2.2
  have HZ := hid HT.out.sz
  clear hW1
  obtain ⟨k, rfl⟩ := len_one l1 l2
  obtain ⟨g, o, rfl, hc, hg, hgl, y0, y1, y2, y3, hkv, hra⟩ := UmL.kid h2 h3 (j := 0) (by simp)
  simp only [List.getElem_cons_zero, Nat.zero_mul, Nat.add_zero] at hkv hra
  have hok := ok k (List.mem_cons_self ..)
  have hks : sz k ≤ N := by rw [szs, szs] at hN; omega
  have hw : fd = 0 ∧ n = 0 := by simpa [nwT] using w1
  obtain ⟨rfl, rfl⟩ := hw
  have HRA : Hid (W1.rangeAt g o (#[y0, y1, y2, y3] : Array Value).toList) := fun i v hi => (cell_same (HT.out.b.block g hgl)).trans (hra i v hi)
  have HC := hid (HIH.out k #[y0, y1, y2, y3] _ (fun b => b < w.heap.size ∧ S b) W1 hks (by omega) hok (um_on hkv fun b hb hS => ⟨⟨hb, hS⟩, HT.out.b.block b hb⟩))
  have HGK := hid (gd_pl _ k hok (by omega))
  have hc1 : 1 ≤ cap := hc
  have HPl : Hid (pl (.mk 6 0 0 [k]) = .mk 6 0 0 [pl k]) := by show _ = _; rw [pl_mk]; rfl
  clear h1 h2 h3 ht s1 l1 l2 w1 ok hN hkl hra hkv hg hgl hok hks hc
  go_enter Tryd.func47, Tryd.ntmps47
  go_upto_region 1 with fail
  rw [show (w.alloc (.cells (tmc 6 0 0 (.slice (some ⟨g, o, none⟩) 1 cap)) 26)).alloc (.cells #[.int .i8 0, .int .i8 0, .int .u64 0, .slice none 0 0] 26) = W1 from HE.out]
  clear HE
  go_upto_region 23 with fail
  go_wp2_with (first
    | (refine ldMid 26 (.tmp 67) rfl rfl g o rfl #[y0, y1, y2, y3] _ Tryd.underlying26 rfl sizeTM HRA.out ?_)
    | (go_at_call 47; refine (HC.out).mono ?_; rintro e w3 ⟨ds, rfl, hw, hd⟩; have HW3 := hid hw; have HD3 := hid hd; have hds4 := hd.size; have hbt := fun W => run_bt03 6 (some ⟨w3.heap.size, 0, none⟩) 1 1 W; have HR3 : Hid ((w3.alloc (.cells ds 26)).heap[w.heap.size + 1]? = some (.cells (tmc 0 0 0 nilS) 26 (0, 0))) := (heap_alloc_old _ _ (by have := hw.size; have := HZ.out; omega)).trans ((hw.block _ (by have := HZ.out; omega)).trans HT.out.r); clear hw hd HC)
    | (refine bldSl 24 26 (.tmp 69) rfl rfl ds rfl Tryd.underlying24 _ _ _ rfl rfl rfl hds4 (by decide) (by decide) ?_)
    | (refine stRow 26 (.tmp 2) (.tmp 71) rfl rfl (w.heap.size + 1) (tmc 6 0 0 (.slice (some ⟨w3.heap.size, 0, none⟩) 1 1)) rfl rfl 26 (tmc 0 0 0 nilS) HR3.out sizeTM rfl (tmc_one _ _ _ _ _ _) ?_))
  refine bodyPost_ret (v := .agg (tmc 6 0 0 (.slice (some ⟨w3.heap.size, 0, none⟩) 1 1))) (res_tm Tryd.results47 _ _ (w.heap.size + 1) _ sizeTM rfl (setRow_heap _ _ _ _ _ _ HR3.out)) rfl ?_
  rw [HPl.out]
  have hz := HZ.out
  have hz3 := HW3.out.size
  have hb3 : Below w.heap.size w (w3.alloc (.cells ds 26)) := (HT.out.b.trans (HW3.out.mono HT.out.b.size)).alloc (by omega) _
  refine ⟨_, rfl, tw_fin hb3 (um_bld9 HD3.out 6 (Or.inr (by omega)) fun b hb hS => ?_)⟩
  rcases hS with ⟨-, h⟩ | h
  · exact Or.inl h
  · exact Or.inr (by omega)
end Go.Proofs.YtjallmncajhamaaDoor
