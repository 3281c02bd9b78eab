/-
  Proved here: plain of the document's layer 18 at terms of some Ops. Conditions: at most 4096 terms; the term is a predicate (or a policy).
-/
import Derived.Test.YtjallmncajhamaaDoorVM
namespace Go.Proofs.YtjallmncajhamaaDoor
open Go.RowKit
set_option maxRecDepth 100000

set_option maxHeartbeats 25600000 in
theorem rplain_0 (N : Nat) (_HIH : Hid (∀ (t : Tm) (cs : Array Value) (b : Bool) (S : Nat → Prop) (w : World), sz t ≤ N → N ≤ 4096 → oneT b t = true → UmV S w t cs → Calls Tryd.prog 47 #[.agg cs] w fun e w' => ∃ ds, e = .returned (.agg ds) ∧ Below w.heap.size w w' ∧ UmV (Old S w) w' (pl t) ds)) (fd n : Nat) (ks : List Tm) (cs : Array Value) (b : Bool) (S : Nat → Prop) (w : World) (hN : sz (.mk 0 fd n ks) ≤ N + 1) (hsm : N + 1 ≤ 4096) (h1 : oneT b (.mk 0 fd n ks) = true) (ht : UmV S w (.mk 0 fd n ks) cs) : Calls Tryd.prog 47 #[.agg cs] w fun e w' => ∃ ds, e = .returned (.agg ds) ∧ Below w.heap.size w w' ∧ UmV (Old S w) w' (pl (.mk 0 fd n ks)) ds := by
  obtain ⟨v, xs, rfl, h2, h3⟩ := ht.get
  obtain ⟨ao, cap, rfl⟩ := h2.form
  obtain ⟨s1, l1, l2, w1, ok⟩ := oneT_iff.1 h1
  rw [sz] at hN
  have hkl : ks.length ≤ 4096 := by have := len_le_szs ks; omega
  obtain ⟨W1, hW1⟩ : ∃ W1, W1 = (w.alloc (.cells (tmc 0 fd n (.slice ao ks.length cap)) 26)).alloc (.cells (tmc 0 0 0 nilS) 26) := ⟨_, rfl⟩
  have HE : Hid ((w.alloc (.cells (tmc 0 fd n (.slice ao ks.length cap)) 26)).alloc (.cells #[.int .i8 0, .int .i8 0, .int .u64 0, .slice none 0 0] 26) = W1) := hW1.symm
  have HT : Hid (Tw w (tmc 0 fd n (.slice ao ks.length cap)) W1) := by show Tw _ _ _; rw [hW1]; exact Tw.new _ _
  have c0 := (four_cells HT.out.n).1
  have c3 := (four_cells HT.out.n).2.2.2
  have HZ := hid HT.out.sz
  clear hW1
  have hk0 : ks = [] := List.length_eq_zero_iff.1 (by have : mst 0 = 0 := rfl; omega)
  have HPl : Hid (pl (.mk 0 fd n ks) = .mk 0 fd n ks) := by show _ = _; rw [hk0, pl_mk]; rfl
  have HU := hid ht
  clear h1 h2 h3 ht s1 l1 l2 w1 ok hk0
  go_enter Tryd.func47, Tryd.ntmps47
  go_upto_region 1 with fail
  rw [show (w.alloc (.cells (tmc 0 fd n (.slice ao ks.length cap)) 26)).alloc (.cells #[.int .i8 0, .int .i8 0, .int .u64 0, .slice none 0 0] 26) = W1 from HE.out]
  clear HE
  go_wp2_with (first
    | (refine ldRow 26 (.tmp 1) rfl rfl w.heap.size rfl 26 (tmc 0 fd n (.slice ao ks.length cap)) _ Tryd.underlying26 rfl sizeTM HT.out.n ?_)
    | (refine stRow 26 (.tmp 2) (.tmp 112) rfl rfl (w.heap.size + 1) (tmc 0 fd n (.slice ao ks.length cap)) rfl rfl 26 (tmc 0 0 0 nilS) HT.out.r sizeTM rfl (tmc_one _ _ _ _ _ _) ?_))
  refine bodyPost_ret (v := .agg (tmc 0 fd n (.slice ao ks.length cap))) (res_tm Tryd.results47 _ _ (w.heap.size + 1) _ sizeTM rfl (setRow_heap _ _ _ _ _ _ HT.out.r)) rfl ?_
  rw [HPl.out]
  exact ⟨_, rfl, tw_fin HT.out.b (um_on HU.out fun b hb hS => ⟨Or.inl ⟨hb, hS⟩, HT.out.b.block b hb⟩)⟩
set_option maxHeartbeats 25600000 in
theorem rplain_1 (N : Nat) (_HIH : Hid (∀ (t : Tm) (cs : Array Value) (b : Bool) (S : Nat → Prop) (w : World), sz t ≤ N → N ≤ 4096 → oneT b t = true → UmV S w t cs → Calls Tryd.prog 47 #[.agg cs] w fun e w' => ∃ ds, e = .returned (.agg ds) ∧ Below w.heap.size w w' ∧ UmV (Old S w) w' (pl t) ds)) (fd n : Nat) (ks : List Tm) (cs : Array Value) (b : Bool) (S : Nat → Prop) (w : World) (hN : sz (.mk 1 fd n ks) ≤ N + 1) (hsm : N + 1 ≤ 4096) (h1 : oneT b (.mk 1 fd n ks) = true) (ht : UmV S w (.mk 1 fd n ks) cs) : Calls Tryd.prog 47 #[.agg cs] w fun e w' => ∃ ds, e = .returned (.agg ds) ∧ Below w.heap.size w w' ∧ UmV (Old S w) w' (pl (.mk 1 fd n ks)) ds := by
  obtain ⟨v, xs, rfl, h2, h3⟩ := ht.get
  obtain ⟨ao, cap, rfl⟩ := h2.form
  obtain ⟨s1, l1, l2, w1, ok⟩ := oneT_iff.1 h1
  rw [sz] at hN
  have hkl : ks.length ≤ 4096 := by have := len_le_szs ks; omega
  obtain ⟨W1, hW1⟩ : ∃ W1, W1 = (w.alloc (.cells (tmc 1 fd n (.slice ao ks.length cap)) 26)).alloc (.cells (tmc 0 0 0 nilS) 26) := ⟨_, rfl⟩
  have HE : Hid ((w.alloc (.cells (tmc 1 fd n (.slice ao ks.length cap)) 26)).alloc (.cells #[.int .i8 0, .int .i8 0, .int .u64 0, .slice none 0 0] 26) = W1) := hW1.symm
  have HT : Hid (Tw w (tmc 1 fd n (.slice ao ks.length cap)) W1) := by show Tw _ _ _; rw [hW1]; exact Tw.new _ _
  have c0 := (four_cells HT.out.n).1
  have c3 := (four_cells HT.out.n).2.2.2
  have HZ := hid HT.out.sz
  clear hW1
  have hk0 : ks = [] := List.length_eq_zero_iff.1 (by have : mst 1 = 0 := rfl; omega)
  have HPl : Hid (pl (.mk 1 fd n ks) = .mk 1 fd n ks) := by show _ = _; rw [hk0, pl_mk]; rfl
  have HU := hid ht
  clear h1 h2 h3 ht s1 l1 l2 w1 ok hk0
  go_enter Tryd.func47, Tryd.ntmps47
  go_upto_region 1 with fail
  rw [show (w.alloc (.cells (tmc 1 fd n (.slice ao ks.length cap)) 26)).alloc (.cells #[.int .i8 0, .int .i8 0, .int .u64 0, .slice none 0 0] 26) = W1 from HE.out]
  clear HE
  go_wp2_with (first
    | (refine ldRow 26 (.tmp 1) rfl rfl w.heap.size rfl 26 (tmc 1 fd n (.slice ao ks.length cap)) _ Tryd.underlying26 rfl sizeTM HT.out.n ?_)
    | (refine stRow 26 (.tmp 2) (.tmp 112) rfl rfl (w.heap.size + 1) (tmc 1 fd n (.slice ao ks.length cap)) rfl rfl 26 (tmc 0 0 0 nilS) HT.out.r sizeTM rfl (tmc_one _ _ _ _ _ _) ?_))
  refine bodyPost_ret (v := .agg (tmc 1 fd n (.slice ao ks.length cap))) (res_tm Tryd.results47 _ _ (w.heap.size + 1) _ sizeTM rfl (setRow_heap _ _ _ _ _ _ HT.out.r)) rfl ?_
  rw [HPl.out]
  exact ⟨_, rfl, tw_fin HT.out.b (um_on HU.out fun b hb hS => ⟨Or.inl ⟨hb, hS⟩, HT.out.b.block b hb⟩)⟩
set_option maxHeartbeats 25600000 in
theorem rplain_2 (N : Nat) (_HIH : Hid (∀ (t : Tm) (cs : Array Value) (b : Bool) (S : Nat → Prop) (w : World), sz t ≤ N → N ≤ 4096 → oneT b t = true → UmV S w t cs → Calls Tryd.prog 47 #[.agg cs] w fun e w' => ∃ ds, e = .returned (.agg ds) ∧ Below w.heap.size w w' ∧ UmV (Old S w) w' (pl t) ds)) (fd n : Nat) (ks : List Tm) (cs : Array Value) (b : Bool) (S : Nat → Prop) (w : World) (hN : sz (.mk 2 fd n ks) ≤ N + 1) (hsm : N + 1 ≤ 4096) (h1 : oneT b (.mk 2 fd n ks) = true) (ht : UmV S w (.mk 2 fd n ks) cs) : Calls Tryd.prog 47 #[.agg cs] w fun e w' => ∃ ds, e = .returned (.agg ds) ∧ Below w.heap.size w w' ∧ UmV (Old S w) w' (pl (.mk 2 fd n ks)) ds := by
  obtain ⟨v, xs, rfl, h2, h3⟩ := ht.get
  obtain ⟨ao, cap, rfl⟩ := h2.form
  obtain ⟨s1, l1, l2, w1, ok⟩ := oneT_iff.1 h1
  rw [sz] at hN
  have hkl : ks.length ≤ 4096 := by have := len_le_szs ks; omega
  obtain ⟨W1, hW1⟩ : ∃ W1, W1 = (w.alloc (.cells (tmc 2 fd n (.slice ao ks.length cap)) 26)).alloc (.cells (tmc 0 0 0 nilS) 26) := ⟨_, rfl⟩
  have HE : Hid ((w.alloc (.cells (tmc 2 fd n (.slice ao ks.length cap)) 26)).alloc (.cells #[.int .i8 0, .int .i8 0, .int .u64 0, .slice none 0 0] 26) = W1) := hW1.symm
  have HT : Hid (Tw w (tmc 2 fd n (.slice ao ks.length cap)) W1) := by show Tw _ _ _; rw [hW1]; exact Tw.new _ _
  have c0 := (four_cells HT.out.n).1
  have c3 := (four_cells HT.out.n).2.2.2
  have HZ := hid HT.out.sz
  clear hW1
  have hk0 : ks = [] := List.length_eq_zero_iff.1 (by have : mst 2 = 0 := rfl; omega)
  have HPl : Hid (pl (.mk 2 fd n ks) = .mk 2 fd n ks) := by show _ = _; rw [hk0, pl_mk]; rfl
  have HU := hid ht
  clear h1 h2 h3 ht s1 l1 l2 w1 ok hk0
  go_enter Tryd.func47, Tryd.ntmps47
  go_upto_region 1 with fail
  rw [show (w.alloc (.cells (tmc 2 fd n (.slice ao ks.length cap)) 26)).alloc (.cells #[.int .i8 0, .int .i8 0, .int .u64 0, .slice none 0 0] 26) = W1 from HE.out]
  clear HE
  go_wp2_with (first
    | (refine ldRow 26 (.tmp 1) rfl rfl w.heap.size rfl 26 (tmc 2 fd n (.slice ao ks.length cap)) _ Tryd.underlying26 rfl sizeTM HT.out.n ?_)
    | (refine stRow 26 (.tmp 2) (.tmp 112) rfl rfl (w.heap.size + 1) (tmc 2 fd n (.slice ao ks.length cap)) rfl rfl 26 (tmc 0 0 0 nilS) HT.out.r sizeTM rfl (tmc_one _ _ _ _ _ _) ?_))
  refine bodyPost_ret (v := .agg (tmc 2 fd n (.slice ao ks.length cap))) (res_tm Tryd.results47 _ _ (w.heap.size + 1) _ sizeTM rfl (setRow_heap _ _ _ _ _ _ HT.out.r)) rfl ?_
  rw [HPl.out]
  exact ⟨_, rfl, tw_fin HT.out.b (um_on HU.out fun b hb hS => ⟨Or.inl ⟨hb, hS⟩, HT.out.b.block b hb⟩)⟩
set_option maxHeartbeats 25600000 in
theorem rplain_7 (N : Nat) (_HIH : Hid (∀ (t : Tm) (cs : Array Value) (b : Bool) (S : Nat → Prop) (w : World), sz t ≤ N → N ≤ 4096 → oneT b t = true → UmV S w t cs → Calls Tryd.prog 47 #[.agg cs] w fun e w' => ∃ ds, e = .returned (.agg ds) ∧ Below w.heap.size w w' ∧ UmV (Old S w) w' (pl t) ds)) (fd n : Nat) (ks : List Tm) (cs : Array Value) (b : Bool) (S : Nat → Prop) (w : World) (hN : sz (.mk 7 fd n ks) ≤ N + 1) (hsm : N + 1 ≤ 4096) (h1 : oneT b (.mk 7 fd n ks) = true) (ht : UmV S w (.mk 7 fd n ks) cs) : Calls Tryd.prog 47 #[.agg cs] w fun e w' => ∃ ds, e = .returned (.agg ds) ∧ Below w.heap.size w w' ∧ UmV (Old S w) w' (pl (.mk 7 fd n ks)) ds := by
  obtain ⟨v, xs, rfl, h2, h3⟩ := ht.get
  obtain ⟨ao, cap, rfl⟩ := h2.form
  obtain ⟨s1, l1, l2, w1, ok⟩ := oneT_iff.1 h1
  rw [sz] at hN
  have hkl : ks.length ≤ 4096 := by have := len_le_szs ks; omega
  obtain ⟨W1, hW1⟩ : ∃ W1, W1 = (w.alloc (.cells (tmc 7 fd n (.slice ao ks.length cap)) 26)).alloc (.cells (tmc 0 0 0 nilS) 26) := ⟨_, rfl⟩
  have HE : Hid ((w.alloc (.cells (tmc 7 fd n (.slice ao ks.length cap)) 26)).alloc (.cells #[.int .i8 0, .int .i8 0, .int .u64 0, .slice none 0 0] 26) = W1) := hW1.symm
  have HT : Hid (Tw w (tmc 7 fd n (.slice ao ks.length cap)) W1) := by show Tw _ _ _; rw [hW1]; exact Tw.new _ _
  have c0 := (four_cells HT.out.n).1
  have c3 := (four_cells HT.out.n).2.2.2
  have HZ := hid HT.out.sz
  clear hW1
  have hk0 : ks = [] := List.length_eq_zero_iff.1 (by have : mst 7 = 0 := rfl; omega)
  have HPl : Hid (pl (.mk 7 fd n ks) = .mk 7 fd n ks) := by show _ = _; rw [hk0, pl_mk]; rfl
  have HU := hid ht
  clear h1 h2 h3 ht s1 l1 l2 w1 ok hk0
  go_enter Tryd.func47, Tryd.ntmps47
  go_upto_region 1 with fail
  rw [show (w.alloc (.cells (tmc 7 fd n (.slice ao ks.length cap)) 26)).alloc (.cells #[.int .i8 0, .int .i8 0, .int .u64 0, .slice none 0 0] 26) = W1 from HE.out]
  clear HE
  go_wp2_with (first
    | (refine ldRow 26 (.tmp 1) rfl rfl w.heap.size rfl 26 (tmc 7 fd n (.slice ao ks.length cap)) _ Tryd.underlying26 rfl sizeTM HT.out.n ?_)
    | (refine stRow 26 (.tmp 2) (.tmp 112) rfl rfl (w.heap.size + 1) (tmc 7 fd n (.slice ao ks.length cap)) rfl rfl 26 (tmc 0 0 0 nilS) HT.out.r sizeTM rfl (tmc_one _ _ _ _ _ _) ?_))
  refine bodyPost_ret (v := .agg (tmc 7 fd n (.slice ao ks.length cap))) (res_tm Tryd.results47 _ _ (w.heap.size + 1) _ sizeTM rfl (setRow_heap _ _ _ _ _ _ HT.out.r)) rfl ?_
  rw [HPl.out]
  exact ⟨_, rfl, tw_fin HT.out.b (um_on HU.out fun b hb hS => ⟨Or.inl ⟨hb, hS⟩, HT.out.b.block b hb⟩)⟩
end Go.Proofs.YtjallmncajhamaaDoor
namespace Go.Proofs.YtjallmncajhamaaDoor
open Go.RowKit
set_option maxRecDepth 100000

set_option maxHeartbeats 25600000 in
theorem rplain_3 (N : Nat) (HIH : Hid (∀ (t : Tm) (cs : Array Value) (b : Bool) (S : Nat → Prop) (w : World), sz t ≤ N → N ≤ 4096 → oneT b t = true → UmV S w t cs → Calls Tryd.prog 47 #[.agg cs] w fun e w' => ∃ ds, e = .returned (.agg ds) ∧ Below w.heap.size w w' ∧ UmV (Old S w) w' (pl t) ds)) (fd n : Nat) (ks : List Tm) (cs : Array Value) (b : Bool) (S : Nat → Prop) (w : World) (hN : sz (.mk 3 fd n ks) ≤ N + 1) (hsm : N + 1 ≤ 4096) (h1 : oneT b (.mk 3 fd n ks) = true) (ht : UmV S w (.mk 3 fd n ks) cs) : Calls Tryd.prog 47 #[.agg cs] w fun e w' => ∃ ds, e = .returned (.agg ds) ∧ Below w.heap.size w w' ∧ UmV (Old S w) w' (pl (.mk 3 fd n ks)) ds := by
  obtain ⟨v, xs, rfl, h2, h3⟩ := ht.get
  obtain ⟨ao, cap, rfl⟩ := h2.form
  obtain ⟨s1, l1, l2, w1, ok⟩ := oneT_iff.1 h1
  rw [sz] at hN
  have hkl : ks.length ≤ 4096 := by have := len_le_szs ks; omega
  obtain ⟨W1, hW1⟩ : ∃ W1, W1 = (w.alloc (.cells (tmc 3 fd n (.slice ao ks.length cap)) 26)).alloc (.cells (tmc 0 0 0 nilS) 26) := ⟨_, rfl⟩
  have HE : Hid ((w.alloc (.cells (tmc 3 fd n (.slice ao ks.length cap)) 26)).alloc (.cells #[.int .i8 0, .int .i8 0, .int .u64 0, .slice none 0 0] 26) = W1) := hW1.symm
  have HT : Hid (Tw w (tmc 3 fd n (.slice ao ks.length cap)) W1) := by show Tw _ _ _; rw [hW1]; exact Tw.new _ _
  have c0 := (four_cells HT.out.n).1
  have c3 := (four_cells HT.out.n).2.2.2
  have HZ := hid HT.out.sz
  clear hW1
  obtain ⟨k, rfl⟩ := len_one l1 l2
  obtain ⟨g, o, rfl, hc, hg, hgl, y0, y1, y2, y3, hkv, hra⟩ := UmL.kid h2 h3 (j := 0) (by simp)
  simp only [List.getElem_cons_zero, Nat.zero_mul, Nat.add_zero] at hkv hra
  have hok := ok k (List.mem_cons_self ..)
  have hks : sz k ≤ N := by rw [szs, szs] at hN; omega
  have hw : fd = 0 ∧ n = 0 := by simpa [nwT] using w1
  obtain ⟨rfl, rfl⟩ := hw
  have HRA : Hid (W1.rangeAt g o (#[y0, y1, y2, y3] : Array Value).toList) := fun i v hi => (cell_same (HT.out.b.block g hgl)).trans (hra i v hi)
  have HC := hid (HIH.out k #[y0, y1, y2, y3] _ (fun b => b < w.heap.size ∧ S b) W1 hks (by omega) hok (um_on hkv fun b hb hS => ⟨⟨hb, hS⟩, HT.out.b.block b hb⟩))
  have HGK := hid (gd_pl _ k hok (by omega))
  have hc1 : 1 ≤ cap := hc
  have HPl : Hid (pl (.mk 3 0 0 [k]) = plN (pl k)) := by show _ = _; rw [pl_mk]; rfl
  clear h1 h2 h3 ht s1 l1 l2 w1 ok hN hkl hra hkv hg hgl hok hks hc
  go_enter Tryd.func47, Tryd.ntmps47
  go_upto_region 1 with fail
  rw [show (w.alloc (.cells (tmc 3 0 0 (.slice (some ⟨g, o, none⟩) 1 cap)) 26)).alloc (.cells #[.int .i8 0, .int .i8 0, .int .u64 0, .slice none 0 0] 26) = W1 from HE.out]
  clear HE
  go_upto_region 3 with fail
  go_upto_region 4 with (first
    | (refine ldMid 26 (.tmp 19) rfl rfl g o rfl #[y0, y1, y2, y3] _ Tryd.underlying26 rfl sizeTM HRA.out ?_)
    | (go_at_call 47; refine (HC.out).mono ?_; rintro e w2 ⟨ds, rfl, hw, hd⟩; have HW2 := hid hw; have HD2 := hid hd; clear hw hd HC)
    | (refine stNew 26 (.tmp 3) (.tmp 21) rfl rfl w2 26 (tmc 0 0 0 nilS) ds rfl rfl rfl HD2.out.info (by rw [HD2.out.size]; rfl) HD2.out.one ?_))
  obtain ⟨K, hK⟩ : ∃ K, K = pl k := ⟨_, rfl⟩
  rw [← hK] at HD2 HPl HGK
  clear hK
  obtain ⟨kop, kfd, kn, kks⟩ := K
  obtain ⟨kv, zs, hcs, hk2, hk3⟩ := HD2.out.get
  obtain ⟨kao, kcap, rfl⟩ := hk2.form
  subst hcs
  have hz := HZ.out
  have hz2 := HW2.out.size
  have hb3 : Below w2.heap.size w2 (w2.alloc (.cells (tmc kop kfd kn (.slice kao kks.length kcap)) 26)) := (Below.refl _ _).alloc (Nat.le_refl _) _
  have HB3 := hid ((HT.out.b.trans (HW2.out.mono HT.out.b.size)).trans (hb3.mono (by omega)))
  have HN3 : Hid ((w2.alloc (.cells (tmc kop kfd kn (.slice kao kks.length kcap)) 26)).heap[w2.heap.size]? = some (.cells (tmc kop kfd kn (.slice kao kks.length kcap)) 26 (0, 0))) := heap_alloc_new _ _
  have HR3 : Hid ((w2.alloc (.cells (tmc kop kfd kn (.slice kao kks.length kcap)) 26)).heap[w.heap.size + 1]? = some (.cells (tmc 0 0 0 nilS) 26 (0, 0))) := (hb3.block _ (by omega)).trans ((HW2.out.block _ (by omega)).trans HT.out.r)
  have hcar : ∀ b, b < w2.heap.size → Old (fun b => b < w.heap.size ∧ S b) W1 b → ((b < w.heap.size ∧ S b) ∨ w.heap.size + 1 < b) ∧ (w2.alloc (.cells (tmc kop kfd kn (.slice kao kks.length kcap)) 26)).heap[b]? = w2.heap[b]? := fun b hb hS => ⟨by
    rcases hS with ⟨-, h⟩ | h
    · exact Or.inl h
    · exact Or.inr (by omega), heap_alloc_old _ _ hb⟩
  have HU3 := hid (um_on HD2.out hcar)
  have HKx : Hid (Rx (fun b => (b < w.heap.size ∧ S b) ∨ w.heap.size + 1 < b) 4 (w2.alloc (.cells (tmc kop kfd kn (.slice kao kks.length kcap)) 26)) (.slice kao kks.length kcap) kks.length zs ∧ UmL (fun b => (b < w.heap.size ∧ S b) ∨ w.heap.size + 1 < b) (w2.alloc (.cells (tmc kop kfd kn (.slice kao kks.length kcap)) 26)) kks zs) := ⟨hk2.carry hcar, UmL.carry hcar _ _ hk3⟩
  have HK0 : Hid (w.heap.size + 1 < w2.heap.size) := by show _ < _; omega
  clear hcar hk2 hk3 hb3 HW2 HD2 hz hz2 HRA c0 c3 HT HZ
  generalize w2.alloc (.cells (tmc kop kfd kn (.slice kao kks.length kcap)) 26) = w3 at HB3 HN3 HR3 HU3 HKx ⊢
  generalize w2.heap.size = Kb at HN3 HK0 ⊢
  have d0 := (four_cells HN3.out).1
  have d3 := (four_cells HN3.out).2.2.2
  by_cases k3 : kop = 3
  · obtain ⟨x, rfl⟩ : ∃ x, kks = [x] := by
      have h9 := oneT_iff.1 HGK.out.o
      rw [k3] at h9
      exact len_one h9.2.1 h9.2.2.1
    have e3 : (((kop : Nat) : Int) == 3) = true := beq_iff_eq.2 (by omega)
    have e3' : decide (((kop : Nat) : Int) = 3) = true := decide_eq_true (by omega)
    have e3'' : decide (kop = 3) = true := decide_eq_true (by omega)
    have HPl2 : Hid (pl (.mk 3 0 0 [k]) = x) := by show _ = _; rw [HPl.out]; unfold plN; rw [if_pos (show (Tm.mk kop kfd kn [x]).op = 3 from k3)]; rfl
    obtain ⟨g2, o2, rfl, hc2, hg2, hgl2, z0, z1, z2, z3, hxv, hrx⟩ := UmL.kid HKx.out.1 HKx.out.2 (j := 0) (by simp)
    simp only [List.getElem_cons_zero, Nat.zero_mul, Nat.add_zero] at hxv hrx
    have HRX := hid hrx
    have HXV := hid hxv
    have hc3 : 1 ≤ kcap := hc2
    clear k3 hrx hxv hg2 hgl2 hc2 HPl
    go_wp2_with (first
      | (refine ldMid 26 (.tmp 28) rfl rfl g2 o2 rfl #[z0, z1, z2, z3] _ Tryd.underlying26 rfl sizeTM HRX.out ?_)
      | (refine stRow 26 (.tmp 2) (.tmp 29) rfl rfl (w.heap.size + 1) #[z0, z1, z2, z3] rfl rfl 26 (tmc 0 0 0 nilS) HR3.out sizeTM rfl HXV.out.one ?_))
    refine bodyPost_ret (v := .agg #[z0, z1, z2, z3]) (res_tm Tryd.results47 _ _ (w.heap.size + 1) _ sizeTM rfl (setRow_heap _ _ _ _ _ _ HR3.out)) rfl ?_
    rw [HPl2.out]
    exact ⟨_, rfl, tw_fin HB3.out HXV.out⟩
  have e3 : (((kop : Nat) : Int) == 3) = false := beq_eq_false_iff_ne.2 (by omega)
  have e3' : decide (((kop : Nat) : Int) = 3) = false := decide_eq_false (by omega)
  have e3'' : decide (kop = 3) = false := decide_eq_false (by omega)
  by_cases k1 : kop = 1
  · have HPl2 : Hid (pl (.mk 3 0 0 [k]) = leaf 0) := by show _ = _; rw [HPl.out]; unfold plN; rw [if_neg (show ¬ (Tm.mk kop kfd kn kks).op = 3 from k3), if_pos (show (Tm.mk kop kfd kn kks).op = 1 from k1)]
    have e1 : (((kop : Nat) : Int) == 1) = true := beq_iff_eq.2 (by omega)
    have e1' : decide (((kop : Nat) : Int) = 1) = true := decide_eq_true (by omega)
    have e1'' : decide (kop = 1) = true := decide_eq_true (by omega)
    clear k1 k3 HPl
    have hbt := fun W => run_bt0 0 W
    go_wp2_with (refine stRow 26 (.tmp 2) (.tmp 32) rfl rfl (w.heap.size + 1) (tmc 0 0 0 nilS) rfl rfl 26 (tmc 0 0 0 nilS) HR3.out sizeTM rfl (tmc_one _ _ _ _ _ _) ?_)
    refine bodyPost_ret (v := .agg (tmc 0 0 0 nilS)) (res_tm Tryd.results47 _ _ (w.heap.size + 1) _ sizeTM rfl (setRow_heap _ _ _ _ _ _ HR3.out)) rfl ?_
    rw [HPl2.out]
    exact ⟨_, rfl, tw_fin HB3.out (um_lf9 _ _ 0)⟩
  have e1 : (((kop : Nat) : Int) == 1) = false := beq_eq_false_iff_ne.2 (by omega)
  have e1' : decide (((kop : Nat) : Int) = 1) = false := decide_eq_false (by omega)
  have e1'' : decide (kop = 1) = false := decide_eq_false (by omega)
  by_cases k0 : kop = 0
  · have HPl2 : Hid (pl (.mk 3 0 0 [k]) = leaf 1) := by show _ = _; rw [HPl.out]; unfold plN; rw [if_neg (show ¬ (Tm.mk kop kfd kn kks).op = 3 from k3), if_neg (show ¬ (Tm.mk kop kfd kn kks).op = 1 from k1), if_pos (show (Tm.mk kop kfd kn kks).op = 0 from k0)]
    have e0 : (((kop : Nat) : Int) == 0) = true := beq_iff_eq.2 (by omega)
    have e0' : decide (((kop : Nat) : Int) = 0) = true := decide_eq_true (by omega)
    have e0'' : decide (kop = 0) = true := decide_eq_true (by omega)
    clear k0 k1 k3 HPl
    have hbt := fun W => run_bt0 1 W
    go_wp2_with (refine stRow 26 (.tmp 2) (.tmp 35) rfl rfl (w.heap.size + 1) (tmc 1 0 0 nilS) rfl rfl 26 (tmc 0 0 0 nilS) HR3.out sizeTM rfl (tmc_one _ _ _ _ _ _) ?_)
    refine bodyPost_ret (v := .agg (tmc 1 0 0 nilS)) (res_tm Tryd.results47 _ _ (w.heap.size + 1) _ sizeTM rfl (setRow_heap _ _ _ _ _ _ HR3.out)) rfl ?_
    rw [HPl2.out]
    exact ⟨_, rfl, tw_fin HB3.out (um_lf9 _ _ 1)⟩
  have e0 : (((kop : Nat) : Int) == 0) = false := beq_eq_false_iff_ne.2 (by omega)
  have e0' : decide (((kop : Nat) : Int) = 0) = false := decide_eq_false (by omega)
  have e0'' : decide (kop = 0) = false := decide_eq_false (by omega)
  have HPl2 : Hid (pl (.mk 3 0 0 [k]) = .mk 3 0 0 [.mk kop kfd kn kks]) := by show _ = _; rw [HPl.out]; unfold plN; rw [if_neg (show ¬ (Tm.mk kop kfd kn kks).op = 3 from k3), if_neg (show ¬ (Tm.mk kop kfd kn kks).op = 1 from k1), if_neg (show ¬ (Tm.mk kop kfd kn kks).op = 0 from k0)]
  clear k0 k1 k3 HPl
  have hbt := fun W => run_bt03 3 (some ⟨w3.heap.size, 0, none⟩) 1 1 W
  have HR4 : Hid ((w3.alloc (.cells (tmc kop kfd kn (.slice kao kks.length kcap)) 26)).heap[w.heap.size + 1]? = some (.cells (tmc 0 0 0 nilS) 26 (0, 0))) := (heap_alloc_old _ _ (Array.getElem?_eq_some_iff.1 HR3.out).1).trans HR3.out
  have HZ3 : Hid (w.heap.size + 1 < w3.heap.size) := (Array.getElem?_eq_some_iff.1 HR3.out).1
  go_wp2_with (first
    | (refine ldRow 26 (.tmp 3) rfl rfl Kb rfl 26 (tmc kop kfd kn (.slice kao kks.length kcap)) _ Tryd.underlying26 rfl sizeTM HN3.out ?_)
    | (refine bldSl 24 26 (.tmp 36) rfl rfl (tmc kop kfd kn (.slice kao kks.length kcap)) rfl Tryd.underlying24 _ _ _ rfl rfl rfl rfl (by decide) (by decide) ?_)
    | (refine stRow 26 (.tmp 2) (.tmp 38) rfl rfl (w.heap.size + 1) (tmc 3 0 0 (.slice (some ⟨w3.heap.size, 0, none⟩) 1 1)) rfl rfl 26 (tmc 0 0 0 nilS) HR4.out sizeTM rfl (tmc_one _ _ _ _ _ _) ?_))
  refine bodyPost_ret (v := .agg (tmc 3 0 0 (.slice (some ⟨w3.heap.size, 0, none⟩) 1 1))) (res_tm Tryd.results47 _ _ (w.heap.size + 1) _ sizeTM rfl (setRow_heap _ _ _ _ _ _ HR4.out)) rfl ?_
  rw [HPl2.out]
  exact ⟨_, rfl, tw_fin (HB3.out.alloc (by have := HZ3.out; omega) _) (um_bld9 HU3.out 3 (Or.inr HZ3.out) fun b _ h => h)⟩
end Go.Proofs.YtjallmncajhamaaDoor
namespace Go.Proofs.YtjallmncajhamaaDoor
open Go.RowKit
set_option maxRecDepth 100000

set_option maxHeartbeats 25600000 in
theorem rplain_4 (N : Nat) (HIH : Hid (∀ (t : Tm) (cs : Array Value) (b : Bool) (S : Nat → Prop) (w : World), sz t ≤ N → N ≤ 4096 → oneT b t = true → UmV S w t cs → Calls Tryd.prog 47 #[.agg cs] w fun e w' => ∃ ds, e = .returned (.agg ds) ∧ Below w.heap.size w w' ∧ UmV (Old S w) w' (pl t) ds)) (fd n : Nat) (ks : List Tm) (cs : Array Value) (b : Bool) (S : Nat → Prop) (w : World) (hN : sz (.mk 4 fd n ks) ≤ N + 1) (hsm : N + 1 ≤ 4096) (h1 : oneT b (.mk 4 fd n ks) = true) (ht : UmV S w (.mk 4 fd n ks) cs) : Calls Tryd.prog 47 #[.agg cs] w fun e w' => ∃ ds, e = .returned (.agg ds) ∧ Below w.heap.size w w' ∧ UmV (Old S w) w' (pl (.mk 4 fd n ks)) ds := by
  obtain ⟨v, xs, rfl, h2, h3⟩ := ht.get
  obtain ⟨ao, cap, rfl⟩ := h2.form
  obtain ⟨s1, l1, l2, w1, ok⟩ := oneT_iff.1 h1
  rw [sz] at hN
  have hkl : ks.length ≤ 4096 := by have := len_le_szs ks; omega
  obtain ⟨W1, hW1⟩ : ∃ W1, W1 = (w.alloc (.cells (tmc 4 fd n (.slice ao ks.length cap)) 26)).alloc (.cells (tmc 0 0 0 nilS) 26) := ⟨_, rfl⟩
  have HE : Hid ((w.alloc (.cells (tmc 4 fd n (.slice ao ks.length cap)) 26)).alloc (.cells #[.int .i8 0, .int .i8 0, .int .u64 0, .slice none 0 0] 26) = W1) := hW1.symm
  have HT : Hid (Tw w (tmc 4 fd n (.slice ao ks.length cap)) W1) := by show Tw _ _ _; rw [hW1]; exact Tw.new _ _
  have c0 := (four_cells HT.out.n).1
  have c3 := (four_cells HT.out.n).2.2.2
  have HZ := hid HT.out.sz
  clear hW1
  obtain ⟨g1, g2, -⟩ := gd_pls _ ks ok (by omega)
  rw [pls_map] at g1 g2
  have HSide : Hid (∀ k ∈ ks.map pl, oneT (decide (4 ≤ 5)) k = true ∧ Nf k) := g1
  have HRo := hid (rrow_any (fun b => b < w.heap.size ∧ S b) 4 fd n 1 0 false ks (tmc 4 fd n (.slice ao ks.length cap)) W1 (um_on ht fun b hb hS => ⟨⟨hb, hS⟩, HT.out.b.block b hb⟩) (by omega) hkl (row_good rfl fun k hk => (g1 k hk).1) (fun S1 j hj cs W hv => HIH.out ks[j] cs _ S1 W (by have := szs_mem (List.getElem_mem hj); omega) (by omega) (ok _ (List.getElem_mem hj)) hv))
  have HLo : Hid ((outD 4 1 false (ks.map pl)).length ≤ 4096) := by
    show _ ≤ _
    unfold outD
    exact Nat.le_trans (List.length_filter_le _ _) (Nat.le_trans (flt_len _ _) (by omega))
  clear h1 h2 h3 ht s1 l1 l2 w1 ok hN g1 g2
  have HPf : Hid (fndD 4 0 false (ks.map pl) = true → pl (.mk 4 fd n ks) = sayT 0 4) := fun h => pl_found (op := 4) rfl HSide.out (by decide) h
  have HPn : Hid (fndD 4 0 false (ks.map pl) = false → pl (.mk 4 fd n ks) = finD 4 (sayT 1 4) (outD 4 1 false (ks.map pl))) := fun h => pl_none (op := 4) rfl HSide.out (by decide) h
  go_enter Tryd.func47, Tryd.ntmps47
  go_upto_region 1 with fail
  rw [show (w.alloc (.cells (tmc 4 fd n (.slice ao ks.length cap)) 26)).alloc (.cells #[.int .i8 0, .int .i8 0, .int .u64 0, .slice none 0 0] 26) = W1 from HE.out]
  clear HE
  go_upto_region 13 with fail
  obtain ⟨fo, hfo⟩ : ∃ fo, fo = fndD 4 0 false (ks.map pl) := ⟨_, rfl⟩
  obtain ⟨O, hO⟩ : ∃ O, O = outD 4 1 false (ks.map pl) := ⟨_, rfl⟩
  rw [← hfo, ← hO] at HRo
  rw [← hO] at HLo HPn
  rw [← hfo] at HPf HPn
  clear hfo hO HSide
  go_upto_region 14 with (first
    | (refine ldRow 26 (.tmp 1) rfl rfl w.heap.size rfl 26 (tmc 4 fd n (.slice ao ks.length cap)) _ Tryd.underlying26 rfl sizeTM HT.out.n ?_)
    | (go_at_call 71; refine (HRo.out).mono ?_; rintro e w2 ⟨oo, oc, zs, rfl, hw, hx, hl⟩; have HW2 := hid hw; have HX2 := hid hx; have HL2 := hid hl; clear hw hx hl HRo))
  have hz := HZ.out
  have hz2 := HW2.out.size
  have HB2 := hid (HT.out.b.trans (HW2.out.mono HT.out.b.size))
  have HR2 : Hid (w2.heap[w.heap.size + 1]? = some (.cells (tmc 0 0 0 nilS) 26 (0, 0))) := (HW2.out.block _ (by omega)).trans HT.out.r
  have HOl : Hid (∀ b, Old (fun b => b < w.heap.size ∧ S b) W1 b → (b < w.heap.size ∧ S b) ∨ w.heap.size + 1 < b) := fun b hS => by
    rcases hS with ⟨-, h⟩ | h
    · exact Or.inl h
    · exact Or.inr (by omega)
  have HZ2 : Hid (W1.heap.size ≤ w2.heap.size) := hz2
  clear hz hz2 HT c0 c3
  cases fo with
  | true =>
    have HPl2 : Hid (pl (.mk 4 fd n ks) = leaf 0) := HPf.out rfl
    have hbt := fun W => run_bt0 0 W
    go_wp2_with (refine stRow 26 (.tmp 2) (.tmp 47) rfl rfl (w.heap.size + 1) (tmc 0 0 0 nilS) rfl rfl 26 (tmc 0 0 0 nilS) HR2.out sizeTM rfl (tmc_one _ _ _ _ _ _) ?_)
    refine bodyPost_ret (v := .agg (tmc 0 0 0 nilS)) (res_tm Tryd.results47 _ _ (w.heap.size + 1) _ sizeTM rfl (setRow_heap _ _ _ _ _ _ HR2.out)) rfl ?_
    rw [HPl2.out]
    exact ⟨_, rfl, tw_fin HB2.out (um_lf9 _ _ 0)⟩
  | false =>
    have HPl2 := hid (HPn.out rfl)
    have hbt := fun W => run_bt0 1 W
    have HJ := hid (rjoin_any 4 O (leaf 1) oo oc zs (tmc 1 0 0 nilS) (Old (fun b => b < w.heap.size ∧ S b) W1) w2 HLo.out HX2.out HL2.out (um_lf9 _ _ 1))
    go_wp2_with (first
      | (go_at_call 72; refine (HJ.out).mono ?_; rintro e w4 ⟨es, rfl, hw, he⟩; have HW4 := hid hw; have HE4 := hid he; have HR4 := hid ((hw.block _ (Array.getElem?_eq_some_iff.1 HR2.out).1).trans HR2.out); clear hw he HJ)
      | (refine stRow 26 (.tmp 2) (.tmp 50) rfl rfl (w.heap.size + 1) es rfl rfl 26 (tmc 0 0 0 nilS) HR4.out HE4.out.info (by rw [HE4.out.size]; rfl) HE4.out.one ?_))
    refine bodyPost_ret (v := .agg es) (res_tm Tryd.results47 _ _ (w.heap.size + 1) _ HE4.out.info rfl (setRow_heap _ _ _ _ _ _ HR4.out)) rfl ?_
    rw [HPl2.out]
    exact ⟨_, rfl, tw_fin (HB2.out.trans (HW4.out.mono HB2.out.size)) (um_on HE4.out fun b _ hS => ⟨HOl.out b hS.2, rfl⟩)⟩
end Go.Proofs.YtjallmncajhamaaDoor
namespace Go.Proofs.YtjallmncajhamaaDoor
open Go.RowKit
set_option maxRecDepth 100000

set_option maxHeartbeats 25600000 in
theorem rplain_5 (N : Nat) (HIH : Hid (∀ (t : Tm) (cs : Array Value) (b : Bool) (S : Nat → Prop) (w : World), sz t ≤ N → N ≤ 4096 → oneT b t = true → UmV S w t cs → Calls Tryd.prog 47 #[.agg cs] w fun e w' => ∃ ds, e = .returned (.agg ds) ∧ Below w.heap.size w w' ∧ UmV (Old S w) w' (pl t) ds)) (fd n : Nat) (ks : List Tm) (cs : Array Value) (b : Bool) (S : Nat → Prop) (w : World) (hN : sz (.mk 5 fd n ks) ≤ N + 1) (hsm : N + 1 ≤ 4096) (h1 : oneT b (.mk 5 fd n ks) = true) (ht : UmV S w (.mk 5 fd n ks) cs) : Calls Tryd.prog 47 #[.agg cs] w fun e w' => ∃ ds, e = .returned (.agg ds) ∧ Below w.heap.size w w' ∧ UmV (Old S w) w' (pl (.mk 5 fd n ks)) ds := by
  obtain ⟨v, xs, rfl, h2, h3⟩ := ht.get
  obtain ⟨ao, cap, rfl⟩ := h2.form
  obtain ⟨s1, l1, l2, w1, ok⟩ := oneT_iff.1 h1
  rw [sz] at hN
  have hkl : ks.length ≤ 4096 := by have := len_le_szs ks; omega
  obtain ⟨W1, hW1⟩ : ∃ W1, W1 = (w.alloc (.cells (tmc 5 fd n (.slice ao ks.length cap)) 26)).alloc (.cells (tmc 0 0 0 nilS) 26) := ⟨_, rfl⟩
  have HE : Hid ((w.alloc (.cells (tmc 5 fd n (.slice ao ks.length cap)) 26)).alloc (.cells #[.int .i8 0, .int .i8 0, .int .u64 0, .slice none 0 0] 26) = W1) := hW1.symm
  have HT : Hid (Tw w (tmc 5 fd n (.slice ao ks.length cap)) W1) := by show Tw _ _ _; rw [hW1]; exact Tw.new _ _
  have c0 := (four_cells HT.out.n).1
  have c3 := (four_cells HT.out.n).2.2.2
  have HZ := hid HT.out.sz
  clear hW1
  obtain ⟨g1, g2, -⟩ := gd_pls _ ks ok (by omega)
  rw [pls_map] at g1 g2
  have HSide : Hid (∀ k ∈ ks.map pl, oneT (decide (5 ≤ 5)) k = true ∧ Nf k) := g1
  have HRo := hid (rrow_any (fun b => b < w.heap.size ∧ S b) 5 fd n 0 1 false ks (tmc 5 fd n (.slice ao ks.length cap)) W1 (um_on ht fun b hb hS => ⟨⟨hb, hS⟩, HT.out.b.block b hb⟩) (by omega) hkl (row_good rfl fun k hk => (g1 k hk).1) (fun S1 j hj cs W hv => HIH.out ks[j] cs _ S1 W (by have := szs_mem (List.getElem_mem hj); omega) (by omega) (ok _ (List.getElem_mem hj)) hv))
  have HLo : Hid ((outD 5 0 false (ks.map pl)).length ≤ 4096) := by
    show _ ≤ _
    unfold outD
    exact Nat.le_trans (List.length_filter_le _ _) (Nat.le_trans (flt_len _ _) (by omega))
  clear h1 h2 h3 ht s1 l1 l2 w1 ok hN g1 g2
  have HPf : Hid (fndD 5 1 false (ks.map pl) = true → pl (.mk 5 fd n ks) = sayT 1 5) := fun h => pl_found (op := 5) rfl HSide.out (by decide) h
  have HPn : Hid (fndD 5 1 false (ks.map pl) = false → pl (.mk 5 fd n ks) = finD 5 (sayT 0 5) (outD 5 0 false (ks.map pl))) := fun h => pl_none (op := 5) rfl HSide.out (by decide) h
  go_enter Tryd.func47, Tryd.ntmps47
  go_upto_region 1 with fail
  rw [show (w.alloc (.cells (tmc 5 fd n (.slice ao ks.length cap)) 26)).alloc (.cells #[.int .i8 0, .int .i8 0, .int .u64 0, .slice none 0 0] 26) = W1 from HE.out]
  clear HE
  go_upto_region 18 with fail
  obtain ⟨fo, hfo⟩ : ∃ fo, fo = fndD 5 1 false (ks.map pl) := ⟨_, rfl⟩
  obtain ⟨O, hO⟩ : ∃ O, O = outD 5 0 false (ks.map pl) := ⟨_, rfl⟩
  rw [← hfo, ← hO] at HRo
  rw [← hO] at HLo HPn
  rw [← hfo] at HPf HPn
  clear hfo hO HSide
  go_upto_region 19 with (first
    | (refine ldRow 26 (.tmp 1) rfl rfl w.heap.size rfl 26 (tmc 5 fd n (.slice ao ks.length cap)) _ Tryd.underlying26 rfl sizeTM HT.out.n ?_)
    | (go_at_call 71; refine (HRo.out).mono ?_; rintro e w2 ⟨oo, oc, zs, rfl, hw, hx, hl⟩; have HW2 := hid hw; have HX2 := hid hx; have HL2 := hid hl; clear hw hx hl HRo))
  have hz := HZ.out
  have hz2 := HW2.out.size
  have HB2 := hid (HT.out.b.trans (HW2.out.mono HT.out.b.size))
  have HR2 : Hid (w2.heap[w.heap.size + 1]? = some (.cells (tmc 0 0 0 nilS) 26 (0, 0))) := (HW2.out.block _ (by omega)).trans HT.out.r
  have HOl : Hid (∀ b, Old (fun b => b < w.heap.size ∧ S b) W1 b → (b < w.heap.size ∧ S b) ∨ w.heap.size + 1 < b) := fun b hS => by
    rcases hS with ⟨-, h⟩ | h
    · exact Or.inl h
    · exact Or.inr (by omega)
  have HZ2 : Hid (W1.heap.size ≤ w2.heap.size) := hz2
  clear hz hz2 HT c0 c3
  cases fo with
  | true =>
    have HPl2 : Hid (pl (.mk 5 fd n ks) = leaf 1) := HPf.out rfl
    have hbt := fun W => run_bt0 1 W
    go_wp2_with (refine stRow 26 (.tmp 2) (.tmp 59) rfl rfl (w.heap.size + 1) (tmc 1 0 0 nilS) rfl rfl 26 (tmc 0 0 0 nilS) HR2.out sizeTM rfl (tmc_one _ _ _ _ _ _) ?_)
    refine bodyPost_ret (v := .agg (tmc 1 0 0 nilS)) (res_tm Tryd.results47 _ _ (w.heap.size + 1) _ sizeTM rfl (setRow_heap _ _ _ _ _ _ HR2.out)) rfl ?_
    rw [HPl2.out]
    exact ⟨_, rfl, tw_fin HB2.out (um_lf9 _ _ 1)⟩
  | false =>
    have HPl2 := hid (HPn.out rfl)
    have hbt := fun W => run_bt0 0 W
    have HJ := hid (rjoin_any 5 O (leaf 0) oo oc zs (tmc 0 0 0 nilS) (Old (fun b => b < w.heap.size ∧ S b) W1) w2 HLo.out HX2.out HL2.out (um_lf9 _ _ 0))
    go_wp2_with (first
      | (go_at_call 72; refine (HJ.out).mono ?_; rintro e w4 ⟨es, rfl, hw, he⟩; have HW4 := hid hw; have HE4 := hid he; have HR4 := hid ((hw.block _ (Array.getElem?_eq_some_iff.1 HR2.out).1).trans HR2.out); clear hw he HJ)
      | (refine stRow 26 (.tmp 2) (.tmp 62) rfl rfl (w.heap.size + 1) es rfl rfl 26 (tmc 0 0 0 nilS) HR4.out HE4.out.info (by rw [HE4.out.size]; rfl) HE4.out.one ?_))
    refine bodyPost_ret (v := .agg es) (res_tm Tryd.results47 _ _ (w.heap.size + 1) _ HE4.out.info rfl (setRow_heap _ _ _ _ _ _ HR4.out)) rfl ?_
    rw [HPl2.out]
    exact ⟨_, rfl, tw_fin (HB2.out.trans (HW4.out.mono HB2.out.size)) (um_on HE4.out fun b _ hS => ⟨HOl.out b hS.2, rfl⟩)⟩
end Go.Proofs.YtjallmncajhamaaDoor
