/-
  Proved here: plain of the document's layer 18 at terms of some Ops. Conditions: at most 4096 terms; the term is a predicate (or a policy).
-/
import Derived.Test.YtjallmncajhamaaDoorVM
namespace Go.Proofs.YtjallmncajhamaaDoor
open Go.RowKit
set_option maxRecDepth 100000

set_option maxHeartbeats 25600000 in
theorem rplain_0 (N : Nat) (_HIH : Hid (∀ (t : Tm) (cs : Array Value) (b : Bool) (S : Nat → Prop) (w : World), sz t ≤ N → N ≤ 4096 → oneT b t = true → UmV S w t cs → Calls Tryd.prog 47 #[.agg cs] w fun e w' => ∃ ds, e = .returned (.agg ds) ∧ Below w.heap.size w w' ∧ UmV (Old S w) w' (pl t) ds)) (fd n : Nat) (ks : List Tm) (cs : Array Value) (b : Bool) (S : Nat → Prop) (w : World) (hN : sz (.mk 0 fd n ks) ≤ N + 1) (hsm : N + 1 ≤ 4096) (h1 : oneT b (.mk 0 fd n ks) = true) (ht : UmV S w (.mk 0 fd n ks) cs) : Calls Tryd.prog 47 #[.agg cs] w fun e w' => ∃ ds, e = .returned (.agg ds) ∧ Below w.heap.size w w' ∧ UmV (Old S w) w' (pl (.mk 0 fd n ks)) ds := by
  obtain ⟨v, xs, rfl, h2, h3⟩ := ht.get
  obtain ⟨ao, cap, rfl⟩ := h2.form
  obtain ⟨s1, l1, l2, w1, ok⟩ := oneT_iff.1 h1
  rw [sz] at hN
  have hkl : ks.length ≤ 4096 := by have := len_le_szs ks; omega
  obtain ⟨W1, hW1⟩ : ∃ W1, W1 = (w.alloc (.cells (tmc 0 fd n (.slice ao ks.length cap)) 26)).alloc (.cells (tmc 0 0 0 nilS) 26) := ⟨_, rfl⟩
  have HE : Hid ((w.alloc (.cells (tmc 0 fd n (.slice ao ks.length cap)) 26)).alloc (.cells #[.int .i8 0, .int .i8 0, .int .u64 0, .slice none 0 0] 26) = W1) := hW1.symm
  have HT : Hid (Tw w (tmc 0 fd n (.slice ao ks.length cap)) W1) := by show Tw _ _ _; rw [hW1]; exact Tw.new _ _
  have c0 := (four_cells HT.out.n).1
  have c3 := (four_cells HT.out.n).2.2.2
  have HZ := hid HT.out.sz
  clear hW1
  have hk0 : ks = [] := List.length_eq_zero_iff.1 (by have : mst 0 = 0 := rfl; omega)
  have HPl : Hid (pl (.mk 0 fd n ks) = .mk 0 fd n ks) := by show _ = _; rw [hk0, pl_mk]; rfl
  have HU := hid ht
  clear h1 h2 h3 ht s1 l1 l2 w1 ok hk0
  go_enter Tryd.func47, Tryd.ntmps47
  go_upto_region 1 with fail
  rw [show (w.alloc (.cells (tmc 0 fd n (.slice ao ks.length cap)) 26)).alloc (.cells #[.int .i8 0, .int .i8 0, .int .u64 0, .slice none 0 0] 26) = W1 from HE.out]
  clear HE
  go_wp2_with (first
    | (refine ldRow 26 (.tmp 1) rfl rfl w.heap.size rfl 26 (tmc 0 fd n (.slice ao ks.length cap)) _ Tryd.underlying26 rfl sizeTM HT.out.n ?_)
    | (refine stRow 26 (.tmp 2) (.tmp 112) rfl rfl (w.heap.size + 1) (tmc 0 fd n (.slice ao ks.length cap)) rfl rfl 26 (tmc 0 0 0 nilS) HT.out.r sizeTM rfl (tmc_one _ _ _ _ _ _) ?_))
  refine bodyPost_ret (v := .agg (tmc 0 fd n (.slice ao ks.length cap))) (res_tm Tryd.results47 _ _ (w.heap.size + 1) _ sizeTM rfl (setRow_heap _ _ _ _ _ _ HT.out.r)) rfl ?_
  rw [HPl.out]
  exact ⟨_, rfl, tw_fin HT.out.b (um_on HU.out fun b hb hS => ⟨Or.inl ⟨hb, hS⟩, HT.out.b.block b hb⟩)⟩
set_option maxHeartbeats 25600000 in
theorem rplain_1 (N : Nat) (_HIH : Hid (∀ (t : Tm) (cs : Array Value) (b : Bool) (S : Nat → Prop) (w : World), sz t ≤ N → N ≤ 4096 → oneT b t = true → UmV S w t cs → Calls Tryd.prog 47 #[.agg cs] w fun e w' => ∃ ds, e = .returned (.agg ds) ∧ Below w.heap.size w w' ∧ UmV (Old S w) w' (pl t) ds)) (fd n : Nat) (ks : List Tm) (cs : Array Value) (b : Bool) (S : Nat → Prop) (w : World) (hN : sz (.mk 1 fd n ks) ≤ N + 1) (hsm : N + 1 ≤ 4096) (h1 : oneT b (.mk 1 fd n ks) = true) (ht : UmV S w (.mk 1 fd n ks) cs) : Calls Tryd.prog 47 #[.agg cs] w fun e w' => ∃ ds, e = .returned (.agg ds) ∧ Below w.heap.size w w' ∧ UmV (Old S w) w' (pl (.mk 1 fd n ks)) ds := by
  obtain ⟨v, xs, rfl, h2, h3⟩ := ht.get
  obtain ⟨ao, cap, rfl⟩ := h2.form
  obtain ⟨s1, l1, l2, w1, ok⟩ := oneT_iff.1 h1
  rw [sz] at hN
  have hkl : ks.length ≤ 4096 := by have := len_le_szs ks; omega
  obtain ⟨W1, hW1⟩ : ∃ W1, W1 = (w.alloc (.cells (tmc 1 fd n (.slice ao ks.length cap)) 26)).alloc (.cells (tmc 0 0 0 nilS) 26) := ⟨_, rfl⟩
  have HE : Hid ((w.alloc (.cells (tmc 1 fd n (.slice ao ks.length cap)) 26)).alloc (.cells #[.int .i8 0, .int .i8 0, .int .u64 0, .slice none 0 0] 26) = W1) := hW1.symm
  have HT : Hid (Tw w (tmc 1 fd n (.slice ao ks.length cap)) W1) := by show Tw _ _ _; rw [hW1]; exact Tw.new _ _
  have c0 := (four_cells HT.out.n).1
  have c3 := (four_cells HT.out.n).2.2.2
  have HZ := hid HT.out.sz
  clear hW1
  have hk0 : ks = [] := List.length_eq_zero_iff.1 (by have : mst 1 = 0 := rfl; omega)
  have HPl : Hid (pl (.mk 1 fd n ks) = .mk 1 fd n ks) := by show _ = _; rw [hk0, pl_mk]; rfl
  have HU := hid ht
  clear h1 h2 h3 ht s1 l1 l2 w1 ok hk0
  go_enter Tryd.func47, Tryd.ntmps47
  go_upto_region 1 with fail
  rw [show (w.alloc (.cells (tmc 1 fd n (.slice ao ks.length cap)) 26)).alloc (.cells #[.int .i8 0, .int .i8 0, .int .u64 0, .slice none 0 0] 26) = W1 from HE.out]
  clear HE
  go_wp2_with (first
    | (refine ldRow 26 (.tmp 1) rfl rfl w.heap.size rfl 26 (tmc 1 fd n (.slice ao ks.length cap)) _ Tryd.underlying26 rfl sizeTM HT.out.n ?_)
    | (refine stRow 26 (.tmp 2) (.tmp 112) rfl rfl (w.heap.size + 1) (tmc 1 fd n (.slice ao ks.length cap)) rfl rfl 26 (tmc 0 0 0 nilS) HT.out.r sizeTM rfl (tmc_one _ _ _ _ _ _) ?_))
  refine bodyPost_ret (v := .agg (tmc 1 fd n (.slice ao ks.length cap))) (res_tm Tryd.results47 _ _ (w.heap.size + 1) _ sizeTM rfl (setRow_heap _ _ _ _ _ _ HT.out.r)) rfl ?_
  rw [HPl.out]
  exact ⟨_, rfl, tw_fin HT.out.b (um_on HU.out fun b hb hS => ⟨Or.inl ⟨hb, hS⟩, HT.out.b.block b hb⟩)⟩
set_option maxHeartbeats 25600000 in
theorem rplain_2 (N : Nat) (_HIH : Hid (∀ (t : Tm) (cs : Array Value) (b : Bool) (S : Nat → Prop) (w : World), sz t ≤ N → N ≤ 4096 → oneT b t = true → UmV S w t cs → Calls Tryd.prog 47 #[.agg cs] w fun e w' => ∃ ds, e = .returned (.agg ds) ∧ Below w.heap.size w w' ∧ UmV (Old S w) w' (pl t) ds)) (fd n : Nat) (ks : List Tm) (cs : Array Value) (b : Bool) (S : Nat → Prop) (w : World) (hN : sz (.mk 2 fd n ks) ≤ N + 1) (hsm : N + 1 ≤ 4096) (h1 : oneT b (.mk 2 fd n ks) = true) (ht : UmV S w (.mk 2 fd n ks) cs) : Calls Tryd.prog 47 #[.agg cs] w fun e w' => ∃ ds, e = .returned (.agg ds) ∧ Below w.heap.size w w' ∧ UmV (Old S w) w' (pl (.mk 2 fd n ks)) ds := by
  obtain ⟨v, xs, rfl, h2, h3⟩ := ht.get
  obtain ⟨ao, cap, rfl⟩ := h2.form
  obtain ⟨s1, l1, l2, w1, ok⟩ := oneT_iff.1 h1
  rw [sz] at hN
  have hkl : ks.length ≤ 4096 := by have := len_le_szs ks; omega
  obtain ⟨W1, hW1⟩ : ∃ W1, W1 = (w.alloc (.cells (tmc 2 fd n (.slice ao ks.length cap)) 26)).alloc (.cells (tmc 0 0 0 nilS) 26) := ⟨_, rfl⟩
  have HE : Hid ((w.alloc (.cells (tmc 2 fd n (.slice ao ks.length cap)) 26)).alloc (.cells #[.int .i8 0, .int .i8 0, .int .u64 0, .slice none 0 0] 26) = W1) := hW1.symm
  have HT : Hid (Tw w (tmc 2 fd n (.slice ao ks.length cap)) W1) := by show Tw _ _ _; rw [hW1]; exact Tw.new _ _
  have c0 := (four_cells HT.out.n).1
  have c3 := (four_cells HT.out.n).2.2.2
  have HZ := hid HT.out.sz
  clear hW1
  have hk0 : ks = [] := List.length_eq_zero_iff.1 (by have : mst 2 = 0 := rfl; omega)
  have HPl : Hid (pl (.mk 2 fd n ks) = .mk 2 fd n ks) := by show _ = _; rw [hk0, pl_mk]; rfl
  have HU := hid ht
  clear h1 h2 h3 ht s1 l1 l2 w1 ok hk0
  go_enter Tryd.func47, Tryd.ntmps47
  go_upto_region 1 with fail
  rw [show (w.alloc (.cells (tmc 2 fd n (.slice ao ks.length cap)) 26)).alloc (.cells #[.int .i8 0, .int .i8 0, .int .u64 0, .slice none 0 0] 26) = W1 from HE.out]
  clear HE
  go_wp2_with (first
    | (refine ldRow 26 (.tmp 1) rfl rfl w.heap.size rfl 26 (tmc 2 fd n (.slice ao ks.length cap)) _ Tryd.underlying26 rfl sizeTM HT.out.n ?_)
    | (refine stRow 26 (.tmp 2) (.tmp 112) rfl rfl (w.heap.size + 1) (tmc 2 fd n (.slice ao ks.length cap)) rfl rfl 26 (tmc 0 0 0 nilS) HT.out.r sizeTM rfl (tmc_one _ _ _ _ _ _) ?_))
  refine bodyPost_ret (v := .agg (tmc 2 fd n (.slice ao ks.length cap))) (res_tm Tryd.results47 _ _ (w.heap.size + 1) _ sizeTM rfl (setRow_heap _ _ _ _ _ _ HT.out.r)) rfl ?_
  rw [HPl.out]
  exact ⟨_, rfl, tw_fin HT.out.b (um_on HU.out fun b hb hS => ⟨Or.inl ⟨hb, hS⟩, HT.out.b.block b hb⟩)⟩
set_option maxHeartbeats 25600000 in
theorem rplain_7 (N : Nat) (_HIH : Hid (∀ (t : Tm) (cs : Array Value) (b : Bool) (S : Nat → Prop) (w : World), sz t ≤ N → N ≤ 4096 → oneT b t = true → UmV S w t cs → Calls Tryd.prog 47 #[.agg cs] w fun e w' => ∃ ds, e = .returned (.agg ds) ∧ Below w.heap.size w w' ∧ UmV (Old S w) w' (pl t) ds)) (fd n : Nat) (ks : List Tm) (cs : Array Value) (b : Bool) (S : Nat → Prop) (w : World) (hN : sz (.mk 7 fd n ks) ≤ N + 1) (hsm : N + 1 ≤ 4096) (h1 : oneT b (.mk 7 fd n ks) = true) (ht : UmV S w (.mk 7 fd n ks) cs) : Calls Tryd.prog 47 #[.agg cs] w fun e w' => ∃ ds, e = .returned (.agg ds) ∧ Below w.heap.size w w' ∧ UmV (Old S w) w' (pl (.mk 7 fd n ks)) ds := by
  obtain ⟨v, xs, rfl, h2, h3⟩ := ht.get
  obtain ⟨ao, cap, rfl⟩ := h2.form
  obtain ⟨s1, l1, l2, w1, ok⟩ := oneT_iff.1 h1
  rw [sz] at hN
  have hkl : ks.length ≤ 4096 := by have := len_le_szs ks; omega
  obtain ⟨W1, hW1⟩ : ∃ W1, W1 = (w.alloc (.cells (tmc 7 fd n (.slice ao ks.length cap)) 26)).alloc (.cells (tmc 0 0 0 nilS) 26) := ⟨_, rfl⟩
  have HE : Hid ((w.alloc (.cells (tmc 7 fd n (.slice ao ks.length cap)) 26)).alloc (.cells #[.int .i8 0, .int .i8 0, .int .u64 0, .slice none 0 0] 26) = W1) := hW1.symm
  have HT : Hid (Tw w (tmc 7 fd n (.slice ao ks.length cap)) W1) := by show Tw _ _ _; rw [hW1]; exact Tw.new _ _
  have c0 := (four_cells HT.out.n).1
  have c3 := (four_cells HT.out.n).2.2.2
  have HZ := hid HT.out.sz
  clear hW1
  have hk0 : ks = [] := List.length_eq_zero_iff.1 (by have : mst 7 = 0 := rfl; omega)
  have HPl : Hid (pl (.mk 7 fd n ks) = .mk 7 fd n ks) := by show _ = _; rw [hk0, pl_mk]; rfl
  have HU := hid ht
  clear h1 h2 h3 ht s1 l1 l2 w1 ok hk0
  go_enter Tryd.func47, Tryd.ntmps47
  go_upto_region 1 with fail
  rw [show (w.alloc (.cells (tmc 7 fd n (.slice ao ks.length cap)) 26)).alloc (.cells #[.int .i8 0, .int .i8 0, .int .u64 0, .slice none 0 0] 26) = W1 from HE.out]
  clear HE
  go_wp2_with (first
    | (refine ldRow 26 (.tmp 1) rfl rfl w.heap.size rfl 26 (tmc 7 fd n (.slice ao ks.length cap)) _ Tryd.underlying26 rfl sizeTM HT.out.n ?_)
    | (refine stRow 26 (.tmp 2) (.tmp 112) rfl rfl (w.heap.size + 1) (tmc 7 fd n (.slice ao ks.length cap)) rfl rfl 26 (tmc 0 0 0 nilS) HT.out.r sizeTM rfl (tmc_one _ _ _ _ _ _) ?_))
  refine bodyPost_ret (v := .agg (tmc 7 fd n (.slice ao ks.length cap))) (res_tm Tryd.results47 _ _ (w.heap.size + 1) _ sizeTM rfl (setRow_heap _ _ _ _ _ _ HT.out.r)) rfl ?_
  rw [HPl.out]
  exact ⟨_, rfl, tw_fin HT.out.b (um_on HU.out fun b hb hS => ⟨Or.inl ⟨hb, hS⟩, HT.out.b.block b hb⟩)⟩
end Go.Proofs.YtjallmncajhamaaDoor
