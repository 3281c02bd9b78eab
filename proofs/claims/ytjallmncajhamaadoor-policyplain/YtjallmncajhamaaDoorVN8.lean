/-
  Proved here: plain of the document's layer 18 at terms of some Ops. Conditions: at most 4096 terms; the term is a predicate (or a policy).
-/
import Derived.Test.YtjallmncajhamaaDoorVM
namespace Go.Proofs.YtjallmncajhamaaDoor
open Go.RowKit
set_option maxRecDepth 100000

set_option maxHeartbeats 25600000 in
theorem rplain_8 (N : Nat) (HIH : Hid (∀ (t : Tm) (cs : Array Value) (b : Bool) (S : Nat → Prop) (w : World), sz t ≤ N → N ≤ 4096 → oneT b t = true → UmV S w t cs → Calls Tryd.prog 47 #[.agg cs] w fun e w' => ∃ ds, e = .returned (.agg ds) ∧ Below w.heap.size w w' ∧ UmV (Old S w) w' (pl t) ds)) (fd n : Nat) (ks : List Tm) (cs : Array Value) (b : Bool) (S : Nat → Prop) (w : World) (hN : sz (.mk 8 fd n ks) ≤ N + 1) (hsm : N + 1 ≤ 4096) (h1 : oneT b (.mk 8 fd n ks) = true) (ht : UmV S w (.mk 8 fd n ks) cs) : Calls Tryd.prog 47 #[.agg cs] w fun e w' => ∃ ds, e = .returned (.agg ds) ∧ Below w.heap.size w w' ∧ UmV (Old S w) w' (pl (.mk 8 fd n ks)) ds := by
  obtain ⟨v, xs, rfl, h2, h3⟩ := ht.get
  obtain ⟨ao, cap, rfl⟩ := h2.form
  obtain ⟨s1, l1, l2, w1, ok⟩ := oneT_iff.1 h1
  rw [sz] at hN
  have hkl : ks.length ≤ 4096 := by have := len_le_szs ks; omega
  obtain ⟨W1, hW1⟩ : ∃ W1, W1 = (w.alloc (.cells (tmc 8 fd n (.slice ao ks.length cap)) 26)).alloc (.cells (tmc 0 0 0 nilS) 26) := ⟨_, rfl⟩
  have HE : Hid ((w.alloc (.cells (tmc 8 fd n (.slice ao ks.length cap)) 26)).alloc (.cells #[.int .i8 0, .int .i8 0, .int .u64 0, .slice none 0 0] 26) = W1) := hW1.symm
  have HT : Hid (Tw w (tmc 8 fd n (.slice ao ks.length cap)) W1) := by show Tw _ _ _; rw [hW1]; exact Tw.new _ _
  have c0 := (four_cells HT.out.n).1
  have c3 := (four_cells HT.out.n).2.2.2
  have HZ := hid HT.out.sz
  clear hW1
  obtain ⟨g1, g2, -⟩ := gd_pls _ ks ok (by omega)
  rw [pls_map] at g1 g2
  have HSide : Hid (∀ k ∈ ks.map pl, oneT (decide (8 ≤ 5)) k = true ∧ Nf k) := g1
  have HRo := hid (rrow_any (fun b => b < w.heap.size ∧ S b) 8 fd n 0 0 true ks (tmc 8 fd n (.slice ao ks.length cap)) W1 (um_on ht fun b hb hS => ⟨⟨hb, hS⟩, HT.out.b.block b hb⟩) (by omega) hkl (row_good rfl fun k hk => (g1 k hk).1) (fun S1 j hj cs W hv => HIH.out ks[j] cs _ S1 W (by have := szs_mem (List.getElem_mem hj); omega) (by omega) (ok _ (List.getElem_mem hj)) hv))
  have HLo : Hid ((outD 8 0 true (ks.map pl)).length ≤ 4096) := by
    show _ ≤ _
    unfold outD
    exact Nat.le_trans (List.length_filter_le _ _) (Nat.le_trans (flt_len _ _) (by omega))
  clear h1 h2 h3 ht s1 l1 l2 w1 ok hN g1 g2
  have HPn : Hid (pl (.mk 8 fd n ks) = finD 8 (sayT 0 8) (outD 8 0 true (ks.map pl))) := pl_left (op := 8) rfl HSide.out (hd_11 fun k hk => (HSide.out k hk).1)
  go_enter Tryd.func47, Tryd.ntmps47
  go_upto_region 1 with fail
  rw [show (w.alloc (.cells (tmc 8 fd n (.slice ao ks.length cap)) 26)).alloc (.cells #[.int .i8 0, .int .i8 0, .int .u64 0, .slice none 0 0] 26) = W1 from HE.out]
  clear HE
  go_upto_region 25 with fail
  obtain ⟨fo, hfo⟩ : ∃ fo, fo = fndD 8 0 true (ks.map pl) := ⟨_, rfl⟩
  obtain ⟨O, hO⟩ : ∃ O, O = outD 8 0 true (ks.map pl) := ⟨_, rfl⟩
  rw [← hfo, ← hO] at HRo
  rw [← hO] at HLo HPn
  clear hfo hO HSide
  go_upto_region 26 with (first
    | (refine ldRow 26 (.tmp 1) rfl rfl w.heap.size rfl 26 (tmc 8 fd n (.slice ao ks.length cap)) _ Tryd.underlying26 rfl sizeTM HT.out.n ?_)
    | (go_at_call 71; refine (HRo.out).mono ?_; rintro e w2 ⟨oo, oc, zs, rfl, hw, hx, hl⟩; have HW2 := hid hw; have HX2 := hid hx; have HL2 := hid hl; clear hw hx hl HRo))
  have hz := HZ.out
  have hz2 := HW2.out.size
  have HB2 := hid (HT.out.b.trans (HW2.out.mono HT.out.b.size))
  have HR2 : Hid (w2.heap[w.heap.size + 1]? = some (.cells (tmc 0 0 0 nilS) 26 (0, 0))) := (HW2.out.block _ (by omega)).trans HT.out.r
  have HOl : Hid (∀ b, Old (fun b => b < w.heap.size ∧ S b) W1 b → (b < w.heap.size ∧ S b) ∨ w.heap.size + 1 < b) := fun b hS => by
    rcases hS with ⟨-, h⟩ | h
    · exact Or.inl h
    · exact Or.inr (by omega)
  have HZ2 : Hid (W1.heap.size ≤ w2.heap.size) := hz2
  clear hz hz2 HT c0 c3
  have HPl2 := HPn
  have HF := hid (rfil_any 0 w2)
  have HJ : Hid (∀ (es : Array Value) (W : World), Below w2.heap.size w2 W → UmV (fun b => w2.heap.size ≤ b) W (.mk 6 0 0 [leaf 0]) es → Calls Tryd.prog 72 #[.int .i8 8, .slice oo O.length oc, .agg es] W fun e w' => ∃ ds, e = .returned (.agg ds) ∧ Below W.heap.size W w' ∧ UmV (fun b => b < W.heap.size ∧ Old (fun b => b < w.heap.size ∧ S b) W1 b) w' (finD 8 (sayT 0 8) O) ds) := fun es W hb he => by
    have hc : ∀ b, b < w2.heap.size → Old (fun b => b < w.heap.size ∧ S b) W1 b → Old (fun b => b < w.heap.size ∧ S b) W1 b ∧ W.heap[b]? = w2.heap[b]? := fun b hl h => ⟨h, hb.block b hl⟩
    exact rjoin_any 8 O (sayT 0 8) oo oc zs es (Old (fun b => b < w.heap.size ∧ S b) W1) W HLo.out (HX2.out.carry hc) (UmL.carry hc _ _ HL2.out) (um_on he fun b _ hS => ⟨Or.inr (by have := HZ2.out; omega), rfl⟩)
  go_wp2_with (first
    | (go_at_call 73; refine (HF.out).mono ?_; rintro e w3 ⟨fs, rfl, hw, he⟩; have HB3 := hid (HB2.out.trans (hw.mono HB2.out.size)); have HJ3 := hid (HJ.out fs w3 hw he); have HR3 := hid ((hw.block _ (Array.getElem?_eq_some_iff.1 HR2.out).1).trans HR2.out); clear hw he HF HJ)
    | (go_at_call 72; refine (HJ3.out).mono ?_; rintro e w4 ⟨es, rfl, hw, he⟩; have HW4 := hid hw; have HE4 := hid he; have HR4 := hid ((hw.block _ (Array.getElem?_eq_some_iff.1 HR3.out).1).trans HR3.out); clear hw he HJ3)
    | (refine stRow 26 (.tmp 2) (.tmp 81) rfl rfl (w.heap.size + 1) es rfl rfl 26 (tmc 0 0 0 nilS) HR4.out HE4.out.info (by rw [HE4.out.size]; rfl) HE4.out.one ?_))
  refine bodyPost_ret (v := .agg es) (res_tm Tryd.results47 _ _ (w.heap.size + 1) _ HE4.out.info rfl (setRow_heap _ _ _ _ _ _ HR4.out)) rfl ?_
  rw [HPl2.out]
  exact ⟨_, rfl, tw_fin (HB3.out.trans (HW4.out.mono HB3.out.size)) (um_on HE4.out fun b _ hS => ⟨HOl.out b hS.2, rfl⟩)⟩
end Go.Proofs.YtjallmncajhamaaDoor
