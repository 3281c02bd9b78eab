/-
  Proved here: Get of package nodes, over a store in memory: the node, its rows anew; none, where there is none. No further condition.
-/
import Derived.Test.YtggbokghhohofaaDoorCF
import Derived.Laws.ResultCell
namespace Go.Proofs.YtggbokghhohofaaDoor
open Go.RowKit Go.Maps
set_option maxRecDepth 100000

abbrev zNd : Nd := ⟨0, 0, 0, 0, []⟩
theorem results_ctN {fn : Func} {p u : Tmp} (h : fn.results = #[.cell p 41, .tmp u]) (tmps : Array Value) (w : World) (g : Nat) (x : Nv)
    (hp : tmps.getD p undef = .pointer (some ⟨g, 0, none⟩)) (hg : w.heap[g]? = some (.cells (ndc x) 41 (0, 0))) :
    (results fn tmps).run Tryd.prog w = .ok (.tuple #[.agg (ndc x), tmps.getD u undef]) w := by
  rw [results_cell_tmp h, hp]
  simp [asAddr, Result.andThen, run_loadVar_row w g 41 41 (ndc x) (0, 0) _ hg Tryd.underlying41 rfl (infoNODE x)]
theorem run_b0 (w : World) : (Instr.build 41 #[]).run Tryd.prog w = .ok (.agg (ndc (nilS, zNd))) w := by kernel_rfl
theorem get_no {B p : Nat} {w : World} {all : List Nd} (h : St B p w all) (id : Int) (hn : inL all id = false) : Calls Tryd.prog 15 #[ptr p, .int .i64 id] w fun e w' => e = .returned (.tuple #[.agg (ndc (nilS, zNd)), .bool false]) ∧ Below w.heap.size w w' := by
  have hB1 : Below w.heap.size w (w.alloc (.cells (ndc (nilS, zNd)) 41)) := (Below.refl _ _).alloc (Nat.le_refl _) _
  have HH := hid (has_any (h.on hB1) id)
  rw [hn] at HH
  have HB := hid hB1
  have hb0 := fun W => run_b0 W
  clear h hn hB1
  go_enter Tryd.func15, Tryd.ntmps15
  go_wp2_with (first
    | (go_at_call 28; refine (HH.out).mono ?_; rintro e w' ⟨rfl, rfl⟩)
    | (refine stNew 41 (.tmp 4) (.tmp 11) rfl rfl w 41 (ndc (nilS, zNd)) (ndc (nilS, zNd)) rfl rfl rfl (infoNODE _) rfl (ndc_one rfl _) ?_))
  refine bodyPost_ret (v := .tuple #[.agg (ndc (nilS, zNd)), .bool false]) (results_ctN Tryd.results15 _ _ w.heap.size (nilS, zNd) rfl (heap_alloc_new _ _)) rfl ?_
  exact ⟨rfl, HB.out⟩
set_option maxHeartbeats 6400000 in
theorem get_ok {B p : Nat} {w : World} {all : List Nd} (h : St B p w all) (i : Nat) (hi : i < all.length) : Calls Tryd.prog 15 #[ptr p, .int .i64 ((i : Nat) : Int)] w fun e w' => ∃ u, e = .returned (.tuple #[.agg (ndc (u, all[i])), .bool true]) ∧ Below w.heap.size w w' ∧ Cps (fun b => w.heap.size ≤ b) w' u all[i].lf := by
  have hB1 : Below w.heap.size w (w.alloc (.cells (ndc (nilS, zNd)) 41)) := (Below.refl _ _).alloc (Nat.le_refl _) _
  have hn : inL all ((i : Nat) : Int) = true := by simp [inL, hi]
  have HH := hid (has_any (h.on hB1) ((i : Nat) : Int))
  rw [hn] at HH
  obtain ⟨va, bt, bl, nt, nl, Gt, Gl, d, hs⟩ := h
  have hdl := hs.dl
  have hid1 : i < d.length := by omega
  have hs1 := hs.keep (w' := w.alloc (.cells (ndc (nilS, zNd)) 41)) fun b _ h2 => hB1.block b h2
  have c0 := hs1.cells.1
  obtain ⟨ao, cap, rfl⟩ := hs1.rw.form
  obtain ⟨g, o, rfl, -, hcap, hgl, hra⟩ := hs1.rw.rg flN5 rfl i hid1
  have hlf := hs1.lf _ (List.getElem_mem hid1)
  have hok := hs1.ok _ (List.getElem_mem hi)
  have e1 : d[i].2 = all[i] := by have := hs.dm; subst this; simp
  rw [e1] at hlf
  have hra : (w.alloc (.cells (ndc (nilS, zNd)) 41)).rangeAt g (o + i * 5) (ndc (d[i].1, all[i])).toList := by rw [← e1]; exact hra
  generalize d[i].1 = u0 at hlf hra
  generalize all[i] = x at hlf hra hok e1 ⊢
  obtain ⟨a0, k0, rfl, -⟩ := hlf.form
  have hic : i < cap := by omega
  obtain ⟨W1, hW1⟩ : ∃ W1, W1 = w.alloc (.cells (ndc (nilS, zNd)) 41) := ⟨_, rfl⟩
  rw [← hW1] at hra hlf c0 HH hB1 hs1
  have hz1 : W1.heap.size = w.heap.size + 1 := by rw [hW1]; simp
  have hN1 : W1.heap[w.heap.size]? = some (.cells (ndc (nilS, zNd)) 41 (0, 0)) := by rw [hW1]; exact heap_alloc_new _ _
  have HW : Hid (w.alloc (.cells (ndc (nilS, zNd)) 41) = W1) := hW1.symm
  have HRA := hid hra
  have hB2 : Below W1.heap.size W1 (W1.alloc (.cells (ndc (.slice a0 x.lf.length k0, x)) 41)) := (Below.refl _ _).alloc (Nat.le_refl _) _
  have hN2 := heap_alloc_new W1 (.cells (ndc (.slice a0 x.lf.length k0, x)) 41)
  have HN21 : Hid ((W1.alloc (.cells (ndc (.slice a0 x.lf.length k0, x)) 41)).heap[w.heap.size]? = some (.cells (ndc (nilS, zNd)) 41 (0, 0))) := (heap_alloc_old _ _ (by omega)).trans hN1
  have HN22 := hid hN2
  have HZ2 : Hid ((W1.alloc (.cells (ndc (.slice a0 x.lf.length k0, x)) 41)).heap.size = w.heap.size + 2) := by show _ = _; simp [hz1]
  have HB2 := hid (hB1.trans (hB2.mono hB1.size))
  obtain ⟨t1, t2⟩ := tot_len x.lf
  have htx := hok.tot
  have HCR := hid (copyRows_any (T := fun b => b < W1.heap.size) (W1.alloc (.cells (ndc (.slice a0 x.lf.length k0, x)) 41)) (.slice a0 x.lf.length k0) x.lf (hlf.carry fun b hb _ => ⟨hb, hB2.block b hb⟩) (fun b hb => by rw [HZ2.out]; omega) (by omega) (fun r hr => by have := t2 r hr; omega))
  have HZ1 := hid hz1
  clear hW1 hra hlf hs hs1 hB1 hB2 hN1 hN2 hn hok hz1 t1 t2 htx e1 hgl
  go_enter Tryd.func15, Tryd.ntmps15
  go_upto_region 1 with fail
  rw [show w.alloc (.cells #[.int .i8 0, .int .u64 0, .int .i64 0, .int .i64 0, .slice none 0 0] 41) = W1 from HW.out]
  clear HW
  go_upto_region 4 with (first
    | (go_at_call 28; refine (HH.out).mono ?_; rintro e W1 ⟨rfl, rfl⟩)
    | (refine ldMid 41 (.tmp 17) rfl rfl g (o + i * 5) rfl (ndc (.slice a0 x.lf.length k0, x)) _ Tryd.underlying41 rfl (infoNODE _) HRA.out ?_)
    | (refine stNew 41 (.tmp 6) (.tmp 18) rfl rfl _ 41 (ndc (nilS, zNd)) (ndc (.slice a0 x.lf.length k0, x)) rfl rfl rfl (infoNODE _) rfl (ndc_one rfl _) ?_))
  rw [HZ1.out]
  rw [HZ1.out] at HN22
  generalize W1.alloc (.cells (ndc (.slice a0 x.lf.length k0, x)) 41) = W2 at HN21 HN22 HZ2 HB2 HCR ⊢
  have d4 : W2.cell? ⟨w.heap.size + 1, 4, none⟩ = some (.slice a0 x.lf.length k0) := (cell_of_row _ _ _ _ _ _ HN22.out).trans rfl
  clear c0
  go_upto_region 5 with (go_at_call 31; refine (HCR.out).mono ?_; rintro e W3 ⟨v3, rfl, hb, hcp⟩; have HB3 := hid hb; have HC3 := hid hcp; obtain ⟨a3, c3, rfl, -⟩ := hcp.form; have d5 : W3.cell? ⟨w.heap.size + 1, 4, none⟩ = some (.slice a0 x.lf.length k0) := cell_on hb d4; have f5 : W3.frozen? ⟨w.heap.size + 1, 4, none⟩ = false := (by simp [World.frozen?, (hb.block _ (Array.getElem?_eq_some_iff.1 HN22.out).1).trans HN22.out]); clear hb hcp HCR d4)
  have hw31 : W3.heap[w.heap.size]? = some (.cells (ndc (nilS, zNd)) 41 (0, 0)) := (HB3.out.block _ (by rw [HZ2.out]; omega)).trans HN21.out
  have hw32 : W3.heap[w.heap.size + 1]? = some (.cells (ndc (.slice a0 x.lf.length k0, x)) 41 (0, 0)) := (HB3.out.block _ (by rw [HZ2.out]; omega)).trans HN22.out
  have h42 := heap_setCell_same W3 (w.heap.size + 1) 4 _ _ (.slice a3 x.lf.length c3) hw32
  have h41 : (W3.setCell ⟨w.heap.size + 1, 4, none⟩ (.slice a3 x.lf.length c3)).heap[w.heap.size]? = some (.cells (ndc (nilS, zNd)) 41 (0, 0)) := (heap_setCell_other _ ⟨w.heap.size + 1, 4, none⟩ _ _ (by show w.heap.size ≠ w.heap.size + 1; omega)).trans hw31
  have H42 : Hid ((W3.setCell ⟨w.heap.size + 1, 4, none⟩ (.slice a3 x.lf.length c3)).heap[w.heap.size + 1]? = some (.cells (ndc (.slice a3 x.lf.length c3, x)) 41 (0, 0))) := h42
  have H41 := hid h41
  have hB3 := HB2.out.trans (HB3.out.mono HB2.out.size)
  have HB4 : Hid (Below w.heap.size w (W3.setCell ⟨w.heap.size + 1, 4, none⟩ (.slice a3 x.lf.length c3))) := hB3.setCell (p := ⟨w.heap.size + 1, 4, none⟩) (by show w.heap.size ≤ w.heap.size + 1; omega) _
  have HC4 : Hid (Cps (fun b => w.heap.size ≤ b ∧ b ≠ w.heap.size) (W3.setCell ⟨w.heap.size + 1, 4, none⟩ (.slice a3 x.lf.length c3)) (.slice a3 x.lf.length c3) x.lf) := HC3.out.carry fun b _ hS => by
    rw [HZ2.out] at hS
    exact ⟨⟨by omega, by omega⟩, heap_setCell_other _ ⟨w.heap.size + 1, 4, none⟩ _ _ (by show b ≠ w.heap.size + 1; omega)⟩
  clear hw31 hw32 h42 h41 hB3 d5 f5 HN21 HN22 HB3 HC3 HB2 HRA HH
  generalize W3.setCell ⟨w.heap.size + 1, 4, none⟩ (.slice a3 x.lf.length c3) = W4 at H42 H41 HB4 HC4 ⊢
  have HF : Hid ((W4.setRow w.heap.size (ndc (.slice a3 x.lf.length c3, x))).heap[w.heap.size]? = some (.cells (ndc (.slice a3 x.lf.length c3, x)) 41 (0, 0))) := setRow_blk _ _ _ _ _ _ H41.out
  have HB5 := hid (bel_row HB4.out (Nat.le_refl _) (ndc (.slice a3 x.lf.length c3, x)))
  have HC5 : Hid (Cps (fun b => w.heap.size ≤ b) (W4.setRow w.heap.size (ndc (.slice a3 x.lf.length c3, x))) (.slice a3 x.lf.length c3) x.lf) := HC4.out.carry fun b _ hS => ⟨hS.1, setRow_other _ _ _ _ hS.2⟩
  go_wp2_with (first
    | (refine ldRow 41 (.tmp 6) rfl rfl (w.heap.size + 1) rfl 41 (ndc (.slice a3 x.lf.length c3, x)) _ Tryd.underlying41 rfl (infoNODE _) H42.out ?_)
    | (refine stRow 41 (.tmp 4) (.tmp 23) rfl rfl w.heap.size (ndc (.slice a3 x.lf.length c3, x)) rfl rfl 41 _ H41.out (infoNODE _) rfl (ndc_one rfl _) ?_))
  refine bodyPost_ret (v := .tuple #[.agg (ndc (.slice a3 x.lf.length c3, x)), .bool true]) (results_ctN Tryd.results15 _ _ w.heap.size (.slice a3 x.lf.length c3, x) rfl HF.out) rfl ?_
  exact ⟨_, rfl, HB5.out, HC5.out⟩
end Go.Proofs.YtggbokghhohofaaDoor
