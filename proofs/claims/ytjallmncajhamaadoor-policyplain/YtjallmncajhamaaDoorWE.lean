/-
  Proved here: slices of two terms in a fixed order; terms of any numbers built; the filter of any term. No condition.
-/
import Derived.Test.YtjallmncajhamaaDoorTN
namespace Go.Proofs.YtjallmncajhamaaDoor
open Go.RowKit
set_option maxRecDepth 100000

/-- A slice of two terms is made. -/
theorem bldSl2 {ops : Array Oper} {rest : List Oper} {o : Oper} {a : Act} {w : World} {Q : Exit → Act → World → Prop} (y y2 : Operand) (ho : o.op = .buildSlice 24 2 #[(0, y), (1, y2)]) (hg : o.guard = none) (c d : Array Value) (hy : a.eval y = .agg c) (hy2 : a.eval y2 = .agg d) (hc : c.size = 4) (hd : d.size = 4)
    (h : wpList Tryd.prog ops Q rest (a.put o.dst (.slice (some ⟨w.heap.size, 0, none⟩) 2 2)) (w.alloc (.cells (c ++ d) 26))) : wpList Tryd.prog ops Q (o :: rest) a w := by
  obtain ⟨ie, hie, hz, hsz, -⟩ := info_parts infoTM
  refine wpList_buildSlice hg 24 26 2 _ ho (c ++ d) ie _ Tryd.underlying24 hie hz (by rw [hsz]; omega) (by rw [hsz]; omega) ?_ h
  rw [hsz]
  have : (Array.map (fun (x : Nat × Operand) => (x.1, a.eval x.2)) #[(0, y), (1, y2)]).toList = [(0, .agg c), (1, .agg d)] := by simp [hy, hy2]
  show Instr.fill _ _ (Array.map (fun (x : Nat × Operand) => (x.1, a.eval x.2)) #[(0, y), (1, y2)]).toList = _
  rw [this]
  exact fill_two c d hc hd
theorem run_bp01 (x0 x1 x2 x3 : Value) (ao : Option Addr) (n c : Nat) (W : World) : (Instr.build 29 #[(0, .agg #[x0, x1, x2, x3]), (1, .slice ao n c)]).run Tryd.prog W = .ok (.agg #[x0, x1, x2, x3, .slice ao n c]) W := by kernel_rfl
theorem TiV.leaf (S : Nat → Prop) (w : World) (op fd : Int) (n : Nat) : TiV S w (.mk op fd n []) (tic op fd n nilS) := by
  rw [TiV]
  exact ⟨_, [], rfl, ⟨rfl, none, 0, rfl, Nat.le_refl _, fun h => absurd rfl h⟩, by rw [TiL]⟩
theorem TiV.bld {S T : Nat → Prop} {w : World} {t : Ti} {c : Array Value} (h : TiV S w t c) (op : Int) (hT : T w.heap.size) (hST : ∀ b, b < w.heap.size → S b → T b) : TiV T (w.alloc (.cells c 26)) (.mk op 0 0 [t]) (tic op 0 0 (.slice (some ⟨w.heap.size, 0, none⟩) 1 1)) := by
  have hs := h.size
  rw [TiV]
  refine ⟨_, c.toList, rfl, ⟨by simp [hs], _, _, rfl, Nat.le_refl _, fun _ => ⟨_, _, rfl, hT, by simp, range_blk (heap_alloc_new _ _)⟩⟩, ?_⟩
  rw [TiL]
  exact ⟨c, [], by simp, ti_on h fun b hb hS => ⟨hST b hb hS, heap_alloc_old _ _ hb⟩, by rw [TiL]⟩
theorem TiV.bld2 {S T : Nat → Prop} {w : World} {t u : Ti} {c d : Array Value} (h : TiV S w t c) (k : TiV S w u d) (op : Int) (hT : T w.heap.size) (hST : ∀ b, b < w.heap.size → S b → T b) : TiV T (w.alloc (.cells (c ++ d) 26)) (.mk op 0 0 [t, u]) (tic op 0 0 (.slice (some ⟨w.heap.size, 0, none⟩) 2 2)) := by
  have hs := h.size
  have hs2 := k.size
  rw [TiV]
  refine ⟨_, (c ++ d).toList, rfl, ⟨by simp [hs, hs2], _, _, rfl, Nat.le_refl _, fun _ => ⟨_, _, rfl, hT, by simp, range_blk (heap_alloc_new _ _)⟩⟩, ?_⟩
  rw [TiL]
  refine ⟨c, d.toList, by simp, ti_on h fun b hb hS => ⟨hST b hb hS, heap_alloc_old _ _ hb⟩, ?_⟩
  rw [TiL]
  exact ⟨d, [], by simp, ti_on k fun b hb hS => ⟨hST b hb hS, heap_alloc_old _ _ hb⟩, by rw [TiL]⟩
theorem filterI_any (S : Nat → Prop) (t : Ti) (cs : Array Value) (w : World) (h : TiV S w t cs) : Calls Tryd.prog 43 #[.agg cs] w fun e w' => ∃ ds, e = .returned (.agg ds) ∧ Below w.heap.size w w' ∧ TiV (fun b => (b < w.heap.size ∧ S b) ∨ w.heap.size ≤ b) w' (.mk 6 0 0 [t]) ds := by
  have h4 := h.size
  have hone := h.one
  have hinf := h.info
  obtain ⟨x0, x1, x2, x3, rfl⟩ := arr4 h4
  obtain ⟨W1, hW1⟩ : ∃ W1, W1 = (w.alloc (.cells #[x0, x1, x2, x3] 26)).alloc (.cells (tmc 0 0 0 nilS) 26) := ⟨_, rfl⟩
  have HE : Hid ((w.alloc (.cells #[x0, x1, x2, x3] 26)).alloc (.cells #[.int .i8 0, .int .i8 0, .int .u64 0, .slice none 0 0] 26) = W1) := hW1.symm
  have HT : Hid (Tw w #[x0, x1, x2, x3] W1) := by show Tw _ _ _; rw [hW1]; exact Tw.new _ _
  have HU : Hid (TiV (fun b => ((b < w.heap.size ∧ S b) ∨ w.heap.size ≤ b) ∧ b ≠ w.heap.size + 1) (W1.alloc (.cells #[x0, x1, x2, x3] 26)) (.mk 6 0 0 [t]) (tic 6 0 0 (.slice (some ⟨W1.heap.size, 0, none⟩) 1 1))) :=
    (ti_on h fun b hb hSb => (⟨⟨Or.inl ⟨hb, hSb⟩, by omega⟩, HT.out.b.block b hb⟩ : (((b < w.heap.size ∧ S b) ∨ w.heap.size ≤ b) ∧ b ≠ w.heap.size + 1) ∧ _)).bld 6 ⟨Or.inr (by have := HT.out.sz; omega), by have := HT.out.sz; omega⟩ (fun b _ h => h)
  have hbt := fun W => run_bt03 6 (some ⟨W1.heap.size, 0, none⟩) 1 1 W
  have HR2 : Hid ((W1.alloc (.cells #[x0, x1, x2, x3] 26)).heap[w.heap.size + 1]? = some (.cells (tmc 0 0 0 nilS) 26 (0, 0))) := (heap_alloc_old _ _ (by have := HT.out.sz; omega)).trans HT.out.r
  have HB2 : Hid (Below w.heap.size w (W1.alloc (.cells #[x0, x1, x2, x3] 26))) := HT.out.b.alloc HT.out.b.size _
  clear h hone hW1
  go_enter Tryd.func43, Tryd.ntmps43
  go_upto_region 1 with fail
  rw [show (w.alloc (.cells #[x0, x1, x2, x3] 26)).alloc (.cells #[.int .i8 0, .int .i8 0, .int .u64 0, .slice none 0 0] 26) = W1 from HE.out]
  clear HE
  go_wp2_with (first
    | (refine ldRow 26 (.tmp 1) rfl rfl w.heap.size rfl 26 #[x0, x1, x2, x3] _ Tryd.underlying26 rfl sizeTM HT.out.n ?_)
    | (refine bldSl 24 26 (.tmp 3) rfl rfl #[x0, x1, x2, x3] rfl Tryd.underlying24 _ _ _ rfl rfl rfl rfl (by decide) (by decide) ?_)
    | (refine stRow 26 (.tmp 2) (.tmp 5) rfl rfl (w.heap.size + 1) (tmc 6 0 0 (.slice (some ⟨W1.heap.size, 0, none⟩) 1 1)) rfl rfl 26 (tmc 0 0 0 nilS) HR2.out sizeTM rfl (tic_one _ _ _ _ _ _) ?_))
  refine bodyPost_ret (v := .agg (tmc 6 0 0 (.slice (some ⟨W1.heap.size, 0, none⟩) 1 1))) (res_tm Tryd.results43 _ _ (w.heap.size + 1) _ sizeTM rfl (setRow_heap _ _ _ _ _ _ HR2.out)) rfl ?_
  exact ⟨_, rfl, bel_row HB2.out (by omega) _, ti_on HU.out fun b _ hSb => ⟨hSb.1, setRow_other _ _ b _ hSb.2⟩⟩
end Go.Proofs.YtjallmncajhamaaDoor
