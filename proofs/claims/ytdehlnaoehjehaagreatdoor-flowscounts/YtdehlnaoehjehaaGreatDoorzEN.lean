/-
  Proved here: slices.Insert of one thing, at entries. Conditions: fewer than 2 to 31 things; the new one lies in a block of its own.
-/
/-
  Proved here: ahead of package tuples; placed at entries puts one to its place. Condition: fewer than 2 to 31 entries.
-/
import Derived.Test.YtdehlnaoehjehaaGreatDoorzI0
import Derived.Deep.RegionHeld
namespace Go.Proofs.YtdehlnaoehjehaaGreatDoor
set_option maxRecDepth 100000
open Go.RowKit

theorem infoinE : (Tryz.prog.info? 217).map (fun i => (i.zero, i.size, i.bytes)) = some (some (Value.agg #[.int .i64 0, .int .i64 0]), 2, 16) := by kernel_rfl
theorem sizeinE : (Tryz.prog.info? 217).map (·.size) = some 2 := by kernel_rfl
theorem sizeOfinE : ∀ w, (Go.sizeOf 217).run Tryz.prog w = .ok 2 w := fun w => by simp [go_sem]
set_option maxHeartbeats 3200000 in
set_option maxRecDepth 100000 in
theorem inE_room {S : Nat → Prop} (w : World) (g o n cap i vb : Nat) (cur : Array Value) (xs us : List Value) (hS : S g) (hx : xs.length = n * 2) (h3 : w.heap[g]? = some (.cells cur 217 (0, 0))) (h4 : n + 1 ≤ cap) (h5 : o + cap * 2 ≤ cur.size) (h6 : (cur.toList.drop o).take (n * 2) = xs) (hi : i < n) (hu : us.length = 2) (hn : n < 2147483648) (hvb : w.heap[vb]? = some (.cells us.toArray 217 (0, 0))) (hne : vb ≠ g) (h1 : ∀ x ∈ xs, x.oneCell' = true) (h1u : ∀ x ∈ us, x.oneCell' = true) :
    Calls Tryz.prog 211 #[.slice (some ⟨g, o, none⟩) n cap, .int .i64 i, .slice (some ⟨vb, 0, none⟩) 1 1] w fun e w' => ∃ v', e = .returned v' ∧ Apd w (.slice (some ⟨g, o, none⟩) n cap) w' ∧ Rw (fun b => S b ∨ w.heap.size ≤ b) 2 217 w' v' (n + 1) (xs.take (i * 2) ++ us ++ xs.drop (i * 2)) := by
  have HF := hid (rw_shift (w := w.drew) hS hx h3 h4 h5 h6 (Nat.le_of_lt hi) hu)
  have hov : ∀ lb cb, (callFunc 224 #[.slice (some ⟨vb, 0, none⟩) 1 1, .slice (some ⟨g, o + (i + 1) * 2, none⟩) lb cb]).run Tryz.prog w = .ok (.value (.bool false)) w := fun lb cb => by
    rw [run_callFunc_extern Tryz.func224 (by kernel_rfl) (by kernel_rfl) (by kernel_rfl) (e := Extern.SlicesOverlaps.overlaps #[252, 252] #[4]) (by kernel_rfl),
      Lib.run_overlaps_apart w 252 4 217 Tryz.underlying252 2 sizeOfinE ⟨vb, 0, none⟩ ⟨g, o + (i + 1) * 2, none⟩ 1 1 lb cb hne 217 217 us.length cur.size (by simp [World.shape?, hvb]) (by simp [World.shape?, h3]) (by omega) (by simp [World.frozen?, hvb]) (by simp [World.frozen?, hvb])]
    rfl
  have hdl : (xs.drop (i * 2)).length = (n - i) * 2 := by rw [List.length_drop, hx, Nat.sub_mul]
  have HC1 : Hid (∀ j v, (xs.drop (i * 2))[j]? = some v → w.drew.cell? (Addr.add ⟨g, o + i * 2, none⟩ j) = some v) := fun j v hj => by
    rw [List.getElem?_drop] at hj
    have hjl : i * 2 + j < n * 2 := by have := (List.getElem?_eq_some_iff.1 hj).1; omega
    rw [Addr.add_lit, Nat.add_assoc]
    exact (cell_of_row w g _ cur 217 (0, 0) h3).trans ((cells_at h6 hjl).trans hj)
  have HC2 : Hid (∀ j, j < (xs.drop (i * 2)).length → (w.drew.cell? ⟨g, o + (i + 1) * 2 + j, none⟩).isSome = true ∧ w.drew.frozen? ⟨g, o + (i + 1) * 2 + j, none⟩ = false) := fun j hj => by
    refine ⟨?_, by show w.frozen? _ = _; simp [World.frozen?, h3]⟩
    show (w.cell? _).isSome = true
    rw [cell_of_row w g _ cur 217 (0, 0) h3, Array.getElem?_eq_getElem (by omega)]; rfl
  have HC3 : Hid (∀ x ∈ xs.drop (i * 2), x.oneCell' = true) := fun x hx => h1 x (List.mem_of_mem_drop hx)
  have HD1 : Hid ((xs.drop (i * 2)).length = Nat.min (n + 1 - i) (n + 1 - (i + 1)) * 2) := by
    show _ = _
    rw [hdl, show Nat.min (n + 1 - i) (n + 1 - (i + 1)) = n - i by simp only [Nat.min_def]; split <;> omega]
  obtain ⟨W1, hW1⟩ : ∃ W1, W1 = w.drew.setCells g (o + (i + 1) * 2) (xs.drop (i * 2)) := ⟨_, rfl⟩
  obtain ⟨c1, a1, a2, a3, a4, a5, a6⟩ := setCells_all g (xs.drop (i * 2)) (o + (i + 1) * 2) w.drew cur 217 h3
  rw [← hW1] at a1 a5 a6 HF
  have HV1 : Hid (∀ j v, us[j]? = some v → W1.cell? (Addr.add ⟨vb, 0, none⟩ j) = some v) := fun j v hj => by
    rw [Addr.add_lit, Nat.zero_add, cell_of_row W1 vb _ us.toArray 217 (0, 0) ((a5 vb hne).trans hvb)]
    simpa using hj
  have HV2 : Hid (∀ j, j < us.length → (W1.cell? ⟨g, o + i * 2 + j, none⟩).isSome = true ∧ W1.frozen? ⟨g, o + i * 2 + j, none⟩ = false) := fun j hj => by
    refine ⟨?_, by simp [World.frozen?, a1]⟩
    rw [cell_of_row W1 g _ c1 217 (0, 0) a1, Array.getElem?_eq_getElem (by omega)]; rfl
  have HV3 := hid h1u
  have HD2 : Hid (us.length = Nat.min 1 (n + 1 - i) * 2) := by
    show _ = _
    rw [hu, show Nat.min 1 (n + 1 - i) = 1 by simp only [Nat.min_def]; split <;> omega]
  have hb3 : (i : Int) ≤ (n : Int) + 1 := by omega
  have hz2 : ¬ ((i : Int) = (n : Int)) := by omega
  have hz3 : ¬ ((cap : Int) < (n : Int) + 1) := by omega
  have hw1 : IntKind.i64.wrap ((i : Int) + 1) = (i : Int) + 1 := by rw [IntKind.wrap_i64]; omega
  have hw2 : IntKind.i64.wrap ((n : Int) + 1) = (n : Int) + 1 := by rw [IntKind.wrap_i64]; omega
  have hb1 : (0 : Int) ≤ (i : Int) + 1 := by omega
  have hb1n : (0 : Int) ≤ (n : Int) + 1 := by omega
  have hin : i ≤ n := by omega
  have hin1 : i ≤ n + 1 := by omega
  have hin2 : i + 1 ≤ n + 1 := by omega
  have htn : ((i : Int) + 1).toNat = i + 1 := by omega
  have htn2 : ((n : Int) + 1).toNat = n + 1 := by omega
  have hb2 : ¬ (cap = i + 1) := by omega
  have hb4 : ¬ (cap = i) := by omega
  have hb5 : i ≤ cap := by omega
  have hnot : ∀ (x : Bool) (w : World), (Op.unary .not (.bool x)).run Tryz.prog w = .ok (.bool (!x)) w := fun _ _ => rfl
  have HW1 := hid hW1
  clear hW1 h3 h5 h6 hx a1 a2 a3 a4 a5 a6 hvb h1 h1u hdl hu
  go_enter Tryz.func211, Tryz.ntmps211
  go_wp2_with (simp only [hov])
  go_region_law (refine stepCopy rfl (.tmp 73) (.tmp 76) 252 252 rfl 217 2 g (o + (i + 1) * 2) (n + 1 - (i + 1)) (cap - (i + 1)) ⟨g, o + i * 2, none⟩ (n + 1 - i) (cap - i) (xs.drop (i * 2)) (by simp [Act.eval, Act.put]) (by simp [Act.eval, Act.put]) Tryz.underlying252 sizeinE HD1.out HC1.out HC2.out HC3.out ?_; rw [← HW1.out])
  all_goals (
    go_wp2_with (refine opCopy rfl (.tmp 80) (.tmp 81) 252 252 rfl 217 2 g (o + i * 2) (n + 1 - i) (cap - i) ⟨vb, 0, none⟩ 1 1 us rfl rfl Tryz.underlying252 sizeinE HD2.out HV1.out HV2.out HV3.out ?_)
    go_ret
    exact ⟨_, rfl, ⟨HF.out.2.os, HF.out.2.tape, HF.out.2.output, HF.out.2.size, HF.out.2.block⟩, HF.out.1.carry fun b _ hb => ⟨Or.inl hb, rfl⟩⟩)
set_option maxHeartbeats 3200000 in
set_option maxRecDepth 100000 in
theorem inE_grow {S : Nat → Prop} (w : World) (g o n cap i vb : Nat) (cur : Array Value) (xs us : List Value) (hx : xs.length = n * 2) (h3 : w.heap[g]? = some (.cells cur 217 (0, 0))) (hnc : n ≤ cap) (h4 : cap < n + 1) (_h5 : o + cap * 2 ≤ cur.size) (h6 : (cur.toList.drop o).take (n * 2) = xs) (hi : i < n) (hu : us.length = 2) (hn : n < 2147483648) (hvb : w.heap[vb]? = some (.cells us.toArray 217 (0, 0))) (h1 : ∀ x ∈ xs, x.oneCell' = true) (h1u : ∀ x ∈ us, x.oneCell' = true) :
    Calls Tryz.prog 211 #[.slice (some ⟨g, o, none⟩) n cap, .int .i64 i, .slice (some ⟨vb, 0, none⟩) 1 1] w fun e w' => ∃ v', e = .returned v' ∧ Apd w (.slice (some ⟨g, o, none⟩) n cap) w' ∧ Rw (fun b => S b ∨ w.heap.size ≤ b) 2 217 w' v' (n + 1) (xs.take (i * 2) ++ us ++ xs.drop (i * 2)) := by
  obtain ⟨i0, hi0, hz0, hzs, hzb⟩ := info_parts infoinE
  have hgl := (Array.getElem?_eq_some_iff.1 h3).1
  have hvl := (Array.getElem?_eq_some_iff.1 hvb).1
  have cells0 : ∀ W : World, W.heap[g]? = w.heap[g]? → ∀ j v, xs[j]? = some v → W.cell? ⟨g, o + j, none⟩ = some v := fun W hW j v hj => by
    have hjl : j < n * 2 := by have := (List.getElem?_eq_some_iff.1 hj).1; omega
    exact (cell_of_row W g _ cur 217 (0, 0) (hW.trans h3)).trans ((cells_at h6 hjl).trans hj)
  have hold : (Builtin.firstCells i0.size i (.slice (some ⟨g, o, none⟩) i cap)).run Tryz.prog w.drew = .ok (xs.take (i * 2)).toArray w.drew := by
    rw [hzs]
    exact run_firstCells_some w.drew 2 i ⟨g, o, none⟩ i cap (xs.take (i * 2)) (by rw [List.length_take]; omega) (fun j v hj => by
      rw [Addr.add_lit]
      rw [List.getElem?_take] at hj
      split at hj
      · exact cells0 w.drew rfl j v hj
      · cases hj)
  obtain ⟨G, hG⟩ : ∃ G, G = grownCap w (n + 1) cap 217 := ⟨_, rfl⟩
  obtain ⟨ROW, hROW⟩ : ∃ ROW : Array Value, ROW = (xs.take (i * 2)).toArray ++ Builtin.zeroCells (Value.agg #[.int .i64 0, .int .i64 0]).cells (n + 1 - i) ++ Builtin.zeroCells (Value.agg #[.int .i64 0, .int .i64 0]).cells (G - (n + 1)) := ⟨_, rfl⟩
  have hrz : ∀ ty, (Builtin.append_ #[252, 3] ty #[.slice (some ⟨g, o, none⟩) i cap, .int .i64 ((n : Int) + 1 - (i : Int))]).run Tryz.prog w = .ok (.slice (some ⟨w.heap.size, 0, none⟩) (n + 1) G) (w.drew.alloc (.cells ROW 217)) := fun ty => by
    have h := Lib.run_append_grow_zeros w 252 3 ty 217 i0 _ .i64 .i64 Tryz.underlying252 Tryz.underlying3 hi0 hz0 (some ⟨g, o, none⟩) i cap (xs.take (i * 2)) hold (n + 1 - i) (by omega) (by omega) (by omega) (by omega) (by rw [hzb]; omega) (by rw [hzb, show i + (n + 1 - i) = n + 1 by omega]; exact growslice_fits h4 (by omega))
    rw [show i + (n + 1 - i) = n + 1 by omega, ← hG, ← hROW] at h
    rw [show (n : Int) + 1 - (i : Int) = ((n + 1 - i : Nat) : Int) by omega]
    exact h
  have hGn : n + 1 ≤ G := by rw [hG]; exact grownCap_ge w _ _ _
  have hRs : ROW.size = G * 2 := by
    rw [hROW]
    simp only [Array.size_append, List.size_toArray, List.length_take, size_zeroCells, hx]
    have : (Value.agg #[.int .i64 0, .int .i64 0]).cells.size = 2 := rfl
    rw [this]
    omega
  have hRt : ∀ j, j < i * 2 → ROW[j]? = xs[j]? := fun j hj => by
    rw [hROW, Array.append_assoc, Array.getElem?_append_left (by simp; omega)]
    simp [hj]
  obtain ⟨W1, hW1⟩ : ∃ W1, W1 = w.drew.alloc (.cells ROW 217) := ⟨_, rfl⟩
  have HF := hid (rw_grown (S := S) (v := .slice (some ⟨g, o, none⟩) n cap) hx hW1 hRt hGn (by omega) (Nat.le_of_lt hi) hu)
  have hW1n : W1.heap[w.heap.size]? = some (.cells ROW 217 (0, 0)) := by rw [hW1]; exact heap_alloc_new w.drew _
  have hW1o : ∀ b, b < w.heap.size → W1.heap[b]? = w.heap[b]? := fun b hb => by rw [hW1]; exact heap_alloc_old w.drew _ hb
  rw [← hW1] at hrz
  obtain ⟨c1, a1, a2, a3, a4, a5, a6⟩ := setCells_all w.heap.size us (i * 2) W1 ROW 217 hW1n
  have HV1 : Hid (∀ j v, us[j]? = some v → W1.cell? (Addr.add ⟨vb, 0, none⟩ j) = some v) := fun j v hj => by
    rw [Addr.add_lit, Nat.zero_add, cell_of_row W1 vb _ us.toArray 217 (0, 0) ((hW1o vb hvl).trans hvb)]
    simpa using hj
  have HV2 : Hid (∀ j, j < us.length → (W1.cell? ⟨w.heap.size, i * 2 + j, none⟩).isSome = true ∧ W1.frozen? ⟨w.heap.size, i * 2 + j, none⟩ = false) := fun j hj => by
    refine ⟨?_, by simp [World.frozen?, hW1n]⟩
    rw [cell_of_row W1 _ _ ROW 217 (0, 0) hW1n, Array.getElem?_eq_getElem (by omega)]; rfl
  have HV3 := hid h1u
  have HD2 : Hid (us.length = Nat.min 1 (n + 1 - i) * 2) := by
    show _ = _
    rw [hu, show Nat.min 1 (n + 1 - i) = 1 by simp only [Nat.min_def]; split <;> omega]
  obtain ⟨W2, hW2⟩ : ∃ W2, W2 = W1.setCells w.heap.size (i * 2) us := ⟨_, rfl⟩
  rw [← hW2] at a1 a5 a6 HF
  have hdl : (xs.drop (i * 2)).length = (n - i) * 2 := by rw [List.length_drop, hx, Nat.sub_mul]
  have HC1 : Hid (∀ j v, (xs.drop (i * 2))[j]? = some v → W2.drew.cell? (Addr.add ⟨g, o + i * 2, none⟩ j) = some v) := fun j v hj => by
    rw [List.getElem?_drop] at hj
    rw [Addr.add_lit, Nat.add_assoc]
    exact cells0 W2.drew ((a5 g (by omega)).trans (hW1o g hgl)) _ v hj
  have HC2 : Hid (∀ j, j < (xs.drop (i * 2)).length → (W2.drew.cell? ⟨w.heap.size, (i + 1) * 2 + j, none⟩).isSome = true ∧ W2.drew.frozen? ⟨w.heap.size, (i + 1) * 2 + j, none⟩ = false) := fun j hj => by
    refine ⟨?_, by show W2.frozen? _ = _; simp [World.frozen?, a1]⟩
    show (W2.cell? _).isSome = true
    rw [cell_of_row W2 _ _ c1 217 (0, 0) a1, Array.getElem?_eq_getElem (by omega)]; rfl
  have HC3 : Hid (∀ x ∈ xs.drop (i * 2), x.oneCell' = true) := fun x hx => h1 x (List.mem_of_mem_drop hx)
  have HD1 : Hid ((xs.drop (i * 2)).length = Nat.min (n - i) (n + 1 - (i + 1)) * 2) := by
    show _ = _
    rw [hdl, show Nat.min (n - i) (n + 1 - (i + 1)) = n - i by simp only [Nat.min_def]; split <;> omega]
  have HFd : Hid (Apd w (.slice (some ⟨g, o, none⟩) n cap) (W2.drew.setCells w.heap.size ((i + 1) * 2) (xs.drop (i * 2))) ∧ Rw (fun b => S b ∨ w.heap.size ≤ b) 2 217 (W2.drew.setCells w.heap.size ((i + 1) * 2) (xs.drop (i * 2))) (.slice (some ⟨w.heap.size, 0, none⟩) (n + 1) G) (n + 1) (xs.take (i * 2) ++ us ++ xs.drop (i * 2))) := by
    have e := drew_setCells w.heap.size (xs.drop (i * 2)) ((i + 1) * 2) W2
    rw [← e]
    exact ⟨⟨HF.out.2.os, HF.out.2.tape, HF.out.2.output, HF.out.2.size, HF.out.2.block⟩, HF.out.1.carry fun b _ hb => ⟨hb, rfl⟩⟩
  have hb3 : (i : Int) ≤ (n : Int) + 1 := by omega
  have hb3' : (i : Int) ≤ (n : Int) := by omega
  have hz2 : ¬ ((i : Int) = (n : Int)) := by omega
  have hz3 : (cap : Int) < (n : Int) + 1 := by omega
  have hw1 : IntKind.i64.wrap ((i : Int) + 1) = (i : Int) + 1 := by rw [IntKind.wrap_i64]; omega
  have hw2 : IntKind.i64.wrap ((n : Int) + 1) = (n : Int) + 1 := by rw [IntKind.wrap_i64]; omega
  have hw3 : IntKind.i64.wrap ((n : Int) + 1 - (i : Int)) = (n : Int) + 1 - (i : Int) := by rw [IntKind.wrap_i64]; omega
  have hb1 : (0 : Int) ≤ (i : Int) + 1 := by omega
  have hin : i ≤ n := by omega
  have hin1 : i ≤ n + 1 := by omega
  have hin2 : i + 1 ≤ n + 1 := by omega
  have htn : ((i : Int) + 1).toNat = i + 1 := by omega
  have hb2 : ¬ (G = i + 1) := by omega
  have hb4 : ¬ (cap = i) := by omega
  have hb6 : ¬ (G = i) := by omega
  have hb5 : i ≤ cap := by omega
  have HW2 := hid hW2
  clear hW1 hW2 h3 _h5 h6 hx a1 a2 a3 a4 a5 a6 hvb h1 h1u hdl hu hold hROW hRs hRt hG hW1n hW1o cells0 hgl hvl
  go_enter Tryz.func211, Tryz.ntmps211
  go_wp2_with (first
    | (at_builtin; refine Lib.wpList_append_run _ rfl (.tmp 34) (.tmp 39) 252 3 rfl _ _ rfl rfl _ _ (hrz _) ?_)
    | (refine opCopy rfl (.tmp 43) (.tmp 44) 252 252 rfl 217 2 w.heap.size (i * 2) (n + 1 - i) (G - i) ⟨vb, 0, none⟩ 1 1 us (by first | rfl | simp [Act.eval]) rfl Tryz.underlying252 sizeinE HD2.out HV1.out HV2.out HV3.out ?_; rw [← HW2.out]))
  go_region_law (refine stepCopy rfl (.tmp 50) (.tmp 53) 252 252 rfl 217 2 w.heap.size ((i + 1) * 2) (n + 1 - (i + 1)) (G - (i + 1)) ⟨g, o + i * 2, none⟩ (n - i) (cap - i) (xs.drop (i * 2)) (by simp [Act.eval, Act.put]) (by simp [Act.eval, Act.put]) Tryz.underlying252 sizeinE HD1.out HC1.out HC2.out HC3.out ?_)
  all_goals (
    go_wp2
    go_ret
    exact ⟨_, rfl, HFd.out.1, HFd.out.2⟩)
set_option maxHeartbeats 3200000 in
set_option maxRecDepth 100000 in
theorem inE_end {S : Nat → Prop} (w : World) (v : Value) (n vb : Nat) (xs us : List Value) (h : Rw S 2 217 w v n xs) (hu : us.length = 2) (hn : n < 2147483647) (hvb : w.heap[vb]? = some (.cells us.toArray 217 (0, 0))) (h1u : ∀ x ∈ us, x.oneCell' = true) :
    Calls Tryz.prog 211 #[v, .int .i64 n, .slice (some ⟨vb, 0, none⟩) 1 1] w fun e w' => ∃ v', e = .returned v' ∧ Apd w v w' ∧ Rw (fun b => S b ∨ w.heap.size ≤ b) 2 217 w' v' (n + 1) (xs ++ us) := by
  have HN : Hid (∀ j x, us[j]? = some x → w.cell? (Addr.add ⟨vb, 0, none⟩ j) = some x) := fun j x hj => by
    rw [Addr.add_lit, Nat.zero_add, cell_of_row w vb _ us.toArray 217 (0, 0) hvb]; simpa using hj
  have H := hid h
  have HU := hid h1u
  obtain ⟨ao, cap, rfl, hc, hform⟩ : ∃ ao cap, v = .slice ao n cap ∧ n ≤ cap ∧ ((ao = none ∧ cap = 0) ∨ ∃ g o, ao = some ⟨g, o, none⟩) := by
    rcases h.2 with ⟨rfl, rfl⟩ | ⟨g, o, cap, cur, rfl, h2, h3, h4, h5⟩
    · exact ⟨none, 0, rfl, Nat.le_refl _, Or.inl ⟨rfl, rfl⟩⟩
    · exact ⟨_, cap, rfl, h4, Or.inr ⟨g, o, rfl⟩⟩
  have hul : us.length = 1 * 2 := by omega
  clear h h1u hvb hu
  rcases hform with ⟨rfl, rfl⟩ | ⟨bb, bo, rfl⟩
  · obtain rfl : n = 0 := by omega
    go_enter Tryz.func211, Tryz.ntmps211
    go_wp2_with (at_builtin; refine appRw (v := nilS) (S := S) (k := 2) (t := 217) (n := 0) (m := 1) (c := 1) (xs := xs) (us := us) (ad := ⟨vb, 0, none⟩) (.tmp 23) (.tmp 24) 252 rfl rfl rfl rfl Tryz.underlying252 infoinE rfl (by omega) (by omega) H.out hul HN.out HU.out (by omega) (Or.inl (by omega)) ?_
                 intro v3 w3 A3 R3
                 have HF := hid (And.intro A3 (R3 _ H.out))
                 clear A3 R3)
    go_ret
    exact ⟨_, rfl, HF.out⟩
  · by_cases hcn : cap = n
    · subst hcn
      go_enter Tryz.func211, Tryz.ntmps211
      go_wp2_with (at_builtin; refine appRw (v := .slice (some ⟨bb, bo, none⟩) cap cap) (S := S) (k := 2) (t := 217) (n := cap) (m := 1) (c := 1) (xs := xs) (us := us) (ad := ⟨vb, 0, none⟩) (.tmp 23) (.tmp 24) 252 rfl rfl rfl rfl Tryz.underlying252 infoinE rfl (by omega) (by omega) H.out hul HN.out HU.out (by omega) (Or.inl (by omega)) ?_
                   intro v3 w3 A3 R3
                   have HF := hid (And.intro A3 (R3 _ H.out))
                   clear A3 R3)
      go_ret
      exact ⟨_, rfl, HF.out⟩
    · go_enter Tryz.func211, Tryz.ntmps211
      go_wp2_with (at_builtin; refine appRw (v := .slice (some ⟨bb, bo, none⟩) n cap) (S := S) (k := 2) (t := 217) (n := n) (m := 1) (c := 1) (xs := xs) (us := us) (ad := ⟨vb, 0, none⟩) (.tmp 23) (.tmp 24) 252 rfl rfl rfl rfl Tryz.underlying252 infoinE rfl (by omega) (by omega) H.out hul HN.out HU.out (by omega) (Or.inl (by omega)) ?_
                   intro v3 w3 A3 R3
                   have HF := hid (And.intro A3 (R3 _ H.out))
                   clear A3 R3)
      go_ret
      exact ⟨_, rfl, HF.out⟩
/-- ONE THING IS INSERTED. -/
theorem inE_any {S : Nat → Prop} (w : World) (v : Value) (n i vb : Nat) (xs us : List Value) (h : Rw S 2 217 w v n xs) (hi : i ≤ n) (hu : us.length = 2) (hn : n < 2147483647) (hvb : w.heap[vb]? = some (.cells us.toArray 217 (0, 0))) (hne : v.ownBlock ≠ some vb) (h1 : ∀ x ∈ xs, x.oneCell' = true) (h1u : ∀ x ∈ us, x.oneCell' = true) :
    Calls Tryz.prog 211 #[v, .int .i64 i, .slice (some ⟨vb, 0, none⟩) 1 1] w fun e w' => ∃ v', e = .returned v' ∧ Apd w v w' ∧ Rw (fun b => S b ∨ w.heap.size ≤ b) 2 217 w' v' (n + 1) (xs.take (i * 2) ++ us ++ xs.drop (i * 2)) := by
  by_cases he : i = n
  · subst he
    have hx := h.1
    refine (inE_end w v i vb xs us h hu hn hvb h1u).mono ?_
    rintro e w' ⟨v', rfl, h2, h3⟩
    refine ⟨v', rfl, h2, ?_⟩
    rw [List.take_of_length_le (by omega), List.drop_of_length_le (by omega), List.append_nil]
    exact h3
  · rcases h with ⟨hx, ⟨rfl, rfl⟩ | ⟨g, o, cap, cur, rfl, h2, h3, h4, h5, h6⟩⟩
    · omega
    · have hg : vb ≠ g := fun e => hne (by simp [Value.ownBlock, e])
      by_cases hr : n + 1 ≤ cap
      · exact inE_room w g o n cap i vb cur xs us h2 hx h3 hr h5 h6 (by omega) hu (by omega) hvb hg h1 h1u
      · exact inE_grow w g o n cap i vb cur xs us hx h3 h4 (by omega) h5 h6 (by omega) hu (by omega) hvb h1 h1u
end Go.Proofs.YtdehlnaoehjehaaGreatDoor
namespace Go.Proofs.YtdehlnaoehjehaaGreatDoor
set_option maxRecDepth 100000
open Go.RowKit

/-- An entry: its rank, its number. -/
structure En where
  r : Int
  k : Int
def ahd (a b : En) : Bool := decide (b.r < a.r) || (a.r == b.r && decide (a.k < b.k))
abbrev ev (a : En) : Value := .agg #[.int .i64 a.r, .int .i64 a.k]
def c2 (a : En) : List Value := [.int .i64 a.r, .int .i64 a.k]
def ces (l : List En) : List Value := l.flatMap c2
theorem ces_app (a b : List En) : ces (a ++ b) = ces a ++ ces b := by simp [ces]
theorem ces_one (q : En) : ces [q] = c2 q := by simp [ces]
theorem ces_len : ∀ l : List En, (ces l).length = l.length * 2
  | [] => rfl
  | q :: l => by
    have := ces_len l
    simp only [ces] at this
    simp [ces, c2, this]; omega
theorem ces_drop : ∀ (l : List En) (k : Nat), (ces l).drop (k * 2) = ces (l.drop k)
  | _, 0 => by simp
  | [], k + 1 => by simp [ces]
  | q :: l, k + 1 => by
    have := ces_drop l k
    rw [show (k + 1) * 2 = k * 2 + 2 by omega]
    simpa [ces, c2] using this
theorem ces_take : ∀ (l : List En) (k : Nat), (ces l).take (k * 2) = ces (l.take k)
  | _, 0 => by simp [ces]
  | [], k + 1 => by simp [ces]
  | q :: l, k + 1 => by
    have := ces_take l k
    rw [show (k + 1) * 2 = k * 2 + 2 by omega]
    simpa [ces, c2] using this
theorem ces_at (l : List En) (j i : Nat) (hj : j < l.length) (hi : i < 2) : (ces l)[j * 2 + i]? = (c2 l[j])[i]? := by
  have h := ces_drop l j
  rw [← List.getElem?_drop, h, List.drop_eq_getElem_cons hj]
  show (c2 l[j] ++ ces (l.drop (j + 1)))[i]? = _
  rw [List.getElem?_append_left (by simp [c2]; exact hi)]
theorem ces_one' (l : List En) : ∀ x ∈ ces l, x.oneCell' = true := by
  intro x hx
  obtain ⟨q, hq, hx⟩ := List.mem_flatMap.1 hx
  simp only [c2, List.mem_cons, List.not_mem_nil, or_false] at hx
  rcases hx with rfl | rfl <;> rfl
/-- Where an entry goes, from the first q on. -/
def posd (l : List En) (e : En) : Nat → Nat
  | 0 => 0
  | k + 1 => if ahd e (l.getD k ⟨0, 0⟩) then posd l e k else k + 1
def place (l : List En) (e : En) : List En := l.take (posd l e l.length) ++ [e] ++ l.drop (posd l e l.length)
theorem posd_le (l : List En) (e : En) : ∀ k, posd l e k ≤ k
  | 0 => Nat.le_refl _
  | k + 1 => by
    have := posd_le l e k
    unfold posd
    split <;> omega

set_option maxHeartbeats 800000 in
theorem ahead_any (a b : En) (w : World) : Calls Tryz.prog 120 #[ev a, ev b] w fun e w' => e = .returned (.bool (ahd a b)) ∧ Below w.heap.size w w' := by
  obtain ⟨ar, ak⟩ := a
  obtain ⟨br, bk⟩ := b
  have HL : Hid (Below w.heap.size w ((w.alloc (.cells #[.int .i64 ar, .int .i64 ak] 217)).alloc (.cells #[.int .i64 br, .int .i64 bk] 217))) := ((Below.refl _ _).alloc (Nat.le_refl _) _).alloc (by simp) _
  by_cases h1 : br < ar
  · have e : ahd ⟨ar, ak⟩ ⟨br, bk⟩ = true := by simp [ahd, h1]
    rw [e]
    go_enter Tryz.func120, Tryz.ntmps120
    go_wp2
    go_ret
    exact ⟨rfl, HL.out⟩
  · have d1 : decide (br < ar) = false := decide_eq_false h1
    by_cases h2 : ar = br
    · subst h2
      by_cases h3 : ak < bk
      · have e : ahd ⟨ar, ak⟩ ⟨ar, bk⟩ = true := by simp [ahd, h3]
        rw [e]
        go_enter Tryz.func120, Tryz.ntmps120
        go_wp2
        go_ret
        exact ⟨rfl, HL.out⟩
      · have e : ahd ⟨ar, ak⟩ ⟨ar, bk⟩ = false := by simp [ahd, h3]
        have d3 : decide (ak < bk) = false := decide_eq_false h3
        rw [e]
        go_enter Tryz.func120, Tryz.ntmps120
        go_wp2
        go_ret
        exact ⟨rfl, HL.out⟩
    · have e : ahd ⟨ar, ak⟩ ⟨br, bk⟩ = false := by simp [ahd, h1, h2]
      have d2 : (ar == br) = false := beq_eq_false_iff_ne.2 h2
      rw [e]
      go_enter Tryz.func120, Tryz.ntmps120
      go_wp2
      go_ret
      exact ⟨rfl, HL.out⟩
/-- What placed leaves. -/
def PlE (S : Nat → Prop) (w : World) (v : Value) (l : List En) (r : Ending) (w' : World) : Prop := ∃ v', r = .returned v' ∧ Apd w v w' ∧ Rw (fun b => S b ∨ w.heap.size ≤ b) 2 217 w' v' l.length (ces l)
/-- The end of placed: one is inserted at q. -/
theorem plE_fin {S : Nat → Prop} {w wr : World} {v : Value} {l : List En} {e : En} (h : Rw S 2 217 w v l.length (ces l)) (hb : Below w.heap.size w wr) {q : Nat} (hq : posd l e l.length = q) (hql : q ≤ l.length) (hn : l.length < 2147483647) :
    Calls Tryz.prog 211 #[v, .int .i64 (q : Nat), .slice (some ⟨wr.heap.size, 0, none⟩) 1 1] (wr.alloc (.cells #[.int .i64 e.r, .int .i64 e.k] 217)) fun r w' => PlE S w v (place l e) r w' := by
  have hs := hb.size
  have hw : Below w.heap.size w (wr.alloc (.cells #[.int .i64 e.r, .int .i64 e.k] 217)) := hb.alloc hs _
  have hR : Rw S 2 217 (wr.alloc (.cells #[.int .i64 e.r, .int .i64 e.k] 217)) v l.length (ces l) := h.carry fun b hb' hS => ⟨hS, hw.block b hb'⟩
  refine (inE_any _ v l.length q wr.heap.size (ces l) (c2 e) hR hql rfl hn (heap_alloc_new _ _) (fun e => by have := h.ownLt _ e; omega) (ces_one' l) (fun x hx => by simp only [c2, List.mem_cons, List.not_mem_nil, or_false] at hx; rcases hx with rfl | rfl <;> rfl)).mono ?_
  rintro r w' ⟨v', rfl, hA, hR'⟩
  have hs2 := hw.size
  have hpl : (place l e).length = l.length + 1 := by unfold place; rw [hq]; simp; omega
  refine ⟨v', rfl, ⟨hA.os.trans hw.os, hA.tape.trans hw.tape, hA.output.trans hw.output, Nat.le_trans hs2 hA.size, fun k hk hne => by rw [hA.block k (by omega) hne, hw.block k hk]⟩, ?_⟩
  rw [hpl]
  have e1 : ces (place l e) = (ces l).take (q * 2) ++ c2 e ++ (ces l).drop (q * 2) := by
    unfold place; rw [hq, ces_app, ces_app, ces_one, ces_take, ces_drop]
  rw [e1]
  refine hR'.carry fun b _ hS => ⟨?_, rfl⟩
  rcases hS with hS | hS
  · exact Or.inl hS
  · exact Or.inr (by omega)
end Go.Proofs.YtdehlnaoehjehaaGreatDoor
