/-
  Proved here: slices.Insert of one thing, at rows. Conditions: fewer than 2 to 31 things; the new one lies in a block of its own.
-/
import Derived.Test.YtdehlnaoehjehaaGreatDoorzI0
namespace Go.Proofs.YtdehlnaoehjehaaGreatDoor
set_option maxRecDepth 100000
open Go.RowKit

theorem infoinR : (Tryz.prog.info? 218).map (fun i => (i.zero, i.size, i.bytes)) = some (some (Value.pointer none), 1, 8) := by kernel_rfl
theorem sizeinR : (Tryz.prog.info? 218).map (·.size) = some 1 := by kernel_rfl
theorem sizeOfinR : ∀ w, (Go.sizeOf 218).run Tryz.prog w = .ok 1 w := fun w => by simp [go_sem]
set_option maxHeartbeats 3200000 in
set_option maxRecDepth 100000 in
theorem inR_room {S : Nat → Prop} (w : World) (g o n cap i vb : Nat) (cur : Array Value) (xs us : List Value) (hS : S g) (hx : xs.length = n) (h3 : w.heap[g]? = some (.cells cur 218 (0, 0))) (h4 : n + 1 ≤ cap) (h5 : o + cap ≤ cur.size) (h6 : (cur.toList.drop o).take (n) = xs) (hi : i < n) (hu : us.length = 1) (hn : n < 2147483648) (hvb : w.heap[vb]? = some (.cells us.toArray 218 (0, 0))) (hne : vb ≠ g) (h1 : ∀ x ∈ xs, x.oneCell' = true) (h1u : ∀ x ∈ us, x.oneCell' = true) :
    Calls Tryz.prog 212 #[.slice (some ⟨g, o, none⟩) n cap, .int .i64 i, .slice (some ⟨vb, 0, none⟩) 1 1] w fun e w' => ∃ v', e = .returned v' ∧ Apd w (.slice (some ⟨g, o, none⟩) n cap) w' ∧ Rw (fun b => S b ∨ w.heap.size ≤ b) 1 218 w' v' (n + 1) (xs.take (i) ++ us ++ xs.drop (i)) := by
  have HF : Hid (Rw S 1 218 ((w.drew.setCells g (o + (i + 1)) (xs.drop i)).setCells g (o + i) us) (.slice (some ⟨g, o, none⟩) (n + 1) cap) (n + 1) (xs.take i ++ us ++ xs.drop i) ∧ Apd w.drew (.slice (some ⟨g, o, none⟩) n cap) ((w.drew.setCells g (o + (i + 1)) (xs.drop i)).setCells g (o + i) us)) := (by show _ ∧ _; simpa only [Nat.mul_one] using rw_shift (k := 1) (w := w.drew) hS (by omega) h3 h4 (by omega) (by rw [Nat.mul_one]; exact h6) (Nat.le_of_lt hi) hu)
  have hov : ∀ lb cb, (callFunc 226 #[.slice (some ⟨vb, 0, none⟩) 1 1, .slice (some ⟨g, o + (i + 1), none⟩) lb cb]).run Tryz.prog w = .ok (.value (.bool false)) w := fun lb cb => by
    rw [run_callFunc_extern Tryz.func226 (by kernel_rfl) (by kernel_rfl) (by kernel_rfl) (e := Extern.SlicesOverlaps.overlaps #[213, 213] #[4]) (by kernel_rfl),
      Lib.run_overlaps_apart w 213 4 218 Tryz.underlying213 1 sizeOfinR ⟨vb, 0, none⟩ ⟨g, o + (i + 1), none⟩ 1 1 lb cb hne 218 218 us.length cur.size (by simp [World.shape?, hvb]) (by simp [World.shape?, h3]) (by omega) (by simp [World.frozen?, hvb]) (by simp [World.frozen?, hvb])]
    rfl
  have hdl : (xs.drop (i)).length = n - i := by rw [List.length_drop, hx]
  have HC1 : Hid (∀ j v, (xs.drop (i))[j]? = some v → w.drew.cell? (Addr.add ⟨g, o + i, none⟩ j) = some v) := fun j v hj => by
    rw [List.getElem?_drop] at hj
    have hjl : i + j < n := by have := (List.getElem?_eq_some_iff.1 hj).1; omega
    rw [Addr.add_lit, Nat.add_assoc]
    exact (cell_of_row w g _ cur 218 (0, 0) h3).trans ((cells_at h6 hjl).trans hj)
  have HC2 : Hid (∀ j, j < (xs.drop (i)).length → (w.drew.cell? ⟨g, o + (i + 1) + j, none⟩).isSome = true ∧ w.drew.frozen? ⟨g, o + (i + 1) + j, none⟩ = false) := fun j hj => by
    refine ⟨?_, by show w.frozen? _ = _; simp [World.frozen?, h3]⟩
    show (w.cell? _).isSome = true
    rw [cell_of_row w g _ cur 218 (0, 0) h3, Array.getElem?_eq_getElem (by omega)]; rfl
  have HC3 : Hid (∀ x ∈ xs.drop (i), x.oneCell' = true) := fun x hx => h1 x (List.mem_of_mem_drop hx)
  have HD1 : Hid ((xs.drop (i)).length = Nat.min (n + 1 - i) (n + 1 - (i + 1)) * 1) := by
    show _ = _
    rw [hdl, show Nat.min (n + 1 - i) (n + 1 - (i + 1)) = n - i by simp only [Nat.min_def]; split <;> omega]; rw [Nat.mul_one]
  obtain ⟨W1, hW1⟩ : ∃ W1, W1 = w.drew.setCells g (o + (i + 1)) (xs.drop (i)) := ⟨_, rfl⟩
  obtain ⟨c1, a1, a2, a3, a4, a5, a6⟩ := setCells_all g (xs.drop (i)) (o + (i + 1)) w.drew cur 218 h3
  rw [← hW1] at a1 a5 a6 HF
  have HV1 : Hid (∀ j v, us[j]? = some v → W1.cell? (Addr.add ⟨vb, 0, none⟩ j) = some v) := fun j v hj => by
    rw [Addr.add_lit, Nat.zero_add, cell_of_row W1 vb _ us.toArray 218 (0, 0) ((a5 vb hne).trans hvb)]
    simpa using hj
  have HV2 : Hid (∀ j, j < us.length → (W1.cell? ⟨g, o + i + j, none⟩).isSome = true ∧ W1.frozen? ⟨g, o + i + j, none⟩ = false) := fun j hj => by
    refine ⟨?_, by simp [World.frozen?, a1]⟩
    rw [cell_of_row W1 g _ c1 218 (0, 0) a1, Array.getElem?_eq_getElem (by omega)]; rfl
  have HV3 := hid h1u
  have HD2 : Hid (us.length = Nat.min 1 (n + 1 - i) * 1) := by
    show _ = _
    rw [hu, show Nat.min 1 (n + 1 - i) = 1 by simp only [Nat.min_def]; split <;> omega]
  have hb3 : (i : Int) ≤ (n : Int) + 1 := by omega
  have hz2 : ¬ ((i : Int) = (n : Int)) := by omega
  have hz3 : ¬ ((cap : Int) < (n : Int) + 1) := by omega
  have hw1 : IntKind.i64.wrap ((i : Int) + 1) = (i : Int) + 1 := by rw [IntKind.wrap_i64]; omega
  have hw2 : IntKind.i64.wrap ((n : Int) + 1) = (n : Int) + 1 := by rw [IntKind.wrap_i64]; omega
  have hb1 : (0 : Int) ≤ (i : Int) + 1 := by omega
  have hb1n : (0 : Int) ≤ (n : Int) + 1 := by omega
  have hin : i ≤ n := by omega
  have hin1 : i ≤ n + 1 := by omega
  have hin2 : i + 1 ≤ n + 1 := by omega
  have htn : ((i : Int) + 1).toNat = i + 1 := by omega
  have htn2 : ((n : Int) + 1).toNat = n + 1 := by omega
  have hb2 : ¬ (cap = i + 1) := by omega
  have hb4 : ¬ (cap = i) := by omega
  have hb5 : i ≤ cap := by omega
  have hnot : ∀ (x : Bool) (w : World), (Op.unary .not (.bool x)).run Tryz.prog w = .ok (.bool (!x)) w := fun _ _ => rfl
  have HW1 := hid hW1
  clear hW1 h3 h5 h6 hx a1 a2 a3 a4 a5 a6 hvb h1 h1u hdl hu
  go_enter Tryz.func212, Tryz.ntmps212
  go_wp2_with (simp only [hov])
  go_region_law (refine stepCopy rfl (.tmp 73) (.tmp 76) 213 213 rfl 218 1 g (o + (i + 1)) (n + 1 - (i + 1)) (cap - (i + 1)) ⟨g, o + i, none⟩ (n + 1 - i) (cap - i) (xs.drop (i)) (by simp [Act.eval, Act.put]) (by simp [Act.eval, Act.put]) Tryz.underlying213 sizeinR HD1.out HC1.out HC2.out HC3.out ?_; rw [← HW1.out])
  all_goals (
    go_wp2_with (refine opCopy rfl (.tmp 80) (.tmp 81) 213 213 rfl 218 1 g (o + i) (n + 1 - i) (cap - i) ⟨vb, 0, none⟩ 1 1 us rfl rfl Tryz.underlying213 sizeinR HD2.out HV1.out HV2.out HV3.out ?_)
    go_ret
    exact ⟨_, rfl, ⟨HF.out.2.os, HF.out.2.tape, HF.out.2.output, HF.out.2.size, HF.out.2.block⟩, HF.out.1.carry fun b _ hb => ⟨Or.inl hb, rfl⟩⟩)
set_option maxHeartbeats 3200000 in
set_option maxRecDepth 100000 in
theorem inR_grow {S : Nat → Prop} (w : World) (g o n cap i vb : Nat) (cur : Array Value) (xs us : List Value) (hx : xs.length = n) (h3 : w.heap[g]? = some (.cells cur 218 (0, 0))) (hnc : n ≤ cap) (h4 : cap < n + 1) (_h5 : o + cap ≤ cur.size) (h6 : (cur.toList.drop o).take (n) = xs) (hi : i < n) (hu : us.length = 1) (hn : n < 2147483648) (hvb : w.heap[vb]? = some (.cells us.toArray 218 (0, 0))) (h1 : ∀ x ∈ xs, x.oneCell' = true) (h1u : ∀ x ∈ us, x.oneCell' = true) :
    Calls Tryz.prog 212 #[.slice (some ⟨g, o, none⟩) n cap, .int .i64 i, .slice (some ⟨vb, 0, none⟩) 1 1] w fun e w' => ∃ v', e = .returned v' ∧ Apd w (.slice (some ⟨g, o, none⟩) n cap) w' ∧ Rw (fun b => S b ∨ w.heap.size ≤ b) 1 218 w' v' (n + 1) (xs.take (i) ++ us ++ xs.drop (i)) := by
  obtain ⟨i0, hi0, hz0, hzs, hzb⟩ := info_parts infoinR
  have hgl := (Array.getElem?_eq_some_iff.1 h3).1
  have hvl := (Array.getElem?_eq_some_iff.1 hvb).1
  have cells0 : ∀ W : World, W.heap[g]? = w.heap[g]? → ∀ j v, xs[j]? = some v → W.cell? ⟨g, o + j, none⟩ = some v := fun W hW j v hj => by
    have hjl : j < n := by have := (List.getElem?_eq_some_iff.1 hj).1; omega
    exact (cell_of_row W g _ cur 218 (0, 0) (hW.trans h3)).trans ((cells_at h6 hjl).trans hj)
  have hold : (Builtin.firstCells i0.size i (.slice (some ⟨g, o, none⟩) i cap)).run Tryz.prog w.drew = .ok (xs.take (i)).toArray w.drew := by
    rw [hzs]
    exact run_firstCells_some w.drew 1 i ⟨g, o, none⟩ i cap (xs.take (i)) (by rw [List.length_take]; omega) (fun j v hj => by
      rw [Addr.add_lit]
      rw [List.getElem?_take] at hj
      split at hj
      · exact cells0 w.drew rfl j v hj
      · cases hj)
  obtain ⟨G, hG⟩ : ∃ G, G = grownCap w (n + 1) cap 218 := ⟨_, rfl⟩
  obtain ⟨ROW, hROW⟩ : ∃ ROW : Array Value, ROW = (xs.take (i)).toArray ++ Builtin.zeroCells (Value.pointer none).cells (n + 1 - i) ++ Builtin.zeroCells (Value.pointer none).cells (G - (n + 1)) := ⟨_, rfl⟩
  have hrz : ∀ ty, (Builtin.append_ #[213, 3] ty #[.slice (some ⟨g, o, none⟩) i cap, .int .i64 ((n : Int) + 1 - (i : Int))]).run Tryz.prog w = .ok (.slice (some ⟨w.heap.size, 0, none⟩) (n + 1) G) (w.drew.alloc (.cells ROW 218)) := fun ty => by
    have h := Lib.run_append_grow_zeros w 213 3 ty 218 i0 _ .i64 .i64 Tryz.underlying213 Tryz.underlying3 hi0 hz0 (some ⟨g, o, none⟩) i cap (xs.take (i)) hold (n + 1 - i) (by omega) (by omega) (by omega) (by omega) (by rw [hzb]; omega) (by rw [hzb, show i + (n + 1 - i) = n + 1 by omega]; exact growslice_fits h4 (by omega))
    rw [show i + (n + 1 - i) = n + 1 by omega, ← hG, ← hROW] at h
    rw [show (n : Int) + 1 - (i : Int) = ((n + 1 - i : Nat) : Int) by omega]
    exact h
  have hGn : n + 1 ≤ G := by rw [hG]; exact grownCap_ge w _ _ _
  have hRs : ROW.size = G * 1 := by
    rw [hROW]
    simp only [Array.size_append, List.size_toArray, List.length_take, size_zeroCells, hx]
    have : (Value.pointer none).cells.size = 1 := rfl
    rw [this]
    omega
  have hRt : ∀ j, j < i → ROW[j]? = xs[j]? := fun j hj => by
    rw [hROW, Array.append_assoc, Array.getElem?_append_left (by simp; omega)]
    simp [hj]
  obtain ⟨W1, hW1⟩ : ∃ W1, W1 = w.drew.alloc (.cells ROW 218) := ⟨_, rfl⟩
  have HF : Hid (Rw (fun b => S b ∨ w.heap.size ≤ b) 1 218 ((W1.setCells w.heap.size i us).setCells w.heap.size (i + 1) (xs.drop i)) (.slice (some ⟨w.heap.size, 0, none⟩) (n + 1) G) (n + 1) (xs.take i ++ us ++ xs.drop i) ∧ Apd w (.slice (some ⟨g, o, none⟩) n cap) ((W1.setCells w.heap.size i us).setCells w.heap.size (i + 1) (xs.drop i))) := by show _ ∧ _; simpa only [Nat.mul_one] using rw_grown (k := 1) (S := S) (v := .slice (some ⟨g, o, none⟩) n cap) (by omega) hW1 (by simpa only [Nat.mul_one] using hRt) hGn (by omega) (Nat.le_of_lt hi) hu
  have hW1n : W1.heap[w.heap.size]? = some (.cells ROW 218 (0, 0)) := by rw [hW1]; exact heap_alloc_new w.drew _
  have hW1o : ∀ b, b < w.heap.size → W1.heap[b]? = w.heap[b]? := fun b hb => by rw [hW1]; exact heap_alloc_old w.drew _ hb
  rw [← hW1] at hrz
  obtain ⟨c1, a1, a2, a3, a4, a5, a6⟩ := setCells_all w.heap.size us (i) W1 ROW 218 hW1n
  have HV1 : Hid (∀ j v, us[j]? = some v → W1.cell? (Addr.add ⟨vb, 0, none⟩ j) = some v) := fun j v hj => by
    rw [Addr.add_lit, Nat.zero_add, cell_of_row W1 vb _ us.toArray 218 (0, 0) ((hW1o vb hvl).trans hvb)]
    simpa using hj
  have HV2 : Hid (∀ j, j < us.length → (W1.cell? ⟨w.heap.size, i + j, none⟩).isSome = true ∧ W1.frozen? ⟨w.heap.size, i + j, none⟩ = false) := fun j hj => by
    refine ⟨?_, by simp [World.frozen?, hW1n]⟩
    rw [cell_of_row W1 _ _ ROW 218 (0, 0) hW1n, Array.getElem?_eq_getElem (by omega)]; rfl
  have HV3 := hid h1u
  have HD2 : Hid (us.length = Nat.min 1 (n + 1 - i) * 1) := by
    show _ = _
    rw [hu, show Nat.min 1 (n + 1 - i) = 1 by simp only [Nat.min_def]; split <;> omega]
  obtain ⟨W2, hW2⟩ : ∃ W2, W2 = W1.setCells w.heap.size (i) us := ⟨_, rfl⟩
  rw [← hW2] at a1 a5 a6 HF
  have hdl : (xs.drop (i)).length = n - i := by rw [List.length_drop, hx]
  have HC1 : Hid (∀ j v, (xs.drop (i))[j]? = some v → W2.drew.cell? (Addr.add ⟨g, o + i, none⟩ j) = some v) := fun j v hj => by
    rw [List.getElem?_drop] at hj
    rw [Addr.add_lit, Nat.add_assoc]
    exact cells0 W2.drew ((a5 g (by omega)).trans (hW1o g hgl)) _ v hj
  have HC2 : Hid (∀ j, j < (xs.drop (i)).length → (W2.drew.cell? ⟨w.heap.size, (i + 1) + j, none⟩).isSome = true ∧ W2.drew.frozen? ⟨w.heap.size, (i + 1) + j, none⟩ = false) := fun j hj => by
    refine ⟨?_, by show W2.frozen? _ = _; simp [World.frozen?, a1]⟩
    show (W2.cell? _).isSome = true
    rw [cell_of_row W2 _ _ c1 218 (0, 0) a1, Array.getElem?_eq_getElem (by omega)]; rfl
  have HC3 : Hid (∀ x ∈ xs.drop (i), x.oneCell' = true) := fun x hx => h1 x (List.mem_of_mem_drop hx)
  have HD1 : Hid ((xs.drop (i)).length = Nat.min (n - i) (n + 1 - (i + 1)) * 1) := by
    show _ = _
    rw [hdl, show Nat.min (n - i) (n + 1 - (i + 1)) = n - i by simp only [Nat.min_def]; split <;> omega]; rw [Nat.mul_one]
  have HFd : Hid (Apd w (.slice (some ⟨g, o, none⟩) n cap) (W2.drew.setCells w.heap.size ((i + 1)) (xs.drop (i))) ∧ Rw (fun b => S b ∨ w.heap.size ≤ b) 1 218 (W2.drew.setCells w.heap.size ((i + 1)) (xs.drop (i))) (.slice (some ⟨w.heap.size, 0, none⟩) (n + 1) G) (n + 1) (xs.take (i) ++ us ++ xs.drop (i))) := by
    have e := drew_setCells w.heap.size (xs.drop (i)) ((i + 1)) W2
    rw [← e]
    exact ⟨⟨HF.out.2.os, HF.out.2.tape, HF.out.2.output, HF.out.2.size, HF.out.2.block⟩, HF.out.1.carry fun b _ hb => ⟨hb, rfl⟩⟩
  have hb3 : (i : Int) ≤ (n : Int) + 1 := by omega
  have hb3' : (i : Int) ≤ (n : Int) := by omega
  have hz2 : ¬ ((i : Int) = (n : Int)) := by omega
  have hz3 : (cap : Int) < (n : Int) + 1 := by omega
  have hw1 : IntKind.i64.wrap ((i : Int) + 1) = (i : Int) + 1 := by rw [IntKind.wrap_i64]; omega
  have hw2 : IntKind.i64.wrap ((n : Int) + 1) = (n : Int) + 1 := by rw [IntKind.wrap_i64]; omega
  have hw3 : IntKind.i64.wrap ((n : Int) + 1 - (i : Int)) = (n : Int) + 1 - (i : Int) := by rw [IntKind.wrap_i64]; omega
  have hb1 : (0 : Int) ≤ (i : Int) + 1 := by omega
  have hin : i ≤ n := by omega
  have hin1 : i ≤ n + 1 := by omega
  have hin2 : i + 1 ≤ n + 1 := by omega
  have htn : ((i : Int) + 1).toNat = i + 1 := by omega
  have hb2 : ¬ (G = i + 1) := by omega
  have hb4 : ¬ (cap = i) := by omega
  have hb6 : ¬ (G = i) := by omega
  have hb5 : i ≤ cap := by omega
  have HW2 := hid hW2
  clear hW1 hW2 h3 _h5 h6 hx a1 a2 a3 a4 a5 a6 hvb h1 h1u hdl hu hold hROW hRs hRt hG hW1n hW1o cells0 hgl hvl
  go_enter Tryz.func212, Tryz.ntmps212
  go_wp2_with (first
    | (at_builtin; refine Lib.wpList_append_run _ rfl (.tmp 34) (.tmp 39) 213 3 rfl _ _ rfl rfl _ _ (hrz _) ?_)
    | (refine opCopy rfl (.tmp 43) (.tmp 44) 213 213 rfl 218 1 w.heap.size (i) (n + 1 - i) (G - i) ⟨vb, 0, none⟩ 1 1 us (by first | rfl | simp [Act.eval]) rfl Tryz.underlying213 sizeinR HD2.out HV1.out HV2.out HV3.out ?_; rw [← HW2.out]))
  go_region_law (refine stepCopy rfl (.tmp 50) (.tmp 53) 213 213 rfl 218 1 w.heap.size ((i + 1)) (n + 1 - (i + 1)) (G - (i + 1)) ⟨g, o + i, none⟩ (n - i) (cap - i) (xs.drop (i)) (by simp [Act.eval, Act.put]) (by simp [Act.eval, Act.put]) Tryz.underlying213 sizeinR HD1.out HC1.out HC2.out HC3.out ?_)
  all_goals (
    go_wp2
    go_ret
    exact ⟨_, rfl, HFd.out.1, HFd.out.2⟩)
set_option maxHeartbeats 3200000 in
set_option maxRecDepth 100000 in
theorem inR_end {S : Nat → Prop} (w : World) (v : Value) (n vb : Nat) (xs us : List Value) (h : Rw S 1 218 w v n xs) (hu : us.length = 1) (hn : n < 2147483647) (hvb : w.heap[vb]? = some (.cells us.toArray 218 (0, 0))) (h1u : ∀ x ∈ us, x.oneCell' = true) :
    Calls Tryz.prog 212 #[v, .int .i64 n, .slice (some ⟨vb, 0, none⟩) 1 1] w fun e w' => ∃ v', e = .returned v' ∧ Apd w v w' ∧ Rw (fun b => S b ∨ w.heap.size ≤ b) 1 218 w' v' (n + 1) (xs ++ us) := by
  have HN : Hid (∀ j x, us[j]? = some x → w.cell? (Addr.add ⟨vb, 0, none⟩ j) = some x) := fun j x hj => by
    rw [Addr.add_lit, Nat.zero_add, cell_of_row w vb _ us.toArray 218 (0, 0) hvb]; simpa using hj
  have H := hid h
  have HU := hid h1u
  obtain ⟨ao, cap, rfl, hc, hform⟩ : ∃ ao cap, v = .slice ao n cap ∧ n ≤ cap ∧ ((ao = none ∧ cap = 0) ∨ ∃ g o, ao = some ⟨g, o, none⟩) := by
    rcases h.2 with ⟨rfl, rfl⟩ | ⟨g, o, cap, cur, rfl, h2, h3, h4, h5⟩
    · exact ⟨none, 0, rfl, Nat.le_refl _, Or.inl ⟨rfl, rfl⟩⟩
    · exact ⟨_, cap, rfl, h4, Or.inr ⟨g, o, rfl⟩⟩
  have hul : us.length = 1 * 1 := by omega
  clear h h1u hvb hu
  rcases hform with ⟨rfl, rfl⟩ | ⟨bb, bo, rfl⟩
  · obtain rfl : n = 0 := by omega
    go_enter Tryz.func212, Tryz.ntmps212
    go_wp2_with (at_builtin; refine appRw (v := nilS) (S := S) (k := 1) (t := 218) (n := 0) (m := 1) (c := 1) (xs := xs) (us := us) (ad := ⟨vb, 0, none⟩) (.tmp 23) (.tmp 24) 213 rfl rfl rfl rfl Tryz.underlying213 infoinR rfl (by omega) (by omega) H.out hul HN.out HU.out (by omega) (Or.inl (by omega)) ?_
                 intro v3 w3 A3 R3
                 have HF := hid (And.intro A3 (R3 _ H.out))
                 clear A3 R3)
    go_ret
    exact ⟨_, rfl, HF.out⟩
  · by_cases hcn : cap = n
    · subst hcn
      go_enter Tryz.func212, Tryz.ntmps212
      go_wp2_with (at_builtin; refine appRw (v := .slice (some ⟨bb, bo, none⟩) cap cap) (S := S) (k := 1) (t := 218) (n := cap) (m := 1) (c := 1) (xs := xs) (us := us) (ad := ⟨vb, 0, none⟩) (.tmp 23) (.tmp 24) 213 rfl rfl rfl rfl Tryz.underlying213 infoinR rfl (by omega) (by omega) H.out hul HN.out HU.out (by omega) (Or.inl (by omega)) ?_
                   intro v3 w3 A3 R3
                   have HF := hid (And.intro A3 (R3 _ H.out))
                   clear A3 R3)
      go_ret
      exact ⟨_, rfl, HF.out⟩
    · go_enter Tryz.func212, Tryz.ntmps212
      go_wp2_with (at_builtin; refine appRw (v := .slice (some ⟨bb, bo, none⟩) n cap) (S := S) (k := 1) (t := 218) (n := n) (m := 1) (c := 1) (xs := xs) (us := us) (ad := ⟨vb, 0, none⟩) (.tmp 23) (.tmp 24) 213 rfl rfl rfl rfl Tryz.underlying213 infoinR rfl (by omega) (by omega) H.out hul HN.out HU.out (by omega) (Or.inl (by omega)) ?_
                   intro v3 w3 A3 R3
                   have HF := hid (And.intro A3 (R3 _ H.out))
                   clear A3 R3)
      go_ret
      exact ⟨_, rfl, HF.out⟩
/-- ONE THING IS INSERTED. -/
theorem inR_any {S : Nat → Prop} (w : World) (v : Value) (n i vb : Nat) (xs us : List Value) (h : Rw S 1 218 w v n xs) (hi : i ≤ n) (hu : us.length = 1) (hn : n < 2147483647) (hvb : w.heap[vb]? = some (.cells us.toArray 218 (0, 0))) (hne : v.ownBlock ≠ some vb) (h1 : ∀ x ∈ xs, x.oneCell' = true) (h1u : ∀ x ∈ us, x.oneCell' = true) :
    Calls Tryz.prog 212 #[v, .int .i64 i, .slice (some ⟨vb, 0, none⟩) 1 1] w fun e w' => ∃ v', e = .returned v' ∧ Apd w v w' ∧ Rw (fun b => S b ∨ w.heap.size ≤ b) 1 218 w' v' (n + 1) (xs.take (i) ++ us ++ xs.drop (i)) := by
  by_cases he : i = n
  · subst he
    have hx := h.1
    refine (inR_end w v i vb xs us h hu hn hvb h1u).mono ?_
    rintro e w' ⟨v', rfl, h2, h3⟩
    refine ⟨v', rfl, h2, ?_⟩
    rw [List.take_of_length_le (by omega), List.drop_of_length_le (by omega), List.append_nil]
    exact h3
  · rcases h with ⟨hx, ⟨rfl, rfl⟩ | ⟨g, o, cap, cur, rfl, h2, h3, h4, h5, h6⟩⟩
    · omega
    · have hg : vb ≠ g := fun e => hne (by simp [Value.ownBlock, e])
      by_cases hr : n + 1 ≤ cap
      · exact inR_room w g o n cap i vb cur xs us h2 (by omega) h3 hr (by omega) (by rw [Nat.mul_one] at h6; exact h6) (by omega) hu (by omega) hvb hg h1 h1u
      · exact inR_grow w g o n cap i vb cur xs us (by omega) h3 h4 (by omega) (by omega) (by rw [Nat.mul_one] at h6; exact h6) (by omega) hu (by omega) hvb h1 h1u
end Go.Proofs.YtdehlnaoehjehaaGreatDoor
