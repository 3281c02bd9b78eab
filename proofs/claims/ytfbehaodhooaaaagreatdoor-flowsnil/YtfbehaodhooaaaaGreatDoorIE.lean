/-
  Laws of our own for slices.Insert and slices.Delete: a copy in a region that does not draw; three pieces put one behind the other. Conditions: the cells are there.
-/
/-
  Proved here: slices.Insert of one thing, at entries. Conditions: fewer than 2 to 31 things; the new one lies in a block of its own.
-/
import Derived.Test.YtfbehaodhooaaaaGreatDoorQ1
import Derived.Lib.Overlaps
import Derived.Lib.AppendZerosOnto
import Derived.Lib.SliceRun
import Derived.Laws.Externs
namespace Go.Proofs.YtfbehaodhooaaaaGreatDoor
set_option maxRecDepth 100000
open Go.RowKit

theorem opCopy {ops : Array Oper} {rest : List Oper} {o : Oper} {a : Act} {w : World} {Q : Exit → Act → World → Prop} (hw : Region.wanted o (yielded ops a.tmps) = true) (d s : Operand) (dT sT : TypeId)
    (ho : o.op = .call { callee := .builtin .copy, args := #[d, s], argTypes := #[dT, sT] }) (elem : TypeId) (k b off dLen dCap : Nat) (ad : Addr) (sLen sCap : Nat) (cs : List Value) (hd : a.eval d = .slice (some ⟨b, off, none⟩) dLen dCap) (hs : a.eval s = .slice (some ad) sLen sCap)
    (hu : Tryz.prog.underlying dT = some (.slice elem)) (hsz : (Tryz.prog.info? elem).map (·.size) = some k) (hn : cs.length = Nat.min sLen dLen * k)
    (hsrc : ∀ j v, cs[j]? = some v → w.cell? (ad.add j) = some v) (hc : ∀ j, j < cs.length → (w.cell? ⟨b, off + j, none⟩).isSome = true ∧ w.frozen? ⟨b, off + j, none⟩ = false) (h1 : ∀ v ∈ cs, v.oneCell' = true)
    (h : wpList Tryz.prog ops Q rest (a.put o.dst (goInt (Nat.min sLen dLen))) (w.setCells b off cs)) : wpList Tryz.prog ops Q (o :: rest) a w := by
  unfold wpList
  rw [if_pos hw]
  refine Or.inl ?_
  unfold Oper.wp
  simp [execOp, ho, resolve, invoke, builtin, hd, hs, run_copy_k w dT sT o.type elem k b off dLen dCap ad sLen sCap cs hu hsz hn hsrc (fun j hj => (hc j hj).1) (fun j hj => (hc j hj).2) h1, Result.andThen]
  exact h
theorem drew_setCells (b : Nat) : ∀ (vs : List Value) (o : Nat) (w : World), (w.setCells b o vs).drew = w.drew.setCells b o vs
  | [], _, _ => rfl
  | v :: r, o, w => by rw [World.setCells, World.setCells, drew_setCells b r]; rfl
/-- What stands in three pieces. -/
theorem three {cur : Array Value} {o I K N : Nat} {xs us : List Value} (hx : xs.length = N) (hu : us.length = K) (hI : I ≤ N) (h1 : ∀ j, j < I → cur[o + j]? = xs[j]?) (h2 : ∀ j, j < K → cur[o + I + j]? = us[j]?) (h3 : ∀ j, I ≤ j → j < N → cur[o + K + j]? = xs[j]?) :
    (cur.toList.drop o).take (N + K) = xs.take I ++ us ++ xs.drop I := by
  apply List.ext_getElem?
  intro j
  have hti : (xs.take I).length = I := by rw [List.length_take]; omega
  rw [List.getElem?_take]
  by_cases hj : j < N + K
  · rw [if_pos hj, List.getElem?_drop, Array.getElem?_toList]
    by_cases ha : j < I
    · rw [h1 j ha, List.append_assoc, List.getElem?_append_left (by omega), List.getElem?_take, if_pos ha]
    · by_cases hb : j < I + K
      · have := h2 (j - I) (by omega)
        rw [show o + I + (j - I) = o + j by omega] at this
        rw [this, List.append_assoc, List.getElem?_append_right (by omega), hti, List.getElem?_append_left (by omega)]
      · have := h3 (j - K) (by omega) (by omega)
        rw [show o + K + (j - K) = o + j by omega] at this
        rw [this, List.getElem?_append_right (by simp only [List.length_append]; omega), List.getElem?_drop]
        congr 1
        simp only [List.length_append]
        omega
  · rw [if_neg hj, List.getElem?_eq_none (by simp only [List.length_append, List.length_drop]; omega)]
/-- What a row is behind a shift and a store, in place. -/
theorem rw_shift {S : Nat → Prop} {k t : Nat} {w : World} {g o n cap i : Nat} {cur : Array Value} {xs us : List Value} (hS : S g) (hx : xs.length = n * k) (h3 : w.heap[g]? = some (.cells cur t (0, 0))) (h4 : n + 1 ≤ cap) (h5 : o + cap * k ≤ cur.size) (h6 : (cur.toList.drop o).take (n * k) = xs) (hi : i ≤ n) (hu : us.length = k) :
    Rw S k t ((w.setCells g (o + (i + 1) * k) (xs.drop (i * k))).setCells g (o + i * k) us) (.slice (some ⟨g, o, none⟩) (n + 1) cap) (n + 1) (xs.take (i * k) ++ us ++ xs.drop (i * k)) ∧ Apd w (.slice (some ⟨g, o, none⟩) n cap) ((w.setCells g (o + (i + 1) * k) (xs.drop (i * k))).setCells g (o + i * k) us) := by
  have hck : (n + 1) * k ≤ cap * k := Nat.mul_le_mul_right _ h4
  have hik : i * k ≤ n * k := Nat.mul_le_mul_right _ hi
  have e1 : (i + 1) * k = i * k + k := Nat.succ_mul i k
  have e2 : (n + 1) * k = n * k + k := Nat.succ_mul n k
  rw [e2] at hck
  rw [e1]
  have hdl : (xs.drop (i * k)).length = n * k - i * k := by rw [List.length_drop, hx]
  obtain ⟨c1, a1, a2, a3, a4, a5, a6⟩ := setCells_all g (xs.drop (i * k)) (o + (i * k + k)) w cur t h3
  obtain ⟨c2, b1, b2, b3, b4, b5, b6⟩ := setCells_all g us (o + i * k) _ c1 t a1
  refine ⟨⟨by rw [e2]; simp only [List.length_append, List.length_take, List.length_drop]; omega, Or.inr ⟨g, o, cap, c2, rfl, hS, b1, h4, by omega, ?_⟩⟩, ⟨b6.os.trans a6.os, b6.tape.trans a6.tape, b6.output.trans a6.output, Nat.le_trans a6.size b6.size, fun j _ hne => ?_⟩⟩
  · rw [e2]
    refine three hx hu hik (fun j hj => ?_) (fun j hj => ?_) (fun j h1 h2 => ?_)
    · rw [b3 (o + j) (by omega), a3 (o + j) (by omega), cells_at h6 (by omega)]
    · exact b4 j (by omega) (by omega)
    · have := a4 (j - i * k) (by omega) (by omega)
      rw [show o + (i * k + k) + (j - i * k) = o + k + j by omega, List.getElem?_drop, show i * k + (j - i * k) = j by omega] at this
      rw [b3 (o + k + j) (by omega), this]
  · have hj : j ≠ g := fun e => hne (by simp [Value.ownBlock, e])
    rw [b5 j hj, a5 j hj]
/-- What a new row is. -/
theorem rw_grown {S : Nat → Prop} {k t : Nat} {w W : World} {v : Value} {n G i : Nat} {ROW : Array Value} {xs us : List Value} (hx : xs.length = n * k) (hW : W = w.drew.alloc (.cells ROW t)) (hR : ∀ j, j < i * k → ROW[j]? = xs[j]?) (hG : n + 1 ≤ G) (hsz : G * k ≤ ROW.size) (hi : i ≤ n) (hu : us.length = k) :
    Rw (fun b => S b ∨ w.heap.size ≤ b) k t ((W.setCells w.heap.size (i * k) us).setCells w.heap.size ((i + 1) * k) (xs.drop (i * k))) (.slice (some ⟨w.heap.size, 0, none⟩) (n + 1) G) (n + 1) (xs.take (i * k) ++ us ++ xs.drop (i * k)) ∧ Apd w v ((W.setCells w.heap.size (i * k) us).setCells w.heap.size ((i + 1) * k) (xs.drop (i * k))) := by
  have hck : (n + 1) * k ≤ G * k := Nat.mul_le_mul_right _ hG
  have hik : i * k ≤ n * k := Nat.mul_le_mul_right _ hi
  have e1 : (i + 1) * k = i * k + k := Nat.succ_mul i k
  have e2 : (n + 1) * k = n * k + k := Nat.succ_mul n k
  rw [e2] at hck
  rw [e1]
  have hdl : (xs.drop (i * k)).length = n * k - i * k := by rw [List.length_drop, hx]
  have h3 : W.heap[w.heap.size]? = some (.cells ROW t (0, 0)) := by rw [hW]; exact heap_alloc_new w.drew _
  obtain ⟨c1, a1, a2, a3, a4, a5, a6⟩ := setCells_all w.heap.size us (i * k) W ROW t h3
  obtain ⟨c2, b1, b2, b3, b4, b5, b6⟩ := setCells_all w.heap.size (xs.drop (i * k)) (i * k + k) _ c1 t a1
  have hB : Below w.heap.size w W := by rw [hW]; exact ((Below.refl _ _).drew).alloc (Nat.le_refl _) _
  refine ⟨⟨by rw [e2]; simp only [List.length_append, List.length_take, List.length_drop]; omega, Or.inr ⟨w.heap.size, 0, G, c2, rfl, Or.inr (Nat.le_refl _), b1, hG, by omega, ?_⟩⟩, ⟨b6.os.trans (a6.os.trans hB.os), b6.tape.trans (a6.tape.trans hB.tape), b6.output.trans (a6.output.trans hB.output), Nat.le_trans hB.size (Nat.le_trans a6.size b6.size), fun j hj _ => ?_⟩⟩
  · rw [e2]
    refine three hx hu hik (fun j hj => ?_) (fun j hj => ?_) (fun j h1 h2 => ?_)
    · rw [Nat.zero_add, b3 j (by omega), a3 j (by omega), hR j hj]
    · rw [Nat.zero_add, b3 (i * k + j) (by omega), a4 j (by omega) (by omega)]
    · have := b4 (j - i * k) (by omega) (by omega)
      rw [show i * k + k + (j - i * k) = 0 + k + j by omega, List.getElem?_drop, show i * k + (j - i * k) = j by omega] at this
      exact this
  · rw [b5 j (by omega), a5 j (by omega), hB.block j hj]
end Go.Proofs.YtfbehaodhooaaaaGreatDoor
namespace Go.Proofs.YtfbehaodhooaaaaGreatDoor
set_option maxRecDepth 100000
open Go.RowKit

theorem infoinE : (Tryz.prog.info? 130).map (fun i => (i.zero, i.size, i.bytes)) = some (some (Value.agg #[.int .i64 0, .int .i64 0]), 2, 16) := by kernel_rfl
theorem sizeinE : (Tryz.prog.info? 130).map (·.size) = some 2 := by kernel_rfl
theorem sizeOfinE : ∀ w, (Go.sizeOf 130).run Tryz.prog w = .ok 2 w := fun w => by simp [go_sem]
set_option maxHeartbeats 3200000 in
set_option maxRecDepth 100000 in
theorem inE_room {S : Nat → Prop} (w : World) (g o n cap i vb : Nat) (cur : Array Value) (xs us : List Value) (hS : S g) (hx : xs.length = n * 2) (h3 : w.heap[g]? = some (.cells cur 130 (0, 0))) (h4 : n + 1 ≤ cap) (h5 : o + cap * 2 ≤ cur.size) (h6 : (cur.toList.drop o).take (n * 2) = xs) (hi : i < n) (hu : us.length = 2) (hn : n < 2147483648) (hvb : w.heap[vb]? = some (.cells us.toArray 130 (0, 0))) (hne : vb ≠ g) (h1 : ∀ x ∈ xs, x.oneCell' = true) (h1u : ∀ x ∈ us, x.oneCell' = true) :
    Calls Tryz.prog 122 #[.slice (some ⟨g, o, none⟩) n cap, .int .i64 i, .slice (some ⟨vb, 0, none⟩) 1 1] w fun e w' => ∃ v', e = .returned v' ∧ Apd w (.slice (some ⟨g, o, none⟩) n cap) w' ∧ Rw (fun b => S b ∨ w.heap.size ≤ b) 2 130 w' v' (n + 1) (xs.take (i * 2) ++ us ++ xs.drop (i * 2)) := by
  have HF := hid (rw_shift (w := w.drew) hS hx h3 h4 h5 h6 (Nat.le_of_lt hi) hu)
  have hov : ∀ lb cb, (callFunc 129 #[.slice (some ⟨vb, 0, none⟩) 1 1, .slice (some ⟨g, o + (i + 1) * 2, none⟩) lb cb]).run Tryz.prog w = .ok (.value (.bool false)) w := fun lb cb => by
    rw [run_callFunc_extern Tryz.func129 (by kernel_rfl) (by kernel_rfl) (by kernel_rfl) (e := Extern.SlicesOverlaps.overlaps #[149, 149] #[4]) (by kernel_rfl),
      Lib.run_overlaps_apart w 149 4 130 Tryz.underlying149 2 sizeOfinE ⟨vb, 0, none⟩ ⟨g, o + (i + 1) * 2, none⟩ 1 1 lb cb hne 130 130 us.length cur.size (by simp [World.shape?, hvb]) (by simp [World.shape?, h3]) (by omega) (by simp [World.frozen?, hvb]) (by simp [World.frozen?, hvb])]
    rfl
  have hdl : (xs.drop (i * 2)).length = (n - i) * 2 := by rw [List.length_drop, hx, Nat.sub_mul]
  have HC1 : Hid (∀ j v, (xs.drop (i * 2))[j]? = some v → w.drew.cell? (Addr.add ⟨g, o + i * 2, none⟩ j) = some v) := fun j v hj => by
    rw [List.getElem?_drop] at hj
    have hjl : i * 2 + j < n * 2 := by have := (List.getElem?_eq_some_iff.1 hj).1; omega
    rw [Addr.add_lit, Nat.add_assoc]
    exact (cell_of_row w g _ cur 130 (0, 0) h3).trans ((cells_at h6 hjl).trans hj)
  have HC2 : Hid (∀ j, j < (xs.drop (i * 2)).length → (w.drew.cell? ⟨g, o + (i + 1) * 2 + j, none⟩).isSome = true ∧ w.drew.frozen? ⟨g, o + (i + 1) * 2 + j, none⟩ = false) := fun j hj => by
    refine ⟨?_, by show w.frozen? _ = _; simp [World.frozen?, h3]⟩
    show (w.cell? _).isSome = true
    rw [cell_of_row w g _ cur 130 (0, 0) h3, Array.getElem?_eq_getElem (by omega)]; rfl
  have HC3 : Hid (∀ x ∈ xs.drop (i * 2), x.oneCell' = true) := fun x hx => h1 x (List.mem_of_mem_drop hx)
  have HD1 : Hid ((xs.drop (i * 2)).length = Nat.min (n + 1 - i) (n + 1 - (i + 1)) * 2) := by
    show _ = _
    rw [hdl, show Nat.min (n + 1 - i) (n + 1 - (i + 1)) = n - i by simp only [Nat.min_def]; split <;> omega]
  obtain ⟨W1, hW1⟩ : ∃ W1, W1 = w.drew.setCells g (o + (i + 1) * 2) (xs.drop (i * 2)) := ⟨_, rfl⟩
  obtain ⟨c1, a1, a2, a3, a4, a5, a6⟩ := setCells_all g (xs.drop (i * 2)) (o + (i + 1) * 2) w.drew cur 130 h3
  rw [← hW1] at a1 a5 a6 HF
  have HV1 : Hid (∀ j v, us[j]? = some v → W1.cell? (Addr.add ⟨vb, 0, none⟩ j) = some v) := fun j v hj => by
    rw [Addr.add_lit, Nat.zero_add, cell_of_row W1 vb _ us.toArray 130 (0, 0) ((a5 vb hne).trans hvb)]
    simpa using hj
  have HV2 : Hid (∀ j, j < us.length → (W1.cell? ⟨g, o + i * 2 + j, none⟩).isSome = true ∧ W1.frozen? ⟨g, o + i * 2 + j, none⟩ = false) := fun j hj => by
    refine ⟨?_, by simp [World.frozen?, a1]⟩
    rw [cell_of_row W1 g _ c1 130 (0, 0) a1, Array.getElem?_eq_getElem (by omega)]; rfl
  have HV3 := hid h1u
  have HD2 : Hid (us.length = Nat.min 1 (n + 1 - i) * 2) := by
    show _ = _
    rw [hu, show Nat.min 1 (n + 1 - i) = 1 by simp only [Nat.min_def]; split <;> omega]
  have hb3 : (i : Int) ≤ (n : Int) + 1 := by omega
  have hz2 : ¬ ((i : Int) = (n : Int)) := by omega
  have hz3 : ¬ ((cap : Int) < (n : Int) + 1) := by omega
  have hw1 : IntKind.i64.wrap ((i : Int) + 1) = (i : Int) + 1 := by rw [IntKind.wrap_i64]; omega
  have hw2 : IntKind.i64.wrap ((n : Int) + 1) = (n : Int) + 1 := by rw [IntKind.wrap_i64]; omega
  have hb1 : (0 : Int) ≤ (i : Int) + 1 := by omega
  have hb1n : (0 : Int) ≤ (n : Int) + 1 := by omega
  have hin : i ≤ n := by omega
  have hin1 : i ≤ n + 1 := by omega
  have hin2 : i + 1 ≤ n + 1 := by omega
  have htn : ((i : Int) + 1).toNat = i + 1 := by omega
  have htn2 : ((n : Int) + 1).toNat = n + 1 := by omega
  have hb2 : ¬ (cap = i + 1) := by omega
  have hb4 : ¬ (cap = i) := by omega
  have hb5 : i ≤ cap := by omega
  have hnot : ∀ (x : Bool) (w : World), (Op.unary .not (.bool x)).run Tryz.prog w = .ok (.bool (!x)) w := fun _ _ => rfl
  have HW1 := hid hW1
  clear hW1 h3 h5 h6 hx a1 a2 a3 a4 a5 a6 hvb h1 h1u hdl hu
  go_enter Tryz.func122, Tryz.ntmps122
  go_wp2_with (simp only [hov])
  go_region_law (refine stepCopy rfl (.tmp 73) (.tmp 76) 149 149 rfl 130 2 g (o + (i + 1) * 2) (n + 1 - (i + 1)) (cap - (i + 1)) ⟨g, o + i * 2, none⟩ (n + 1 - i) (cap - i) (xs.drop (i * 2)) (by simp [Act.eval, Act.put]) (by simp [Act.eval, Act.put]) Tryz.underlying149 sizeinE HD1.out HC1.out HC2.out HC3.out ?_; rw [← HW1.out])
  all_goals (
    go_wp2_with (refine opCopy rfl (.tmp 80) (.tmp 81) 149 149 rfl 130 2 g (o + i * 2) (n + 1 - i) (cap - i) ⟨vb, 0, none⟩ 1 1 us rfl rfl Tryz.underlying149 sizeinE HD2.out HV1.out HV2.out HV3.out ?_)
    go_ret
    exact ⟨_, rfl, ⟨HF.out.2.os, HF.out.2.tape, HF.out.2.output, HF.out.2.size, HF.out.2.block⟩, HF.out.1.carry fun b _ hb => ⟨Or.inl hb, rfl⟩⟩)
set_option maxHeartbeats 3200000 in
set_option maxRecDepth 100000 in
theorem inE_grow {S : Nat → Prop} (w : World) (g o n cap i vb : Nat) (cur : Array Value) (xs us : List Value) (hx : xs.length = n * 2) (h3 : w.heap[g]? = some (.cells cur 130 (0, 0))) (hnc : n ≤ cap) (h4 : cap < n + 1) (_h5 : o + cap * 2 ≤ cur.size) (h6 : (cur.toList.drop o).take (n * 2) = xs) (hi : i < n) (hu : us.length = 2) (hn : n < 2147483648) (hvb : w.heap[vb]? = some (.cells us.toArray 130 (0, 0))) (h1 : ∀ x ∈ xs, x.oneCell' = true) (h1u : ∀ x ∈ us, x.oneCell' = true) :
    Calls Tryz.prog 122 #[.slice (some ⟨g, o, none⟩) n cap, .int .i64 i, .slice (some ⟨vb, 0, none⟩) 1 1] w fun e w' => ∃ v', e = .returned v' ∧ Apd w (.slice (some ⟨g, o, none⟩) n cap) w' ∧ Rw (fun b => S b ∨ w.heap.size ≤ b) 2 130 w' v' (n + 1) (xs.take (i * 2) ++ us ++ xs.drop (i * 2)) := by
  obtain ⟨i0, hi0, hz0, hzs, hzb⟩ := info_parts infoinE
  have hgl := (Array.getElem?_eq_some_iff.1 h3).1
  have hvl := (Array.getElem?_eq_some_iff.1 hvb).1
  have cells0 : ∀ W : World, W.heap[g]? = w.heap[g]? → ∀ j v, xs[j]? = some v → W.cell? ⟨g, o + j, none⟩ = some v := fun W hW j v hj => by
    have hjl : j < n * 2 := by have := (List.getElem?_eq_some_iff.1 hj).1; omega
    exact (cell_of_row W g _ cur 130 (0, 0) (hW.trans h3)).trans ((cells_at h6 hjl).trans hj)
  have hold : (Builtin.firstCells i0.size i (.slice (some ⟨g, o, none⟩) i cap)).run Tryz.prog w.drew = .ok (xs.take (i * 2)).toArray w.drew := by
    rw [hzs]
    exact run_firstCells_some w.drew 2 i ⟨g, o, none⟩ i cap (xs.take (i * 2)) (by rw [List.length_take]; omega) (fun j v hj => by
      rw [Addr.add_lit]
      rw [List.getElem?_take] at hj
      split at hj
      · exact cells0 w.drew rfl j v hj
      · cases hj)
  obtain ⟨G, hG⟩ : ∃ G, G = grownCap w (n + 1) cap 130 := ⟨_, rfl⟩
  obtain ⟨ROW, hROW⟩ : ∃ ROW : Array Value, ROW = (xs.take (i * 2)).toArray ++ Builtin.zeroCells (Value.agg #[.int .i64 0, .int .i64 0]).cells (n + 1 - i) ++ Builtin.zeroCells (Value.agg #[.int .i64 0, .int .i64 0]).cells (G - (n + 1)) := ⟨_, rfl⟩
  have hrz : ∀ ty, (Builtin.append_ #[149, 3] ty #[.slice (some ⟨g, o, none⟩) i cap, .int .i64 ((n : Int) + 1 - (i : Int))]).run Tryz.prog w = .ok (.slice (some ⟨w.heap.size, 0, none⟩) (n + 1) G) (w.drew.alloc (.cells ROW 130)) := fun ty => by
    have h := Lib.run_append_grow_zeros w 149 3 ty 130 i0 _ .i64 .i64 Tryz.underlying149 Tryz.underlying3 hi0 hz0 (some ⟨g, o, none⟩) i cap (xs.take (i * 2)) hold (n + 1 - i) (by omega) (by omega) (by omega) (by omega) (by rw [hzb]; omega) (by rw [hzb, show i + (n + 1 - i) = n + 1 by omega]; exact growslice_fits h4 (by omega))
    rw [show i + (n + 1 - i) = n + 1 by omega, ← hG, ← hROW] at h
    rw [show (n : Int) + 1 - (i : Int) = ((n + 1 - i : Nat) : Int) by omega]
    exact h
  have hGn : n + 1 ≤ G := by rw [hG]; exact grownCap_ge w _ _ _
  have hRs : ROW.size = G * 2 := by
    rw [hROW]
    simp only [Array.size_append, List.size_toArray, List.length_take, size_zeroCells, hx]
    have : (Value.agg #[.int .i64 0, .int .i64 0]).cells.size = 2 := rfl
    rw [this]
    omega
  have hRt : ∀ j, j < i * 2 → ROW[j]? = xs[j]? := fun j hj => by
    rw [hROW, Array.append_assoc, Array.getElem?_append_left (by simp; omega)]
    simp [hj]
  obtain ⟨W1, hW1⟩ : ∃ W1, W1 = w.drew.alloc (.cells ROW 130) := ⟨_, rfl⟩
  have HF := hid (rw_grown (S := S) (v := .slice (some ⟨g, o, none⟩) n cap) hx hW1 hRt hGn (by omega) (Nat.le_of_lt hi) hu)
  have hW1n : W1.heap[w.heap.size]? = some (.cells ROW 130 (0, 0)) := by rw [hW1]; exact heap_alloc_new w.drew _
  have hW1o : ∀ b, b < w.heap.size → W1.heap[b]? = w.heap[b]? := fun b hb => by rw [hW1]; exact heap_alloc_old w.drew _ hb
  rw [← hW1] at hrz
  obtain ⟨c1, a1, a2, a3, a4, a5, a6⟩ := setCells_all w.heap.size us (i * 2) W1 ROW 130 hW1n
  have HV1 : Hid (∀ j v, us[j]? = some v → W1.cell? (Addr.add ⟨vb, 0, none⟩ j) = some v) := fun j v hj => by
    rw [Addr.add_lit, Nat.zero_add, cell_of_row W1 vb _ us.toArray 130 (0, 0) ((hW1o vb hvl).trans hvb)]
    simpa using hj
  have HV2 : Hid (∀ j, j < us.length → (W1.cell? ⟨w.heap.size, i * 2 + j, none⟩).isSome = true ∧ W1.frozen? ⟨w.heap.size, i * 2 + j, none⟩ = false) := fun j hj => by
    refine ⟨?_, by simp [World.frozen?, hW1n]⟩
    rw [cell_of_row W1 _ _ ROW 130 (0, 0) hW1n, Array.getElem?_eq_getElem (by omega)]; rfl
  have HV3 := hid h1u
  have HD2 : Hid (us.length = Nat.min 1 (n + 1 - i) * 2) := by
    show _ = _
    rw [hu, show Nat.min 1 (n + 1 - i) = 1 by simp only [Nat.min_def]; split <;> omega]
  obtain ⟨W2, hW2⟩ : ∃ W2, W2 = W1.setCells w.heap.size (i * 2) us := ⟨_, rfl⟩
  rw [← hW2] at a1 a5 a6 HF
  have hdl : (xs.drop (i * 2)).length = (n - i) * 2 := by rw [List.length_drop, hx, Nat.sub_mul]
  have HC1 : Hid (∀ j v, (xs.drop (i * 2))[j]? = some v → W2.drew.cell? (Addr.add ⟨g, o + i * 2, none⟩ j) = some v) := fun j v hj => by
    rw [List.getElem?_drop] at hj
    rw [Addr.add_lit, Nat.add_assoc]
    exact cells0 W2.drew ((a5 g (by omega)).trans (hW1o g hgl)) _ v hj
  have HC2 : Hid (∀ j, j < (xs.drop (i * 2)).length → (W2.drew.cell? ⟨w.heap.size, (i + 1) * 2 + j, none⟩).isSome = true ∧ W2.drew.frozen? ⟨w.heap.size, (i + 1) * 2 + j, none⟩ = false) := fun j hj => by
    refine ⟨?_, by show W2.frozen? _ = _; simp [World.frozen?, a1]⟩
    show (W2.cell? _).isSome = true
    rw [cell_of_row W2 _ _ c1 130 (0, 0) a1, Array.getElem?_eq_getElem (by omega)]; rfl
  have HC3 : Hid (∀ x ∈ xs.drop (i * 2), x.oneCell' = true) := fun x hx => h1 x (List.mem_of_mem_drop hx)
  have HD1 : Hid ((xs.drop (i * 2)).length = Nat.min (n - i) (n + 1 - (i + 1)) * 2) := by
    show _ = _
    rw [hdl, show Nat.min (n - i) (n + 1 - (i + 1)) = n - i by simp only [Nat.min_def]; split <;> omega]
  have HFd : Hid (Apd w (.slice (some ⟨g, o, none⟩) n cap) (W2.drew.setCells w.heap.size ((i + 1) * 2) (xs.drop (i * 2))) ∧ Rw (fun b => S b ∨ w.heap.size ≤ b) 2 130 (W2.drew.setCells w.heap.size ((i + 1) * 2) (xs.drop (i * 2))) (.slice (some ⟨w.heap.size, 0, none⟩) (n + 1) G) (n + 1) (xs.take (i * 2) ++ us ++ xs.drop (i * 2))) := by
    have e := drew_setCells w.heap.size (xs.drop (i * 2)) ((i + 1) * 2) W2
    rw [← e]
    exact ⟨⟨HF.out.2.os, HF.out.2.tape, HF.out.2.output, HF.out.2.size, HF.out.2.block⟩, HF.out.1.carry fun b _ hb => ⟨hb, rfl⟩⟩
  have hb3 : (i : Int) ≤ (n : Int) + 1 := by omega
  have hb3' : (i : Int) ≤ (n : Int) := by omega
  have hz2 : ¬ ((i : Int) = (n : Int)) := by omega
  have hz3 : (cap : Int) < (n : Int) + 1 := by omega
  have hw1 : IntKind.i64.wrap ((i : Int) + 1) = (i : Int) + 1 := by rw [IntKind.wrap_i64]; omega
  have hw2 : IntKind.i64.wrap ((n : Int) + 1) = (n : Int) + 1 := by rw [IntKind.wrap_i64]; omega
  have hw3 : IntKind.i64.wrap ((n : Int) + 1 - (i : Int)) = (n : Int) + 1 - (i : Int) := by rw [IntKind.wrap_i64]; omega
  have hb1 : (0 : Int) ≤ (i : Int) + 1 := by omega
  have hin : i ≤ n := by omega
  have hin1 : i ≤ n + 1 := by omega
  have hin2 : i + 1 ≤ n + 1 := by omega
  have htn : ((i : Int) + 1).toNat = i + 1 := by omega
  have hb2 : ¬ (G = i + 1) := by omega
  have hb4 : ¬ (cap = i) := by omega
  have hb6 : ¬ (G = i) := by omega
  have hb5 : i ≤ cap := by omega
  have HW2 := hid hW2
  clear hW1 hW2 h3 _h5 h6 hx a1 a2 a3 a4 a5 a6 hvb h1 h1u hdl hu hold hROW hRs hRt hG hW1n hW1o cells0 hgl hvl
  go_enter Tryz.func122, Tryz.ntmps122
  go_wp2_with (first
    | (at_builtin; refine Lib.wpList_append_run _ rfl (.tmp 34) (.tmp 39) 149 3 rfl _ _ rfl rfl _ _ (hrz _) ?_)
    | (refine opCopy rfl (.tmp 43) (.tmp 44) 149 149 rfl 130 2 w.heap.size (i * 2) (n + 1 - i) (G - i) ⟨vb, 0, none⟩ 1 1 us (by first | rfl | simp [Act.eval]) rfl Tryz.underlying149 sizeinE HD2.out HV1.out HV2.out HV3.out ?_; rw [← HW2.out]))
  go_region_law (refine stepCopy rfl (.tmp 50) (.tmp 53) 149 149 rfl 130 2 w.heap.size ((i + 1) * 2) (n + 1 - (i + 1)) (G - (i + 1)) ⟨g, o + i * 2, none⟩ (n - i) (cap - i) (xs.drop (i * 2)) (by simp [Act.eval, Act.put]) (by simp [Act.eval, Act.put]) Tryz.underlying149 sizeinE HD1.out HC1.out HC2.out HC3.out ?_)
  all_goals (
    go_wp2
    go_ret
    exact ⟨_, rfl, HFd.out.1, HFd.out.2⟩)
set_option maxHeartbeats 3200000 in
set_option maxRecDepth 100000 in
theorem inE_end {S : Nat → Prop} (w : World) (v : Value) (n vb : Nat) (xs us : List Value) (h : Rw S 2 130 w v n xs) (hu : us.length = 2) (hn : n < 2147483647) (hvb : w.heap[vb]? = some (.cells us.toArray 130 (0, 0))) (h1u : ∀ x ∈ us, x.oneCell' = true) :
    Calls Tryz.prog 122 #[v, .int .i64 n, .slice (some ⟨vb, 0, none⟩) 1 1] w fun e w' => ∃ v', e = .returned v' ∧ Apd w v w' ∧ Rw (fun b => S b ∨ w.heap.size ≤ b) 2 130 w' v' (n + 1) (xs ++ us) := by
  have HN : Hid (∀ j x, us[j]? = some x → w.cell? (Addr.add ⟨vb, 0, none⟩ j) = some x) := fun j x hj => by
    rw [Addr.add_lit, Nat.zero_add, cell_of_row w vb _ us.toArray 130 (0, 0) hvb]; simpa using hj
  have H := hid h
  have HU := hid h1u
  obtain ⟨ao, cap, rfl, hc, hform⟩ : ∃ ao cap, v = .slice ao n cap ∧ n ≤ cap ∧ ((ao = none ∧ cap = 0) ∨ ∃ g o, ao = some ⟨g, o, none⟩) := by
    rcases h.2 with ⟨rfl, rfl⟩ | ⟨g, o, cap, cur, rfl, h2, h3, h4, h5⟩
    · exact ⟨none, 0, rfl, Nat.le_refl _, Or.inl ⟨rfl, rfl⟩⟩
    · exact ⟨_, cap, rfl, h4, Or.inr ⟨g, o, rfl⟩⟩
  have hul : us.length = 1 * 2 := by omega
  clear h h1u hvb hu
  rcases hform with ⟨rfl, rfl⟩ | ⟨bb, bo, rfl⟩
  · obtain rfl : n = 0 := by omega
    go_enter Tryz.func122, Tryz.ntmps122
    go_wp2_with (at_builtin; refine appRw (v := nilS) (S := S) (k := 2) (t := 130) (n := 0) (m := 1) (c := 1) (xs := xs) (us := us) (ad := ⟨vb, 0, none⟩) (.tmp 23) (.tmp 24) 149 rfl rfl rfl rfl Tryz.underlying149 infoinE rfl (by omega) (by omega) H.out hul HN.out HU.out (by omega) (Or.inl (by omega)) ?_
                 intro v3 w3 A3 R3
                 have HF := hid (And.intro A3 (R3 _ H.out))
                 clear A3 R3)
    go_ret
    exact ⟨_, rfl, HF.out⟩
  · by_cases hcn : cap = n
    · subst hcn
      go_enter Tryz.func122, Tryz.ntmps122
      go_wp2_with (at_builtin; refine appRw (v := .slice (some ⟨bb, bo, none⟩) cap cap) (S := S) (k := 2) (t := 130) (n := cap) (m := 1) (c := 1) (xs := xs) (us := us) (ad := ⟨vb, 0, none⟩) (.tmp 23) (.tmp 24) 149 rfl rfl rfl rfl Tryz.underlying149 infoinE rfl (by omega) (by omega) H.out hul HN.out HU.out (by omega) (Or.inl (by omega)) ?_
                   intro v3 w3 A3 R3
                   have HF := hid (And.intro A3 (R3 _ H.out))
                   clear A3 R3)
      go_ret
      exact ⟨_, rfl, HF.out⟩
    · go_enter Tryz.func122, Tryz.ntmps122
      go_wp2_with (at_builtin; refine appRw (v := .slice (some ⟨bb, bo, none⟩) n cap) (S := S) (k := 2) (t := 130) (n := n) (m := 1) (c := 1) (xs := xs) (us := us) (ad := ⟨vb, 0, none⟩) (.tmp 23) (.tmp 24) 149 rfl rfl rfl rfl Tryz.underlying149 infoinE rfl (by omega) (by omega) H.out hul HN.out HU.out (by omega) (Or.inl (by omega)) ?_
                   intro v3 w3 A3 R3
                   have HF := hid (And.intro A3 (R3 _ H.out))
                   clear A3 R3)
      go_ret
      exact ⟨_, rfl, HF.out⟩
/-- ONE THING IS INSERTED. -/
theorem inE_any {S : Nat → Prop} (w : World) (v : Value) (n i vb : Nat) (xs us : List Value) (h : Rw S 2 130 w v n xs) (hi : i ≤ n) (hu : us.length = 2) (hn : n < 2147483647) (hvb : w.heap[vb]? = some (.cells us.toArray 130 (0, 0))) (hne : v.ownBlock ≠ some vb) (h1 : ∀ x ∈ xs, x.oneCell' = true) (h1u : ∀ x ∈ us, x.oneCell' = true) :
    Calls Tryz.prog 122 #[v, .int .i64 i, .slice (some ⟨vb, 0, none⟩) 1 1] w fun e w' => ∃ v', e = .returned v' ∧ Apd w v w' ∧ Rw (fun b => S b ∨ w.heap.size ≤ b) 2 130 w' v' (n + 1) (xs.take (i * 2) ++ us ++ xs.drop (i * 2)) := by
  by_cases he : i = n
  · subst he
    have hx := h.1
    refine (inE_end w v i vb xs us h hu hn hvb h1u).mono ?_
    rintro e w' ⟨v', rfl, h2, h3⟩
    refine ⟨v', rfl, h2, ?_⟩
    rw [List.take_of_length_le (by omega), List.drop_of_length_le (by omega), List.append_nil]
    exact h3
  · rcases h with ⟨hx, ⟨rfl, rfl⟩ | ⟨g, o, cap, cur, rfl, h2, h3, h4, h5, h6⟩⟩
    · omega
    · have hg : vb ≠ g := fun e => hne (by simp [Value.ownBlock, e])
      by_cases hr : n + 1 ≤ cap
      · exact inE_room w g o n cap i vb cur xs us h2 hx h3 hr h5 h6 (by omega) hu (by omega) hvb hg h1 h1u
      · exact inE_grow w g o n cap i vb cur xs us hx h3 h4 (by omega) h5 h6 (by omega) hu (by omega) hvb h1 h1u
end Go.Proofs.YtfbehaodhooaaaaGreatDoor
