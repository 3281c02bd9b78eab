/-
  Proved here: the closure that row.drop hands on tells whether an entry has the number; slices.IndexFunc with it gives the first such place. Condition: fewer than 2 to 31 entries.
-/
/-
  Proved here: slices.DeleteFunc with row.drop's closure leaves the entries of other numbers, in their order. Condition: fewer than 2 to 31 entries.
-/
import Derived.Test.YtfbehaodhooaaaaGreatDoorPE
import Derived.Test.YtfbehaodhooaaaaGreatDoorQ1
import Derived.Test.YtfbehaodhooaaaaGreatDoorDL
namespace Go.Proofs.YtfbehaodhooaaaaGreatDoor
set_option maxRecDepth 100000
open Go.RowKit

section
variable {ops : Array Oper} {rest : List Oper} {o : Oper} {a : Act} {w : World} {Q : Exit → Act → World → Prop}
/-- A call of a closure, in a walk. -/
theorem callCl (f : FuncId) (y : Operand) (xs : List Operand) (ts : Array TypeId) (args caps : List Value) (hop : o.op = .call { callee := .value y, args := xs.toArray, argTypes := ts }) (hg : o.guard = none) (hy : a.eval y = .func (.func f) #[] caps.toArray) (hx : xs.map a.eval = args) (hE : ∀ (args : Array Value) w, (callFunc f args).run Tryz.prog w = .ok (.enter f args) w)
    (Φ : Ending → World → Prop) (hC : Calls Tryz.prog f (args ++ caps).toArray w Φ) (hK : ∀ e w', Φ e w' → (∃ v, e = .returned v ∧ wpList Tryz.prog ops Q rest (a.put o.dst v) w') ∨ ∃ ch, e = .panicked ch ∧ Q (.panic ch) a w') : wpList Tryz.prog ops Q (o :: rest) a w := by
  have hw : Region.wanted o (yielded ops a.tmps) = true := by simp [Region.wanted, hg]
  have hrun : (execOp a.eval o).run Tryz.prog w = .ok (.enter f (args ++ caps).toArray) w := by
    unfold execOp
    simp only [hop, resolve, invoke, Deferred.ofValue, hy, Sem.run_bind, Sem.run_pure, Result.andThen_ok, List.map_toArray, hx, List.append_toArray, List.nil_append, hE]
  unfold wpList
  rw [if_pos hw]
  refine Or.inl ?_
  show Oper.upon Tryz.prog o a _ Q ((execOp a.eval o).run Tryz.prog w)
  rw [hrun, Oper.upon_enter]
  refine hC.mono ?_
  intro e w' h
  rcases hK e w' h with ⟨v, rfl, hk⟩ | ⟨ch, rfl, hk⟩
  · exact hk
  · exact hk
end
/-- The closure. -/
abbrev cl1 (b : Nat) : Value := .func (.func 106) #[] #[.pointer (some ⟨b, 0, none⟩)]
theorem entD1 (args : Array Value) (w : World) : (callFunc 106 args).run Tryz.prog w = .ok (.enter 106 args) w := rfl
theorem drop1_any (e : En) (b : Nat) (id : Int) (w : World) (hb : w.cell? ⟨b, 0, none⟩ = some (.int .i64 id)) :
    Calls Tryz.prog 106 #[ev e, .pointer (some ⟨b, 0, none⟩)] w fun r w' => r = .returned (.bool (e.k == id)) ∧ Below w.heap.size w w' := by
  obtain ⟨r, k⟩ := e
  obtain ⟨W0, hW0⟩ : ∃ W0, W0 = w.alloc (.cells #[.int .i64 r, .int .i64 k] 130) := ⟨_, rfl⟩
  have HL : Hid (Below w.heap.size w W0) := by show Below _ _ _; rw [hW0]; exact (Below.refl _ _).alloc (Nat.le_refl _) _
  have hbl := cell_lt hb
  have hG : W0.heap[w.heap.size]? = some (.cells #[.int .i64 r, .int .i64 k] 130 (0, 0)) := by rw [hW0]; exact heap_alloc_new _ _
  have c1 : W0.cell? ⟨w.heap.size, 1, none⟩ = some (.int .i64 k) := by rw [cell_of_row _ _ _ _ _ _ hG]; rfl
  have c2 : W0.cell? ⟨b, 0, none⟩ = some (.int .i64 id) := by rw [HL.out.cell (p := ⟨b, 0, none⟩) hbl]; exact hb
  have HW0 := hid hW0
  clear hb hW0 hG
  go_enter Tryz.func106, Tryz.ntmps106
  go_upto_region 1 with fail
  rw [← HW0.out]
  clear HW0
  go_wp2
  go_ret
  exact ⟨rfl, HL.out⟩
/-- The first entry of a number. -/
def fi (l : List En) (id : Int) (q : Nat) : Prop := ∀ j (hj : j < l.length), j < q → (l[j].k == id) = false
/-- What IndexFunc answers. -/
def Ix (w : World) (l : List En) (id : Int) (r : Ending) (w' : World) : Prop := Below w.heap.size w w' ∧ ((r = .returned (.int .i64 (-1)) ∧ fi l id l.length) ∨ ∃ (q : Nat) (hq : q < l.length), r = .returned (.int .i64 q) ∧ fi l id q ∧ (l[q].k == id) = true)
theorem Ix.yes {w w' : World} {l : List En} {id : Int} (hb : Below w.heap.size w w') {q : Nat} (hq : q < l.length) (h1 : fi l id q) (h2 : (l[q].k == id) = true) : Ix w l id (.returned (.int .i64 q)) w' := ⟨hb, Or.inr ⟨q, hq, rfl, h1, h2⟩⟩
theorem Ix.no {w w' : World} {l : List En} {id : Int} (hb : Below w.heap.size w w') (h1 : fi l id l.length) : Ix w l id (.returned (.int .i64 (-1))) w' := ⟨hb, Or.inl ⟨rfl, h1⟩⟩
set_option maxHeartbeats 1600000 in
set_option maxRecDepth 100000 in
theorem index_any {S : Nat → Prop} (w : World) (v : Value) (l : List En) (b : Nat) (id : Int) (h : Rw S 2 130 w v l.length (ces l)) (hb : w.cell? ⟨b, 0, none⟩ = some (.int .i64 id)) (hn : l.length < 2147483647) :
    Calls Tryz.prog 124 #[v, cl1 b] w (Ix w l id) := by
  obtain ⟨ao, cap, rfl⟩ := h.form
  have hbl := cell_lt hb
  have H := hid h
  have HB := hid hb
  clear h hb
  go_enter Tryz.func124, Tryz.ntmps124
  go_upto_region 2 with fail
  go_loopw [8] (fun i wr => ∃ q : Nat, q ≤ l.length ∧ i = .int .i64 q ∧ Below w.heap.size w wr ∧ fi l id q) (fun i _ => l.length - (intOf i).toNat)
  case atStart => exact ⟨0, by omega, rfl, Below.refl _ _, fun j _ h => by omega⟩
  case round =>
    obtain ⟨q, hq, rfl, hlow, hfi⟩ := hrel
    generalize wr = wx at *
    have HLo := hid hlow
    have HFi := hid hfi
    clear hlow hfi
    by_cases hlt : q < l.length
    · have hql : decide ((q : Int) < (l.length : Int)) = true := decide_eq_true (by omega)
      rcases H.out with ⟨hx, ⟨_, hz0⟩ | ⟨g, o, cap', cur, he, hb1, hb2, hb3, hb4, hb5⟩⟩
      · omega
      obtain ⟨rfl, rfl⟩ : ao = some ⟨g, o, none⟩ ∧ cap = cap' := by simpa using he
      obtain ⟨⟨yr, yk⟩, hy⟩ : ∃ y : En, y = l[q] := ⟨_, rfl⟩
      have hgl := (Array.getElem?_eq_some_iff.1 hb2).1
      have hgx : wx.heap[g]? = some (.cells cur 130 (0, 0)) := (HLo.out.block g hgl).trans hb2
      have d0 : wx.cell? ⟨g, o + q * 2, none⟩ = some (.int .i64 yr) := by
        rw [cell_of_row _ _ _ _ _ _ hgx]
        have := cells_at hb5 (j := q * 2 + 0) (by omega)
        rw [ces_at l q 0 hlt (by omega), ← hy] at this
        exact this
      have d1 : wx.cell? ⟨g, o + q * 2 + 1, none⟩ = some (.int .i64 yk) := by
        rw [cell_of_row _ _ _ _ _ _ hgx]
        have := cells_at hb5 (j := q * 2 + 1) (by omega)
        rw [ces_at l q 1 hlt (by omega), ← hy] at this
        exact this
      have hr2 : wx.rangeAt g (o + q * 2) (#[.int .i64 yr, .int .i64 yk] : Array Value).toList := range2 d0 d1
      have HC := hid (drop1_any ⟨yr, yk⟩ b id wx (by rw [HLo.out.cell (p := ⟨b, 0, none⟩) hbl]; exact HB.out))
      have hw1 : IntKind.i64.wrap ((q : Int) + 1) = (q : Int) + 1 := by rw [IntKind.wrap_i64]; omega
      obtain ⟨c, hc⟩ : ∃ c, c = (yk == id) := ⟨_, rfl⟩
      have HC' : Hid (Calls Tryz.prog 106 #[ev ⟨yr, yk⟩, .pointer (some ⟨b, 0, none⟩)] wx fun r w' => r = .returned (.bool c) ∧ Below w.heap.size w w') := HC.out.mono fun r w' ⟨h1, h2⟩ => ⟨by rw [hc]; exact h1, HLo.out.trans (h2.mono HLo.out.size)⟩
      have HY := hid hy
      have HCc := hid hc
      clear hx he hb1 hb2 hb3 hb4 hb5 hgl hgx hy hc HC d0 d1
      cases c with
      | true =>
        go_wp2_with (first
          | (refine ldMid 130 (.tmp 14) rfl rfl g (o + q * 2) rfl #[.int .i64 yr, .int .i64 yk] _ Tryz.underlying130 rfl sizeE2 hr2 ?_)
          | (refine callCl 106 (.tmp 11) [.tmp 15] _ [ev ⟨yr, yk⟩] [.pointer (some ⟨b, 0, none⟩)] rfl rfl rfl rfl entD1 _ HC'.out ?_; rintro r w5 ⟨rfl, hb5⟩; refine Or.inl ⟨_, rfl, ?_⟩; have HB5 := hid hb5; clear hb5 HC'))
        go_ret
        exact Ix.yes HB5.out hlt HFi.out (by rw [← HY.out]; exact HCc.out.symm)
      | false =>
        go_wp2_with (first
          | (refine ldMid 130 (.tmp 14) rfl rfl g (o + q * 2) rfl #[.int .i64 yr, .int .i64 yk] _ Tryz.underlying130 rfl sizeE2 hr2 ?_)
          | (refine callCl 106 (.tmp 11) [.tmp 15] _ [ev ⟨yr, yk⟩] [.pointer (some ⟨b, 0, none⟩)] rfl rfl rfl rfl entD1 _ HC'.out ?_; rintro r w5 ⟨rfl, hb5⟩; refine Or.inl ⟨_, rfl, ?_⟩; have HB5 := hid hb5; clear hb5 HC'))
        go_roundw
        case rel =>
          refine ⟨q + 1, by omega, by go_num, HB5.out, fun j hj hjq => ?_⟩
          by_cases e : j = q
          · subst e; rw [← HY.out]; exact HCc.out.symm
          · exact HFi.out j hj (by omega)
        case measure => simp [intOf]; omega
    · obtain rfl : q = l.length := by omega
      have hql : decide ((l.length : Int) < (l.length : Int)) = false := by simp
      go_wp2
      go_ret
      exact Ix.no HLo.out HFi.out
end Go.Proofs.YtfbehaodhooaaaaGreatDoor
namespace Go.Proofs.YtfbehaodhooaaaaGreatDoor
set_option maxRecDepth 100000
open Go.RowKit

theorem run_clear_k {P : Program} (w : World) (t e ty : TypeId) (z : Value) (n : Nat) (ht : P.underlying t = some (.slice e)) (hv : ∀ w, (zeroValue e).run P w = .ok z w) (h1 : ∀ x ∈ (Builtin.zeroCells z.cells n).toList, x.oneCell' = true) (b o c : Nat) (hn : 0 < n)
    (hc : ∀ j, j < (Builtin.zeroCells z.cells n).toList.length → (w.cell? ⟨b, o + j, none⟩).isSome = true) (hf : ∀ j, j < (Builtin.zeroCells z.cells n).toList.length → w.frozen? ⟨b, o + j, none⟩ = false) :
    (Builtin.clear_ #[t] ty #[.slice (some ⟨b, o, none⟩) n c]).run P w = .ok (.tuple #[]) (w.setCells b o (Builtin.zeroCells z.cells n).toList) := by
  have hst := run_storeCells_cells (P := P) b o (Builtin.zeroCells z.cells n).toList 0 w (by simpa using hc) (by simpa using hf) h1
  simp only [Nat.add_zero] at hst
  obtain ⟨m, rfl⟩ : ∃ m, n = m + 1 := ⟨n - 1, by omega⟩
  simp [Builtin.clear_, run_underlying ht, hv, hst]
theorem zeroE : ∀ w, (zeroValue 130).run Tryz.prog w = .ok (.agg #[.int .i64 0, .int .i64 0]) w := fun w => by simp [go_sem]
/-- n zero entries. -/
abbrev zes (n : Nat) : List Value := (Builtin.zeroCells (Value.agg #[.int .i64 0, .int .i64 0]).cells n).toList
theorem zes_len (n : Nat) : (zes n).length = n * 2 := by simp [Builtin.zeroCells, Value.cells]
theorem zes_one (n : Nat) : ∀ x ∈ zes n, x.oneCell' = true := fun x hx => by
  simp only [zes, Builtin.zeroCells, Value.cells, Array.toList_map, List.mem_map] at hx
  obtain ⟨i, -, rfl⟩ := hx
  have : i % 2 = 0 ∨ i % 2 = 1 := by omega
  rcases this with h | h <;> simp [h, Value.oneCell']
/-- The entries of other numbers. -/
def fl (l : List En) (id : Int) : List En := l.filter fun e => !(e.k == id)
theorem fl_take {l : List En} {id : Int} {q : Nat} (hq : q < l.length) : fl (l.take (q + 1)) id = fl (l.take q) id ++ if (l[q].k == id) = true then [] else [l[q]] := by
  rw [List.take_add_one, List.getElem?_eq_getElem hq]
  unfold fl
  rw [List.filter_append]
  cases h : (l[q].k == id) <;> simp [h]
theorem fl_fi {l : List En} {id : Int} {q : Nat} (h : fi l id q) (hq : q ≤ l.length) : fl (l.take q) id = l.take q := by
  unfold fl
  refine List.filter_eq_self.2 fun e he => ?_
  obtain ⟨j, hj, rfl⟩ := List.getElem_of_mem he
  rw [List.length_take] at hj
  have := h j (by omega) (by omega)
  rw [List.getElem_take, this]; rfl
/-- What DeleteFunc answers. -/
def DlE (S : Nat → Prop) (w : World) (v : Value) (l : List En) (r : Ending) (w' : World) : Prop := ∃ v', r = .returned v' ∧ Apd w v w' ∧ Rw S 2 130 w' v' l.length (ces l)
/-- What a round keeps. -/
structure Fs (w : World) (g o cap : Nat) (l : List En) (id : Int) (p q : Nat) (wr : World) : Prop where
  apd : Apd w (.slice (some ⟨g, o, none⟩) l.length cap) wr
  ex : ∃ cur : Array Value, wr.heap[g]? = some (.cells cur 130 (0, 0)) ∧ o + cap * 2 ≤ cur.size ∧ (∀ t, t < p * 2 → cur[o + t]? = (ces (fl (l.take q) id))[t]?) ∧ ∀ t, q * 2 ≤ t → t < l.length * 2 → cur[o + t]? = (ces l)[t]?
  len : p = (fl (l.take q) id).length
  lt : p < q
  le : q ≤ l.length
theorem Apd.below {w w' w5 : World} {v : Value} (h : Apd w v w') (hb : Below w'.heap.size w' w5) : Apd w v w5 :=
  ⟨hb.os.trans h.os, hb.tape.trans h.tape, hb.output.trans h.output, Nat.le_trans h.size hb.size, fun k hk hne => (hb.block k (Nat.lt_of_lt_of_le hk h.size)).trans (h.block k hk hne)⟩
theorem Fs.skip {w : World} {g o cap : Nat} {l : List En} {id : Int} {p q : Nat} {wr w5 : World} (h : Fs w g o cap l id p q wr) (hb : Below wr.heap.size wr w5) (hq : q < l.length) (hk : (l[q].k == id) = true) : Fs w g o cap l id p (q + 1) w5 := by
  obtain ⟨cur, h1, h2, h3, h4⟩ := h.ex
  have e : fl (l.take (q + 1)) id = fl (l.take q) id := by rw [fl_take hq, if_pos hk, List.append_nil]
  refine ⟨h.apd.below hb, ⟨cur, (hb.block g (Array.getElem?_eq_some_iff.1 h1).1).trans h1, h2, by rw [e]; exact h3, fun t h5 h6 => h4 t (by omega) h6⟩, by rw [e]; exact h.len, by have := h.lt; omega, hq⟩
theorem Fs.keep {w : World} {g o cap : Nat} {l : List En} {id : Int} {p q : Nat} {wr w5 : World} (h : Fs w g o cap l id p q wr) (hb : Below wr.heap.size wr w5) (hq : q < l.length) (hk : (l[q].k == id) = false) (hc : l.length ≤ cap) : Fs w g o cap l id (p + 1) (q + 1) ((w5.setCell ⟨g, o + p * 2, none⟩ (.int .i64 l[q].r)).setCell ⟨g, o + p * 2 + 1, none⟩ (.int .i64 l[q].k)) := by
  obtain ⟨cur, h1, h2, h3, h4⟩ := h.ex
  have hlt := h.lt
  have hle := h.le
  have h15 := (hb.block g (Array.getElem?_eq_some_iff.1 h1).1).trans h1
  have e1 := heap_setCell_same w5 g (o + p * 2) _ _ (.int .i64 l[q].r) h15
  have e2 := heap_setCell_same _ g (o + p * 2 + 1) _ _ (.int .i64 l[q].k) e1
  have e : fl (l.take (q + 1)) id = fl (l.take q) id ++ [l[q]] := by rw [fl_take hq, if_neg (by rw [hk]; simp)]
  have hap := h.apd.below hb
  have hpl : (ces (fl (l.take q) id)).length = p * 2 := by rw [ces_len, ← h.len]
  refine ⟨⟨hap.os, hap.tape, hap.output, ?_, fun k hk' hne => ?_⟩, ⟨_, e2, by simpa using h2, fun t ht => ?_, fun t h5 h6 => ?_⟩, by rw [e, List.length_append, ← h.len]; rfl, by omega, by omega⟩
  · simpa using hap.size
  · have hkg : k ≠ g := fun e => hne (by simp [Value.ownBlock, e])
    rw [heap_setCell_other _ ⟨g, _, none⟩ k _ hkg, heap_setCell_other _ ⟨g, _, none⟩ k _ hkg]
    exact hap.block k hk' hne
  · rw [e, ces_app, ces_one, Array.getElem?_setIfInBounds, Array.getElem?_setIfInBounds]
    by_cases ht2 : t < p * 2
    · rw [if_neg (by omega), if_neg (by omega), List.getElem?_append_left (by omega)]
      exact h3 t ht2
    · rw [List.getElem?_append_right (by omega), hpl]
      by_cases ht3 : t = p * 2
      · subst ht3
        rw [if_neg (by omega), if_pos rfl, if_pos (by omega), Nat.sub_self]; rfl
      · obtain rfl : t = p * 2 + 1 := by omega
        rw [if_pos (by omega), if_pos (by simp; omega), show p * 2 + 1 - p * 2 = 1 by omega]; rfl
  · rw [Array.getElem?_setIfInBounds, Array.getElem?_setIfInBounds, if_neg (by omega), if_neg (by omega)]
    exact h4 t (by omega) h6
/-- The end: what is behind is cleared. -/
theorem Fs.fin {S : Nat → Prop} {w : World} {g o cap : Nat} {l : List En} {id : Int} {p : Nat} {wr : World} (h : Fs w g o cap l id p l.length wr) (hg : S g) (hc : l.length ≤ cap) :
    (∀ ty, (Builtin.clear_ #[149] ty #[.slice (some ⟨g, o + p * 2, none⟩) (l.length - p) (cap - p)]).run Tryz.prog wr = .ok (.tuple #[]) (wr.setCells g (o + p * 2) (zes (l.length - p)))) ∧
    Apd w (.slice (some ⟨g, o, none⟩) l.length cap) (wr.setCells g (o + p * 2) (zes (l.length - p))) ∧ Rw S 2 130 (wr.setCells g (o + p * 2) (zes (l.length - p))) (.slice (some ⟨g, o, none⟩) p cap) p (ces (fl l id)) := by
  obtain ⟨cur, h1, h2, h3, -⟩ := h.ex
  have hlt := h.lt
  have hlen := h.len
  rw [List.take_length] at h3 hlen
  have hzl := zes_len (l.length - p)
  refine ⟨fun ty => run_clear_k wr 149 130 ty _ (l.length - p) Tryz.underlying149 zeroE (zes_one _) g (o + p * 2) _ (by omega) (fun j hj => ?_) (fun j hj => ?_), ?_⟩
  · have hj2 : j < (l.length - p) * 2 := by rw [← hzl]; exact hj
    rw [cell_of_row _ _ _ _ _ _ h1, Array.getElem?_eq_getElem (by omega)]; rfl
  · simp [World.frozen?, h1]
  · obtain ⟨cur2, g1, g2, g3, g4, g5, g6⟩ := setCells_all g (zes (l.length - p)) (o + p * 2) wr cur 130 h1
    refine ⟨⟨g6.os.trans h.apd.os, g6.tape.trans h.apd.tape, g6.output.trans h.apd.output, Nat.le_trans h.apd.size g6.size, fun k hk hne => ?_⟩, by rw [ces_len, ← hlen], Or.inr ⟨g, o, cap, cur2, rfl, hg, g1, by omega, by omega, ?_⟩⟩
    · rw [g5 k (fun e => hne (by simp [Value.ownBlock, e]))]; exact h.apd.block k hk hne
    · apply List.ext_getElem?
      intro t
      rw [List.getElem?_take]
      by_cases ht : t < p * 2
      · rw [if_pos ht, List.getElem?_drop, Array.getElem?_toList, g3 (o + t) (Or.inl (by omega)), h3 t ht]
      · rw [if_neg ht, List.getElem?_eq_none (by rw [ces_len, ← hlen]; omega)]
set_option maxHeartbeats 3200000 in
set_option maxRecDepth 100000 in
theorem delF_any {S : Nat → Prop} (w : World) (v : Value) (l : List En) (b : Nat) (id : Int) (h : Rw S 2 130 w v l.length (ces l)) (hb : w.cell? ⟨b, 0, none⟩ = some (.int .i64 id)) (hbv : v.ownBlock ≠ some b) (hn : l.length < 2147483647) :
    Calls Tryz.prog 105 #[v, cl1 b] w (DlE S w v (fl l id)) := by
  obtain ⟨ao, cap, rfl⟩ := h.form
  have hbl := cell_lt hb
  have H := hid h
  have HB := hid hb
  have HBv := hid hbv
  have HIx := hid (index_any w (.slice ao l.length cap) l b id h hb hn)
  clear h hb hbv
  go_enter Tryz.func105, Tryz.ntmps105
  go_upto_region 2 with (go_at_call 124; refine (HIx.out).mono ?_; rintro r w1 ⟨hb1, hr⟩
                         have HB1 := hid hb1
                         obtain ⟨k, hk, hkk⟩ : ∃ k, r = .returned (.int .i64 k) ∧ ((k = -1 ∧ fi l id l.length) ∨ ∃ (q : Nat) (hq : q < l.length), k = (q : Int) ∧ fi l id q ∧ (l[q].k == id) = true) := by
                           rcases hr with ⟨h1, h2⟩ | ⟨q, hq, h1, h2, h3⟩
                           · exact ⟨-1, h1, Or.inl ⟨rfl, h2⟩⟩
                           · exact ⟨q, h1, Or.inr ⟨q, hq, rfl, h2, h3⟩⟩
                         subst hk
                         have HK := hid hkk
                         clear hb1 hr hkk HIx)
  rcases HK.out with ⟨rfl, hfi⟩ | ⟨q0, hq0, rfl, hfi, hkq⟩
  · have HF : Hid (DlE S w (.slice ao l.length cap) (fl l id) (.returned (.slice ao l.length cap)) w1) := by
      have e : fl l id = l := by have := fl_fi hfi (Nat.le_refl _); rw [List.take_length] at this; exact this
      show DlE _ _ _ _ _ _
      rw [e]
      exact ⟨_, rfl, ⟨HB1.out.os, HB1.out.tape, HB1.out.output, HB1.out.size, fun k hk _ => HB1.out.block k hk⟩, H.out.carry fun b hb hS => ⟨hS, HB1.out.block b hb⟩⟩
    clear hfi HK
    go_wp2
    go_ret
    exact HF.out
  · rcases H.out with ⟨hx, ⟨_, hz0⟩ | ⟨g, o, cap', cur, he, hb1, hb2, hb3, hb4, hb5⟩⟩
    · omega
    obtain ⟨rfl, rfl⟩ : ao = some ⟨g, o, none⟩ ∧ cap = cap' := by simpa using he
    have hgl := (Array.getElem?_eq_some_iff.1 hb2).1
    have hbg : b ≠ g := fun e => HBv.out (by simp [Value.ownBlock, e])
    have HF0 : Hid (Fs w g o cap l id q0 (q0 + 1) w1) := by
      have e0 := fl_fi hfi (Nat.le_of_lt hq0)
      have e : fl (l.take (q0 + 1)) id = l.take q0 := by rw [fl_take hq0, if_pos hkq, List.append_nil, e0]
      refine ⟨⟨HB1.out.os, HB1.out.tape, HB1.out.output, HB1.out.size, fun k hk _ => HB1.out.block k hk⟩, ⟨cur, (HB1.out.block g hgl).trans hb2, hb4, fun t ht => ?_, fun t h1 h2 => cells_at hb5 h2⟩, by rw [e, List.length_take]; omega, by omega, hq0⟩
      rw [e, ← ces_take, List.getElem?_take, if_pos ht]
      exact cells_at hb5 (by omega)
    have HSg := hid hb1
    have hne : ((q0 : Int) == -1) = false := beq_eq_false_iff_ne.2 (by omega)
    have hw0 : IntKind.i64.wrap ((q0 : Int) + 1) = ((q0 + 1 : Nat) : Int) := by rw [IntKind.wrap_i64]; omega
    clear hx he hb1 hb2 hb4 hb5 hfi hkq HK
    go_upto_region 5 with fail
    go_loopw [5, 6] (fun i j wr => ∃ p q : Nat, i = .int .i64 p ∧ j = .int .i64 q ∧ Fs w g o cap l id p q wr) (fun _ j _ => l.length - (intOf j).toNat)
    case atStart => exact ⟨q0, q0 + 1, rfl, rfl, HF0.out⟩
    case round =>
      obtain ⟨p, q, rfl, rfl, hF⟩ := hrel
      generalize wr = wx at *
      have hpq := hF.lt
      have hql := hF.le
      have HF := hid hF
      clear hF HF0
      by_cases hlt : q < l.length
      · have hd : decide ((q : Int) < (l.length : Int)) = true := decide_eq_true (by omega)
        obtain ⟨cur', x1, x2, x3, x4⟩ := HF.out.ex
        obtain ⟨⟨yr, yk⟩, hy⟩ : ∃ y : En, y = l[q] := ⟨_, rfl⟩
        have hgx := (Array.getElem?_eq_some_iff.1 x1).1
        have d0 : wx.cell? ⟨g, o + q * 2, none⟩ = some (.int .i64 yr) := by
          rw [cell_of_row _ _ _ _ _ _ x1]
          have := x4 (q * 2 + 0) (by omega) (by omega)
          rw [ces_at l q 0 hlt (by omega), ← hy] at this
          exact this
        have d1 : wx.cell? ⟨g, o + q * 2 + 1, none⟩ = some (.int .i64 yk) := by
          rw [cell_of_row _ _ _ _ _ _ x1]
          have := x4 (q * 2 + 1) (by omega) (by omega)
          rw [ces_at l q 1 hlt (by omega), ← hy] at this
          exact this
        have hr2 : wx.rangeAt g (o + q * 2) (#[.int .i64 yr, .int .i64 yk] : Array Value).toList := range2 d0 d1
        obtain ⟨u0, hu0⟩ : ∃ u, wx.cell? ⟨g, o + p * 2, none⟩ = some u := by rw [cell_of_row _ _ _ _ _ _ x1]; exact ⟨_, Array.getElem?_eq_getElem (by omega)⟩
        obtain ⟨u1, hu1⟩ : ∃ u, wx.cell? ⟨g, o + p * 2 + 1, none⟩ = some u := by rw [cell_of_row _ _ _ _ _ _ x1]; exact ⟨_, Array.getElem?_eq_getElem (by omega)⟩
        have hfz : ∀ i, wx.frozen? ⟨g, i, none⟩ = false := fun i => by simp [World.frozen?, x1]
        have HX1 := hid x1
        obtain ⟨W4, hW4⟩ : ∃ W4, W4 = wx.alloc (.cells #[.int .i64 yr, .int .i64 yk] 130) := ⟨_, rfl⟩
        have hb4 : Below wx.heap.size wx W4 := by rw [hW4]; exact (Below.refl _ _).alloc (Nat.le_refl _) _
        have hg4 : W4.heap[wx.heap.size]? = some (.cells #[.int .i64 yr, .int .i64 yk] 130 (0, 0)) := by rw [hW4]; exact heap_alloc_new _ _
        have hg4l := (Array.getElem?_eq_some_iff.1 hg4).1
        have hcb : W4.cell? ⟨b, 0, none⟩ = some (.int .i64 id) := by
          have hbx : b < wx.heap.size := Nat.lt_of_lt_of_le hbl HF.out.apd.size
          rw [hb4.cell (p := ⟨b, 0, none⟩) hbx, cell_same (HF.out.apd.block b hbl (by simp [Value.ownBlock]; exact fun e => hbg e.symm))]
          exact HB.out
        obtain ⟨c, hc⟩ : ∃ c, c = (yk == id) := ⟨_, rfl⟩
        have HC : Hid (Calls Tryz.prog 106 #[ev ⟨yr, yk⟩, .pointer (some ⟨b, 0, none⟩)] W4 fun r w5 => r = .returned (.bool c) ∧ Below wx.heap.size wx w5 ∧ (w5.cell? ⟨wx.heap.size, 0, none⟩ = some (.int .i64 yr) ∧ w5.cell? ⟨wx.heap.size, 1, none⟩ = some (.int .i64 yk)) ∧ w5.cell? ⟨g, o + p * 2, none⟩ = some u0 ∧ w5.cell? ⟨g, o + p * 2 + 1, none⟩ = some u1 ∧ ∀ i, w5.frozen? ⟨g, i, none⟩ = false) := (drop1_any ⟨yr, yk⟩ b id W4 hcb).mono fun r w5 ⟨h1, h2⟩ => by
          have h5 : Below wx.heap.size wx w5 := hb4.trans (h2.mono hb4.size)
          have hn5 := (h2.block _ hg4l).trans hg4
          have hg5 := (h5.block g hgx).trans HX1.out
          refine ⟨by rw [hc]; exact h1, h5, ⟨by rw [cell_of_row _ _ _ _ _ _ hn5]; rfl, by rw [cell_of_row _ _ _ _ _ _ hn5]; rfl⟩, by rw [h5.cell (p := ⟨g, o + p * 2, none⟩) hgx]; exact hu0, by rw [h5.cell (p := ⟨g, o + p * 2 + 1, none⟩) hgx]; exact hu1, fun i => by simp [World.frozen?, hg5]⟩
        obtain ⟨k40, k41, -⟩ : W4.cell? ⟨wx.heap.size, 0, none⟩ = some (.int .i64 yr) ∧ W4.cell? ⟨wx.heap.size, 1, none⟩ = some (.int .i64 yk) ∧ True := ⟨by rw [cell_of_row _ _ _ _ _ _ hg4]; rfl, by rw [cell_of_row _ _ _ _ _ _ hg4]; rfl, trivial⟩
        have hw1 : IntKind.i64.wrap ((q : Int) + 1) = (q : Int) + 1 := by rw [IntKind.wrap_i64]; omega
        have hw2 : IntKind.i64.wrap ((p : Int) + 1) = (p : Int) + 1 := by rw [IntKind.wrap_i64]; omega
        have hdp : decide ((p : Int) < (l.length : Int)) = true := decide_eq_true (by omega)
        have hpl : p < l.length := by omega
        have hnot : ∀ (x : Bool) (w : World), (Op.unary .not (.bool x)).run Tryz.prog w = .ok (.bool (!x)) w := fun _ _ => rfl
        have HY := hid hy
        have HCc := hid hc
        have HW4 := hid hW4
        clear x1 x2 x3 x4 d0 d1 hu0 hu1 hfz hW4 hb4 hg4 hg4l hcb hc hy hgx HX1
        go_upto_region 8 with (first
          | (refine ldMid 130 (.tmp 24) rfl rfl g (o + q * 2) rfl #[.int .i64 yr, .int .i64 yk] _ Tryz.underlying130 rfl sizeE2 hr2 ?_)
          | (refine stNew 130 (.tmp 7) (.tmp 25) rfl rfl wx 130 #[.int .i64 0, .int .i64 0] #[.int .i64 yr, .int .i64 yk] rfl rfl rfl sizeE2 rfl rfl ?_))
        rw [← HW4.out]
        clear HW4
        cases c with
        | true =>
          go_wp2_with (first
            | (refine callCl 106 (.tmp 26) [.tmp 27] _ [ev ⟨yr, yk⟩] [.pointer (some ⟨b, 0, none⟩)] rfl rfl rfl rfl entD1 _ HC.out ?_; rintro r w5 ⟨rfl, hb5, ⟨y0, y1⟩, y2, y3, y4⟩; refine Or.inl ⟨_, rfl, ?_⟩; have HB5 := hid hb5; clear hb5 HC))
          go_roundw
          case rel => exact ⟨p, q + 1, rfl, by go_num, HF.out.skip HB5.out hlt (by rw [← HY.out]; exact HCc.out.symm)⟩
          case measure => simp [intOf]; omega
        | false =>
          go_wp2_with (first
            | (refine callCl 106 (.tmp 26) [.tmp 27] _ [ev ⟨yr, yk⟩] [.pointer (some ⟨b, 0, none⟩)] rfl rfl rfl rfl entD1 _ HC.out ?_; rintro r w5 ⟨rfl, hb5, ⟨y0, y1⟩, y2, y3, y4⟩; refine Or.inl ⟨_, rfl, ?_⟩; have HB5 := hid hb5; clear hb5 HC))
          go_roundw
          case rel =>
            have hK := HF.out.keep HB5.out hlt (by rw [← HY.out]; exact HCc.out.symm) hb3
            rw [← HY.out] at hK
            exact ⟨p + 1, q + 1, by go_num, by go_num, hK⟩
          case measure => simp [intOf]; omega
      · obtain rfl : q = l.length := by omega
        have hd : decide ((l.length : Int) < (l.length : Int)) = false := by simp
        obtain ⟨f1, f2, f3⟩ := HF.out.fin HSg.out hb3
        obtain ⟨W2, hW2⟩ : ∃ W2, W2 = wx.setCells g (o + p * 2) (zes (l.length - p)) := ⟨_, rfl⟩
        rw [← hW2] at f1 f2 f3
        have HFin : Hid (DlE S w (.slice (some ⟨g, o, none⟩) l.length cap) (fl l id) (.returned (.slice (some ⟨g, o, none⟩) p cap)) W2) := by
          have hl : p = (fl l id).length := by have := HF.out.len; rw [List.take_length] at this; exact this
          refine ⟨_, rfl, f2, ?_⟩
          rw [← hl]; exact f3
        have hpl : p ≤ l.length := by omega
        have hpc : p ≤ cap := by omega
        have hpn : ¬ (cap = p) := by omega
        clear f2 f3 hW2 HF
        go_wp2
        go_ret
        exact HFin.out
end Go.Proofs.YtfbehaodhooaaaaGreatDoor
