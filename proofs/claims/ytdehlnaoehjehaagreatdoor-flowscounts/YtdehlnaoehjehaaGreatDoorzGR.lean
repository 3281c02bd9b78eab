/-
  Proved here: slices.DeleteFunc with row.drop's closure leaves the entries of other numbers, in their order. Condition: fewer than 2 to 31 entries.
-/
/-
  Proved here: row.greatest gives a rank that no first entry of the row's lists is above. No condition.
-/
import Derived.Test.YtdehlnaoehjehaaGreatDoorzDF
import Derived.Test.YtdehlnaoehjehaaGreatDoorzPR
import Derived.Test.YtdehlnaoehjehaaGreatDoorzNR
namespace Go.Proofs.YtdehlnaoehjehaaGreatDoor
set_option maxRecDepth 100000
open Go.RowKit

theorem run_clear_k {P : Program} (w : World) (t e ty : TypeId) (z : Value) (n : Nat) (ht : P.underlying t = some (.slice e)) (hv : ∀ w, (zeroValue e).run P w = .ok z w) (h1 : ∀ x ∈ (Builtin.zeroCells z.cells n).toList, x.oneCell' = true) (b o c : Nat) (hn : 0 < n)
    (hc : ∀ j, j < (Builtin.zeroCells z.cells n).toList.length → (w.cell? ⟨b, o + j, none⟩).isSome = true) (hf : ∀ j, j < (Builtin.zeroCells z.cells n).toList.length → w.frozen? ⟨b, o + j, none⟩ = false) :
    (Builtin.clear_ #[t] ty #[.slice (some ⟨b, o, none⟩) n c]).run P w = .ok (.tuple #[]) (w.setCells b o (Builtin.zeroCells z.cells n).toList) := by
  have hst := run_storeCells_cells (P := P) b o (Builtin.zeroCells z.cells n).toList 0 w (by simpa using hc) (by simpa using hf) h1
  simp only [Nat.add_zero] at hst
  obtain ⟨m, rfl⟩ : ∃ m, n = m + 1 := ⟨n - 1, by omega⟩
  simp [Builtin.clear_, run_underlying ht, hv, hst]
theorem zeroE : ∀ w, (zeroValue 217).run Tryz.prog w = .ok (.agg #[.int .i64 0, .int .i64 0]) w := fun w => by simp [go_sem]
/-- n zero entries. -/
abbrev zes (n : Nat) : List Value := (Builtin.zeroCells (Value.agg #[.int .i64 0, .int .i64 0]).cells n).toList
theorem zes_len (n : Nat) : (zes n).length = n * 2 := by simp [Builtin.zeroCells, Value.cells]
theorem zes_one (n : Nat) : ∀ x ∈ zes n, x.oneCell' = true := fun x hx => by
  simp only [zes, Builtin.zeroCells, Value.cells, Array.toList_map, List.mem_map] at hx
  obtain ⟨i, -, rfl⟩ := hx
  have : i % 2 = 0 ∨ i % 2 = 1 := by omega
  rcases this with h | h <;> simp [h, Value.oneCell']
/-- The entries of other numbers. -/
def fl (l : List En) (id : Int) : List En := l.filter fun e => !(e.k == id)
theorem fl_take {l : List En} {id : Int} {q : Nat} (hq : q < l.length) : fl (l.take (q + 1)) id = fl (l.take q) id ++ if (l[q].k == id) = true then [] else [l[q]] := by
  rw [List.take_add_one, List.getElem?_eq_getElem hq]
  unfold fl
  rw [List.filter_append]
  cases h : (l[q].k == id) <;> simp [h]
theorem fl_fi {l : List En} {id : Int} {q : Nat} (h : fi l id q) (hq : q ≤ l.length) : fl (l.take q) id = l.take q := by
  unfold fl
  refine List.filter_eq_self.2 fun e he => ?_
  obtain ⟨j, hj, rfl⟩ := List.getElem_of_mem he
  rw [List.length_take] at hj
  have := h j (by omega) (by omega)
  rw [List.getElem_take, this]; rfl
/-- What DeleteFunc answers. -/
def DlE (S : Nat → Prop) (w : World) (v : Value) (l : List En) (r : Ending) (w' : World) : Prop := ∃ v', r = .returned v' ∧ Apd w v w' ∧ Rw S 2 217 w' v' l.length (ces l)
/-- What a round keeps. -/
structure Fs (w : World) (g o cap : Nat) (l : List En) (id : Int) (p q : Nat) (wr : World) : Prop where
  apd : Apd w (.slice (some ⟨g, o, none⟩) l.length cap) wr
  ex : ∃ cur : Array Value, wr.heap[g]? = some (.cells cur 217 (0, 0)) ∧ o + cap * 2 ≤ cur.size ∧ (∀ t, t < p * 2 → cur[o + t]? = (ces (fl (l.take q) id))[t]?) ∧ ∀ t, q * 2 ≤ t → t < l.length * 2 → cur[o + t]? = (ces l)[t]?
  len : p = (fl (l.take q) id).length
  lt : p < q
  le : q ≤ l.length
theorem Apd.below {w w' w5 : World} {v : Value} (h : Apd w v w') (hb : Below w'.heap.size w' w5) : Apd w v w5 :=
  ⟨hb.os.trans h.os, hb.tape.trans h.tape, hb.output.trans h.output, Nat.le_trans h.size hb.size, fun k hk hne => (hb.block k (Nat.lt_of_lt_of_le hk h.size)).trans (h.block k hk hne)⟩
theorem Fs.skip {w : World} {g o cap : Nat} {l : List En} {id : Int} {p q : Nat} {wr w5 : World} (h : Fs w g o cap l id p q wr) (hb : Below wr.heap.size wr w5) (hq : q < l.length) (hk : (l[q].k == id) = true) : Fs w g o cap l id p (q + 1) w5 := by
  obtain ⟨cur, h1, h2, h3, h4⟩ := h.ex
  have e : fl (l.take (q + 1)) id = fl (l.take q) id := by rw [fl_take hq, if_pos hk, List.append_nil]
  refine ⟨h.apd.below hb, ⟨cur, (hb.block g (Array.getElem?_eq_some_iff.1 h1).1).trans h1, h2, by rw [e]; exact h3, fun t h5 h6 => h4 t (by omega) h6⟩, by rw [e]; exact h.len, by have := h.lt; omega, hq⟩
theorem Fs.keep {w : World} {g o cap : Nat} {l : List En} {id : Int} {p q : Nat} {wr w5 : World} (h : Fs w g o cap l id p q wr) (hb : Below wr.heap.size wr w5) (hq : q < l.length) (hk : (l[q].k == id) = false) (hc : l.length ≤ cap) : Fs w g o cap l id (p + 1) (q + 1) ((w5.setCell ⟨g, o + p * 2, none⟩ (.int .i64 l[q].r)).setCell ⟨g, o + p * 2 + 1, none⟩ (.int .i64 l[q].k)) := by
  obtain ⟨cur, h1, h2, h3, h4⟩ := h.ex
  have hlt := h.lt
  have hle := h.le
  have h15 := (hb.block g (Array.getElem?_eq_some_iff.1 h1).1).trans h1
  have e1 := heap_setCell_same w5 g (o + p * 2) _ _ (.int .i64 l[q].r) h15
  have e2 := heap_setCell_same _ g (o + p * 2 + 1) _ _ (.int .i64 l[q].k) e1
  have e : fl (l.take (q + 1)) id = fl (l.take q) id ++ [l[q]] := by rw [fl_take hq, if_neg (by rw [hk]; simp)]
  have hap := h.apd.below hb
  have hpl : (ces (fl (l.take q) id)).length = p * 2 := by rw [ces_len, ← h.len]
  refine ⟨⟨hap.os, hap.tape, hap.output, ?_, fun k hk' hne => ?_⟩, ⟨_, e2, by simpa using h2, fun t ht => ?_, fun t h5 h6 => ?_⟩, by rw [e, List.length_append, ← h.len]; rfl, by omega, by omega⟩
  · simpa using hap.size
  · have hkg : k ≠ g := fun e => hne (by simp [Value.ownBlock, e])
    rw [heap_setCell_other _ ⟨g, _, none⟩ k _ hkg, heap_setCell_other _ ⟨g, _, none⟩ k _ hkg]
    exact hap.block k hk' hne
  · rw [e, ces_app, ces_one, Array.getElem?_setIfInBounds, Array.getElem?_setIfInBounds]
    by_cases ht2 : t < p * 2
    · rw [if_neg (by omega), if_neg (by omega), List.getElem?_append_left (by omega)]
      exact h3 t ht2
    · rw [List.getElem?_append_right (by omega), hpl]
      by_cases ht3 : t = p * 2
      · subst ht3
        rw [if_neg (by omega), if_pos rfl, if_pos (by omega), Nat.sub_self]; rfl
      · obtain rfl : t = p * 2 + 1 := by omega
        rw [if_pos (by omega), if_pos (by simp; omega), show p * 2 + 1 - p * 2 = 1 by omega]; rfl
  · rw [Array.getElem?_setIfInBounds, Array.getElem?_setIfInBounds, if_neg (by omega), if_neg (by omega)]
    exact h4 t (by omega) h6
/-- The end: what is behind is cleared. -/
theorem Fs.fin {S : Nat → Prop} {w : World} {g o cap : Nat} {l : List En} {id : Int} {p : Nat} {wr : World} (h : Fs w g o cap l id p l.length wr) (hg : S g) (hc : l.length ≤ cap) :
    (∀ ty, (Builtin.clear_ #[252] ty #[.slice (some ⟨g, o + p * 2, none⟩) (l.length - p) (cap - p)]).run Tryz.prog wr = .ok (.tuple #[]) (wr.setCells g (o + p * 2) (zes (l.length - p)))) ∧
    Apd w (.slice (some ⟨g, o, none⟩) l.length cap) (wr.setCells g (o + p * 2) (zes (l.length - p))) ∧ Rw S 2 217 (wr.setCells g (o + p * 2) (zes (l.length - p))) (.slice (some ⟨g, o, none⟩) p cap) p (ces (fl l id)) := by
  obtain ⟨cur, h1, h2, h3, -⟩ := h.ex
  have hlt := h.lt
  have hlen := h.len
  rw [List.take_length] at h3 hlen
  have hzl := zes_len (l.length - p)
  refine ⟨fun ty => run_clear_k wr 252 217 ty _ (l.length - p) Tryz.underlying252 zeroE (zes_one _) g (o + p * 2) _ (by omega) (fun j hj => ?_) (fun j hj => ?_), ?_⟩
  · have hj2 : j < (l.length - p) * 2 := by rw [← hzl]; exact hj
    rw [cell_of_row _ _ _ _ _ _ h1, Array.getElem?_eq_getElem (by omega)]; rfl
  · simp [World.frozen?, h1]
  · obtain ⟨cur2, g1, g2, g3, g4, g5, g6⟩ := setCells_all g (zes (l.length - p)) (o + p * 2) wr cur 217 h1
    refine ⟨⟨g6.os.trans h.apd.os, g6.tape.trans h.apd.tape, g6.output.trans h.apd.output, Nat.le_trans h.apd.size g6.size, fun k hk hne => ?_⟩, by rw [ces_len, ← hlen], Or.inr ⟨g, o, cap, cur2, rfl, hg, g1, by omega, by omega, ?_⟩⟩
    · rw [g5 k (fun e => hne (by simp [Value.ownBlock, e]))]; exact h.apd.block k hk hne
    · apply List.ext_getElem?
      intro t
      rw [List.getElem?_take]
      by_cases ht : t < p * 2
      · rw [if_pos ht, List.getElem?_drop, Array.getElem?_toList, g3 (o + t) (Or.inl (by omega)), h3 t ht]
      · rw [if_neg ht, List.getElem?_eq_none (by rw [ces_len, ← hlen]; omega)]
set_option maxHeartbeats 3200000 in
set_option maxRecDepth 100000 in
theorem delF_any {S : Nat → Prop} (w : World) (v : Value) (l : List En) (b : Nat) (id : Int) (h : Rw S 2 217 w v l.length (ces l)) (hb : w.cell? ⟨b, 0, none⟩ = some (.int .i64 id)) (hbv : v.ownBlock ≠ some b) (hn : l.length < 2147483647) :
    Calls Tryz.prog 186 #[v, cl1 b] w (DlE S w v (fl l id)) := by
  obtain ⟨ao, cap, rfl⟩ := h.form
  have hbl := cell_lt hb
  have H := hid h
  have HB := hid hb
  have HBv := hid hbv
  have HIx := hid (index_any w (.slice ao l.length cap) l b id h hb hn)
  clear h hb hbv
  go_enter Tryz.func186, Tryz.ntmps186
  go_upto_region 2 with (go_at_call 213; refine (HIx.out).mono ?_; rintro r w1 ⟨hb1, hr⟩
                         have HB1 := hid hb1
                         obtain ⟨k, hk, hkk⟩ : ∃ k, r = .returned (.int .i64 k) ∧ ((k = -1 ∧ fi l id l.length) ∨ ∃ (q : Nat) (hq : q < l.length), k = (q : Int) ∧ fi l id q ∧ (l[q].k == id) = true) := by
                           rcases hr with ⟨h1, h2⟩ | ⟨q, hq, h1, h2, h3⟩
                           · exact ⟨-1, h1, Or.inl ⟨rfl, h2⟩⟩
                           · exact ⟨q, h1, Or.inr ⟨q, hq, rfl, h2, h3⟩⟩
                         subst hk
                         have HK := hid hkk
                         clear hb1 hr hkk HIx)
  rcases HK.out with ⟨rfl, hfi⟩ | ⟨q0, hq0, rfl, hfi, hkq⟩
  · have HF : Hid (DlE S w (.slice ao l.length cap) (fl l id) (.returned (.slice ao l.length cap)) w1) := by
      have e : fl l id = l := by have := fl_fi hfi (Nat.le_refl _); rw [List.take_length] at this; exact this
      show DlE _ _ _ _ _ _
      rw [e]
      exact ⟨_, rfl, ⟨HB1.out.os, HB1.out.tape, HB1.out.output, HB1.out.size, fun k hk _ => HB1.out.block k hk⟩, H.out.carry fun b hb hS => ⟨hS, HB1.out.block b hb⟩⟩
    clear hfi HK
    go_wp2
    go_ret
    exact HF.out
  · rcases H.out with ⟨hx, ⟨_, hz0⟩ | ⟨g, o, cap', cur, he, hb1, hb2, hb3, hb4, hb5⟩⟩
    · omega
    obtain ⟨rfl, rfl⟩ : ao = some ⟨g, o, none⟩ ∧ cap = cap' := by simpa using he
    have hgl := (Array.getElem?_eq_some_iff.1 hb2).1
    have hbg : b ≠ g := fun e => HBv.out (by simp [Value.ownBlock, e])
    have HF0 : Hid (Fs w g o cap l id q0 (q0 + 1) w1) := by
      have e0 := fl_fi hfi (Nat.le_of_lt hq0)
      have e : fl (l.take (q0 + 1)) id = l.take q0 := by rw [fl_take hq0, if_pos hkq, List.append_nil, e0]
      refine ⟨⟨HB1.out.os, HB1.out.tape, HB1.out.output, HB1.out.size, fun k hk _ => HB1.out.block k hk⟩, ⟨cur, (HB1.out.block g hgl).trans hb2, hb4, fun t ht => ?_, fun t h1 h2 => cells_at hb5 h2⟩, by rw [e, List.length_take]; omega, by omega, hq0⟩
      rw [e, ← ces_take, List.getElem?_take, if_pos ht]
      exact cells_at hb5 (by omega)
    have HSg := hid hb1
    have hne : ((q0 : Int) == -1) = false := beq_eq_false_iff_ne.2 (by omega)
    have hw0 : IntKind.i64.wrap ((q0 : Int) + 1) = ((q0 + 1 : Nat) : Int) := by rw [IntKind.wrap_i64]; omega
    clear hx he hb1 hb2 hb4 hb5 hfi hkq HK
    go_upto_region 5 with fail
    go_loopw [5, 6] (fun i j wr => ∃ p q : Nat, i = .int .i64 p ∧ j = .int .i64 q ∧ Fs w g o cap l id p q wr) (fun _ j _ => l.length - (intOf j).toNat)
    case atStart => exact ⟨q0, q0 + 1, rfl, rfl, HF0.out⟩
    case round =>
      obtain ⟨p, q, rfl, rfl, hF⟩ := hrel
      generalize wr = wx at *
      have hpq := hF.lt
      have hql := hF.le
      have HF := hid hF
      clear hF HF0
      by_cases hlt : q < l.length
      · have hd : decide ((q : Int) < (l.length : Int)) = true := decide_eq_true (by omega)
        obtain ⟨cur', x1, x2, x3, x4⟩ := HF.out.ex
        obtain ⟨⟨yr, yk⟩, hy⟩ : ∃ y : En, y = l[q] := ⟨_, rfl⟩
        have hgx := (Array.getElem?_eq_some_iff.1 x1).1
        have d0 : wx.cell? ⟨g, o + q * 2, none⟩ = some (.int .i64 yr) := by
          rw [cell_of_row _ _ _ _ _ _ x1]
          have := x4 (q * 2 + 0) (by omega) (by omega)
          rw [ces_at l q 0 hlt (by omega), ← hy] at this
          exact this
        have d1 : wx.cell? ⟨g, o + q * 2 + 1, none⟩ = some (.int .i64 yk) := by
          rw [cell_of_row _ _ _ _ _ _ x1]
          have := x4 (q * 2 + 1) (by omega) (by omega)
          rw [ces_at l q 1 hlt (by omega), ← hy] at this
          exact this
        have hr2 : wx.rangeAt g (o + q * 2) (#[.int .i64 yr, .int .i64 yk] : Array Value).toList := range2 d0 d1
        obtain ⟨u0, hu0⟩ : ∃ u, wx.cell? ⟨g, o + p * 2, none⟩ = some u := by rw [cell_of_row _ _ _ _ _ _ x1]; exact ⟨_, Array.getElem?_eq_getElem (by omega)⟩
        obtain ⟨u1, hu1⟩ : ∃ u, wx.cell? ⟨g, o + p * 2 + 1, none⟩ = some u := by rw [cell_of_row _ _ _ _ _ _ x1]; exact ⟨_, Array.getElem?_eq_getElem (by omega)⟩
        have hfz : ∀ i, wx.frozen? ⟨g, i, none⟩ = false := fun i => by simp [World.frozen?, x1]
        have HX1 := hid x1
        obtain ⟨W4, hW4⟩ : ∃ W4, W4 = wx.alloc (.cells #[.int .i64 yr, .int .i64 yk] 217) := ⟨_, rfl⟩
        have hb4 : Below wx.heap.size wx W4 := by rw [hW4]; exact (Below.refl _ _).alloc (Nat.le_refl _) _
        have hg4 : W4.heap[wx.heap.size]? = some (.cells #[.int .i64 yr, .int .i64 yk] 217 (0, 0)) := by rw [hW4]; exact heap_alloc_new _ _
        have hg4l := (Array.getElem?_eq_some_iff.1 hg4).1
        have hcb : W4.cell? ⟨b, 0, none⟩ = some (.int .i64 id) := by
          have hbx : b < wx.heap.size := Nat.lt_of_lt_of_le hbl HF.out.apd.size
          rw [hb4.cell (p := ⟨b, 0, none⟩) hbx, cell_same (HF.out.apd.block b hbl (by simp [Value.ownBlock]; exact fun e => hbg e.symm))]
          exact HB.out
        obtain ⟨c, hc⟩ : ∃ c, c = (yk == id) := ⟨_, rfl⟩
        have HC : Hid (Calls Tryz.prog 187 #[ev ⟨yr, yk⟩, .pointer (some ⟨b, 0, none⟩)] W4 fun r w5 => r = .returned (.bool c) ∧ Below wx.heap.size wx w5 ∧ (w5.cell? ⟨wx.heap.size, 0, none⟩ = some (.int .i64 yr) ∧ w5.cell? ⟨wx.heap.size, 1, none⟩ = some (.int .i64 yk)) ∧ w5.cell? ⟨g, o + p * 2, none⟩ = some u0 ∧ w5.cell? ⟨g, o + p * 2 + 1, none⟩ = some u1 ∧ ∀ i, w5.frozen? ⟨g, i, none⟩ = false) := (drop1_any ⟨yr, yk⟩ b id W4 hcb).mono fun r w5 ⟨h1, h2⟩ => by
          have h5 : Below wx.heap.size wx w5 := hb4.trans (h2.mono hb4.size)
          have hn5 := (h2.block _ hg4l).trans hg4
          have hg5 := (h5.block g hgx).trans HX1.out
          refine ⟨by rw [hc]; exact h1, h5, ⟨by rw [cell_of_row _ _ _ _ _ _ hn5]; rfl, by rw [cell_of_row _ _ _ _ _ _ hn5]; rfl⟩, by rw [h5.cell (p := ⟨g, o + p * 2, none⟩) hgx]; exact hu0, by rw [h5.cell (p := ⟨g, o + p * 2 + 1, none⟩) hgx]; exact hu1, fun i => by simp [World.frozen?, hg5]⟩
        obtain ⟨k40, k41, -⟩ : W4.cell? ⟨wx.heap.size, 0, none⟩ = some (.int .i64 yr) ∧ W4.cell? ⟨wx.heap.size, 1, none⟩ = some (.int .i64 yk) ∧ True := ⟨by rw [cell_of_row _ _ _ _ _ _ hg4]; rfl, by rw [cell_of_row _ _ _ _ _ _ hg4]; rfl, trivial⟩
        have hw1 : IntKind.i64.wrap ((q : Int) + 1) = (q : Int) + 1 := by rw [IntKind.wrap_i64]; omega
        have hw2 : IntKind.i64.wrap ((p : Int) + 1) = (p : Int) + 1 := by rw [IntKind.wrap_i64]; omega
        have hdp : decide ((p : Int) < (l.length : Int)) = true := decide_eq_true (by omega)
        have hpl : p < l.length := by omega
        have hnot : ∀ (x : Bool) (w : World), (Op.unary .not (.bool x)).run Tryz.prog w = .ok (.bool (!x)) w := fun _ _ => rfl
        have HY := hid hy
        have HCc := hid hc
        have HW4 := hid hW4
        clear x1 x2 x3 x4 d0 d1 hu0 hu1 hfz hW4 hb4 hg4 hg4l hcb hc hy hgx HX1
        go_upto_region 8 with (first
          | (refine ldMid 217 (.tmp 24) rfl rfl g (o + q * 2) rfl #[.int .i64 yr, .int .i64 yk] _ Tryz.underlying217 rfl sizeE2 hr2 ?_)
          | (refine stNew 217 (.tmp 7) (.tmp 25) rfl rfl wx 217 #[.int .i64 0, .int .i64 0] #[.int .i64 yr, .int .i64 yk] rfl rfl rfl sizeE2 rfl rfl ?_))
        rw [← HW4.out]
        clear HW4
        cases c with
        | true =>
          go_wp2_with (first
            | (refine callCl 187 (.tmp 26) [.tmp 27] _ [ev ⟨yr, yk⟩] [.pointer (some ⟨b, 0, none⟩)] rfl rfl rfl rfl entD1 _ HC.out ?_; rintro r w5 ⟨rfl, hb5, ⟨y0, y1⟩, y2, y3, y4⟩; refine Or.inl ⟨_, rfl, ?_⟩; have HB5 := hid hb5; clear hb5 HC))
          go_roundw
          case rel => exact ⟨p, q + 1, rfl, by go_num, HF.out.skip HB5.out hlt (by rw [← HY.out]; exact HCc.out.symm)⟩
          case measure => simp [intOf]; omega
        | false =>
          go_wp2_with (first
            | (refine callCl 187 (.tmp 26) [.tmp 27] _ [ev ⟨yr, yk⟩] [.pointer (some ⟨b, 0, none⟩)] rfl rfl rfl rfl entD1 _ HC.out ?_; rintro r w5 ⟨rfl, hb5, ⟨y0, y1⟩, y2, y3, y4⟩; refine Or.inl ⟨_, rfl, ?_⟩; have HB5 := hid hb5; clear hb5 HC))
          go_roundw
          case rel =>
            have hK := HF.out.keep HB5.out hlt (by rw [← HY.out]; exact HCc.out.symm) hb3
            rw [← HY.out] at hK
            exact ⟨p + 1, q + 1, by go_num, by go_num, hK⟩
          case measure => simp [intOf]; omega
      · obtain rfl : q = l.length := by omega
        have hd : decide ((l.length : Int) < (l.length : Int)) = false := by simp
        obtain ⟨f1, f2, f3⟩ := HF.out.fin HSg.out hb3
        obtain ⟨W2, hW2⟩ : ∃ W2, W2 = wx.setCells g (o + p * 2) (zes (l.length - p)) := ⟨_, rfl⟩
        rw [← hW2] at f1 f2 f3
        have HFin : Hid (DlE S w (.slice (some ⟨g, o, none⟩) l.length cap) (fl l id) (.returned (.slice (some ⟨g, o, none⟩) p cap)) W2) := by
          have hl : p = (fl l id).length := by have := HF.out.len; rw [List.take_length] at this; exact this
          refine ⟨_, rfl, f2, ?_⟩
          rw [← hl]; exact f3
        have hpl : p ≤ l.length := by omega
        have hpc : p ≤ cap := by omega
        have hpn : ¬ (cap = p) := by omega
        clear f2 f3 hW2 HF
        go_wp2
        go_ret
        exact HFin.out
end Go.Proofs.YtdehlnaoehjehaaGreatDoor
namespace Go.Proofs.YtdehlnaoehjehaaGreatDoor
set_option maxRecDepth 100000
open Go.RowKit Go.Maps

/-- What a round of greatest keeps. -/
structure Gt (w : World) (ρ : Ro) (D : DataW Value) (t : Int) (left : Lit → Bool) (cnt : Nat) (wr : World) : Prop where
  rg : wr.ranges Tryz.prog 30 tok ρ.bc w.heap.size ρ.n D left cnt
  low : Below w.heap.size w wr
  sub : ∀ l, left l = true → Maps.has D l = true
  top : ∀ l e es, ρ.E l = e :: es → left l = false → e.r ≤ t
def GrE (w : World) (ρ : Ro) (r : Ending) (w' : World) : Prop := ∃ t, r = .returned (.int .i64 t) ∧ Below w.heap.size w w' ∧ ∀ l e es, ρ.E l = e :: es → e.r ≤ t
theorem Gt.next {S : Nat → Prop} {o : Nat → Tag} {w : World} {ρ : Ro} {D : DataW Value} {t : Int} {left : Lit → Bool} {cnt : Nat} {wr : World} (h : Gt w ρ D t left cnt wr) (hρ : RowM S o w ρ)
    (hD : ∀ l, (ρ.G l = none → Maps.has D l = false) ∧ ∀ v, ρ.G l = some v → Maps.has D l = true ∧ ∀ z, D.atKey l z = .held v)
    {c : Value} {kl' : Lit} {y : DataW Value × List MemPlace} {w1 : World} {cnt1 : Nat} (hlk : left kl' = true) (hv : tok c = some y) (hat : ∀ zd, D.atKey kl' zd = y.1) (hrg : w1.ranges Tryz.prog 30 tok ρ.bc w.heap.size ρ.n D (fun z => left z && !z.sameKey kl') cnt1) (hg : wr.grownBy w1 (some w.heap.size)) (hs : w1.heap.size = wr.heap.size) :
    ∃ (g o' cap n : Nat) (er : Int), c = .slice (some ⟨g, o', none⟩) (n + 1) cap ∧ w1.cell? ⟨g, o', none⟩ = some (.int .i64 er) ∧ ∀ t', t ≤ t' → er ≤ t' → Gt w ρ D t' (fun z => left z && !z.sameKey kl') cnt1 w1 := by
  have hb1 : Below w.heap.size w w1 := ⟨hg.os.trans h.low.os, hg.tape.trans h.low.tape, hg.output.trans h.low.output, by rw [hs]; exact h.low.size, fun k hk => (hg.block k (Nat.lt_of_lt_of_le hk h.low.size) (by simp; omega)).trans (h.low.block k hk)⟩
  have hhas := h.sub _ hlk
  rcases hρ.hit kl' with ⟨h1, _⟩ | ⟨v, h1, h2, h3⟩
  · rw [(hD kl').1 h1] at hhas; cases hhas
  have hc : c = v := by
    have e := ((hD kl').2 v h1).2 (.held c)
    rw [hat] at e
    simp only [tok, Option.some.injEq] at hv
    rw [← hv] at e
    simpa using e
  subst hc
  obtain ⟨e0, es0, he0⟩ := List.exists_cons_of_ne_nil h2
  rcases h3 with ⟨hx, ⟨_, hz⟩ | ⟨g, o', cap, cur, rfl, hb, hb2, hb3, hb4, hb5⟩⟩
  · rw [he0] at hz; simp at hz
  have hgl := (Array.getElem?_eq_some_iff.1 hb2).1
  refine ⟨g, o', cap, es0.length, e0.r, by rw [he0]; rfl, ?_, fun t' h4 h5 => ⟨hrg, hb1, fun l hl => h.sub l (by simp at hl; exact hl.1), fun l e es hE hl => ?_⟩⟩
  · rw [cell_of_row _ _ _ _ _ _ ((hb1.block g hgl).trans hb2)]
    have := cells_at hb5 (j := 0) (by rw [he0]; simp)
    rw [he0] at this
    exact this
  · cases hll : left l with
    | false => exact Int.le_trans (h.top l e es hE hll) h4
    | true =>
      rw [hll] at hl
      simp at hl
      have hlk' : l = kl' := WideAt.sameKey_eq hl
      subst hlk'
      rw [he0] at hE
      cases hE
      exact h5
set_option maxHeartbeats 1600000 in
set_option maxRecDepth 100000 in
theorem greatest_any {S : Nat → Prop} {o : Nat → Tag} (w : World) (ρ : Ro) (hρ : RowM S o w ρ) : Calls Tryz.prog 188 #[pv ρ.p] w (GrE w ρ) := by
  obtain ⟨D, hown, hsz, hD⟩ := hρ.mp
  obtain ⟨-, q12, -, -⟩ := hρ.cells
  have HRo := hid hρ
  have HD := hid hD
  have HO := hid hown
  clear hρ hown hD hsz
  go_enter Tryz.func188, Tryz.ntmps188
  go_upto_region 3 with (at_range; refine wpList_range_own _ rfl _ 221 rfl 30 252 lawH Tryz.underlying221 tok ρ.bc ρ.n D rfl HO.out ?_; intro w0 hrg0 hg0 hs0
                         have HG0 : Hid (Gt w ρ D (-9223372036854775808) (Maps.has D) (Maps.size D) w0) := ⟨hrg0, ⟨hg0.os, hg0.tape, hg0.output, hg0.size, fun k hk => hg0.block k hk (by simp)⟩, fun l h => h, fun l e es hE hl => by
                           rcases HRo.out.hit l with ⟨_, h2⟩ | ⟨v, h1, _⟩
                           · rw [h2] at hE; cases hE
                           · rw [((HD.out l).2 v h1).1] at hl; cases hl⟩
                         clear hrg0 hg0 hs0)
  go_frame
  go_loopw [3] (fun v wr => ∃ t left cnt, v = .int .i64 t ∧ Gt w ρ D t left cnt wr) (fun _ wr => wr.rangeLeft ρ.bc w.heap.size)
  case atStart => exact ⟨_, _, _, rfl, HG0.out⟩
  case round =>
    obtain ⟨t, left, cnt, rfl, hG⟩ := hrel
    generalize wr = wx at *
    have HG := hid hG
    have HRg := hid hG.rg
    clear hG HG0
    go_wp2_with (at_next; refine wpList_next_ranges _ rfl _ rfl 30 lawH tok (fun x : Value => x) (fun x : Value => x) (fun key _ _ => ⟨key, rfl⟩) (fun v _ _ => ⟨v, rfl⟩) ρ.bc w.heap.size ρ.n D left cnt rfl HRg.out ?_ ?_
                 all_goals (first
                   | (intro x c kl' y w1 cnt1 hkey hlk hv hat hrg1 hlt hg1 hs1 hen
                      obtain ⟨g, o', cap, n, er, rfl, hce, hN⟩ := HG.out.next HRo.out HD.out hlk hv hat hrg1 hg1 hs1
                      have HN := hid (And.intro hN hlt)
                      clear hkey hlk hv hat hrg1 hlt hg1 hs1 hN)
                   | (intro hc0 hl0
                      have HL0 := hid hl0
                      clear hc0 hl0)))
    · go_ret
      exact ⟨t, rfl, HG.out.low, fun l e es hE => HG.out.top l e es hE (HL0.out l)⟩
    · obtain ⟨hN, hlt⟩ := HN.out
      have hX : Gt w ρ D (if t < er then er else t) (fun z => left z && !z.sameKey kl') cnt1 w1 := by
        refine hN _ ?_ ?_
        · split <;> omega
        · split <;> omega
      refine ⟨⟨_, _, _, rfl, hX⟩, ?_⟩
      rw [hX.rg.left_eq, HRg.out.left_eq]
      exact hlt
end Go.Proofs.YtdehlnaoehjehaaGreatDoor
