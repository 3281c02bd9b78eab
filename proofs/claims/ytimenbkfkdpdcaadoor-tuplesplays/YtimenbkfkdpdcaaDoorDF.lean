/-
  Proved here: the closure that row.drop hands on tells whether an entry has the number; slices.IndexFunc with it gives the first such place. Condition: fewer than 2 to 31 entries.
-/
import Derived.Test.YtimenbkfkdpdcaaDoorPE
import Derived.Test.YtimenbkfkdpdcaaDoorQ1
namespace Go.Proofs.YtimenbkfkdpdcaaDoor
open Go.RowKit

section
variable {ops : Array Oper} {rest : List Oper} {o : Oper} {a : Act} {w : World} {Q : Exit → Act → World → Prop}
/-- A call of a closure, in a walk. -/
theorem callCl (f : FuncId) (y : Operand) (xs : List Operand) (ts : Array TypeId) (args caps : List Value) (hop : o.op = .call { callee := .value y, args := xs.toArray, argTypes := ts }) (hg : o.guard = none) (hy : a.eval y = .func (.func f) #[] caps.toArray) (hx : xs.map a.eval = args) (hE : ∀ (args : Array Value) w, (callFunc f args).run Tryd.prog w = .ok (.enter f args) w)
    (Φ : Ending → World → Prop) (hC : Calls Tryd.prog f (args ++ caps).toArray w Φ) (hK : ∀ e w', Φ e w' → (∃ v, e = .returned v ∧ wpList Tryd.prog ops Q rest (a.put o.dst v) w') ∨ ∃ ch, e = .panicked ch ∧ Q (.panic ch) a w') : wpList Tryd.prog ops Q (o :: rest) a w := by
  have hw : Region.wanted o (yielded ops a.tmps) = true := by simp [Region.wanted, hg]
  have hrun : (execOp a.eval o).run Tryd.prog w = .ok (.enter f (args ++ caps).toArray) w := by
    unfold execOp
    simp only [hop, resolve, invoke, Deferred.ofValue, hy, Sem.run_bind, Sem.run_pure, Result.andThen_ok, List.map_toArray, hx, List.append_toArray, List.nil_append, hE]
  unfold wpList
  rw [if_pos hw]
  refine Or.inl ?_
  show Oper.upon Tryd.prog o a _ Q ((execOp a.eval o).run Tryd.prog w)
  rw [hrun, Oper.upon_enter]
  refine hC.mono ?_
  intro e w' h
  rcases hK e w' h with ⟨v, rfl, hk⟩ | ⟨ch, rfl, hk⟩
  · exact hk
  · exact hk
end
/-- The closure. -/
abbrev cl1 (b : Nat) : Value := .func (.func 35) #[] #[.pointer (some ⟨b, 0, none⟩)]
theorem entD1 (args : Array Value) (w : World) : (callFunc 35 args).run Tryd.prog w = .ok (.enter 35 args) w := rfl
theorem drop1_any (e : En) (b : Nat) (id : Int) (w : World) (hb : w.cell? ⟨b, 0, none⟩ = some (.int .i64 id)) :
    Calls Tryd.prog 35 #[ev e, .pointer (some ⟨b, 0, none⟩)] w fun r w' => r = .returned (.bool (e.k == id)) ∧ Below w.heap.size w w' := by
  obtain ⟨r, k⟩ := e
  obtain ⟨W0, hW0⟩ : ∃ W0, W0 = w.alloc (.cells #[.int .i64 r, .int .i64 k] 61) := ⟨_, rfl⟩
  have HL : Hid (Below w.heap.size w W0) := by show Below _ _ _; rw [hW0]; exact (Below.refl _ _).alloc (Nat.le_refl _) _
  have hbl := cell_lt hb
  have hG : W0.heap[w.heap.size]? = some (.cells #[.int .i64 r, .int .i64 k] 61 (0, 0)) := by rw [hW0]; exact heap_alloc_new _ _
  have c1 : W0.cell? ⟨w.heap.size, 1, none⟩ = some (.int .i64 k) := by rw [cell_of_row _ _ _ _ _ _ hG]; rfl
  have c2 : W0.cell? ⟨b, 0, none⟩ = some (.int .i64 id) := by rw [HL.out.cell (p := ⟨b, 0, none⟩) hbl]; exact hb
  have HW0 := hid hW0
  clear hb hW0 hG
  go_enter Tryd.func35, Tryd.ntmps35
  go_upto_region 1 with fail
  rw [← HW0.out]
  clear HW0
  go_wp2
  go_ret
  exact ⟨rfl, HL.out⟩
/-- The first entry of a number. -/
def fi (l : List En) (id : Int) (q : Nat) : Prop := ∀ j (hj : j < l.length), j < q → (l[j].k == id) = false
/-- What IndexFunc answers. -/
def Ix (w : World) (l : List En) (id : Int) (r : Ending) (w' : World) : Prop := Below w.heap.size w w' ∧ ((r = .returned (.int .i64 (-1)) ∧ fi l id l.length) ∨ ∃ (q : Nat) (hq : q < l.length), r = .returned (.int .i64 q) ∧ fi l id q ∧ (l[q].k == id) = true)
theorem Ix.yes {w w' : World} {l : List En} {id : Int} (hb : Below w.heap.size w w') {q : Nat} (hq : q < l.length) (h1 : fi l id q) (h2 : (l[q].k == id) = true) : Ix w l id (.returned (.int .i64 q)) w' := ⟨hb, Or.inr ⟨q, hq, rfl, h1, h2⟩⟩
theorem Ix.no {w w' : World} {l : List En} {id : Int} (hb : Below w.heap.size w w') (h1 : fi l id l.length) : Ix w l id (.returned (.int .i64 (-1))) w' := ⟨hb, Or.inl ⟨rfl, h1⟩⟩
set_option maxHeartbeats 1600000 in
set_option maxRecDepth 100000 in
theorem index_any {S : Nat → Prop} (w : World) (v : Value) (l : List En) (b : Nat) (id : Int) (h : Rw S 2 61 w v l.length (ces l)) (hb : w.cell? ⟨b, 0, none⟩ = some (.int .i64 id)) (hn : l.length < 2147483647) :
    Calls Tryd.prog 40 #[v, cl1 b] w (Ix w l id) := by
  obtain ⟨ao, cap, rfl⟩ := h.form
  have hbl := cell_lt hb
  have H := hid h
  have HB := hid hb
  clear h hb
  go_enter Tryd.func40, Tryd.ntmps40
  go_upto_region 2 with fail
  go_loopw [8] (fun i wr => ∃ q : Nat, q ≤ l.length ∧ i = .int .i64 q ∧ Below w.heap.size w wr ∧ fi l id q) (fun i _ => l.length - (intOf i).toNat)
  case atStart => exact ⟨0, by omega, rfl, Below.refl _ _, fun j _ h => by omega⟩
  case round =>
    obtain ⟨q, hq, rfl, hlow, hfi⟩ := hrel
    generalize wr = wx at *
    have HLo := hid hlow
    have HFi := hid hfi
    clear hlow hfi
    by_cases hlt : q < l.length
    · have hql : decide ((q : Int) < (l.length : Int)) = true := decide_eq_true (by omega)
      rcases H.out with ⟨hx, ⟨_, hz0⟩ | ⟨g, o, cap', cur, he, hb1, hb2, hb3, hb4, hb5⟩⟩
      · omega
      obtain ⟨rfl, rfl⟩ : ao = some ⟨g, o, none⟩ ∧ cap = cap' := by simpa using he
      obtain ⟨⟨yr, yk⟩, hy⟩ : ∃ y : En, y = l[q] := ⟨_, rfl⟩
      have hgl := (Array.getElem?_eq_some_iff.1 hb2).1
      have hgx : wx.heap[g]? = some (.cells cur 61 (0, 0)) := (HLo.out.block g hgl).trans hb2
      have d0 : wx.cell? ⟨g, o + q * 2, none⟩ = some (.int .i64 yr) := by
        rw [cell_of_row _ _ _ _ _ _ hgx]
        have := cells_at hb5 (j := q * 2 + 0) (by omega)
        rw [ces_at l q 0 hlt (by omega), ← hy] at this
        exact this
      have d1 : wx.cell? ⟨g, o + q * 2 + 1, none⟩ = some (.int .i64 yk) := by
        rw [cell_of_row _ _ _ _ _ _ hgx]
        have := cells_at hb5 (j := q * 2 + 1) (by omega)
        rw [ces_at l q 1 hlt (by omega), ← hy] at this
        exact this
      have hr2 : wx.rangeAt g (o + q * 2) (#[.int .i64 yr, .int .i64 yk] : Array Value).toList := range2 d0 d1
      have HC := hid (drop1_any ⟨yr, yk⟩ b id wx (by rw [HLo.out.cell (p := ⟨b, 0, none⟩) hbl]; exact HB.out))
      have hw1 : IntKind.i64.wrap ((q : Int) + 1) = (q : Int) + 1 := by rw [IntKind.wrap_i64]; omega
      obtain ⟨c, hc⟩ : ∃ c, c = (yk == id) := ⟨_, rfl⟩
      have HC' : Hid (Calls Tryd.prog 35 #[ev ⟨yr, yk⟩, .pointer (some ⟨b, 0, none⟩)] wx fun r w' => r = .returned (.bool c) ∧ Below w.heap.size w w') := HC.out.mono fun r w' ⟨h1, h2⟩ => ⟨by rw [hc]; exact h1, HLo.out.trans (h2.mono HLo.out.size)⟩
      have HY := hid hy
      have HCc := hid hc
      clear hx he hb1 hb2 hb3 hb4 hb5 hgl hgx hy hc HC d0 d1
      cases c with
      | true =>
        go_wp2_with (first
          | (refine ldMid 61 (.tmp 14) rfl rfl g (o + q * 2) rfl #[.int .i64 yr, .int .i64 yk] _ Tryd.underlying61 rfl sizeE2 hr2 ?_)
          | (refine callCl 35 (.tmp 11) [.tmp 15] _ [ev ⟨yr, yk⟩] [.pointer (some ⟨b, 0, none⟩)] rfl rfl rfl rfl entD1 _ HC'.out ?_; rintro r w5 ⟨rfl, hb5⟩; refine Or.inl ⟨_, rfl, ?_⟩; have HB5 := hid hb5; clear hb5 HC'))
        go_ret
        exact Ix.yes HB5.out hlt HFi.out (by rw [← HY.out]; exact HCc.out.symm)
      | false =>
        go_wp2_with (first
          | (refine ldMid 61 (.tmp 14) rfl rfl g (o + q * 2) rfl #[.int .i64 yr, .int .i64 yk] _ Tryd.underlying61 rfl sizeE2 hr2 ?_)
          | (refine callCl 35 (.tmp 11) [.tmp 15] _ [ev ⟨yr, yk⟩] [.pointer (some ⟨b, 0, none⟩)] rfl rfl rfl rfl entD1 _ HC'.out ?_; rintro r w5 ⟨rfl, hb5⟩; refine Or.inl ⟨_, rfl, ?_⟩; have HB5 := hid hb5; clear hb5 HC'))
        go_roundw
        case rel =>
          refine ⟨q + 1, by omega, by go_num, HB5.out, fun j hj hjq => ?_⟩
          by_cases e : j = q
          · subst e; rw [← HY.out]; exact HCc.out.symm
          · exact HFi.out j hj (by omega)
        case measure => simp [intOf]; omega
    · obtain rfl : q = l.length := by omega
      have hql : decide ((l.length : Int) < (l.length : Int)) = false := by simp
      go_wp2
      go_ret
      exact Ix.no HLo.out HFi.out
end Go.Proofs.YtimenbkfkdpdcaaDoor
