/-
  Proved here: a row of slices is appended to a row of slices. Condition: the rows have fewer than 2 to 31 together.
-/
import Derived.Test.YtijjcopglbcoiaaM2
import Derived.Deep.Upon
namespace Go.Proofs.Ytijjcopglbcoiaa
open Go.RowKit Seal

theorem Sp.addr {S T : Nat → Prop} {w : World} {v : Value} {ll : List (List Int)} (h : Sp S T w v ll) : ∃ ao cap, v = .slice ao ll.length cap := by
  obtain ⟨ao, cap, h, _⟩ := h.form
  exact ⟨ao, cap, h⟩
theorem setCells_heap (b : Nat) : ∀ (vs : List Value) (o : Nat) (w : World) (cur : Array Value) (t : TypeId), w.heap[b]? = some (.cells cur t (0, 0)) → ∃ cur', (w.setCells b o vs).heap[b]? = some (.cells cur' t (0, 0)) ∧ cur'.size = cur.size ∧ (∀ i, i < o → cur'[i]? = cur[i]?) ∧ (∀ i, i < vs.length → o + vs.length ≤ cur.size → cur'[o + i]? = vs[i]?)
  | [], o, w, cur, t, h => ⟨cur, h, rfl, fun _ _ => rfl, fun i hi => by simp at hi⟩
  | v :: r, o, w, cur, t, h => by
    have h1 := heap_setCell_same w b o cur t v h
    obtain ⟨cur', h2, h3, h4, h5⟩ := setCells_heap b r (o + 1) (w.setCell ⟨b, o, none⟩ v) _ t h1
    refine ⟨cur', h2, by rw [h3]; simp, fun i hi => ?_, fun i hi hs => ?_⟩
    · rw [h4 i (by omega), Array.getElem?_setIfInBounds, if_neg (by omega)]
    · rw [List.length_cons] at hi hs
      cases i with
      | zero =>
        rw [Nat.add_zero, h4 o (by omega), Array.getElem?_setIfInBounds, if_pos rfl, if_pos (by omega)]; rfl
      | succ i =>
        rw [show o + (i + 1) = o + 1 + i by omega, h5 i (by omega) (by simp; omega)]; rfl
theorem setCells_below (b : Nat) : ∀ (vs : List Value) (o : Nat) (w : World), (w.setCells b o vs).os = w.os ∧ (w.setCells b o vs).tape = w.tape ∧ (w.setCells b o vs).output = w.output ∧ w.heap.size ≤ (w.setCells b o vs).heap.size ∧ ∀ k, k ≠ b → (w.setCells b o vs).heap[k]? = w.heap[k]?
  | [], _, _ => ⟨rfl, rfl, rfl, Nat.le_refl _, fun _ _ => rfl⟩
  | v :: r, o, w => by
    have h := setCells_below b r (o + 1) (w.setCell ⟨b, o, none⟩ v)
    have hb : Below 0 w (w.setCell ⟨b, o, none⟩ v) := (Below.refl 0 w).setCell (p := ⟨b, o, none⟩) (Nat.zero_le _) v
    exact ⟨h.1.trans hb.os, h.2.1.trans hb.tape, h.2.2.1.trans hb.output, Nat.le_trans hb.size h.2.2.2.1, fun k hk => (h.2.2.2.2 k hk).trans (heap_setCell_other w ⟨b, o, none⟩ k v hk)⟩
theorem getD_appR (ll ms : List (List Int)) (j : Nat) (h : ll.length ≤ j) : (ll ++ ms).getD j [] = ms.getD (j - ll.length) [] := by
  simp only [List.getD_eq_getElem?_getD, List.getElem?_append_right h]
theorem getD_appL (ll ms : List (List Int)) (j : Nat) (h : j < ll.length) : (ll ++ ms).getD j [] = ll.getD j [] := by
  simp only [List.getD_eq_getElem?_getD, List.getElem?_append_left h]

theorem run_sp_appL {S T : Nat → Prop} {w : World} {v u : Value} {ll ms : List (List Int)} (ty : TypeId) (h : Sp S T w v ll) (hu : Ls T w u ms) (hd : ∀ k, v.ownBlock = some k → ¬ T k) (hl : ll.length + ms.length < 2147483648) :
    ∃ v' w', (Builtin.append_ #[30, 30] ty #[v, u]).run Try.prog w = .ok v' w' ∧ Apd w v w' ∧ Sp (fun k => S k ∨ w.heap.size ≤ k) T w' v' (ll ++ ms) := by
  obtain ⟨i, hi, hz0, hz1, hz2⟩ := info_parts infoB
  obtain ⟨uo, uc, rfl, hu1, hu2, hu3, hu4⟩ := hu
  by_cases hms : ms = []
  · subst hms
    obtain ⟨ao, cap, rfl⟩ := h.addr
    have hn : (Builtin.append_ #[30, 30] ty #[.slice ao ll.length cap, .slice uo 0 uc]).run Try.prog w = .ok (.slice ao ll.length cap) w := by
      have hle : ll.length ≤ cap := by
        obtain ⟨_, _, e, hle, _⟩ := h.form
        simp only [Value.slice.injEq] at e
        omega
      have hsrc : Src Try.prog i.size 30 (.slice uo 0 uc) 0 [] w := by
        cases uo with
        | none => exact Src.ofNil w Try.underlying30 uc
        | some a => exact Src.ofSlice w Try.underlying30 a 0 uc [] (by simp) (fun j u h => by simp at h) (fun u h => by cases h)
      exact run_append_nothing w 30 30 ty 31 i Try.underlying30 hi ao ll.length cap hle _ hsrc
    refine ⟨_, _, hn, ⟨rfl, rfl, rfl, Nat.le_refl _, fun _ _ _ => rfl⟩, ?_⟩
    rw [List.append_nil]
    exact h.carry (fun _ _ h => ⟨Or.inl h, rfl⟩) (fun _ _ h => ⟨h, rfl⟩)
  · obtain ⟨b, o, hTb, rfl, hcl⟩ := hu4 hms
    have hm0 : 0 < ms.length := List.length_pos_iff.2 hms
    -- the slices themselves
    obtain ⟨us, hul, hus⟩ : ∃ us : List Value, us.length = ms.length ∧ ∀ j, j < ms.length → ∃ x, us[j]? = some x ∧ w.cell? ⟨b, o + j, none⟩ = some x ∧ SlC T w x (ms.getD j []) := by
      refine ⟨(List.range ms.length).map fun j => (w.cell? ⟨b, o + j, none⟩).getD (.slice none 0 0), by simp, fun j hj => ?_⟩
      obtain ⟨x, hx, hs⟩ := hcl j hj
      exact ⟨x, by simp [hj, hx], hx, hs⟩
    have hnews : ∀ j x, us[j]? = some x → w.cell? (Addr.add ⟨b, o, none⟩ j) = some x := by
      intro j x hx
      have hj : j < ms.length := by rw [← hul]; exact (List.getElem?_eq_some_iff.1 hx).1
      obtain ⟨y, hy, hc, _⟩ := hus j hj
      rw [Addr.add_lit, hc]
      rw [hx] at hy; exact hy.symm
    have h1 : ∀ x ∈ us, x.oneCell' = true := by
      intro x hx
      obtain ⟨j, hj, rfl⟩ := List.getElem_of_mem hx
      obtain ⟨y, hy, _, hs⟩ := hus j (by omega)
      rw [List.getElem?_eq_getElem hj] at hy
      cases hy
      exact hs.one
    have hlen : (ll ++ ms).length = ll.length + ms.length := List.length_append
    have hun : us.length = ms.length * 1 := by omega
    rcases h with ⟨rfl, rfl⟩ | ⟨g, og, cap, cur, rfl, h2, h3, h4, h5, h6⟩
    · obtain ⟨v', w', hr, ho, hg, _⟩ := run_append_own (P := Try.prog) w w.heap.size 30 ty 31 i (.slice none 0 0) 1 24 Try.underlying30 hi hz0 hz1 hz2 rfl (by decide) nilS 0 [] (World.ownsRow_nil _ _ _ _) ⟨b, o, none⟩ ms.length uc us hun hnews h1 (by unfold maxLen; omega) (by simp at hl; omega) (Nat.le_refl _)
      refine ⟨v', w', hr, ⟨hg.os, hg.tape, hg.output, hg.size, fun k hk hne => hg.block k hk (by simp [Value.ownBlock])⟩, ?_⟩
      have hcar : ∀ k, k < w.heap.size → T k → T k ∧ w'.heap[k]? = w.heap[k]? := fun k hk hk2 => ⟨hk2, hg.block k hk (by simp [Value.ownBlock])⟩
      rcases ho.2 with ⟨_, e⟩ | ⟨g', cap', cur', rfl, hb', hg', hc1, hc2, hc3, hc4⟩
      · omega
      · refine Or.inr ⟨g', 0, cap', cur', by simp, Or.inr hb', hg', by simpa using hc1, by simpa using Nat.le_of_eq hc3.symm, fun j hj => ?_⟩
        rw [List.nil_append] at hj ⊢
        obtain ⟨x, hx, _, hs⟩ := hus j hj
        refine ⟨x, ?_, hs.carry hcar⟩
        have := congrArg (·[j]?) hc4
        simp only [List.nil_append] at this
        rw [List.getElem?_take, if_pos (by omega), hx] at this
        simpa using this
    · by_cases hroom : ll.length + ms.length ≤ cap
      · have hcell : ∀ j, j < us.length → (w.cell? ⟨g, og + ll.length * i.size + j, none⟩).isSome = true := by
          intro j hj
          rw [hz1, cell_of_row w g _ cur 31 (0, 0) h3, Array.getElem?_eq_getElem (by omega)]; rfl
        have hfr : ∀ j, j < us.length → w.frozen? ⟨g, og + ll.length * i.size + j, none⟩ = false := by
          intro j _
          simp [World.frozen?, h3]
        have hr := run_append_room_cells (P := Try.prog) w 30 ty 31 i Try.underlying30 hi g og ll.length cap ⟨b, o, none⟩ ms.length uc us (by rw [hz1]; exact hun) hnews h1 hroom hcell hfr
        rw [hz1, Nat.mul_one] at hr
        obtain ⟨cur', e1, e2, e3, e4⟩ := setCells_heap g us (og + ll.length) w cur 31 h3
        have hb := setCells_below g us (og + ll.length) w
        have hTd : ¬ T g := hd g (by simp [Value.ownBlock])
        have hcar : ∀ k, k < w.heap.size → T k → T k ∧ (w.setCells g (og + ll.length) us).heap[k]? = w.heap[k]? := fun k _ hk => ⟨hk, hb.2.2.2.2 k (fun e => hTd (e ▸ hk))⟩
        refine ⟨_, _, hr, ⟨hb.1, hb.2.1, hb.2.2.1, hb.2.2.2.1, fun k _ hne => hb.2.2.2.2 k (fun e => hne (by simp [Value.ownBlock, e]))⟩, ?_⟩
        refine Or.inr ⟨g, og, cap, cur', by rw [hlen], Or.inl h2, e1, by rw [hlen]; exact hroom, by omega, fun j hj => ?_⟩
        rw [hlen] at hj
        by_cases hjl : j < ll.length
        · obtain ⟨x, hx, hc⟩ := h6 j hjl
          exact ⟨x, by rw [e3 (og + j) (by omega)]; exact hx, by rw [getD_appL _ _ _ hjl]; exact hc.carry hcar⟩
        · obtain ⟨x, hx, _, hs⟩ := hus (j - ll.length) (by omega)
          refine ⟨x, ?_, by rw [getD_appR _ _ _ (by omega)]; exact hs.carry hcar⟩
          have := e4 (j - ll.length) (by omega) (by omega)
          rw [show og + ll.length + (j - ll.length) = og + j by omega] at this
          rw [this]; exact hx
      · have holds : ∀ j x, ((cur.toList.drop og).take ll.length)[j]? = some x → w.cell? (Addr.add ⟨g, og, none⟩ j) = some x := by
          intro j x hx
          rw [Addr.add_lit, cell_of_row w g _ cur 31 (0, 0) h3]
          rw [List.getElem?_take] at hx
          split at hx
          · rw [List.getElem?_drop] at hx; simpa using hx
          · cases hx
        obtain ⟨v', w', hr, ho, hg⟩ := run_append_arg_grows (P := Try.prog) w 30 ty 31 i (.slice none 0 0) 1 24 Try.underlying30 hi hz0 hz1 hz2 rfl (by decide) ⟨g, og, none⟩ ll.length cap ((cur.toList.drop og).take ll.length) (by simp; omega) holds ⟨b, o, none⟩ ms.length uc us hun hnews (by omega) (by unfold maxLen; omega) (by omega)
        have hcar : ∀ k, k < w.heap.size → T k → T k ∧ w'.heap[k]? = w.heap[k]? := fun k hk hk2 => ⟨hk2, hg.block k hk (by simp)⟩
        refine ⟨v', w', hr, ⟨hg.os, hg.tape, hg.output, hg.size, fun k hk _ => hg.block k hk (by simp)⟩, ?_⟩
        rcases ho.2 with ⟨_, e⟩ | ⟨g', cap', cur', rfl, hb', hg', hc1, hc2, hc3, hc4⟩
        · omega
        · refine Or.inr ⟨g', 0, cap', cur', by rw [hlen], Or.inr hb', hg', by rw [hlen]; exact hc1, by simpa using Nat.le_of_eq hc3.symm, fun j hj => ?_⟩
          rw [hlen] at hj
          have hat : cur'[0 + j]? = ((cur.toList.drop og).take ll.length ++ us)[j]? := by
            rw [← hc4, List.getElem?_take, if_pos (by omega), Nat.zero_add]; simp
          have hll : ((cur.toList.drop og).take ll.length).length = ll.length := by simp; omega
          by_cases hjl : j < ll.length
          · obtain ⟨x, hx, hc⟩ := h6 j hjl
            refine ⟨x, ?_, by rw [getD_appL _ _ _ hjl]; exact hc.carry hcar⟩
            rw [hat, List.getElem?_append_left (by omega), List.getElem?_take, if_pos (by omega), List.getElem?_drop]
            simpa using hx
          · obtain ⟨x, hx, _, hs⟩ := hus (j - ll.length) (by omega)
            refine ⟨x, ?_, by rw [getD_appR _ _ _ (by omega)]; exact hs.carry hcar⟩
            rw [hat, List.getElem?_append_right (by omega), hll]; exact hx

/-- A row of slices is appended, in a walk. -/
theorem appL {ops : Array Oper} {rest : List Oper} {o : Oper} {a : Act} {w : World} {Q : Exit → Act → World → Prop} (s x : Operand) (ho : o.op = .call { callee := .builtin .append, args := #[s, x], argTypes := #[30, 30] })
    (hw : Region.wanted o (yielded ops a.tmps) = true) {S T : Nat → Prop} {v u : Value} {ll ms : List (List Int)} (hs : a.eval s = v) (hx : a.eval x = u) (h : Sp S T w v ll) (hu : Ls T w u ms) (hd : ∀ k, v.ownBlock = some k → ¬ T k) (hl : ll.length + ms.length < 2147483648)
    (hK : ∀ v' w', Apd w v w' → Sp (fun k => S k ∨ w.heap.size ≤ k) T w' v' (ll ++ ms) → wpList Try.prog ops Q rest (a.put o.dst v') w') : wpList Try.prog ops Q (o :: rest) a w := by
  obtain ⟨v', w', hr, h1, h2⟩ := run_sp_appL (ty := o.type) h hu hd hl
  unfold wpList
  rw [if_pos hw]
  refine Or.inl ?_
  unfold Oper.wp execOp
  simp only [ho, resolve, invoke, builtin, Sem.run_bind, Sem.run_pure, Result.andThen_ok, List.map_toArray, List.map_cons, List.map_nil, hs, hx, hr]
  exact hK v' w' h1 h2
end Go.Proofs.Ytijjcopglbcoiaa
