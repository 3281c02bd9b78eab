/-
  Laws of our own: an append of whatever slice, nil too; lists of settings and of rows as rows of cells, both ways. No condition.
-/
import Derived.Test.YtggbokghhohofaaDoorB3
import Derived.Deep.Upon
namespace Go.Proofs.YtggbokghhohofaaDoor
open Go.RowKit

theorem Rw.room {S : Nat → Prop} {k t : Nat} {w : World} {v : Value} {n : Nat} {xs : List Value} (h : Rw S k t w v n xs) : ∃ ao cap, v = .slice ao n cap ∧ n ≤ cap := by
  rcases h.2 with ⟨rfl, rfl⟩ | ⟨g, o, cap, cur, rfl, _, _, h4, _⟩
  · exact ⟨_, _, rfl, Nat.le_refl _⟩
  · exact ⟨_, _, rfl, h4⟩
/-- WHATEVER IS APPENDED. -/
theorem run_rw_all {S : Nat → Prop} {k t by' : Nat} {w : World} {v z : Value} {n m c : Nat} {xs us : List Value} {ao : Option Addr} (tt ty : TypeId) (hu : Tryd.prog.underlying tt = some (.slice t)) (hinfo : (Tryd.prog.info? t).map (fun i => (i.zero, i.size, i.bytes)) = some (some z, k, by')) (hzs : z.cells.size = k) (hk : 0 < k) (hby : by' ≤ 4096)
    (h : Rw S k t w v n xs) (hul : us.length = m * k) (hnews : m ≠ 0 → ∃ a, ao = some a ∧ ∀ j x, us[j]? = some x → w.cell? (a.add j) = some x) (h1 : ∀ x ∈ us, x.oneCell' = true) (hl : n + m < 2147483648) :
    ∃ v' w', (Builtin.append_ #[tt, tt] ty #[v, .slice ao m c]).run Tryd.prog w = .ok v' w' ∧ Apd w v w' ∧ Rw (fun b => S b ∨ w.heap.size ≤ b) k t w' v' (n + m) (xs ++ us) := by
  by_cases hm : m = 0
  · subst hm
    obtain ⟨i, hi, -, -, -⟩ := info_parts hinfo
    obtain ⟨a0, cap, rfl, hle⟩ := h.room
    have hus : us = [] := List.length_eq_zero_iff.1 (by rw [hul]; simp)
    subst hus
    have hsrc : Src Tryd.prog i.size tt (.slice ao 0 c) 0 [] w := by
      cases ao with
      | none => exact Src.ofNil w hu c
      | some a => exact Src.ofSlice w hu a 0 c [] (by simp) (fun j u h => by simp at h) (fun u h => by cases h)
    refine ⟨_, _, run_append_nothing w tt tt ty t i hu hi a0 n cap hle _ hsrc, ⟨rfl, rfl, rfl, Nat.le_refl _, fun _ _ _ => rfl⟩, ?_⟩
    rw [List.append_nil]
    exact h.carry fun b _ hS => ⟨Or.inl hS, rfl⟩
  · obtain ⟨a, rfl, hc⟩ := hnews hm
    exact run_rw_app (c := c) tt ty hu hinfo hzs hk hby h hul hc h1 hl (Or.inl hm)
theorem appAll {ops : Array Oper} {rest : List Oper} {o : Oper} {a : Act} {w : World} {Q : Exit → Act → World → Prop} (s x : Operand) (tt : TypeId) (hop : o.op = .call { callee := .builtin .append, args := #[s, x], argTypes := #[tt, tt] }) (hw : Region.wanted o (yielded ops a.tmps) = true)
    {S : Nat → Prop} {k t by' n m c : Nat} {v z : Value} {xs us : List Value} {ao : Option Addr} (hs : a.eval s = v) (hx : a.eval x = .slice ao m c) (hu : Tryd.prog.underlying tt = some (.slice t)) (hinfo : (Tryd.prog.info? t).map (fun i => (i.zero, i.size, i.bytes)) = some (some z, k, by')) (hzs : z.cells.size = k) (hk : 0 < k) (hby : by' ≤ 4096)
    (h : Rw S k t w v n xs) (hul : us.length = m * k) (hnews : m ≠ 0 → ∃ a, ao = some a ∧ ∀ j x, us[j]? = some x → w.cell? (a.add j) = some x) (h1 : ∀ x ∈ us, x.oneCell' = true) (hl : n + m < 2147483648)
    (hK : ∀ v' w', Apd w v w' → Rw (fun b => S b ∨ w.heap.size ≤ b) k t w' v' (n + m) (xs ++ us) → wpList Tryd.prog ops Q rest (a.put o.dst v') w') : wpList Tryd.prog ops Q (o :: rest) a w := by
  obtain ⟨v', w', hr, hA, hR⟩ := run_rw_all (c := c) tt o.type hu hinfo hzs hk hby h hul hnews h1 hl
  unfold wpList
  rw [if_pos hw]
  refine Or.inl ?_
  unfold Oper.wp
  simp [execOp, hop, resolve, invoke, builtin, hs, hx, hr, Result.andThen]
  exact hK v' w' hA hR
/-- The same, in a region that draws its order. -/
theorem stepAll {ops : Array Oper} {o : Oper} {a : Act} {w : World} {K : Act → World → Prop} {Q : Exit → Act → World → Prop} {E : Prop} (s x : Operand) (tt : TypeId) (hop : o.op = .call { callee := .builtin .append, args := #[s, x], argTypes := #[tt, tt] }) (hw : Region.wanted o (yielded ops a.tmps) = true)
    {S : Nat → Prop} {k t by' n m c : Nat} {v z : Value} {xs us : List Value} {ao : Option Addr} (hs : a.eval s = v) (hx : a.eval x = .slice ao m c) (hu : Tryd.prog.underlying tt = some (.slice t)) (hinfo : (Tryd.prog.info? t).map (fun i => (i.zero, i.size, i.bytes)) = some (some z, k, by')) (hzs : z.cells.size = k) (hk : 0 < k) (hby : by' ≤ 4096)
    (h : Rw S k t w v n xs) (hul : us.length = m * k) (hnews : m ≠ 0 → ∃ a, ao = some a ∧ ∀ j x, us[j]? = some x → w.cell? (a.add j) = some x) (h1 : ∀ x ∈ us, x.oneCell' = true) (hl : n + m < 2147483648)
    (hK : ∀ v' w', Apd w v w' → Rw (fun b => S b ∨ w.heap.size ≤ b) k t w' v' (n + m) (xs ++ us) → K (a.put o.dst v') w') : if Region.wanted o (yielded ops a.tmps) = true then Oper.wp Tryd.prog o a w K Q else E := by
  rw [if_pos hw]
  obtain ⟨v', w', hr, hA, hR⟩ := run_rw_all (c := c) tt o.type hu hinfo hzs hk hby h hul hnews h1 hl
  unfold Oper.wp
  simp [execOp, hop, resolve, invoke, builtin, hs, hx, hr, Result.andThen]
  exact hK v' w' hA hR
theorem infACT : (Tryd.prog.info? 54).map (fun i => (i.zero, i.size, i.bytes)) = some (some (acv ⟨0, 0, 0⟩), 3, 16) := by kernel_rfl
theorem infACTS : (Tryd.prog.info? 52).map (fun i => (i.zero, i.size, i.bytes)) = some (some nilS, 1, 24) := by kernel_rfl
/-- The cells of actions. -/
def acL (l : List Ac) : List Value := l.flatMap fun a => (acl a).toList
theorem acL_len : ∀ l : List Ac, (acL l).length = l.length * 3
  | [] => rfl
  | a :: l => by
    rw [show acL (a :: l) = (acl a).toList ++ acL l from rfl, List.length_append, acL_len l]
    show 3 + l.length * 3 = (l.length + 1) * 3
    omega
theorem acL_at : ∀ (l : List Ac) (j i : Nat) (hj : j < l.length), i < 3 → (acL l)[j * 3 + i]? = (acl l[j])[i]?
  | a :: l, 0, i, _, hi => by
    rw [show acL (a :: l) = (acl a).toList ++ acL l from rfl, List.getElem?_append_left (by show 0 * 3 + i < 3; omega)]
    simp
  | a :: l, j + 1, i, hj, hi => by
    rw [show acL (a :: l) = (acl a).toList ++ acL l from rfl, List.getElem?_append_right (by show 3 ≤ _; omega)]
    rw [show (j + 1) * 3 + i - (acl a).toList.length = j * 3 + i by show (j + 1) * 3 + i - 3 = _; omega]
    exact acL_at l j i (by simpa using hj) hi
theorem acL_all (l : List Ac) : ∀ x ∈ acL l, x.oneCell' = true := by
  intro x hx
  simp only [acL, List.mem_flatMap] at hx
  obtain ⟨a, _, ha⟩ := hx
  simp at ha
  rcases ha with rfl | rfl | rfl <;> rfl
theorem Acs.src {T : Nat → Prop} {w : World} {ao : Option Addr} {n cap : Nat} {l : List Ac} (h : Acs T w (.slice ao n cap) l) : n = l.length ∧ (n ≠ 0 → ∃ a, ao = some a ∧ ∀ j x, (acL l)[j]? = some x → w.cell? (a.add j) = some x) := by
  have hn : n = l.length := by obtain ⟨_, _, e, _⟩ := h; simp only [Value.slice.injEq] at e; exact e.2.1
  refine ⟨hn, fun h0 => ?_⟩
  obtain ⟨b, o, rfl, -⟩ := h.cell 0 (by omega)
  refine ⟨_, rfl, fun j x hj => ?_⟩
  have hjl := (List.getElem?_eq_some_iff.1 hj).1
  rw [acL_len] at hjl
  obtain ⟨q, i, rfl, hi⟩ : ∃ q i, j = q * 3 + i ∧ i < 3 := ⟨j / 3, j % 3, by omega, Nat.mod_lt _ (by omega)⟩
  have hq : q < l.length := by omega
  obtain ⟨b', o', e', -, g0, g1, g2, -⟩ := h.cell q hq
  obtain ⟨rfl, rfl⟩ : b = b' ∧ o = o' := by simpa using e'
  rw [acL_at l q i hq hi] at hj
  rw [Addr.add_lit, show o + (q * 3 + i) = o + q * 3 + i by omega, ← hj]
  have hi' : i = 0 ∨ i = 1 ∨ i = 2 := by omega
  rcases hi' with rfl | rfl | rfl
  · exact g0
  · exact g1
  · exact g2
theorem Acs.fit {T : Nat → Prop} {w : World} {v : Value} {l : List Ac} (h : Acs T w v l) : ∀ a ∈ l, a.Fit := Lst.all h fun _ _ hx => hx.2.2.2
/-- Actions as a row. -/
theorem acs_of {S : Nat → Prop} {w : World} {v : Value} {l : List Ac} (h : Rw S 3 54 w v l.length (acL l)) (hf : ∀ a ∈ l, a.Fit) (hl : l.length ≤ 2147483648) : Acs S w v l := by
  rcases h.2 with ⟨rfl, h0⟩ | ⟨g, o, cap, cur, rfl, h2, h3, h4, h5, h6⟩
  · obtain rfl : l = [] := List.length_eq_zero_iff.1 h0
    exact Lst.nil _ _ _ _
  · refine ⟨_, cap, rfl, h4, by omega, (fun h => by cases h), fun _ => ⟨g, o, h2, rfl, fun j hj => ?_⟩⟩
    have hc : ∀ i, i < 3 → w.cell? ⟨g, o + j * 3 + i, none⟩ = (acl l[j])[i]? := fun i hi => by
      rw [cell_of_row _ _ _ _ _ _ h3, show o + j * 3 + i = o + (j * 3 + i) by omega, cells_at h6 (by omega), acL_at l j i hj hi]
    exact ⟨hc 0 (by omega), hc 1 (by omega), hc 2 (by omega), hf _ (List.getElem_mem hj)⟩
/-- The slices of copies. -/
theorem Cps.src {T : Nat → Prop} {w : World} {ao : Option Addr} {n cap : Nat} {c : List (List Ac)} (h : Cps T w (.slice ao n cap) c) : ∃ us : List Value, us.length = n ∧ n = c.length ∧ (∀ x ∈ us, x.oneCell' = true) ∧ (n ≠ 0 → ∃ a, ao = some a ∧ ∀ j x, us[j]? = some x → w.cell? (a.add j) = some x) ∧ ∀ j (hj : j < c.length), ∃ u, us[j]? = some u ∧ Acs T w u c[j] := by
  have hn : n = c.length := by obtain ⟨_, _, e, _⟩ := h; simp only [Value.slice.injEq] at e; exact e.2.1
  subst hn
  by_cases h0 : c.length = 0
  · exact ⟨[], by simp [h0], rfl, by simp, fun h' => absurd h0 h', fun j hj => by omega⟩
  · obtain ⟨b, o, rfl, -⟩ := h.cell 0 (by omega)
    have key : ∀ j, (hj : j < c.length) → ∃ u, w.cell? ⟨b, o + j, none⟩ = some u ∧ Acs T w u c[j] := fun j hj => by
      obtain ⟨b', o', e', -, u, g0, hu⟩ := h.cell j hj
      obtain ⟨rfl, rfl⟩ : b = b' ∧ o = o' := by simpa using e'
      simp only [Nat.add_zero, Nat.mul_one] at g0
      exact ⟨u, g0, hu⟩
    refine ⟨(List.range c.length).map fun j => (w.cell? ⟨b, o + j, none⟩).getD nilS, by simp, rfl, fun x hx => ?_, fun _ => ⟨_, rfl, fun j x hj => ?_⟩, fun j hj => ?_⟩
    · obtain ⟨j, hj, rfl⟩ := List.mem_map.1 hx
      obtain ⟨u, hu, hA⟩ := key j (List.mem_range.1 hj)
      obtain ⟨a1, c1, rfl, -⟩ := hA.form
      rw [hu]; rfl
    · have hjl := (List.getElem?_eq_some_iff.1 hj).1
      rw [List.length_map, List.length_range] at hjl
      obtain ⟨u, hu, hA⟩ := key j hjl
      rw [Addr.add_lit, hu, ← hj]
      simp [hjl, hu]
    · obtain ⟨u, hu, hA⟩ := key j hj
      exact ⟨u, by simp [hj, hu], hA⟩
theorem cps_of {S T : Nat → Prop} {w : World} {v : Value} {c : List (List Ac)} {us : List Value} (h : Rw S 1 52 w v c.length us) (ha : ∀ j (hj : j < c.length), ∃ u, us[j]? = some u ∧ Acs T w u c[j]) (hl : c.length ≤ 2147483648) (hS : ∀ b, S b → T b) : Cps T w v c := by
  rcases h.2 with ⟨rfl, h0⟩ | ⟨g, o, cap, cur, rfl, h2, h3, h4, h5, h6⟩
  · obtain rfl : c = [] := List.length_eq_zero_iff.1 h0
    exact Lst.nil _ _ _ _
  · refine ⟨_, cap, rfl, h4, by omega, (fun h => by cases h), fun _ => ⟨g, o, hS _ h2, rfl, fun j hj => ?_⟩⟩
    obtain ⟨u, hu, hA⟩ := ha j hj
    refine ⟨u, ?_, hA⟩
    show w.cell? ⟨g, o + j * 1 + 0, none⟩ = _
    rw [cell_of_row _ _ _ _ _ _ h3, show o + j * 1 + 0 = o + j by omega, cells_at h6 (by omega), hu]
/-- An empty row of one's own. -/
theorem rw_empty (S : Nat → Prop) (k t : Nat) (w : World) (hS : S w.heap.size) : Rw S k t (w.alloc (.cells #[] t)) (.slice (some ⟨w.heap.size, 0, none⟩) 0 0) 0 [] := ⟨by simp, Or.inr ⟨w.heap.size, 0, 0, #[], rfl, hS, heap_alloc_new _ _, by omega, by simp, by simp⟩⟩
end Go.Proofs.YtggbokghhohofaaDoor
