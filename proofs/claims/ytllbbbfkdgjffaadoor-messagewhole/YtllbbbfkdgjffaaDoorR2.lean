/-
  Proved here: a thing of k cells is appended to a row that the call owns; lists that grow. Condition: the row has fewer than 2 to 31.
-/
import Derived.Test.YtllbbbfkdgjffaaDoorR1
import Derived.Test.YtllbbbfkdgjffaaDoorG1
namespace Go.Proofs.YtllbbbfkdgjffaaDoor
open Go.RowKit

/-- One thing of size cells is appended to an owned row. -/
theorem run_appG (t ty e : TypeId) (i : TypeInfo) (z : Value) (size bytes : Nat) (ht : Tryd.prog.underlying t = some (.slice e)) (hi : Tryd.prog.info? e = some i) (hz : i.zero = some z) (hsize : i.size = size) (hby : i.bytes = bytes) (hzs : z.cells.size = size) (hsz : 0 < size)
    {base n b : Nat} {w : World} {v : Value} {xs news : List Value} (hown : w.ownsRow base e size v n xs) (hl : news.length = size) (hnews : ∀ j u, news[j]? = some u → w.cell? ⟨b, j, none⟩ = some u) (h1 : ∀ u ∈ news, u.oneCell' = true) (hbase : base ≤ w.heap.size) (hn : n < 2147483648) (hb : bytes ≤ 1000) :
    ∃ v' w', (Builtin.append_ #[t, t] ty #[v, .slice (some ⟨b, 0, none⟩) 1 1]).run Tryd.prog w = .ok v' w' ∧ w'.ownsRow base e size v' (n + 1) (xs ++ news) ∧ w.grownBy w' v.ownBlock ∧ ∀ k, v'.ownBlock = some k → k < w.heap.size → v.ownBlock = some k := by
  have hnews' : ∀ j u, news[j]? = some u → w.cell? (Addr.add ⟨b, 0, none⟩ j) = some u := fun j u h => by rw [Addr.add_lit, Nat.zero_add]; exact hnews j u h
  have hby2 : (n + 1) * bytes ≤ 140737488355328 := by
    have : (n + 1) * bytes ≤ 2147483648 * 1000 := Nat.mul_le_mul (by omega) hb
    omega
  rcases hown.2 with ⟨rfl, h0⟩ | ⟨g, cap, cur, rfl, hbg, hg, hcap, hmax, hcs, htake⟩
  · obtain ⟨v', w', hr, h2, h3, _⟩ := run_append_own (P := Tryd.prog) w w.heap.size t ty e i z size bytes ht hi hz hsize hby hzs hsz nilS 0 [] (World.ownsRow_nil _ _ _ _) ⟨b, 0, none⟩ 1 1 news (by omega) hnews' h1 (by unfold maxLen; omega) (by omega) (Nat.le_refl _)
    have hx : xs = [] := by
      have := hown.1
      rw [h0] at this
      exact List.length_eq_zero_iff.1 (by simpa using this)
    subst hx
    subst h0
    refine ⟨v', w', hr, ?_, h3, fun k hk hlt => ?_⟩
    · refine ⟨h2.1, ?_⟩
      rcases h2.2 with h | ⟨g', cap', cur', rfl, hb', r⟩
      · exact Or.inl h
      · exact Or.inr ⟨g', cap', cur', rfl, by omega, r⟩
    · exact absurd (h2.lt k hk).1 (by omega)
  · by_cases hroom : n + 1 ≤ cap
    · obtain ⟨w', hr, h2, h3⟩ := run_append_fits (P := Tryd.prog) w base t ty e i size ht hi hsize g n cap _ hown ⟨b, 0, none⟩ 1 1 news (by omega) hnews' h1 hroom
      exact ⟨_, w', hr, h2, h3, fun k hk _ => hk⟩
    · obtain ⟨v', w', hr, h2, h3⟩ := run_append_arg_grows (P := Tryd.prog) w t ty e i z size bytes ht hi hz hsize hby hzs hsz ⟨g, 0, none⟩ n cap xs hown.1 (hown.cells rfl) ⟨b, 0, none⟩ 1 1 news (by omega) hnews' (by omega) (by unfold maxLen; omega) hby2
      refine ⟨v', w', hr, ?_, ⟨h3.os, h3.tape, h3.output, h3.size, fun k hk _ => h3.block k hk (by simp)⟩, fun k hk hlt => absurd (h2.lt k hk).1 (by omega)⟩
      refine ⟨h2.1, ?_⟩
      rcases h2.2 with h' | ⟨g', cap', cur', e', hb', r⟩
      · exact Or.inl h'
      · exact Or.inr ⟨g', cap', cur', e', by omega, r⟩
/-- The same, in a walk. -/
theorem appG {ops : Array Oper} {rest : List Oper} {o : Oper} {a : Act} {w : World} {Q : Exit → Act → World → Prop} (t e : TypeId) (s x : Operand) (ho : o.op = .call { callee := .builtin .append, args := #[s, x], argTypes := #[t, t] }) (hw : Region.wanted o (yielded ops a.tmps) = true)
    (i : TypeInfo) (z : Value) (size bytes : Nat) (ht : Tryd.prog.underlying t = some (.slice e)) (hi : Tryd.prog.info? e = some i) (hz : i.zero = some z) (hsize : i.size = size) (hby : i.bytes = bytes) (hzs : z.cells.size = size) (hsz : 0 < size)
    {base n b : Nat} {v : Value} {xs news : List Value} (hs : a.eval s = v) (hx : a.eval x = .slice (some ⟨b, 0, none⟩) 1 1) (hown : w.ownsRow base e size v n xs) (hl : news.length = size) (hnews : ∀ j u, news[j]? = some u → w.cell? ⟨b, j, none⟩ = some u) (h1 : ∀ u ∈ news, u.oneCell' = true) (hbase : base ≤ w.heap.size) (hn : n < 2147483648) (hb : bytes ≤ 1000)
    (h : ∀ v' w', w'.ownsRow base e size v' (n + 1) (xs ++ news) → w.grownBy w' v.ownBlock → (∀ k, v'.ownBlock = some k → k < w.heap.size → v.ownBlock = some k) → wpList Tryd.prog ops Q rest (a.put o.dst v') w') : wpList Tryd.prog ops Q (o :: rest) a w := by
  obtain ⟨v', w', hr, g1, g2, g3⟩ := run_appG t o.type e i z size bytes ht hi hz hsize hby hzs hsz hown hl hnews h1 hbase hn hb
  unfold wpList
  rw [if_pos hw]
  refine Or.inl ?_
  unfold Oper.wp execOp
  simp only [ho, resolve, invoke, builtin, Sem.run_bind, Sem.run_pure, Result.andThen_ok, List.map_toArray, List.map_cons, List.map_nil, hs, hx, hr]
  exact h v' w' g1 g2 g3

section
variable {α : Type}
/-- A list of things of k cells that the call owns, and may append to. -/
def Apl (base : Nat) (e : TypeId) (k : Nat) (R : World → (Nat → Option Value) → α → Prop) (w : World) (v : Value) (l : List α) : Prop :=
  ∃ vs : List Value, w.ownsRow base e k v l.length vs ∧ ∀ j (hj : j < l.length), R w (fun i => vs[j * k + i]?) l[j]
/-- The own blocks' others. -/
abbrev TI (base : Nat) (w : World) (v : Value) : Nat → Prop := fun x => (base ≤ x ∧ x < w.heap.size) ∧ v.ownBlock ≠ some x
theorem Apl.nil (base : Nat) (e : TypeId) (k : Nat) (R : World → (Nat → Option Value) → α → Prop) (w : World) : Apl base e k R w nilS ([] : List α) := ⟨[], World.ownsRow_nil _ _ _ _, fun j hj => by simp at hj⟩
/-- The world goes on, the list's own block stays. -/
theorem Apl.on {base : Nat} {e : TypeId} {k : Nat} {R R' : World → (Nat → Option Value) → α → Prop} {w w' : World} {v : Value} {l : List α} (h : Apl base e k R w v l) (hk : ∀ b, v.ownBlock = some b → w'.heap[b]? = w.heap[b]?) (hR : ∀ f x, R w f x → R' w' f x) : Apl base e k R' w' v l := by
  obtain ⟨vs, h1, h2⟩ := h
  refine ⟨vs, ⟨h1.1, ?_⟩, fun j hj => hR _ _ (h2 j hj)⟩
  rcases h1.2 with h | ⟨g, cap, cur, e1, hb, hg, hr⟩
  · exact Or.inl h
  · refine Or.inr ⟨g, cap, cur, e1, hb, ?_, hr⟩
    rw [hk g (by rw [e1]; rfl)]; exact hg
/-- A thing was appended. -/
theorem Apl.push {base : Nat} {e : TypeId} {k : Nat} {R : World → (Nat → Option Value) → α → Prop} {w : World} {v : Value} {l : List α} {vs news : List Value} {x : α} (hown : w.ownsRow base e k v (l.length + 1) (vs ++ news)) (hvs : vs.length = l.length * k) (_hnl : news.length = k) (hold : ∀ j (hj : j < l.length), R w (fun i => vs[j * k + i]?) l[j]) (hnew : R w (fun i => news[i]?) x)
    (hcg : ∀ f f' y, (∀ i, i < k → f i = f' i) → R w f y → R w f' y) : Apl base e k R w v (l ++ [x]) := by
  refine ⟨vs ++ news, by rw [List.length_append]; exact hown, fun j hj => ?_⟩
  rw [List.length_append, List.length_singleton] at hj
  by_cases hlt : j < l.length
  · rw [List.getElem_append_left hlt]
    refine hcg _ _ _ (fun i hi => ?_) (hold j hlt)
    have : j * k + i < vs.length := by
      rw [hvs]
      have : (j + 1) * k ≤ l.length * k := Nat.mul_le_mul_right k hlt
      rw [Nat.add_mul] at this; omega
    rw [List.getElem?_append_left this]
  · have hjl : j = l.length := by omega
    subst hjl
    rw [List.getElem_append_right (Nat.le_refl _)]
    simp only [Nat.sub_self, List.getElem_cons_zero]
    refine hcg _ _ _ (fun i hi => ?_) hnew
    rw [List.getElem?_append_right (by rw [hvs]; omega), hvs]
    congr 1
    omega
/-- It may be read. -/
theorem Apl.lst {base : Nat} {e : TypeId} {k : Nat} {R R' : World → (Nat → Option Value) → α → Prop} {T : Nat → Prop} {w : World} {v : Value} {l : List α} (h : Apl base e k R w v l) (hl : l.length ≤ 140737488355328) (hT : ∀ b, base ≤ b → b < w.heap.size → T b) (hcg : ∀ f f' y, (∀ i, i < k → f i = f' i) → R w f y → R' w f' y) : Lst T k R' w v l := by
  obtain ⟨vs, h1, h2⟩ := h
  have hcs : ∀ g n c, v = .slice (some ⟨g, 0, none⟩) n c → ∀ j u, vs[j]? = some u → w.cell? ⟨g, j, none⟩ = some u := fun g n c hv j u hu => by
    have := h1.cells (show v.ownBlock = some g by rw [hv]; rfl) j u hu
    rw [Addr.add_lit, Nat.zero_add] at this
    exact this
  have hlen := h1.1
  rcases h1.2 with ⟨rfl, h0⟩ | ⟨g, cap, cur, rfl, hb, hg, hc, hm, hsz, ht⟩
  · have : l = [] := List.length_eq_zero_iff.1 h0
    subst this
    exact Lst.nil _ _ _ _
  · refine ⟨_, cap, rfl, hc, hl, (fun h => by cases h), fun _ => ⟨g, 0, hT g hb (Array.getElem?_eq_some_iff.1 hg).1, rfl, fun j hj => ?_⟩⟩
    refine hcg _ _ _ (fun i hi => ?_) (h2 j hj)
    have hlt : j * k + i < vs.length := by
      rw [hlen]
      have : (j + 1) * k ≤ l.length * k := Nat.mul_le_mul_right k hj
      rw [Nat.add_mul] at this; omega
    rw [Nat.zero_add, hcs g _ _ rfl (j * k + i) _ (List.getElem?_eq_getElem hlt), List.getElem?_eq_getElem hlt]
end
theorem map_app {α : Type} {o : Option (List α × List Int)} {ms : List α} {x : α} : (o.map fun q => (x :: q.1, q.2)).map (fun q => (ms ++ q.1, q.2)) = o.map fun q => ((ms ++ [x]) ++ q.1, q.2) := by
  cases o <;> simp
end Go.Proofs.YtllbbbfkdgjffaaDoor
