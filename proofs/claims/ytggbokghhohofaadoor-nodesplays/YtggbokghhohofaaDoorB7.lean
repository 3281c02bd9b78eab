/-
  Plain, and laws of our own: lists of things of k cells each as rows of cells (fl), one of them written over, a run of them cleared; what cpt leaves of one thing more. Condition where it is named: each thing has k cells.
-/
import Derived.Test.YtggbokghhohofaaDoorB6
import Derived.Lib.SliceRun
namespace Go.Proofs.YtggbokghhohofaaDoor
open Go.RowKit
set_option maxRecDepth 100000

section
variable {α : Type}
theorem cptA_snoc (q : α → α → Bool) (x : α) : ∀ (p : α) (l : List α), cptA q p (l ++ [x]) = if q x ((p :: l).getLast (by simp)) then cptA q p l else cptA q p l ++ [x]
  | p, [] => rfl
  | p, b :: l => by
    have ih := cptA_snoc q x b l
    rw [List.cons_append, cptA, cptA, ih, List.getLast_cons (by simp : b :: l ≠ [])]
    split <;> split <;> simp
theorem cpt_snoc (q : α → α → Bool) (x : α) (l : List α) (h : l ≠ []) : cpt q (l ++ [x]) = if q x (l.getLast h) then cpt q l else cpt q l ++ [x] := by
  cases l with
  | nil => exact absurd rfl h
  | cons a l =>
    rw [List.cons_append, cpt, cpt, cptA_snoc]
    split <;> simp
theorem cpt_take (q : α → α → Bool) (d : List α) (k : Nat) (h1 : 1 ≤ k) (h2 : k < d.length) : cpt q (d.take (k + 1)) = if q d[k] d[k - 1] then cpt q (d.take k) else cpt q (d.take k) ++ [d[k]] := by
  have hne : d.take k ≠ [] := fun e => by have := congrArg List.length e; rw [List.length_take, List.length_nil] at this; omega
  rw [List.take_succ_eq_append_getElem h2, cpt_snoc q _ _ hne]
  have : (d.take k).getLast hne = d[k - 1] := by
    rw [List.getLast_eq_getElem]
    simp only [List.length_take, Nat.min_eq_left (Nat.le_of_lt h2), List.getElem_take]
  rw [this]
theorem cpt_small (q : α → α → Bool) (d : List α) (h : d.length < 2) : cpt q d = d := by
  match d, h with
  | [], _ => rfl
  | [a], _ => rfl
/-- none of the first k is like the one ahead of it -/
def Sep (q : α → α → Bool) (d : List α) (k : Nat) : Prop := cpt q (d.take k) = d.take k
theorem Sep.one (q : α → α → Bool) (d : List α) : Sep q d 1 := cpt_small q _ (by simp; omega)
theorem Sep.more {q : α → α → Bool} {d : List α} {k : Nat} (h : Sep q d k) (h1 : 1 ≤ k) (h2 : k < d.length) (hq : q d[k] d[k - 1] = false) : Sep q d (k + 1) := by
  unfold Sep at *
  rw [cpt_take q d k h1 h2, hq, h, List.take_succ_eq_append_getElem h2]; rfl
theorem Sep.all {q : α → α → Bool} {d : List α} (h : Sep q d d.length) : cpt q d = d := by unfold Sep at h; rwa [List.take_length] at h
/-- where the inner loop is: the first m are done, c is what the cells hold -/
structure CpI (q : α → α → Bool) (d : List α) (m k : Nat) (c : List α) : Prop where
  len : c.length = d.length
  kl : (cpt q (d.take m)).length = k
  lt : k < m
  pre : c.take k = cpt q (d.take m)
  post : ∀ i (h : i < c.length) (h' : i < d.length), m ≤ i + 1 → c[i] = d[i]
theorem CpI.start {q : α → α → Bool} {d : List α} {k : Nat} (h : Sep q d k) (h1 : 1 ≤ k) (h2 : k < d.length) (hq : q d[k] d[k - 1] = true) : CpI q d (k + 1) k d := by
  have e : cpt q (d.take (k + 1)) = d.take k := by rw [cpt_take q d k h1 h2, hq]; exact h
  exact ⟨rfl, by rw [e]; simp; omega, by omega, e.symm, fun _ _ _ _ => rfl⟩
theorem CpI.skip {q : α → α → Bool} {d c : List α} {m k : Nat} (h : CpI q d m k c) (h1 : 1 ≤ m) (h2 : m < d.length) (hq : q d[m] d[m - 1] = true) : CpI q d (m + 1) k c := by
  have e : cpt q (d.take (m + 1)) = cpt q (d.take m) := by rw [cpt_take q d m h1 h2, hq]; rfl
  exact ⟨h.len, by rw [e]; exact h.kl, by have := h.lt; omega, by rw [e]; exact h.pre, fun i a b hi => h.post i a b (by omega)⟩
theorem CpI.keep {q : α → α → Bool} {d c : List α} {m k : Nat} (h : CpI q d m k c) (h1 : 1 ≤ m) (h2 : m < d.length) (hq : q d[m] d[m - 1] = false) : CpI q d (m + 1) (k + 1) (c.set k d[m]) := by
  have e : cpt q (d.take (m + 1)) = cpt q (d.take m) ++ [d[m]] := by rw [cpt_take q d m h1 h2, hq]; rfl
  have hl := h.lt
  have hc := h.len
  refine ⟨by simp [h.len], by rw [e]; simp [h.kl], by omega, ?_, fun i a b hi => ?_⟩
  · rw [e, ← h.pre]
    have hk : k < (c.set k d[m]).length := by simp; omega
    rw [List.take_succ_eq_append_getElem hk, List.take_set_of_le (Nat.le_refl k)]
    simp
  · rw [List.getElem_set]
    rw [if_neg (by omega)]
    exact h.post i (by simpa using a) b (by omega)
theorem CpI.fin {q : α → α → Bool} {d c : List α} {k : Nat} (h : CpI q d d.length k c) : c.take k = cpt q d ∧ (cpt q d).length = k := by
  have h1 := h.pre
  have h2 := h.kl
  rw [List.take_length] at h1 h2
  exact ⟨h1, h2⟩
/-- The cells of a list of things. -/
def fl (f : α → List Value) (l : List α) : List Value := l.flatMap f
theorem fl_len {f : α → List Value} {k : Nat} (hk : ∀ x, (f x).length = k) : ∀ l : List α, (fl f l).length = l.length * k
  | [] => by simp [fl]
  | a :: l => by
    rw [show fl f (a :: l) = f a ++ fl f l from rfl, List.length_append, fl_len hk l, hk, List.length_cons, Nat.add_mul, Nat.one_mul, Nat.add_comm]
theorem fl_at {f : α → List Value} {k : Nat} (hk : ∀ x, (f x).length = k) : ∀ (l : List α) (j i : Nat) (hj : j < l.length), i < k → (fl f l)[j * k + i]? = (f l[j])[i]?
  | a :: l, 0, i, _, hi => by
    rw [show fl f (a :: l) = f a ++ fl f l from rfl, List.getElem?_append_left (by rw [hk]; omega)]
    simp
  | a :: l, j + 1, i, hj, hi => by
    rw [show fl f (a :: l) = f a ++ fl f l from rfl, List.getElem?_append_right (by rw [hk, Nat.add_mul]; omega), hk]
    rw [show (j + 1) * k + i - k = j * k + i by rw [Nat.add_mul]; omega]
    exact fl_at hk l j i (by simpa using hj) hi
theorem fl_all {f : α → List Value} (h1 : ∀ x, ∀ u ∈ f x, u.oneCell' = true) (l : List α) : ∀ u ∈ fl f l, u.oneCell' = true := fun u hu => by
  simp only [fl, List.mem_flatMap] at hu
  obtain ⟨x, _, hx⟩ := hu
  exact h1 x u hx
theorem fl_take {f : α → List Value} {k : Nat} (hk : ∀ x, (f x).length = k) (l : List α) (n : Nat) : (fl f l).take (n * k) = fl f (l.take n) := by
  induction l generalizing n with
  | nil => simp [fl]
  | cons a l ih =>
    cases n with
    | zero => simp [fl]
    | succ n =>
      rw [show fl f (a :: l) = f a ++ fl f l from rfl, List.take_succ_cons, show fl f (a :: l.take n) = f a ++ fl f (l.take n) from rfl, ← ih n]
      rw [List.take_append, hk, show (n + 1) * k - k = n * k by rw [Nat.add_mul]; omega, List.take_of_length_le (by rw [hk, Nat.add_mul]; omega)]
end
/-- The first n of a slice's things. -/
theorem Rw.pre {α : Type} {f : α → List Value} {S : Nat → Prop} {k t : Nat} {w : World} {ao : Option Addr} {n m cap : Nat} {l : List α} (hk : ∀ x, (f x).length = k) (h : Rw S k t w (.slice ao n cap) n (fl f l)) (hl : l.length = n) (hm : m ≤ n) : Rw S k t w (.slice ao m cap) m (fl f (l.take m)) := by
  refine ⟨by rw [fl_len hk]; simp; rw [Nat.min_eq_left (by omega)], ?_⟩
  rcases h.ge with ⟨e, e0⟩ | ⟨g, o, cap', cur, e, h1, h2, h3, h4, h5⟩
  · simp only [Value.slice.injEq] at e
    obtain ⟨rfl, _, rfl⟩ := e
    obtain rfl : m = 0 := by omega
    exact Or.inl ⟨rfl, rfl⟩
  · simp only [Value.slice.injEq] at e
    obtain ⟨rfl, _, rfl⟩ := e
    refine Or.inr ⟨g, o, cap, cur, rfl, h1, h2, by omega, h4, ?_⟩
    have hmk : m * k ≤ n * k := Nat.mul_le_mul_right _ hm
    rw [← fl_take hk, ← h5, List.take_take, Nat.min_eq_left hmk]
/-- A range of a slice's things, and what stands in it. -/
theorem Rw.rg {α : Type} {f : α → List Value} {S : Nat → Prop} {k t : Nat} {w : World} {ao : Option Addr} {n cap : Nat} {l : List α} (hk : ∀ x, (f x).length = k) (h : Rw S k t w (.slice ao n cap) n (fl f l)) (hl : l.length = n) (j : Nat) (hj : j < l.length) : ∃ g o, ao = some ⟨g, o, none⟩ ∧ S g ∧ n ≤ cap ∧ g < w.heap.size ∧ w.rangeAt g (o + j * k) (f l[j]) := by
  rcases h.ge with ⟨_, e0⟩ | ⟨g, o, cap', cur, e, h1, h2, h3, h4, h5⟩
  · omega
  · simp only [Value.slice.injEq] at e
    obtain ⟨rfl, _, rfl⟩ := e
    refine ⟨g, o, rfl, h1, h3, (Array.getElem?_eq_some_iff.1 h2).1, fun i u hu => ?_⟩
    have hi : i < k := by have := (List.getElem?_eq_some_iff.1 hu).1; rwa [hk] at this
    have hlt : j * k + i < n * k := by
      have := Nat.mul_le_mul_right k (show j + 1 ≤ n by omega)
      rw [Nat.add_mul, Nat.one_mul] at this; omega
    rw [cell_of_row _ _ _ _ _ _ h2, show o + j * k + i = o + (j * k + i) by omega, cells_at h5 hlt, fl_at hk l j i hj hi, hu]
theorem cells_oth {g b : Nat} (hb : b ≠ g) : ∀ (l : List Value) (p : Nat) (w : World), (w.setCells g p l).heap[b]? = w.heap[b]?
  | [], p, w => by rw [World.setCells]
  | v :: r, p, w => by rw [World.setCells, cells_oth hb r]; exact heap_setCell_other w ⟨g, p, none⟩ b v hb
theorem only_cells (g p : Nat) (l : List Value) (w : World) : Only (fun b => b = g) w (w.setCells g p l) := by
  induction l generalizing p w with
  | nil => rw [World.setCells]; exact Only.refl _ _
  | cons v r ih => rw [World.setCells]; exact ((Only.refl (fun b => b = g) w).setCell (p := ⟨g, p, none⟩) rfl v).trans (ih _ _)
/-- One of a slice's things is written over. -/
theorem Rw.put {α : Type} {f : α → List Value} {S : Nat → Prop} {k t : Nat} {w : World} {g o n cap : Nat} {l : List α} (hk : ∀ x, (f x).length = k) (h : Rw S k t w (.slice (some ⟨g, o, none⟩) n cap) n (fl f l)) (hl : l.length = n) (j : Nat) (hj : j < n) (x : α) : Rw S k t (w.setCells g (o + j * k) (f x)) (.slice (some ⟨g, o, none⟩) n cap) n (fl f (l.set j x)) := by
  refine ⟨by rw [fl_len hk]; simp [hl], ?_⟩
  rcases h.ge with ⟨e, e0⟩ | ⟨g', o', cap', cur, e, h1, h2, h3, h4, h5⟩
  · omega
  · simp only [Value.slice.injEq, Option.some.injEq, Addr.mk.injEq, and_true, true_and] at e
    obtain ⟨⟨rfl, rfl⟩, rfl⟩ := e
    obtain ⟨cur', e1, e2, e3, e4, -, -⟩ := setCells_all g (f x) (o + j * k) w cur t h2
    have hjk := Nat.mul_le_mul_right k (show j + 1 ≤ n by omega)
    rw [Nat.add_mul, Nat.one_mul] at hjk
    have hck : n * k ≤ cap * k := Nat.mul_le_mul_right _ h3
    refine Or.inr ⟨g, o, cap, cur', rfl, h1, e1, h3, by omega, ?_⟩
    apply List.ext_getElem?
    intro i
    rw [List.getElem?_take]
    by_cases hi : i < n * k
    · rw [if_pos hi, List.getElem?_drop, Array.getElem?_toList]
      have k0 : 0 < k := by rcases Nat.eq_zero_or_pos k with e | e; · subst e; simp at hi
                            · exact e
      obtain ⟨q, r, rfl, hr⟩ : ∃ q r, i = q * k + r ∧ r < k := ⟨i / k, i % k, by rw [Nat.mul_comm]; exact (Nat.div_add_mod i k).symm, Nat.mod_lt _ k0⟩
      have hq : q < n := by
        rcases Nat.lt_or_ge q n with h | h
        · exact h
        · have := Nat.mul_le_mul_right k h; omega
      rw [fl_at hk (l.set j x) q r (by simp; omega) hr, List.getElem_set]
      by_cases hjq : j = q
      · subst hjq
        rw [if_pos rfl, show o + (j * k + r) = o + j * k + r by omega, e4 r (by rw [hk]; exact hr) (by omega)]
      · rw [if_neg hjq, e3 (o + (q * k + r)) (by
          rw [hk]
          rcases Nat.lt_or_gt_of_ne hjq with h | h
          · right
            have := Nat.mul_le_mul_right k (show j + 1 ≤ q by omega)
            rw [Nat.add_mul, Nat.one_mul] at this; omega
          · left
            have := Nat.mul_le_mul_right k (show q + 1 ≤ j by omega)
            rw [Nat.add_mul, Nat.one_mul] at this; omega), cells_at h5 (by omega), fl_at hk l q r (by omega) hr]
    · rw [if_neg hi, List.getElem?_eq_none (by rw [fl_len hk, List.length_set, hl]; omega)]
theorem Rw.there {α : Type} {f : α → List Value} {S : Nat → Prop} {k t : Nat} {w : World} {g o n cap : Nat} {l : List α} (h : Rw S k t w (.slice (some ⟨g, o, none⟩) n cap) n (fl f l)) (j m : Nat) (hj : j * k + m ≤ n * k) : w.there g (o + j * k) m := by
  rcases h.ge with ⟨e, e0⟩ | ⟨g', o', cap', cur, e, h1, h2, h3, h4, h5⟩
  · cases e
  · simp only [Value.slice.injEq, Option.some.injEq, Addr.mk.injEq, and_true, true_and] at e
    obtain ⟨⟨rfl, rfl⟩, rfl⟩ := e
    have hck : n * k ≤ cap * k := Nat.mul_le_mul_right _ h3
    intro i hi
    refine ⟨?_, by simp [World.frozen?, h2]⟩
    rw [cell_of_row _ _ _ _ _ _ h2, Array.getElem?_eq_getElem (by omega)]; rfl
/-- The last things of a slice are cleared. -/
theorem run_clr {w : World} {t e ty : TypeId} {z : Value} {k : Nat} (hu : Tryd.prog.underlying t = some (.slice e)) (hv : ∀ w, (zeroValue e).run Tryd.prog w = .ok z w) (hz : z.cells.size = k) (h1 : z.cells.all (·.oneCell') = true) (g p n c : Nat) (hn : 0 < n) (ht : w.there g p (n * k)) :
    ∃ zs : List Value, zs.length = n * k ∧ (Builtin.clear_ #[t] ty #[.slice (some ⟨g, p, none⟩) n c]).run Tryd.prog w = .ok (.tuple #[]) (w.setCells g p zs) := by
  have hl : (Builtin.zeroCells z.cells n).toList.length = n * k := by simp [Builtin.zeroCells, hz]
  have hst := run_storeCells_cells (P := Tryd.prog) g p (Builtin.zeroCells z.cells n).toList 0 w (fun j hj => by rw [Nat.add_zero]; exact (ht j (by rw [← hl]; exact hj)).1) (fun j hj => by rw [Nat.add_zero]; exact (ht j (by rw [← hl]; exact hj)).2) (fun u hu => by
    simp only [Builtin.zeroCells, Array.toList_map, List.mem_map] at hu
    obtain ⟨i, hi, rfl⟩ := hu
    have hi' : i < n * z.cells.size := by simpa using hi
    have k0 : 0 < z.cells.size := by rcases Nat.eq_zero_or_pos z.cells.size with e | e; · rw [e] at hi'; simp at hi'
                                     · exact e
    have hm : i % z.cells.size < z.cells.size := Nat.mod_lt _ k0
    rw [getElem!_pos z.cells _ hm]
    exact Array.all_eq_true_iff_forall_mem.1 h1 _ (Array.getElem_mem hm))
  simp only [Nat.add_zero] at hst
  obtain ⟨m, rfl⟩ : ∃ m, n = m + 1 := ⟨n - 1, by omega⟩
  exact ⟨_, hl, by simp [Builtin.clear_, run_underlying hu, hv, hst]⟩
/-- The first things of a slice whose others are written over. -/
theorem Rw.clr {α : Type} {f : α → List Value} {S : Nat → Prop} {k t : Nat} {w : World} {g o n m cap : Nat} {l : List α} (hk : ∀ x, (f x).length = k) (h : Rw S k t w (.slice (some ⟨g, o, none⟩) n cap) n (fl f l)) (hl : l.length = n) (hm : m ≤ n) (zs : List Value) : Rw S k t (w.setCells g (o + m * k) zs) (.slice (some ⟨g, o, none⟩) m cap) m (fl f (l.take m)) := by
  have h0 := h.pre hk hl hm
  refine ⟨h0.1, ?_⟩
  rcases h0.ge with ⟨e, e0⟩ | ⟨g', o', cap', cur, e, h1, h2, h3, h4, h5⟩
  · cases e
  · simp only [Value.slice.injEq, Option.some.injEq, Addr.mk.injEq, and_true, true_and] at e
    obtain ⟨⟨rfl, rfl⟩, rfl⟩ := e
    obtain ⟨cur', e1, e2, e3, -, -, -⟩ := setCells_all g zs (o + m * k) w cur t h2
    refine Or.inr ⟨g, o, cap, cur', rfl, h1, e1, h3, by omega, ?_⟩
    rw [← h5]
    apply List.ext_getElem?
    intro i
    rw [List.getElem?_take, List.getElem?_take]
    by_cases hi : i < m * k
    · rw [if_pos hi, if_pos hi, List.getElem?_drop, List.getElem?_drop, Array.getElem?_toList, Array.getElem?_toList, e3 _ (Or.inl (by omega))]
    · rw [if_neg hi, if_neg hi]
theorem runLd {o : Oper} {a : Act} {w' : World} (ty : TypeId) (x : Operand) (ho : o.op = .load ty x) (g p : Nat) (hx : a.eval x = .pointer (some ⟨g, p, none⟩)) (cs : Array Value) (d : TypeDesc) (hg : w'.rangeAt g p cs.toList) (hu : Tryd.prog.underlying ty = some d) (hd : d.isRow = true) (hi : (Tryd.prog.info? ty).map (·.size) = some cs.size) : (execOp a.eval o).run Tryd.prog w' = .ok (.value (.agg cs)) w' := by
  unfold execOp
  simp only [ho, hx, Instr.loadAt, Instr.sureAddr, Sem.run_bind, Sem.run_pure, Result.andThen_ok, run_loadVar_mid w' g p ty cs.toList d hg hu hd (by rw [hi]; simp), Array.toArray_toList]
end Go.Proofs.YtggbokghhohofaaDoor
