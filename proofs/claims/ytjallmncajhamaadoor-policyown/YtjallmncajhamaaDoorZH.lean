/-
  Proved here: what is left of a policy's queries as they are written over, one by one. No condition.
-/
import Derived.Test.YtjallmncajhamaaDoorZT
import Derived.Test.YtjallmncajhamaaDoorTI
namespace Go.Proofs.YtjallmncajhamaaDoor
open Go.RowKit
set_option maxRecDepth 100000

/-- blocks of S alone have changed, and of its rows of terms some terms are written over -/
structure Spq (S : Nat → Prop) (w w' : World) : Prop where
  os : w'.os = w.os
  tape : w'.tape = w.tape
  output : w'.output = w.output
  size : w.heap.size ≤ w'.heap.size
  low : ∀ k o, w.heap[k]? = some o → ¬ S k → w'.heap[k]? = some o
  row : ∀ g cur, S g → w.heap[g]? = some (.cells cur 26 (0, 0)) → ∃ cur', w'.heap[g]? = some (.cells cur' 26 (0, 0)) ∧ cur'.size = cur.size ∧ ∀ j, j * 4 + 4 ≤ cur.size → fr cur' j = fr cur j ∨ fr cur' j = r77
theorem Spo.q {S : Nat → Prop} {w w' : World} (h : Spo S w w') : Spq S w w' := ⟨h.os, h.tape, h.output, h.size, fun k o hk hs => h.low k o hk (Or.inl hs), h.row⟩
theorem Spq.refl (S : Nat → Prop) (w : World) : Spq S w w := (Spo.refl S w).q
theorem Spq.trans {S : Nat → Prop} {a b c : World} (h : Spq S a b) (k : Spq S b c) : Spq S a c :=
  ⟨k.os.trans h.os, k.tape.trans h.tape, k.output.trans h.output, Nat.le_trans h.size k.size, fun i o hi hs => k.low i o (h.low i o hi hs) hs, fun g cur hs hg => by
    obtain ⟨c1, e1, e2, e3⟩ := h.row g cur hs hg
    obtain ⟨c2, f1, f2, f3⟩ := k.row g c1 hs e1
    refine ⟨c2, f1, f2.trans e2, fun j hj => ?_⟩
    rcases f3 j (by omega) with q | q
    · rw [q]; exact e3 j hj
    · exact Or.inr q⟩
mutual
theorem SpV.onq {S : Nat → Prop} {w w' : World} (hs : Spq S w w') : ∀ (t : Ti) (cs : Array Value), SpV S w t cs → SpV S w' t cs
  | .mk op fd n ks, cs, h => by
    rw [SpV] at h ⊢
    rcases h with h | ⟨ao, cap, e, hc, hk⟩
    · exact Or.inl h
    · refine Or.inr ⟨ao, cap, e, hc, fun hn => ?_⟩
      obtain ⟨g, cur, e1, e2, e3, e4, e5⟩ := hk hn
      obtain ⟨c1, f1, f2, f3⟩ := hs.row g cur e2 e3
      exact ⟨g, c1, e1, e2, f1, by omega, SpL.onq hs ks cur c1 0 (fun j hj => f3 j (by omega)) e5⟩
theorem SpL.onq {S : Nat → Prop} {w w' : World} (hs : Spq S w w') : ∀ (ts : List Ti) (cur c1 : Array Value) (j : Nat), (∀ i, i < j + ts.length → fr c1 i = fr cur i ∨ fr c1 i = r77) → SpL S w ts cur j → SpL S w' ts c1 j
  | [], _, _, _, _, _ => by rw [SpL]; trivial
  | t :: ts, cur, c1, j, hf, h => by
    rw [SpL] at h ⊢
    refine ⟨?_, SpL.onq hs ts cur c1 (j + 1) (fun i hi => hf i (by rw [List.length_cons]; omega)) h.2⟩
    rcases hf j (by rw [List.length_cons]; omega) with q | q
    · rw [q]; exact SpV.onq hs t _ h.1
    · rw [q]; exact SpV.gone S w' t
end
/-- the term of the m-th query of a row -/
def fq (cur : Array Value) (m : Nat) : Array Value := #[cur.getD (m * 5 + 1) nilS, cur.getD (m * 5 + 2) nilS, cur.getD (m * 5 + 3) nilS, cur.getD (m * 5 + 4) nilS]
/-- the m-th query, whatever is left of its term -/
def Kq (S : Nat → Prop) (ao : Option Addr) (m : Nat) (t : Ti) (w : World) : Prop := ∃ g cur, ao = some ⟨g, 0, none⟩ ∧ S g ∧ w.heap[g]? = some (.cells cur 40 (0, 0)) ∧ m * 5 + 5 ≤ cur.size ∧ SpV S w t (fq cur m)
theorem qt_ne (cur c : Array Value) : Obj.cells cur 40 (0, 0) ≠ Obj.cells c 26 (0, 0) := fun h => by
  injection h with _ h2 _
  exact absurd h2 (by decide)
theorem Kq.on {S : Nat → Prop} {ao : Option Addr} {m : Nat} {t : Ti} {w w' : World} (h : Kq S ao m t w) (hs : Spo S w w') : Kq S ao m t w' := by
  obtain ⟨g, cur, e1, e2, e3, e4, e5⟩ := h
  exact ⟨g, cur, e1, e2, hs.low g _ e3 (Or.inr fun c => qt_ne cur c), e4, SpV.on hs t _ e5⟩
abbrev z5 : Array Value := #[.string ⟨#[]⟩, .int .i8 0, .int .i8 0, .int .u64 0, nilS]
theorem run_bq0 (W : World) : (Instr.build 40 #[]).run Tryd.prog W = .ok (.agg z5) W := by kernel_rfl
theorem z5_one : z5.all (·.oneCell') = true := by simp [Value.oneCell']
/-- a query written over -/
theorem Spq.wr {S : Nat → Prop} {w : World} {g i : Nat} {cur : Array Value} (hS : S g) (hg : w.heap[g]? = some (.cells cur 40 (0, 0))) : Spq S w (w.setCells g (i * 5) z5.toList) := by
  obtain ⟨c1, e1, e2, e3, e4, e5, e6⟩ := setCells_all g z5.toList (i * 5) w cur 40 hg
  refine ⟨e6.os, e6.tape, e6.output, e6.size, fun k o hk hn => (e5 k (fun e => hn (e ▸ hS))).trans hk, fun b cb hb hbg => ?_⟩
  have hne : b ≠ g := fun e => by
    subst e
    rw [hg] at hbg
    injection hbg with hbg
    exact qt_ne cur cb hbg
  exact ⟨cb, (e5 b hne).trans hbg, rfl, fun _ _ => Or.inl rfl⟩
theorem Kq.wr {S : Nat → Prop} {ao : Option Addr} {m i g : Nat} {t : Ti} {w : World} (h : Kq S ao m t w) (hi : i < m) (hao : ao = some ⟨g, 0, none⟩) : Kq S ao m t (w.setCells g (i * 5) z5.toList) := by
  obtain ⟨g', cur, e1, e2, e3, e4, e5⟩ := h
  rw [hao] at e1
  cases e1
  obtain ⟨c1, f1, f2, f3, -⟩ := setCells_all g z5.toList (i * 5) w cur 40 e3
  have hx : ∀ q, 1 ≤ q → c1[m * 5 + q]? = cur[m * 5 + q]? := fun q hq => f3 _ (by
    have : z5.toList.length = 5 := rfl
    omega)
  refine ⟨g, c1, hao, e2, f1, by omega, ?_⟩
  have : fq c1 m = fq cur m := by
    unfold fq
    simp only [Array.getD_eq_getD_getElem?, hx 1 (by omega), hx 2 (by omega), hx 3 (by omega), hx 4 (by omega)]
  rw [this]
  exact SpV.onq (Spq.wr e2 e3) t _ e5
theorem fq_rng {w : World} {g m t : Nat} {cur : Array Value} (hg : w.heap[g]? = some (.cells cur t (0, 0))) (hm : m * 5 + 5 ≤ cur.size) : w.rangeAt g (m * 5 + 1) (fq cur m).toList := fun i v hi => by
  have hil : i < 4 := by
    have := (List.getElem?_eq_some_iff.1 hi).1
    simpa [fq] using this
  rw [cell_of_row _ _ _ _ _ _ hg, ← hi]
  unfold fq
  rcases i with _ | _ | _ | _ | i
  · simp [Array.getD_eq_getD_getElem?, Array.getElem?_eq_getElem (show m * 5 + 1 < cur.size by omega)]
  · simp [Array.getD_eq_getD_getElem?, Array.getElem?_eq_getElem (show m * 5 + 1 + 1 < cur.size by omega)]
  · simp [Array.getD_eq_getD_getElem?, Array.getElem?_eq_getElem (show m * 5 + 1 + 2 < cur.size by omega)]
  · simp [Array.getD_eq_getD_getElem?, Array.getElem?_eq_getElem (show m * 5 + 1 + 3 < cur.size by omega)]
  · omega
theorem fq_of {cur cs : Array Value} {m : Nat} (h4 : cs.size = 4) (h : ∀ i v, cs[i]? = some v → cur[m * 5 + 1 + i]? = some v) : fq cur m = cs := by
  obtain ⟨x0, x1, x2, x3, rfl⟩ := arr4 h4
  have a0 := h 0 x0 rfl
  have a1 := h 1 x1 rfl
  have a2 := h 2 x2 rfl
  have a3 := h 3 x3 rfl
  rw [Nat.add_zero] at a0
  rw [Nat.add_assoc] at a1 a2 a3
  unfold fq
  simp [Array.getD_eq_getD_getElem?, a0, a1, a2, a3]
/-- every query of a policy just made -/
theorem Kq.of {S : Nat → Prop} {w : World} {qs : List Qi} {ao : Option Addr} {cap : Nat} {xs : List Value} (h : Rx S 5 w (.slice ao qs.length cap) qs.length xs) (hl : QiL S w qs xs) {m : Nat} (hm : m < qs.length) : Kq S ao m (qs[m]).pd w := by
  obtain ⟨-, ao', cap', e, hc, hk⟩ := h
  cases e
  obtain ⟨g, o, e1, e2, e3, e4, rfl, cur, e6, e7⟩ := hk (by omega)
  obtain ⟨ds, q1, q2⟩ := QiL.at qs xs m hm hl
  refine ⟨g, cur, e1, e2, e6, by omega, ?_⟩
  rw [fq_of q1.size fun i v hi => ?_]
  · exact SpV.of _ _ q1
  · have hil := (Array.getElem?_eq_some_iff.1 hi).1
    have h4 := q1.size
    have h5 := q2 (i + 1) (by omega)
    have h6 := e4 (m * 5 + (i + 1)) v (by rw [h5, List.getElem?_cons_succ, Array.getElem?_toList]; exact hi)
    rw [cell_of_row _ _ _ _ _ _ e6] at h6
    rw [show m * 5 + 1 + i = 0 + (m * 5 + (i + 1)) by omega]
    exact h6
end Go.Proofs.YtjallmncajhamaaDoor
