/-
  Weak forms: a slice, a term, a policy that can be read wherever it lies; what is known of the strong forms holds of them. No condition.
-/
import Derived.Test.YtjallmncajhamaaDoorTJ
import Derived.Test.YtjallmncajhamaaDoorZT
namespace Go.Proofs.YtjallmncajhamaaDoor
open Go.RowKit
set_option maxRecDepth 100000

/-- A slice of n things of k cells each that can be read, in a block of S; xs: the cells of the things. -/
def Gx (S : Nat → Prop) (k : Nat) (w : World) (v : Value) (n : Nat) (xs : List Value) : Prop :=
  xs.length = n * k ∧ ∃ ao cap, v = .slice ao n cap ∧ n ≤ cap ∧ (n ≠ 0 → ∃ g o, ao = some ⟨g, o, none⟩ ∧ S g ∧ g < w.heap.size ∧ w.rangeAt g o xs)
theorem Gx.form {S : Nat → Prop} {k : Nat} {w : World} {v : Value} {n : Nat} {xs : List Value} (h : Gx S k w v n xs) : ∃ ao cap, v = .slice ao n cap := by
  obtain ⟨-, ao, cap, h, -⟩ := h
  exact ⟨ao, cap, h⟩
theorem Gx.one {S : Nat → Prop} {k : Nat} {w : World} {v : Value} {n : Nat} {xs : List Value} (h : Gx S k w v n xs) : v.oneCell' = true := by
  obtain ⟨ao, cap, rfl⟩ := h.form
  rfl
theorem Gx.carry {S T : Nat → Prop} {k : Nat} {w w' : World} {v : Value} {n : Nat} {xs : List Value} (h : Gx S k w v n xs) (hc : ∀ b, b < w.heap.size → S b → T b ∧ w'.heap[b]? = w.heap[b]?) : Gx T k w' v n xs := by
  obtain ⟨h1, ao, cap, h2, h3, h4⟩ := h
  refine ⟨h1, ao, cap, h2, h3, fun hn => ?_⟩
  obtain ⟨g, o, e1, e2, e3, e4⟩ := h4 hn
  obtain ⟨q1, q2⟩ := hc g e3 e2
  refine ⟨g, o, e1, q1, ?_, fun j v hj => (cell_same q2).trans (e4 j v hj)⟩
  have := Array.getElem?_eq_some_iff.1 (q2.trans (Array.getElem?_eq_getElem e3))
  exact this.1
/-- the cells of the j-th -/
theorem Gx.at {S : Nat → Prop} {k : Nat} {w : World} {ao : Option Addr} {n cap : Nat} {xs : List Value} (h : Gx S k w (.slice ao n cap) n xs) {j : Nat} (hj : j < n) : ∃ g o, ao = some ⟨g, o, none⟩ ∧ n ≤ cap ∧ S g ∧ g < w.heap.size ∧ ∀ ds : List Value, (∀ i, i < ds.length → xs[j * k + i]? = ds[i]?) → w.rangeAt g (o + j * k) ds := by
  obtain ⟨-, ao', cap', e, h3, h4⟩ := h
  cases e
  obtain ⟨g, o, e1, e2, e3, e4⟩ := h4 (by omega)
  refine ⟨g, o, e1, h3, e2, e3, fun ds hd i v hi => ?_⟩
  have := e4 (j * k + i) v ((hd i (List.getElem?_eq_some_iff.1 hi).1).trans hi)
  rw [← Nat.add_assoc] at this
  exact this
mutual
def GiV (S : Nat → Prop) (w : World) : Ti → Array Value → Prop
  | .mk op fd n ks, cs => ∃ v xs, cs = tic op fd n v ∧ Gx S 4 w v ks.length xs ∧ GiL S w ks xs
def GiL (S : Nat → Prop) (w : World) : List Ti → List Value → Prop
  | [], xs => xs = []
  | t :: ts, xs => ∃ cs ys, xs = cs.toList ++ ys ∧ GiV S w t cs ∧ GiL S w ts ys
end
theorem GiV.get {S : Nat → Prop} {w : World} {op fd : Int} {n : Nat} {ks : List Ti} {cs : Array Value} (h : GiV S w (.mk op fd n ks) cs) : ∃ v xs, cs = tic op fd n v ∧ Gx S 4 w v ks.length xs ∧ GiL S w ks xs := by
  rw [GiV] at h; exact h
mutual
theorem GiV.carry {S T : Nat → Prop} {w w' : World} (hc : ∀ b, b < w.heap.size → S b → T b ∧ w'.heap[b]? = w.heap[b]?) : ∀ (t : Ti) (cs : Array Value), GiV S w t cs → GiV T w' t cs
  | .mk op fd n ks, cs, h => by
    rw [GiV] at h ⊢
    obtain ⟨v, xs, h1, h2, h3⟩ := h
    exact ⟨v, xs, h1, h2.carry hc, GiL.carry hc ks xs h3⟩
theorem GiL.carry {S T : Nat → Prop} {w w' : World} (hc : ∀ b, b < w.heap.size → S b → T b ∧ w'.heap[b]? = w.heap[b]?) : ∀ (ts : List Ti) (xs : List Value), GiL S w ts xs → GiL T w' ts xs
  | [], xs, h => by rw [GiL] at h ⊢; exact h
  | t :: ts, xs, h => by
    rw [GiL] at h ⊢
    obtain ⟨cs, ys, h1, h2, h3⟩ := h
    exact ⟨cs, ys, h1, GiV.carry hc t cs h2, GiL.carry hc ts ys h3⟩
end
theorem gi_on {S T : Nat → Prop} {w w' : World} {t : Ti} {cs : Array Value} (h : GiV S w t cs) (hc : ∀ b, b < w.heap.size → S b → T b ∧ w'.heap[b]? = w.heap[b]?) : GiV T w' t cs := GiV.carry hc t cs h
theorem GiV.size {S : Nat → Prop} {w : World} {t : Ti} {cs : Array Value} (h : GiV S w t cs) : cs.size = 4 := by
  obtain ⟨op, fd, n, ks⟩ := t
  obtain ⟨v, xs, rfl, -⟩ := h.get
  rfl
theorem GiV.one {S : Nat → Prop} {w : World} {t : Ti} {cs : Array Value} (h : GiV S w t cs) : cs.all (·.oneCell') = true := by
  obtain ⟨op, fd, n, ks⟩ := t
  obtain ⟨v, xs, rfl, h2, -⟩ := h.get
  obtain ⟨ao, cap, rfl⟩ := h2.form
  simp [Value.oneCell']
theorem GiV.info {S : Nat → Prop} {w : World} {t : Ti} {cs : Array Value} (h : GiV S w t cs) : (Tryd.prog.info? 26).map (·.size) = some cs.size := by rw [h.size]; exact sizeTM
/-- the j-th -/
theorem GiL.at {S : Nat → Prop} {w : World} : ∀ (ts : List Ti) (xs : List Value) (j : Nat) (hj : j < ts.length), GiL S w ts xs → ∃ cs, GiV S w ts[j] cs ∧ ∀ i, i < 4 → xs[j * 4 + i]? = cs[i]?
  | [], xs, j, hj, h => by simp at hj
  | t :: ts, xs, j, hj, h => by
    rw [GiL] at h
    obtain ⟨cs, ys, rfl, h2, h3⟩ := h
    have hs := h2.size
    cases j with
    | zero =>
      refine ⟨cs, h2, fun i hi => ?_⟩
      rw [Nat.zero_mul, Nat.zero_add, List.getElem?_append_left (by simp; omega)]
      simp
    | succ j =>
      obtain ⟨ds, h4, h5⟩ := GiL.at ts ys j (by simpa using hj) h3
      refine ⟨ds, h4, fun i hi => ?_⟩
      rw [List.getElem?_append_right (by simp; omega)]
      have := h5 i hi
      rw [← this]
      congr 1
      simp; omega
def GqL (S : Nat → Prop) (w : World) : List Qi → List Value → Prop
  | [], xs => xs = []
  | q :: qs, xs => ∃ cs ys, xs = .string q.nm :: (cs.toList ++ ys) ∧ GiV S w q.pd cs ∧ GqL S w qs ys
theorem GqL.carry {S T : Nat → Prop} {w w' : World} (hc : ∀ b, b < w.heap.size → S b → T b ∧ w'.heap[b]? = w.heap[b]?) : ∀ (qs : List Qi) (xs : List Value), GqL S w qs xs → GqL T w' qs xs
  | [], xs, h => h
  | q :: qs, xs, h => by
    obtain ⟨cs, ys, h1, h2, h3⟩ := h
    exact ⟨cs, ys, h1, gi_on h2 hc, GqL.carry hc qs ys h3⟩
theorem GqL.at {S : Nat → Prop} {w : World} : ∀ (qs : List Qi) (xs : List Value) (j : Nat) (hj : j < qs.length), GqL S w qs xs → ∃ cs, GiV S w (qs[j]).pd cs ∧ ∀ i, i < 5 → xs[j * 5 + i]? = (Value.string (qs[j]).nm :: cs.toList)[i]?
  | [], xs, j, hj, h => by simp at hj
  | q :: qs, xs, j, hj, h => by
    obtain ⟨cs, ys, rfl, h2, h3⟩ := h
    have hs := h2.size
    cases j with
    | zero =>
      refine ⟨cs, h2, fun i hi => ?_⟩
      rw [Nat.zero_mul, Nat.zero_add, ← List.cons_append, List.getElem?_append_left (by simp; omega)]
      rfl
    | succ j =>
      obtain ⟨ds, h4, h5⟩ := GqL.at qs ys j (by simpa using hj) h3
      refine ⟨ds, h4, fun i hi => ?_⟩
      rw [← List.cons_append, List.getElem?_append_right (by simp; omega)]
      refine Eq.trans ?_ (h5 i hi)
      congr 1
      simp; omega
def GpV (S : Nat → Prop) (w : World) (p : Pi) (cs : Array Value) : Prop :=
  ∃ ms qv xs, cs = ms ++ #[qv] ∧ GiV S w p.main ms ∧ Gx S 5 w qv p.qs.length xs ∧ GqL S w p.qs xs
theorem GpV.carry {S T : Nat → Prop} {w w' : World} {p : Pi} {cs : Array Value} (h : GpV S w p cs) (hc : ∀ b, b < w.heap.size → S b → T b ∧ w'.heap[b]? = w.heap[b]?) : GpV T w' p cs := by
  obtain ⟨ms, qv, xs, h1, h2, h3, h4⟩ := h
  exact ⟨ms, qv, xs, h1, gi_on h2 hc, h3.carry hc, GqL.carry hc _ _ h4⟩
theorem GpV.size {S : Nat → Prop} {w : World} {p : Pi} {cs : Array Value} (h : GpV S w p cs) : cs.size = 5 := by
  obtain ⟨ms, qv, xs, rfl, h2, -⟩ := h
  simp [h2.size]
theorem GpV.one {S : Nat → Prop} {w : World} {p : Pi} {cs : Array Value} (h : GpV S w p cs) : cs.all (·.oneCell') = true := by
  obtain ⟨ms, qv, xs, rfl, h2, h3, -⟩ := h
  rw [Array.all_append, h2.one]
  simp [h3.one]
theorem GpV.info {S : Nat → Prop} {w : World} {p : Pi} {cs : Array Value} (h : GpV S w p cs) : (Tryd.prog.info? 29).map (·.size) = some cs.size := by rw [h.size]; exact sizePO
theorem Rx.gx {S : Nat → Prop} {k : Nat} {w : World} {v : Value} {n : Nat} {xs : List Value} (h : Rx S k w v n xs) : Gx S k w v n xs := by
  obtain ⟨h1, ao, cap, h2, h3, h4⟩ := h
  refine ⟨h1, ao, cap, h2, h3, fun hn => ?_⟩
  obtain ⟨g, o, e1, e2, e3, e4, -⟩ := h4 hn
  exact ⟨g, o, e1, e2, e3, e4⟩
mutual
theorem TiV.gx {S : Nat → Prop} {w : World} : ∀ (t : Ti) (cs : Array Value), TiV S w t cs → GiV S w t cs
  | .mk op fd n ks, cs, h => by
    rw [TiV] at h
    rw [GiV]
    obtain ⟨v, xs, h1, h2, h3⟩ := h
    exact ⟨v, xs, h1, h2.gx, TiL.gx ks xs h3⟩
theorem TiL.gx {S : Nat → Prop} {w : World} : ∀ (ts : List Ti) (xs : List Value), TiL S w ts xs → GiL S w ts xs
  | [], xs, h => by
    rw [TiL] at h
    rw [GiL]
    exact h
  | t :: ts, xs, h => by
    rw [TiL] at h
    rw [GiL]
    obtain ⟨cs, ys, h1, h2, h3⟩ := h
    exact ⟨cs, ys, h1, TiV.gx t cs h2, TiL.gx ts ys h3⟩
end
theorem QiL.gx {S : Nat → Prop} {w : World} : ∀ (qs : List Qi) (xs : List Value), QiL S w qs xs → GqL S w qs xs
  | [], _, h => h
  | q :: qs, xs, h => by
    obtain ⟨cs, ys, h1, h2, h3⟩ := h
    exact ⟨cs, ys, h1, TiV.gx _ _ h2, QiL.gx qs ys h3⟩
theorem PiV.gx {S : Nat → Prop} {w : World} {p : Pi} {cs : Array Value} (h : PiV S w p cs) : GpV S w p cs := by
  obtain ⟨ms, qv, xs, h1, h2, h3, h4⟩ := h
  exact ⟨ms, qv, xs, h1, TiV.gx _ _ h2, h3.gx, QiL.gx _ _ h4⟩
end Go.Proofs.YtjallmncajhamaaDoor
