/-
  Terms, plain and in memory: as the texts on package parse and package show have them, cut out of those; which cells are a term's, how they are carried. No condition.
-/
import Derived.Test.YtjallmncajhamaaDoorRY
import Derived.LaidMore
namespace Go.Proofs.YtjallmncajhamaaDoor
open Go.RowKit
set_option maxRecDepth 100000

abbrev ptr (b : Nat) : Value := .pointer (some ⟨b, 0, none⟩)
inductive Tm
  | mk (op fd n : Nat) (kids : List Tm)
def wdt : Nat → Nat
  | 0 => 48 | 1 => 48 | 2 => 16 | 3 => 12 | 4 => 32 | 5 => 32 | 6 => 8 | _ => 16
def Tm.op : Tm → Nat
  | .mk op _ _ _ => op
mutual
def sz : Tm → Nat
  | .mk _ _ _ ks => szs ks + 1
def szs : List Tm → Nat
  | [] => 0
  | t :: ts => sz t + szs ts
end
mutual
def dp : Tm → Nat
  | .mk _ _ _ ks => dps ks + 1
def dps : List Tm → Nat
  | [] => 0
  | t :: ts => max (dp t) (dps ts)
end
abbrev ov (op : Nat) (ts : List Tm) : Tm := .mk op 0 0 ts
theorem sz_mk (op fd n : Nat) (ks : List Tm) : sz (.mk op fd n ks) = szs ks + 1 := by rw [sz]
theorem dp_mk (op fd n : Nat) (ks : List Tm) : dp (.mk op fd n ks) = dps ks + 1 := by rw [dp]
theorem szs_snoc : ∀ (ks : List Tm) (t : Tm), szs (ks ++ [t]) = szs ks + sz t
  | [], t => by rw [List.nil_append, szs, szs, szs]; omega
  | a :: ks, t => by rw [List.cons_append, szs, szs, szs_snoc ks t]; omega
theorem szs_take {ks : List Tm} {j : Nat} (hj : j < ks.length) : szs (ks.take (j + 1)) = szs (ks.take j) + sz ks[j] := by
  rw [List.take_add_one, List.getElem?_eq_getElem hj]
  exact szs_snoc _ _
theorem szs_mem : ∀ {ks : List Tm} {t : Tm}, t ∈ ks → sz t ≤ szs ks
  | a :: ks, t, h => by
    rw [szs]
    rcases List.mem_cons.1 h with rfl | h
    · omega
    · have := szs_mem h; omega
theorem szs_le : ∀ (ks : List Tm) (j : Nat), szs (ks.take j) ≤ szs ks
  | [], j => by simp
  | a :: ks, 0 => by rw [List.take_zero, szs]; omega
  | a :: ks, j + 1 => by rw [List.take_succ_cons, szs, szs]; have := szs_le ks j; omega
theorem dps_mem : ∀ {ks : List Tm} {t : Tm}, t ∈ ks → dp t ≤ dps ks
  | a :: ks, t, h => by
    rw [dps]
    rcases List.mem_cons.1 h with rfl | h
    · omega
    · have := dps_mem h; omega
theorem dps_le {m : Nat} : ∀ {ks : List Tm}, (∀ t ∈ ks, dp t ≤ m) → dps ks ≤ m
  | [], _ => by rw [dps]; omega
  | a :: ks, h => by
    rw [dps]
    have h1 := h a (List.mem_cons_self ..)
    have h2 := dps_le (ks := ks) fun t ht => h t (List.mem_cons_of_mem _ ht)
    omega
theorem sz_pos (t : Tm) : 0 < sz t := by obtain ⟨op, fd, n, ks⟩ := t; rw [sz]; omega
theorem dp_pos (t : Tm) : 0 < dp t := by obtain ⟨op, fd, n, ks⟩ := t; rw [dp]; omega

theorem len_szs : ∀ (ks : List Tm) (j : Nat), j ≤ ks.length → j ≤ szs (ks.take j)
  | ks, 0, _ => Nat.zero_le _
  | [], j + 1, h => by simp at h
  | a :: ks, j + 1, h => by
    rw [List.take_succ_cons, szs]
    have := len_szs ks j (by simpa using h)
    have := sz_pos a
    omega
theorem szs_app : ∀ (a b : List Tm), szs (a ++ b) = szs a + szs b
  | [], b => by rw [List.nil_append, szs]; omega
  | x :: a, b => by rw [List.cons_append, szs, szs, szs_app a b]; omega
theorem dps_app : ∀ (a b : List Tm), dps (a ++ b) = max (dps a) (dps b)
  | [], b => by rw [List.nil_append, dps]; omega
  | x :: a, b => by rw [List.cons_append, dps, dps, dps_app a b]; omega
inductive Ti
  | mk (op fd : Int) (n : Nat) (kids : List Ti)
mutual
def ti : Tm → Ti
  | .mk op fd n ks => .mk op fd n (tis ks)
def tis : List Tm → List Ti
  | [] => []
  | t :: ts => ti t :: tis ts
end
mutual
def szI : Ti → Nat
  | .mk _ _ _ ks => szsI ks + 1
def szsI : List Ti → Nat
  | [] => 0
  | t :: ts => szI t + szsI ts
end
mutual
def dpI : Ti → Nat
  | .mk _ _ _ ks => dpsI ks + 1
def dpsI : List Ti → Nat
  | [] => 0
  | t :: ts => max (dpI t) (dpsI ts)
end
def mst : Nat → Nat
  | 3 => 1 | 4 => 4096 | 5 => 4096 | 6 => 1 | 8 => 4096 | 9 => 4096 | 10 => 1 | _ => 0
def kndB (b : Bool) (op : Int) : Bool := if b = true then decide (0 ≤ op) && decide (op ≤ 5) else decide (6 ≤ op) && decide (op ≤ 10)
def fitB (fd : Int) (n : Nat) : Bool := decide (0 ≤ fd) && decide (fd ≤ 10) && decide (n < 2 ^ wdt fd.toNat)
theorem tis_len : ∀ ts : List Tm, (tis ts).length = ts.length
  | [] => rfl
  | t :: ts => by rw [tis, List.length_cons, List.length_cons, tis_len ts]
mutual
theorem sz_ti : ∀ t : Tm, szI (ti t) = sz t
  | .mk op fd n ks => by rw [ti, szI, sz, szs_ti ks]
theorem szs_ti : ∀ ts : List Tm, szsI (tis ts) = szs ts
  | [] => by rw [tis, szsI, szs]
  | t :: ts => by rw [tis, szsI, szs, sz_ti t, szs_ti ts]
end
mutual
theorem dp_ti : ∀ t : Tm, dpI (ti t) = dp t
  | .mk op fd n ks => by rw [ti, dpI, dp, dps_ti ks]
theorem dps_ti : ∀ ts : List Tm, dpsI (tis ts) = dps ts
  | [] => by rw [tis, dpsI, dps]
  | t :: ts => by rw [tis, dpsI, dps, dp_ti t, dps_ti ts]
end
theorem wdt_pos (f : Nat) : 0 < wdt f := by unfold wdt; split <;> decide
theorem szI_pos (t : Ti) : 0 < szI t := by obtain ⟨op, fd, n, ks⟩ := t; rw [szI]; omega
theorem dpI_pos (t : Ti) : 0 < dpI t := by obtain ⟨op, fd, n, ks⟩ := t; rw [dpI]; omega
theorem szI_mk (op fd : Int) (n : Nat) (ks : List Ti) : szI (.mk op fd n ks) = szsI ks + 1 := by rw [szI]
theorem dpI_mk (op fd : Int) (n : Nat) (ks : List Ti) : dpI (.mk op fd n ks) = dpsI ks + 1 := by rw [dpI]
theorem szsI_snoc : ∀ (ks : List Ti) (t : Ti), szsI (ks ++ [t]) = szsI ks + szI t
  | [], t => by rw [List.nil_append, szsI, szsI, szsI]; omega
  | a :: ks, t => by rw [List.cons_append, szsI, szsI, szsI_snoc ks t]; omega
theorem szsI_take {ks : List Ti} {j : Nat} (hj : j < ks.length) : szsI (ks.take (j + 1)) = szsI (ks.take j) + szI ks[j] := by
  rw [List.take_add_one, List.getElem?_eq_getElem hj]
  exact szsI_snoc _ _
theorem szsI_mem : ∀ {ks : List Ti} {t : Ti}, t ∈ ks → szI t ≤ szsI ks
  | a :: ks, t, h => by
    rw [szsI]
    rcases List.mem_cons.1 h with rfl | h
    · omega
    · have := szsI_mem h; omega
theorem szsI_le : ∀ (ks : List Ti) (j : Nat), szsI (ks.take j) ≤ szsI ks
  | [], j => by simp
  | a :: ks, 0 => by rw [List.take_zero, szsI]; omega
  | a :: ks, j + 1 => by rw [List.take_succ_cons, szsI, szsI]; have := szsI_le ks j; omega
theorem dpsI_mem : ∀ {ks : List Ti} {t : Ti}, t ∈ ks → dpI t ≤ dpsI ks
  | a :: ks, t, h => by
    rw [dpsI]
    rcases List.mem_cons.1 h with rfl | h
    · omega
    · have := dpsI_mem h; omega
theorem dpsI_le {m : Nat} : ∀ {ks : List Ti}, (∀ t ∈ ks, dpI t ≤ m) → dpsI ks ≤ m
  | [], _ => by rw [dpsI]; omega
  | a :: ks, h => by
    rw [dpsI]
    have h1 := h a (List.mem_cons_self ..)
    have h2 := dpsI_le (ks := ks) fun t ht => h t (List.mem_cons_of_mem _ ht)
    omega
theorem len_szsI : ∀ (ks : List Ti) (j : Nat), j ≤ ks.length → j ≤ szsI (ks.take j)
  | ks, 0, _ => Nat.zero_le _
  | [], j + 1, h => by simp at h
  | a :: ks, j + 1, h => by
    rw [List.take_succ_cons, szsI]
    have := len_szsI ks j (by simpa using h)
    have := szI_pos a
    omega
abbrev tmc (op fd n : Nat) (v : Value) : Array Value := #[.int .i8 ((op : Nat) : Int), .int .i8 ((fd : Nat) : Int), .int .u64 ((n : Nat) : Int), v]
mutual
/-- Cells of a term; its kids lie in blocks of S. -/
def TmV (S : Nat → Prop) (w : World) : Tm → Array Value → Prop
  | .mk op fd n ks, cs => ∃ v xs, cs = tmc op fd n v ∧ Rw S 4 26 w v ks.length xs ∧ TmL S w ks xs
def TmL (S : Nat → Prop) (w : World) : List Tm → List Value → Prop
  | [], xs => xs = []
  | t :: ts, xs => ∃ cs ys, xs = cs.toList ++ ys ∧ TmV S w t cs ∧ TmL S w ts ys
end
theorem TmV.get {S : Nat → Prop} {w : World} {op fd n : Nat} {ks : List Tm} {cs : Array Value} (h : TmV S w (.mk op fd n ks) cs) : ∃ v xs, cs = tmc op fd n v ∧ Rw S 4 26 w v ks.length xs ∧ TmL S w ks xs := by
  rw [TmV] at h; exact h
theorem TmV.of {S : Nat → Prop} {w : World} {op fd n : Nat} {ks : List Tm} {v : Value} {xs : List Value} (h : Rw S 4 26 w v ks.length xs) (hl : TmL S w ks xs) : TmV S w (.mk op fd n ks) (tmc op fd n v) := by
  rw [TmV]; exact ⟨v, xs, rfl, h, hl⟩
mutual
theorem TmV.carry {S T : Nat → Prop} {w w' : World} (hc : ∀ b, b < w.heap.size → S b → T b ∧ w'.heap[b]? = w.heap[b]?) : ∀ (t : Tm) (cs : Array Value), TmV S w t cs → TmV T w' t cs
  | .mk op fd n ks, cs, h => by
    rw [TmV] at h ⊢
    obtain ⟨v, xs, h1, h2, h3⟩ := h
    exact ⟨v, xs, h1, h2.carry hc, TmL.carry hc ks xs h3⟩
theorem TmL.carry {S T : Nat → Prop} {w w' : World} (hc : ∀ b, b < w.heap.size → S b → T b ∧ w'.heap[b]? = w.heap[b]?) : ∀ (ts : List Tm) (xs : List Value), TmL S w ts xs → TmL T w' ts xs
  | [], xs, h => by rw [TmL] at h ⊢; exact h
  | t :: ts, xs, h => by
    rw [TmL] at h ⊢
    obtain ⟨cs, ys, h1, h2, h3⟩ := h
    exact ⟨cs, ys, h1, TmV.carry hc t cs h2, TmL.carry hc ts ys h3⟩
end
theorem TmV.size {S : Nat → Prop} {w : World} {t : Tm} {cs : Array Value} (h : TmV S w t cs) : cs.size = 4 := by
  obtain ⟨op, fd, n, ks⟩ := t
  obtain ⟨v, xs, rfl, -⟩ := h.get
  rfl
theorem TmV.one {S : Nat → Prop} {w : World} {t : Tm} {cs : Array Value} (h : TmV S w t cs) : cs.all (·.oneCell') = true := by
  obtain ⟨op, fd, n, ks⟩ := t
  obtain ⟨v, xs, rfl, h2, -⟩ := h.get
  obtain ⟨ao, cap, rfl⟩ := h2.form
  simp [Value.oneCell']
theorem infoTM : (Tryd.prog.info? 26).map (fun i => (i.zero, i.size, i.bytes)) = some (some (.agg (tmc 0 0 0 nilS)), 4, 40) := by kernel_rfl
theorem sizeTM : (Tryd.prog.info? 26).map (·.size) = some 4 := by kernel_rfl
theorem TmV.info {S : Nat → Prop} {w : World} {t : Tm} {cs : Array Value} (h : TmV S w t cs) : (Tryd.prog.info? 26).map (·.size) = some cs.size := by rw [h.size]; exact sizeTM
theorem TmL.len {S : Nat → Prop} {w : World} : ∀ (ts : List Tm) (xs : List Value), TmL S w ts xs → xs.length = ts.length * 4
  | [], xs, h => by rw [TmL] at h; subst h; rfl
  | t :: ts, xs, h => by
    rw [TmL] at h
    obtain ⟨cs, ys, rfl, h2, h3⟩ := h
    have := TmL.len ts ys h3
    have := h2.size
    simp; omega
theorem TmL.snoc {S : Nat → Prop} {w : World} {t : Tm} {cs : Array Value} (ht : TmV S w t cs) : ∀ (ts : List Tm) (xs : List Value), TmL S w ts xs → TmL S w (ts ++ [t]) (xs ++ cs.toList)
  | [], xs, h => by
    rw [TmL] at h; subst h
    rw [List.nil_append, List.nil_append, TmL]
    exact ⟨cs, [], by simp, ht, by rw [TmL]⟩
  | a :: ts, xs, h => by
    rw [TmL] at h
    obtain ⟨ds, ys, rfl, h2, h3⟩ := h
    rw [List.cons_append, TmL]
    exact ⟨ds, ys ++ cs.toList, by simp, h2, TmL.snoc ht ts ys h3⟩
theorem TmL.nil {S : Nat → Prop} {w : World} : TmL S w [] [] := by rw [TmL]
theorem TmL.one {S : Nat → Prop} {w : World} {t : Tm} {cs : Array Value} (h : TmV S w t cs) : TmL S w [t] cs.toList := by
  have := TmL.snoc h [] [] TmL.nil
  simpa using this
/-- the j-th -/
theorem TmL.at {S : Nat → Prop} {w : World} : ∀ (ts : List Tm) (xs : List Value) (j : Nat) (hj : j < ts.length), TmL S w ts xs → ∃ cs, TmV S w ts[j] cs ∧ ∀ i, i < 4 → xs[j * 4 + i]? = cs[i]?
  | [], xs, j, hj, h => by simp at hj
  | t :: ts, xs, j, hj, h => by
    rw [TmL] at h
    obtain ⟨cs, ys, rfl, h2, h3⟩ := h
    have hs := h2.size
    cases j with
    | zero =>
      refine ⟨cs, h2, fun i hi => ?_⟩
      rw [Nat.zero_mul, Nat.zero_add, List.getElem?_append_left (by simp; omega)]
      simp
    | succ j =>
      obtain ⟨ds, h4, h5⟩ := TmL.at ts ys j (by simpa using hj) h3
      refine ⟨ds, h4, fun i hi => ?_⟩
      rw [List.getElem?_append_right (by simp; omega)]
      have := h5 i hi
      rw [← this]
      congr 1
      simp; omega
/-- A slice of one term, just made. -/
theorem TmV.bld {S : Nat → Prop} {w : World} {t : Tm} {cs : Array Value} (h : TmV S w t cs) (op : Nat) (hf : ∀ b, w.heap.size ≤ b → S b) : TmV S (w.alloc (.cells cs 26)) (ov op [t]) (tmc op 0 0 (.slice (some ⟨w.heap.size, 0, none⟩) 1 1)) := by
  have hs := h.size
  refine TmV.of (xs := cs.toList) ⟨by simp [hs], Or.inr ⟨w.heap.size, 0, 1, cs, rfl, hf _ (Nat.le_refl _), heap_alloc_new _ _, Nat.le_refl _, by omega, ?_, rfl⟩⟩ (TmL.one (TmV.carry (fun b hb hS => ⟨hS, heap_alloc_old _ _ hb⟩) _ _ h))
  simp only [List.length_cons, List.length_nil, List.drop_zero]
  rw [List.take_of_length_le (by simp [hs])]
theorem TmV.leaf (S : Nat → Prop) (w : World) (op fd n : Nat) : TmV S w (.mk op fd n []) (tmc op fd n nilS) := TmV.of (Rw.nil _ _ _ _) TmL.nil

theorem tm_on {S T : Nat → Prop} {w w' : World} {t : Tm} {cs : Array Value} (h : TmV S w t cs) (hc : ∀ b, b < w.heap.size → S b → T b ∧ w'.heap[b]? = w.heap[b]?) : TmV T w' t cs := TmV.carry hc t cs h
abbrev tic (op fd : Int) (n : Nat) (v : Value) : Array Value := #[.int .i8 op, .int .i8 fd, .int .u64 ((n : Nat) : Int), v]
/-- the type of things of k cells -/
abbrev kty (k : Nat) : Nat := if k = 5 then 40 else 26
/-- A slice of n things of k cells each that can be read, in a block of S; xs: the cells of the things. -/
def Rx (S : Nat → Prop) (k : Nat) (w : World) (v : Value) (n : Nat) (xs : List Value) : Prop :=
  xs.length = n * k ∧ ∃ ao cap, v = .slice ao n cap ∧ n ≤ cap ∧ (n ≠ 0 → ∃ g o, ao = some ⟨g, o, none⟩ ∧ S g ∧ g < w.heap.size ∧ w.rangeAt g o xs ∧ o = 0 ∧ ∃ cur, w.heap[g]? = some (.cells cur (kty k) (0, 0)) ∧ n * k ≤ cur.size)
theorem Rx.form {S : Nat → Prop} {k : Nat} {w : World} {v : Value} {n : Nat} {xs : List Value} (h : Rx S k w v n xs) : ∃ ao cap, v = .slice ao n cap := by
  obtain ⟨-, ao, cap, h, -⟩ := h
  exact ⟨ao, cap, h⟩
theorem Rx.one {S : Nat → Prop} {k : Nat} {w : World} {v : Value} {n : Nat} {xs : List Value} (h : Rx S k w v n xs) : v.oneCell' = true := by
  obtain ⟨ao, cap, rfl⟩ := h.form
  rfl
theorem Rx.carry {S T : Nat → Prop} {k : Nat} {w w' : World} {v : Value} {n : Nat} {xs : List Value} (h : Rx S k w v n xs) (hc : ∀ b, b < w.heap.size → S b → T b ∧ w'.heap[b]? = w.heap[b]?) : Rx T k w' v n xs := by
  obtain ⟨h1, ao, cap, h2, h3, h4⟩ := h
  refine ⟨h1, ao, cap, h2, h3, fun hn => ?_⟩
  obtain ⟨g, o, e1, e2, e3, e4, e5, cur, e6, e7⟩ := h4 hn
  obtain ⟨q1, q2⟩ := hc g e3 e2
  refine ⟨g, o, e1, q1, ?_, fun j v hj => (cell_same q2).trans (e4 j v hj), e5, cur, q2.trans e6, e7⟩
  have := Array.getElem?_eq_some_iff.1 (q2.trans (Array.getElem?_eq_getElem e3))
  exact this.1
theorem Rw.rx {S : Nat → Prop} {k t : Nat} {w : World} {v : Value} {n : Nat} {xs : List Value} (h : Rw S k t w v n xs) (ht9 : t = kty k := by rfl) : Rx S k w v n xs := by
  refine ⟨h.1, ?_⟩
  rcases h.2 with ⟨rfl, rfl⟩ | ⟨g, o, cap, cur, rfl, hS, hg, hc, hs, ht, ho⟩
  · exact ⟨none, 0, rfl, Nat.le_refl _, fun h => absurd rfl h⟩
  · refine ⟨_, _, rfl, hc, fun _ => ⟨g, o, rfl, hS, (Array.getElem?_eq_some_iff.1 hg).1, fun j v hj => ?_, ho, cur, by rw [← ht9]; exact hg, by have := Nat.mul_le_mul_right k hc; omega⟩⟩
    have hl := (List.getElem?_eq_some_iff.1 hj).1
    rw [h.1] at hl
    rw [cell_of_row _ _ _ _ _ _ hg, cells_at ht hl]
    exact hj
/-- the cells of the j-th -/
theorem Rx.at {S : Nat → Prop} {k : Nat} {w : World} {ao : Option Addr} {n cap : Nat} {xs : List Value} (h : Rx S k w (.slice ao n cap) n xs) {j : Nat} (hj : j < n) : ∃ g o, ao = some ⟨g, o, none⟩ ∧ n ≤ cap ∧ S g ∧ g < w.heap.size ∧ ∀ ds : List Value, (∀ i, i < ds.length → xs[j * k + i]? = ds[i]?) → w.rangeAt g (o + j * k) ds := by
  obtain ⟨-, ao', cap', e, h3, h4⟩ := h
  cases e
  obtain ⟨g, o, e1, e2, e3, e4, -⟩ := h4 (by omega)
  refine ⟨g, o, e1, h3, e2, e3, fun ds hd i v hi => ?_⟩
  have := e4 (j * k + i) v ((hd i (List.getElem?_eq_some_iff.1 hi).1).trans hi)
  rw [← Nat.add_assoc] at this
  exact this
mutual
def TiV (S : Nat → Prop) (w : World) : Ti → Array Value → Prop
  | .mk op fd n ks, cs => ∃ v xs, cs = tic op fd n v ∧ Rx S 4 w v ks.length xs ∧ TiL S w ks xs
def TiL (S : Nat → Prop) (w : World) : List Ti → List Value → Prop
  | [], xs => xs = []
  | t :: ts, xs => ∃ cs ys, xs = cs.toList ++ ys ∧ TiV S w t cs ∧ TiL S w ts ys
end
theorem TiV.get {S : Nat → Prop} {w : World} {op fd : Int} {n : Nat} {ks : List Ti} {cs : Array Value} (h : TiV S w (.mk op fd n ks) cs) : ∃ v xs, cs = tic op fd n v ∧ Rx S 4 w v ks.length xs ∧ TiL S w ks xs := by
  rw [TiV] at h; exact h
mutual
theorem TiV.carry {S T : Nat → Prop} {w w' : World} (hc : ∀ b, b < w.heap.size → S b → T b ∧ w'.heap[b]? = w.heap[b]?) : ∀ (t : Ti) (cs : Array Value), TiV S w t cs → TiV T w' t cs
  | .mk op fd n ks, cs, h => by
    rw [TiV] at h ⊢
    obtain ⟨v, xs, h1, h2, h3⟩ := h
    exact ⟨v, xs, h1, h2.carry hc, TiL.carry hc ks xs h3⟩
theorem TiL.carry {S T : Nat → Prop} {w w' : World} (hc : ∀ b, b < w.heap.size → S b → T b ∧ w'.heap[b]? = w.heap[b]?) : ∀ (ts : List Ti) (xs : List Value), TiL S w ts xs → TiL T w' ts xs
  | [], xs, h => by rw [TiL] at h ⊢; exact h
  | t :: ts, xs, h => by
    rw [TiL] at h ⊢
    obtain ⟨cs, ys, h1, h2, h3⟩ := h
    exact ⟨cs, ys, h1, TiV.carry hc t cs h2, TiL.carry hc ts ys h3⟩
end
theorem ti_on {S T : Nat → Prop} {w w' : World} {t : Ti} {cs : Array Value} (h : TiV S w t cs) (hc : ∀ b, b < w.heap.size → S b → T b ∧ w'.heap[b]? = w.heap[b]?) : TiV T w' t cs := TiV.carry hc t cs h
theorem TiV.size {S : Nat → Prop} {w : World} {t : Ti} {cs : Array Value} (h : TiV S w t cs) : cs.size = 4 := by
  obtain ⟨op, fd, n, ks⟩ := t
  obtain ⟨v, xs, rfl, -⟩ := h.get
  rfl
theorem TiV.one {S : Nat → Prop} {w : World} {t : Ti} {cs : Array Value} (h : TiV S w t cs) : cs.all (·.oneCell') = true := by
  obtain ⟨op, fd, n, ks⟩ := t
  obtain ⟨v, xs, rfl, h2, -⟩ := h.get
  obtain ⟨ao, cap, rfl⟩ := h2.form
  simp [Value.oneCell']
theorem TiV.info {S : Nat → Prop} {w : World} {t : Ti} {cs : Array Value} (h : TiV S w t cs) : (Tryd.prog.info? 26).map (·.size) = some cs.size := by rw [h.size]; exact sizeTM
/-- the j-th -/
theorem TiL.at {S : Nat → Prop} {w : World} : ∀ (ts : List Ti) (xs : List Value) (j : Nat) (hj : j < ts.length), TiL S w ts xs → ∃ cs, TiV S w ts[j] cs ∧ ∀ i, i < 4 → xs[j * 4 + i]? = cs[i]?
  | [], xs, j, hj, h => by simp at hj
  | t :: ts, xs, j, hj, h => by
    rw [TiL] at h
    obtain ⟨cs, ys, rfl, h2, h3⟩ := h
    have hs := h2.size
    cases j with
    | zero =>
      refine ⟨cs, h2, fun i hi => ?_⟩
      rw [Nat.zero_mul, Nat.zero_add, List.getElem?_append_left (by simp; omega)]
      simp
    | succ j =>
      obtain ⟨ds, h4, h5⟩ := TiL.at ts ys j (by simpa using hj) h3
      refine ⟨ds, h4, fun i hi => ?_⟩
      rw [List.getElem?_append_right (by simp; omega)]
      have := h5 i hi
      rw [← this]
      congr 1
      simp; omega
mutual
theorem tiV_of {S : Nat → Prop} {w : World} : ∀ (t : Tm) (cs : Array Value), TmV S w t cs → TiV S w (ti t) cs
  | .mk op fd n ks, cs => by
    rw [ti, TiV, TmV]
    rintro ⟨v, xs, h1, h2, h3⟩
    rw [← tis_len ks] at h2
    exact ⟨v, xs, h1, h2.rx, tiL_of ks xs h3⟩
theorem tiL_of {S : Nat → Prop} {w : World} : ∀ (ts : List Tm) (xs : List Value), TmL S w ts xs → TiL S w (tis ts) xs
  | [], xs => by rw [tis, TiL, TmL]; exact id
  | t :: ts, xs => by
    rw [tis, TiL, TmL]
    rintro ⟨cs, ys, h1, h2, h3⟩
    exact ⟨cs, ys, h1, tiV_of t cs h2, tiL_of ts ys h3⟩
end
theorem tis_at : ∀ (ts : List Tm) (j : Nat) (hj : j < ts.length) (hj' : j < (tis ts).length), (tis ts)[j] = ti ts[j]
  | t :: ts, 0, _, _ => by simp only [tis, List.getElem_cons_zero]
  | t :: ts, j + 1, hj, hj' => by
    simp only [tis, List.getElem_cons_succ]
    exact tis_at ts j (by simpa using hj) _
/-- a term that can be read in memory -/
def UmV (S : Nat → Prop) (w : World) (t : Tm) (cs : Array Value) : Prop := TiV S w (ti t) cs
def UmL (S : Nat → Prop) (w : World) (ts : List Tm) (xs : List Value) : Prop := TiL S w (tis ts) xs
theorem UmV.get {S : Nat → Prop} {w : World} {op fd n : Nat} {ks : List Tm} {cs : Array Value} (h : UmV S w (.mk op fd n ks) cs) : ∃ v xs, cs = tmc op fd n v ∧ Rx S 4 w v ks.length xs ∧ UmL S w ks xs := by
  unfold UmV at h
  rw [ti, TiV, tis_len] at h
  exact h
theorem um_on {S T : Nat → Prop} {w w' : World} {t : Tm} {cs : Array Value} (h : UmV S w t cs) (hc : ∀ b, b < w.heap.size → S b → T b ∧ w'.heap[b]? = w.heap[b]?) : UmV T w' t cs := ti_on h hc
theorem UmL.carry {S T : Nat → Prop} {w w' : World} (hc : ∀ b, b < w.heap.size → S b → T b ∧ w'.heap[b]? = w.heap[b]?) (ts : List Tm) (xs : List Value) (h : UmL S w ts xs) : UmL T w' ts xs := TiL.carry hc _ _ h
theorem UmV.size {S : Nat → Prop} {w : World} {t : Tm} {cs : Array Value} (h : UmV S w t cs) : cs.size = 4 := TiV.size h
theorem UmV.one {S : Nat → Prop} {w : World} {t : Tm} {cs : Array Value} (h : UmV S w t cs) : cs.all (·.oneCell') = true := TiV.one h
theorem UmV.info {S : Nat → Prop} {w : World} {t : Tm} {cs : Array Value} (h : UmV S w t cs) : (Tryd.prog.info? 26).map (·.size) = some cs.size := TiV.info h
theorem UmL.at {S : Nat → Prop} {w : World} (ts : List Tm) (xs : List Value) (j : Nat) (hj : j < ts.length) (h : UmL S w ts xs) : ∃ cs, UmV S w ts[j] cs ∧ ∀ i, i < 4 → xs[j * 4 + i]? = cs[i]? := by
  have hj' : j < (tis ts).length := by rw [tis_len]; exact hj
  obtain ⟨cs, h1, h2⟩ := TiL.at (tis ts) xs j hj' h
  rw [tis_at ts j hj hj'] at h1
  exact ⟨cs, h1, h2⟩
structure Qy where
  nm : ByteArray
  pd : Tm
structure Po where
  main : Tm
  qs : List Qy
def QyL (S : Nat → Prop) (w : World) : List Qy → List Value → Prop
  | [], xs => xs = []
  | q :: qs, xs => ∃ cs ys, xs = .string q.nm :: (cs.toList ++ ys) ∧ TmV S w q.pd cs ∧ QyL S w qs ys
theorem QyL.carry {S T : Nat → Prop} {w w' : World} (hc : ∀ b, b < w.heap.size → S b → T b ∧ w'.heap[b]? = w.heap[b]?) : ∀ (qs : List Qy) (xs : List Value), QyL S w qs xs → QyL T w' qs xs
  | [], xs, h => h
  | q :: qs, xs, h => by
    obtain ⟨cs, ys, h1, h2, h3⟩ := h
    exact ⟨cs, ys, h1, tm_on h2 hc, QyL.carry hc qs ys h3⟩
theorem QyL.snoc {S : Nat → Prop} {w : World} {q : Qy} {cs : Array Value} (ht : TmV S w q.pd cs) : ∀ (qs : List Qy) (xs : List Value), QyL S w qs xs → QyL S w (qs ++ [q]) (xs ++ (.string q.nm :: cs.toList))
  | [], xs, h => by
    have : xs = [] := h
    subst this
    exact ⟨cs, [], by simp, ht, rfl⟩
  | a :: qs, xs, h => by
    obtain ⟨ds, ys, rfl, h2, h3⟩ := h
    exact ⟨ds, ys ++ (.string q.nm :: cs.toList), by simp, h2, QyL.snoc ht qs ys h3⟩
theorem QyL.len {S : Nat → Prop} {w : World} : ∀ (qs : List Qy) (xs : List Value), QyL S w qs xs → xs.length = qs.length * 5
  | [], xs, h => by have : xs = [] := h; subst this; rfl
  | q :: qs, xs, h => by
    obtain ⟨cs, ys, rfl, h2, h3⟩ := h
    have := QyL.len qs ys h3
    have := h2.size
    simp; omega
/-- the j-th -/
theorem QyL.at {S : Nat → Prop} {w : World} : ∀ (qs : List Qy) (xs : List Value) (j : Nat) (hj : j < qs.length), QyL S w qs xs → ∃ cs, TmV S w (qs[j]).pd cs ∧ ∀ i, i < 5 → xs[j * 5 + i]? = (Value.string (qs[j]).nm :: cs.toList)[i]?
  | [], xs, j, hj, h => by simp at hj
  | q :: qs, xs, j, hj, h => by
    obtain ⟨cs, ys, rfl, h2, h3⟩ := h
    have hs := h2.size
    cases j with
    | zero =>
      refine ⟨cs, h2, fun i hi => ?_⟩
      rw [Nat.zero_mul, Nat.zero_add, ← List.cons_append, List.getElem?_append_left (by simp; omega)]
      rfl
    | succ j =>
      obtain ⟨ds, h4, h5⟩ := QyL.at qs ys j (by simpa using hj) h3
      refine ⟨ds, h4, fun i hi => ?_⟩
      rw [← List.cons_append, List.getElem?_append_right (by simp; omega)]
      refine Eq.trans ?_ (h5 i hi)
      congr 1
      simp; omega
theorem infoQY : (Tryd.prog.info? 40).map (fun i => (i.zero, i.size, i.bytes)) = some (some (.agg #[.string ⟨#[]⟩, .int .i8 0, .int .i8 0, .int .u64 0, nilS]), 5, 56) := by kernel_rfl
/-- a policy's cells: the main term's, and the queries' slice -/
def PoV (S : Nat → Prop) (w : World) (p : Po) (cs : Array Value) : Prop :=
  ∃ ms qv xs, cs = ms ++ #[qv] ∧ TmV S w p.main ms ∧ Rw S 5 40 w qv p.qs.length xs ∧ QyL S w p.qs xs
theorem PoV.carry {S T : Nat → Prop} {w w' : World} {p : Po} {cs : Array Value} (h : PoV S w p cs) (hc : ∀ b, b < w.heap.size → S b → T b ∧ w'.heap[b]? = w.heap[b]?) : PoV T w' p cs := by
  obtain ⟨ms, qv, xs, h1, h2, h3, h4⟩ := h
  exact ⟨ms, qv, xs, h1, tm_on h2 hc, h3.carry hc, QyL.carry hc _ _ h4⟩
theorem PoV.size {S : Nat → Prop} {w : World} {p : Po} {cs : Array Value} (h : PoV S w p cs) : cs.size = 5 := by
  obtain ⟨ms, qv, xs, rfl, h2, -⟩ := h
  simp [h2.size]
theorem PoV.one {S : Nat → Prop} {w : World} {p : Po} {cs : Array Value} (h : PoV S w p cs) : cs.all (·.oneCell') = true := by
  obtain ⟨ms, qv, xs, rfl, h2, h3, -⟩ := h
  rw [Array.all_append, h2.one]
  simp [h3.one]
theorem sizePO : (Tryd.prog.info? 29).map (·.size) = some 5 := by kernel_rfl
theorem PoV.info {S : Nat → Prop} {w : World} {p : Po} {cs : Array Value} (h : PoV S w p cs) : (Tryd.prog.info? 29).map (·.size) = some cs.size := by rw [h.size]; exact sizePO
/-! queries and policies -/
structure Qi where
  nm : ByteArray
  pd : Ti
structure Pi where
  main : Ti
  qs : List Qi
def pi (p : Po) : Pi := ⟨ti p.main, p.qs.map fun q => ⟨q.nm, ti q.pd⟩⟩
def QiL (S : Nat → Prop) (w : World) : List Qi → List Value → Prop
  | [], xs => xs = []
  | q :: qs, xs => ∃ cs ys, xs = .string q.nm :: (cs.toList ++ ys) ∧ TiV S w q.pd cs ∧ QiL S w qs ys
theorem QiL.carry {S T : Nat → Prop} {w w' : World} (hc : ∀ b, b < w.heap.size → S b → T b ∧ w'.heap[b]? = w.heap[b]?) : ∀ (qs : List Qi) (xs : List Value), QiL S w qs xs → QiL T w' qs xs
  | [], xs, h => h
  | q :: qs, xs, h => by
    obtain ⟨cs, ys, h1, h2, h3⟩ := h
    exact ⟨cs, ys, h1, ti_on h2 hc, QiL.carry hc qs ys h3⟩
theorem QiL.at {S : Nat → Prop} {w : World} : ∀ (qs : List Qi) (xs : List Value) (j : Nat) (hj : j < qs.length), QiL S w qs xs → ∃ cs, TiV S w (qs[j]).pd cs ∧ ∀ i, i < 5 → xs[j * 5 + i]? = (Value.string (qs[j]).nm :: cs.toList)[i]?
  | [], xs, j, hj, h => by simp at hj
  | q :: qs, xs, j, hj, h => by
    obtain ⟨cs, ys, rfl, h2, h3⟩ := h
    have hs := h2.size
    cases j with
    | zero =>
      refine ⟨cs, h2, fun i hi => ?_⟩
      rw [Nat.zero_mul, Nat.zero_add, ← List.cons_append, List.getElem?_append_left (by simp; omega)]
      rfl
    | succ j =>
      obtain ⟨ds, h4, h5⟩ := QiL.at qs ys j (by simpa using hj) h3
      refine ⟨ds, h4, fun i hi => ?_⟩
      rw [← List.cons_append, List.getElem?_append_right (by simp; omega)]
      refine Eq.trans ?_ (h5 i hi)
      congr 1
      simp; omega
def PiV (S : Nat → Prop) (w : World) (p : Pi) (cs : Array Value) : Prop :=
  ∃ ms qv xs, cs = ms ++ #[qv] ∧ TiV S w p.main ms ∧ Rx S 5 w qv p.qs.length xs ∧ QiL S w p.qs xs
theorem PiV.carry {S T : Nat → Prop} {w w' : World} {p : Pi} {cs : Array Value} (h : PiV S w p cs) (hc : ∀ b, b < w.heap.size → S b → T b ∧ w'.heap[b]? = w.heap[b]?) : PiV T w' p cs := by
  obtain ⟨ms, qv, xs, h1, h2, h3, h4⟩ := h
  exact ⟨ms, qv, xs, h1, ti_on h2 hc, h3.carry hc, QiL.carry hc _ _ h4⟩
theorem PiV.size {S : Nat → Prop} {w : World} {p : Pi} {cs : Array Value} (h : PiV S w p cs) : cs.size = 5 := by
  obtain ⟨ms, qv, xs, rfl, h2, -⟩ := h
  simp [h2.size]
theorem PiV.one {S : Nat → Prop} {w : World} {p : Pi} {cs : Array Value} (h : PiV S w p cs) : cs.all (·.oneCell') = true := by
  obtain ⟨ms, qv, xs, rfl, h2, h3, -⟩ := h
  rw [Array.all_append, h2.one]
  simp [h3.one]
theorem PiV.info {S : Nat → Prop} {w : World} {p : Pi} {cs : Array Value} (h : PiV S w p cs) : (Tryd.prog.info? 29).map (·.size) = some cs.size := by rw [h.size]; exact sizePO
theorem qiL_of {S : Nat → Prop} {w : World} : ∀ (qs : List Qy) (xs : List Value), QyL S w qs xs → QiL S w (qs.map fun q => ⟨q.nm, ti q.pd⟩) xs
  | [], xs => id
  | q :: qs, xs => by
    rintro ⟨cs, ys, h1, h2, h3⟩
    exact ⟨cs, ys, h1, tiV_of _ cs h2, qiL_of qs ys h3⟩
theorem piV_of {S : Nat → Prop} {w : World} (p : Po) (cs : Array Value) (h : PoV S w p cs) : PiV S w (pi p) cs := by
  have hl : (pi p).qs.length = p.qs.length := List.length_map _
  obtain ⟨ms, qv, xs, h1, h2, h3, h4⟩ := h
  exact ⟨ms, qv, xs, h1, tiV_of _ ms h2, by rw [hl]; exact h3.rx, qiL_of _ xs h4⟩
def UyL (S : Nat → Prop) (w : World) (qs : List Qy) (xs : List Value) : Prop := QiL S w (qs.map fun q => ⟨q.nm, ti q.pd⟩) xs
theorem UyL.carry {S T : Nat → Prop} {w w' : World} (hc : ∀ b, b < w.heap.size → S b → T b ∧ w'.heap[b]? = w.heap[b]?) (qs : List Qy) (xs : List Value) (h : UyL S w qs xs) : UyL T w' qs xs := QiL.carry hc _ _ h
theorem UyL.at {S : Nat → Prop} {w : World} (qs : List Qy) (xs : List Value) (j : Nat) (hj : j < qs.length) (h : UyL S w qs xs) : ∃ cs, UmV S w (qs[j]).pd cs ∧ ∀ i, i < 5 → xs[j * 5 + i]? = (Value.string (qs[j]).nm :: cs.toList)[i]? := by
  obtain ⟨cs, h1, h2⟩ := QiL.at (S := S) (w := w) (qs.map fun (q : Qy) => (⟨q.nm, ti q.pd⟩ : Qi)) xs j (by rw [List.length_map]; exact hj) h
  simp only [List.getElem_map] at h1 h2
  exact ⟨cs, h1, h2⟩
/-- a policy with words, apart -/
theorem piV_get {S : Nat → Prop} {w : World} {p : Po} {cs : Array Value} (h : PiV S w (pi p) cs) : ∃ ms qv xs, cs = ms ++ #[qv] ∧ UmV S w p.main ms ∧ Rx S 5 w qv p.qs.length xs ∧ UyL S w p.qs xs := by
  have hl : (pi p).qs.length = p.qs.length := List.length_map _
  obtain ⟨ms, qv, xs, h1, h2, h3, h4⟩ := h
  rw [hl] at h3
  exact ⟨ms, qv, xs, h1, h2, h3, h4⟩
theorem runLd {o : Oper} {a : Act} {w' : World} (ty : TypeId) (x : Operand) (ho : o.op = .load ty x) (g p : Nat) (hx : a.eval x = .pointer (some ⟨g, p, none⟩)) (cs : Array Value) (d : TypeDesc) (hg : w'.rangeAt g p cs.toList) (hu : Tryd.prog.underlying ty = some d) (hd : d.isRow = true) (hi : (Tryd.prog.info? ty).map (·.size) = some cs.size) : (execOp a.eval o).run Tryd.prog w' = .ok (.value (.agg cs)) w' := by
  unfold execOp
  simp only [ho, hx, Instr.loadAt, Instr.sureAddr, Sem.run_bind, Sem.run_pure, Result.andThen_ok, run_loadVar_mid w' g p ty cs.toList d hg hu hd (by rw [hi]; simp), Array.toArray_toList]
theorem bel_row {B : Nat} {w w' : World} (h : Below B w w') {g : Nat} (hg : B ≤ g) (cs : Array Value) : Below B w (w'.setRow g cs) :=
  h.trans ⟨rfl, rfl, rfl, by simp [World.setRow], fun k hk => setRow_other w' g k _ (by omega)⟩
theorem bel_drew {b : Nat} {w w' : World} (h : Below b w w') : Below b w w'.drew := ⟨h.os, h.tape, h.output, h.size, h.block⟩
section
variable {ops : Array Oper} {o : Oper} {a : Act} {w : World} {K : Act → World → Prop} {Q : Exit → Act → World → Prop} {E : Prop}
/-- A call of a Go function as a step of a region that draws its order. -/
theorem stepFnW (f : FuncId) (y : Operand) (xs : List Operand) (ts : Array TypeId) (args : List Value) (hop : o.op = .call { callee := .value y, args := xs.toArray, argTypes := ts }) (hw : Region.wanted o (yielded ops a.tmps) = true) (hy : a.eval y = .func (.func f) #[] #[]) (hx : xs.map a.eval = args) (hE : ∀ w, (callFunc f args.toArray).run Tryd.prog w = .ok (.enter f args.toArray) w)
    (Φ : Ending → World → Prop) (hC : Calls Tryd.prog f args.toArray w Φ) (hK : ∀ e w', Φ e w' → (∃ v, e = .returned v ∧ K (a.put o.dst v) w') ∨ ∃ ch, e = .panicked ch ∧ Q (.panic ch) a w') : if Region.wanted o (yielded ops a.tmps) = true then Oper.wp Tryd.prog o a w K Q else E := by
  rw [if_pos hw]
  have hrun : (execOp a.eval o).run Tryd.prog w = .ok (.enter f args.toArray) w := by
    unfold execOp
    simp only [hop, resolve, invoke, Deferred.ofValue, hy, Sem.run_bind, Sem.run_pure, Result.andThen_ok, List.map_toArray, hx, Array.append_empty, Array.empty_append, hE]
  show Oper.upon Tryd.prog o a K Q ((execOp a.eval o).run Tryd.prog w)
  rw [hrun, Oper.upon_enter]
  refine hC.mono ?_
  intro e w' h
  rcases hK e w' h with ⟨v, rfl, hk⟩ | ⟨ch, rfl, hk⟩
  · exact hk
  · exact hk
end
theorem four_cells {w : World} {b t : Nat} {x0 x1 x2 x3 : Value} (h : w.heap[b]? = some (.cells #[x0, x1, x2, x3] t (0, 0))) : w.cell? ⟨b, 0, none⟩ = some x0 ∧ w.cell? ⟨b, 1, none⟩ = some x1 ∧ w.cell? ⟨b, 2, none⟩ = some x2 ∧ w.cell? ⟨b, 3, none⟩ = some x3 :=
  ⟨(cell_of_row _ _ _ _ _ _ h).trans rfl, (cell_of_row _ _ _ _ _ _ h).trans rfl, (cell_of_row _ _ _ _ _ _ h).trans rfl, (cell_of_row _ _ _ _ _ _ h).trans rfl⟩
section
variable {md : Region.Mode} {ops : Array Oper} {Q : Exit → Act → World → Prop} {S : World → Prop} {fuel : Nat} {listed : Array Bool} {o : Oper} {a : Act} {w : World} {K : Act → World → Prop}
/-- A step of a region that draws its order. -/
structure Sp (ops : Array Oper) (Q : Exit → Act → World → Prop) (o : Oper) (a : Act) (w : World) (K : Act → World → Prop) : Prop where
  want : Region.wanted o (yielded ops a.tmps) = true
  wp : Oper.wp Tryd.prog o a w K Q
theorem Sp.of (hg : o.guard = none) (h : if Region.wanted o (yielded ops a.tmps) = true then Oper.wp Tryd.prog o a w K Q else False) : Sp ops Q o a w K := by
  have hw : Region.wanted o (yielded ops a.tmps) = true := by simp [Region.wanted, hg]
  rw [if_pos hw] at h
  exact ⟨hw, h⟩
theorem Sp.run (hg : o.guard = none) (v : Value) (w' : World) (hr : (execOp a.eval o).run Tryd.prog w = .ok (.value v) w') (hk : K (a.put o.dst v) w') : Sp ops Q o a w K := ⟨by simp [Region.wanted, hg], by unfold Oper.wp; rw [hr, Oper.upon_value]; exact hk⟩
theorem an1 (i : Nat) (o : Oper) (hr : Region.ready md ops listed = [i]) (ho : ops[i]? = some o) (h : Sp ops Q o a w fun a' w' => S w' ∧ wpAnyH Tryd.prog md ops Q S fuel (listed.setIfInBounds i true) a' w') : wpAnyH Tryd.prog md ops Q S (fuel + 1) listed a w := by
  refine wpAnyH_all hr (by simp) fun j hj => ?_
  obtain rfl : j = i := by simpa using hj
  unfold wpOp
  rw [ho]
  show if Region.wanted o (yielded ops a.tmps) = true then _ else _
  rw [if_pos h.want]
  exact Or.inl h.wp
theorem an2 (i i' : Nat) (o o' : Oper) (hr : Region.ready md ops listed = [i, i']) (ho : ops[i]? = some o) (ho' : ops[i']? = some o') (h : Sp ops Q o a w fun a' w' => S w' ∧ wpAnyH Tryd.prog md ops Q S fuel (listed.setIfInBounds i true) a' w') (h' : Sp ops Q o' a w fun a' w' => S w' ∧ wpAnyH Tryd.prog md ops Q S fuel (listed.setIfInBounds i' true) a' w') : wpAnyH Tryd.prog md ops Q S (fuel + 1) listed a w := by
  refine wpAnyH_all hr (by simp) fun q hq => ?_
  have hq' : q = i ∨ q = i' := by simpa using hq
  rcases hq' with rfl | rfl
  · unfold wpOp
    rw [ho]
    show if Region.wanted o (yielded ops a.tmps) = true then _ else _
    rw [if_pos h.want]
    exact Or.inl h.wp
  · unfold wpOp
    rw [ho']
    show if Region.wanted o' (yielded ops a.tmps) = true then _ else _
    rw [if_pos h'.want]
    exact Or.inl h'.wp
theorem Sp.bs (t e : TypeId) (y : Operand) (hop : o.op = .buildSlice t 1 #[(0, y)]) (hg : o.guard = none) (cs : Array Value) (hy : a.eval y = .agg cs) (hu : Tryd.prog.underlying t = some (.slice e)) {z : Value} {n by' : Nat} (hinfo : (Tryd.prog.info? e).map (fun i => (i.zero, i.size, i.bytes)) = some (some z, n, by')) (hn : cs.size = n) (hn0 : 0 < n) (hn1 : n ≤ 1000) (hk : K (a.put o.dst (.slice (some ⟨w.heap.size, 0, none⟩) 1 1)) (w.alloc (.cells cs e))) : Sp ops Q o a w K := by
  obtain ⟨ie, hie, hz, hsz, -⟩ := info_parts hinfo
  refine ⟨by simp [Region.wanted, hg], wp_buildSlice t e 1 _ hop cs ie z hu hie hz (by rw [hsz, Nat.one_mul]; omega) (by rw [hsz, Nat.one_mul]; omega) ?_ hk⟩
  rw [hsz]
  have : (Array.map (fun (x : Nat × Operand) => (x.1, a.eval x.2)) #[(0, y)]).toList = [(0, .agg cs)] := by simp [hy]
  show Instr.fill _ _ (Array.map (fun (x : Nat × Operand) => (x.1, a.eval x.2)) #[(0, y)]).toList = _
  rw [this]
  exact fill_one n _ cs (by simp) hn

theorem arr4 {c : Array Value} (h : c.size = 4) : ∃ x0 x1 x2 x3, c = #[x0, x1, x2, x3] := by
  obtain ⟨l⟩ := c
  match l, h with
  | [x0, x1, x2, x3], _ => exact ⟨x0, x1, x2, x3, rfl⟩
theorem fill_two (c d : Array Value) (hc : c.size = 4) (hd : d.size = 4) : Instr.fill (fun i => some (i * 4, 4)) ((Array.range (2 * 4)).map ((Value.agg (tmc 0 0 0 nilS)).cells[· % (Value.agg (tmc 0 0 0 nilS)).cells.size]!)) [(0, .agg c), (1, .agg d)] = some (c ++ d) := by
  obtain ⟨x0, x1, x2, x3, rfl⟩ := arr4 hc
  obtain ⟨y0, y1, y2, y3, rfl⟩ := arr4 hd
  clear hc hd
  kernel_rfl
theorem Sp.bs2 (y y2 : Operand) (hop : o.op = .buildSlice 24 2 #[(0, y), (1, y2)]) (hg : o.guard = none) (c d : Array Value) (hy : a.eval y = .agg c) (hy2 : a.eval y2 = .agg d) (hc : c.size = 4) (hd : d.size = 4) (hk : K (a.put o.dst (.slice (some ⟨w.heap.size, 0, none⟩) 2 2)) (w.alloc (.cells (c ++ d) 26))) : Sp ops Q o a w K := by
  obtain ⟨ie, hie, hz, hsz, -⟩ := info_parts infoTM
  refine ⟨by simp [Region.wanted, hg], wp_buildSlice 24 26 2 _ hop (c ++ d) ie _ Tryd.underlying24 hie hz (by rw [hsz]; omega) (by rw [hsz]; omega) ?_ hk⟩
  rw [hsz]
  have : (Array.map (fun (x : Nat × Operand) => (x.1, a.eval x.2)) #[(0, y), (1, y2)]).toList = [(0, .agg c), (1, .agg d)] := by simp [hy, hy2]
  show Instr.fill _ _ (Array.map (fun (x : Nat × Operand) => (x.1, a.eval x.2)) #[(0, y), (1, y2)]).toList = _
  rw [this]
  exact fill_two c d hc hd
end
/-- A slice of two terms, just made. -/
theorem TmV.bld2 {S : Nat → Prop} {w : World} {t u : Tm} {c d : Array Value} (h : TmV S w t c) (k : TmV S w u d) (op : Nat) (hf : ∀ b, w.heap.size ≤ b → S b) : TmV S (w.alloc (.cells (c ++ d) 26)) (ov op [t, u]) (tmc op 0 0 (.slice (some ⟨w.heap.size, 0, none⟩) 2 2)) := by
  have hs := h.size
  have hs2 := k.size
  have hcar : ∀ b, b < w.heap.size → S b → S b ∧ (w.alloc (.cells (c ++ d) 26)).heap[b]? = w.heap[b]? := fun b hb hS => ⟨hS, heap_alloc_old _ _ hb⟩
  refine TmV.of (xs := (c ++ d).toList) ⟨by simp [hs, hs2], Or.inr ⟨w.heap.size, 0, 2, c ++ d, rfl, hf _ (Nat.le_refl _), heap_alloc_new _ _, Nat.le_refl _, by simp [hs, hs2], ?_, rfl⟩⟩ ?_
  · simp only [List.length_cons, List.length_nil, List.drop_zero]
    rw [List.take_of_length_le (by simp [hs, hs2])]
  · have := TmL.snoc (TmV.carry hcar _ _ k) _ _ (TmL.one (TmV.carry hcar _ _ h))
    simpa using this
theorem range_blk {w : World} {b t : Nat} {cs : Array Value} (h : w.heap[b]? = some (.cells cs t (0, 0))) : w.rangeAt b 0 cs.toList := range_of fun i _ => by rw [Nat.zero_add, cell_of_row _ _ _ _ _ _ h]
theorem row4_rng {W : World} {P t : Nat} {cs : Array Value} (h : W.heap[P]? = some (.cells cs t (0, 0))) : W.rangeAt P 0 cs.toList := fun j v hj => by
  rw [Nat.zero_add, cell_of_row _ _ _ _ _ _ h]; simpa using hj
theorem szQ (s : ByteArray) (ds : Array Value) (h : ds.size = 4) : (Tryd.prog.info? 40).map (·.size) = some (#[Value.string s] ++ ds).size := by
  have : (Tryd.prog.info? 40).map (·.size) = some 5 := by kernel_rfl
  rw [this]; simp [h]
theorem stOne {ops : Array Oper} {rest : List Oper} {o : Oper} {a : Act} {w : World} {Q : Exit → Act → World → Prop} (ty : TypeId) (x y : Operand) (ho : o.op = .store ty x y) (hgd : o.guard = none) (g : Nat) (hx : a.eval x = .pointer (some ⟨g, 0, none⟩)) (v : Value) (hy : a.eval y = v) (h1 : v.oneCell' = true)
    (t : TypeId) (old : Value) (hg : w.heap[g]? = some (.cells #[old] t (0, 0))) (hi : (Tryd.prog.info? ty).map (·.size) = some 1) (h : wpList Tryd.prog ops Q rest (a.put o.dst undef) (w.setRow g #[v])) : wpList Tryd.prog ops Q (o :: rest) a w := by
  subst hy
  exact wpList_store_one hgd ty x y ho g hx h1 t old hg hi h
def qsz (qs : List Qy) : Nat := (qs.map fun q => sz q.pd).sum
theorem qsz_snoc (qs : List Qy) (q : Qy) : qsz (qs ++ [q]) = qsz qs + sz q.pd := by simp [qsz]
theorem qsz_take {qs : List Qy} {j : Nat} (hj : j < qs.length) : qsz (qs.take (j + 1)) = qsz (qs.take j) + sz (qs[j]).pd := by
  rw [List.take_add_one, List.getElem?_eq_getElem hj]
  exact qsz_snoc _ _
theorem qsz_cons (q : Qy) (qs : List Qy) : qsz (q :: qs) = sz q.pd + qsz qs := by simp [qsz]
theorem qsz_le : ∀ (qs : List Qy) (j : Nat), qsz (qs.take j) ≤ qsz qs
  | [], j => by simp
  | a :: qs, 0 => by simp [qsz]
  | a :: qs, j + 1 => by rw [List.take_succ_cons, qsz_cons, qsz_cons]; have := qsz_le qs j; omega
theorem len_qsz : ∀ (qs : List Qy) (j : Nat), j ≤ qs.length → j ≤ qsz (qs.take j)
  | qs, 0, _ => Nat.zero_le _
  | [], j + 1, h => by simp at h
  | a :: qs, j + 1, h => by
    rw [List.take_succ_cons, qsz_cons]
    have := len_qsz qs j (by simpa using h)
    have := sz_pos a.pd
    omega
end Go.Proofs.YtjallmncajhamaaDoor
