/-
  Proved here: terms of whatever numbers, plain and in memory; which of them have words; queries and policies of them. No condition.
-/
import Derived.Test.YtoncogkamlgjhaaGreatDoorFXC
import Derived.Test.YtoncogkamlgjhaaGreatDoorFBI
namespace Go.Proofs.YtoncogkamlgjhaaGreatDoor
set_option maxRecDepth 100000
open Go.RowKit

/-- a term, whatever its Op and Field -/
inductive Ti
  | mk (op fd : Int) (n : Nat) (kids : List Ti)
mutual
def ti : Tm → Ti
  | .mk op fd n ks => .mk op fd n (tis ks)
def tis : List Tm → List Ti
  | [] => []
  | t :: ts => ti t :: tis ts
end
mutual
def szI : Ti → Nat
  | .mk _ _ _ ks => szsI ks + 1
def szsI : List Ti → Nat
  | [] => 0
  | t :: ts => szI t + szsI ts
end
mutual
def dpI : Ti → Nat
  | .mk _ _ _ ks => dpsI ks + 1
def dpsI : List Ti → Nat
  | [] => 0
  | t :: ts => max (dpI t) (dpsI ts)
end
/-- a kind's bounds -/
def lst : Nat → Nat
  | 3 => 1 | 4 => 2 | 5 => 2 | 6 => 1 | 8 => 2 | 9 => 2 | 10 => 1 | _ => 0
def mst : Nat → Nat
  | 3 => 1 | 4 => 4096 | 5 => 4096 | 6 => 1 | 8 => 4096 | 9 => 4096 | 10 => 1 | _ => 0
def kndB (b : Bool) (op : Int) : Bool := if b = true then decide (0 ≤ op) && decide (op ≤ 5) else decide (6 ≤ op) && decide (op ≤ 10)
def fitB (fd : Int) (n : Nat) : Bool := decide (0 ≤ fd) && decide (fd ≤ 10) && decide (n < 2 ^ wdt fd.toNat)
def whlB (op fd : Int) (n len : Nat) : Bool := decide (lst op.toNat ≤ len) && decide (len ≤ mst op.toNat) && (if op = 2 ∨ op = 7 then fitB fd n else decide (fd = 0) && decide (n = 0))
mutual
def okI (b : Bool) : Ti → Bool
  | .mk op fd n ks => kndB b op && whlB op fd n ks.length && okIs (decide (op ≤ 6)) ks
def okIs (b : Bool) : List Ti → Bool
  | [] => true
  | t :: ts => okI b t && okIs b ts
end
theorem tis_len : ∀ ts : List Tm, (tis ts).length = ts.length
  | [] => rfl
  | t :: ts => by rw [tis, List.length_cons, List.length_cons, tis_len ts]
mutual
theorem sz_ti : ∀ t : Tm, szI (ti t) = sz t
  | .mk op fd n ks => by rw [ti, szI, sz, szs_ti ks]
theorem szs_ti : ∀ ts : List Tm, szsI (tis ts) = szs ts
  | [] => by rw [tis, szsI, szs]
  | t :: ts => by rw [tis, szsI, szs, sz_ti t, szs_ti ts]
end
mutual
theorem dp_ti : ∀ t : Tm, dpI (ti t) = dp t
  | .mk op fd n ks => by rw [ti, dpI, dp, dps_ti ks]
theorem dps_ti : ∀ ts : List Tm, dpsI (tis ts) = dps ts
  | [] => by rw [tis, dpsI, dps]
  | t :: ts => by rw [tis, dpsI, dps, dp_ti t, dps_ti ts]
end
theorem wdt_pos (f : Nat) : 0 < wdt f := by unfold wdt; split <;> decide
/-- what has words is a term of numbers that are some -/
theorem okT_mk (b : Bool) (op fd n : Nat) (ks : List Tm) : okT b (.mk op fd n ks) = (kndB b op && whlB op fd n ks.length && okK (decide (op ≤ 6)) ks) := by
  rw [okT]
  congr 1
  by_cases hk : kndB b op = true
  · have hk' : (if b = true then decide (op ≤ 5) else decide (6 ≤ op) && decide (op ≤ 10)) = true := by
      unfold kndB at hk
      cases b <;> simp at hk ⊢ <;> omega
    have h10 : op ≤ 10 := by cases b <;> simp at hk' <;> omega
    rw [hk, hk', Bool.true_and, Bool.true_and]
    unfold whlB
    have hop : ((op : Nat) : Int).toNat = op := rfl
    rw [hop]
    have hfd : fitB fd n = (decide (fd ≤ 10) && decide (n < 2 ^ wdt fd)) := by
      unfold fitB
      rw [show ((fd : Nat) : Int).toNat = fd from rfl, decide_eq_true (show (0 : Int) ≤ (fd : Int) by omega), Bool.true_and]
      congr 1
      exact decide_eq_decide.2 (by omega)
    have hf0 : decide ((fd : Int) = 0) = decide (fd = 0) := decide_eq_decide.2 (by omega)
    rw [hfd, hf0]
    have hcase : op = 0 ∨ op = 1 ∨ op = 2 ∨ op = 3 ∨ op = 4 ∨ op = 5 ∨ op = 6 ∨ op = 7 ∨ op = 8 ∨ op = 9 ∨ op = 10 := by omega
    clear hk hk' h10 hop hfd hf0
    rcases hcase with rfl | rfl | rfl | rfl | rfl | rfl | rfl | rfl | rfl | rfl | rfl <;> simp [lst, mst] <;> rw [Bool.eq_iff_iff] <;> simp <;> first | omega | (cases ks <;> simp)
  · have hk0 : kndB b op = false := by simpa using hk
    have hk' : (if b = true then decide (op ≤ 5) else decide (6 ≤ op) && decide (op ≤ 10)) = false := by
      unfold kndB at hk0
      cases b <;> simp at hk0 ⊢ <;> omega
    rw [hk0, hk', Bool.false_and, Bool.false_and]
mutual
theorem ok_ti (b : Bool) : ∀ t : Tm, okI b (ti t) = okT b t
  | .mk op fd n ks => by
    rw [ti, okI, okT_mk, tis_len, oks_ti _ ks]
    congr 2
    exact decide_eq_decide.2 (by omega)
theorem oks_ti (b : Bool) : ∀ ts : List Tm, okIs b (tis ts) = okK b ts
  | [] => by rw [tis, okIs, okK]
  | t :: ts => by rw [tis, okIs, okK, ok_ti b t, oks_ti b ts]
end
mutual
theorem ti_of (b : Bool) : ∀ t : Ti, okI b t = true → ∃ t', t = ti t'
  | .mk op fd n ks, h => by
    rw [okI, Bool.and_eq_true, Bool.and_eq_true] at h
    obtain ⟨⟨h1, h2⟩, h3⟩ := h
    obtain ⟨ks', rfl⟩ := tis_of _ ks h3
    have ho : 0 ≤ op := by unfold kndB at h1; cases b <;> simp at h1 <;> omega
    have hf : 0 ≤ fd := by
      unfold whlB at h2
      simp only [Bool.and_eq_true] at h2
      have h4 := h2.2
      split at h4
      · unfold fitB at h4; simp at h4; omega
      · simp at h4; omega
    exact ⟨.mk op.toNat fd.toNat n ks', by rw [ti, Int.toNat_of_nonneg ho, Int.toNat_of_nonneg hf]⟩
theorem tis_of (b : Bool) : ∀ ts : List Ti, okIs b ts = true → ∃ ts', ts = tis ts'
  | [], _ => ⟨[], by rw [tis]⟩
  | t :: ts, h => by
    rw [okIs, Bool.and_eq_true] at h
    obtain ⟨t', rfl⟩ := ti_of b t h.1
    obtain ⟨ts', rfl⟩ := tis_of b ts h.2
    exact ⟨t' :: ts', by rw [tis]⟩
end
theorem szI_pos (t : Ti) : 0 < szI t := by obtain ⟨op, fd, n, ks⟩ := t; rw [szI]; omega
theorem dpI_pos (t : Ti) : 0 < dpI t := by obtain ⟨op, fd, n, ks⟩ := t; rw [dpI]; omega
theorem szI_mk (op fd : Int) (n : Nat) (ks : List Ti) : szI (.mk op fd n ks) = szsI ks + 1 := by rw [szI]
theorem dpI_mk (op fd : Int) (n : Nat) (ks : List Ti) : dpI (.mk op fd n ks) = dpsI ks + 1 := by rw [dpI]
theorem szsI_snoc : ∀ (ks : List Ti) (t : Ti), szsI (ks ++ [t]) = szsI ks + szI t
  | [], t => by rw [List.nil_append, szsI, szsI, szsI]; omega
  | a :: ks, t => by rw [List.cons_append, szsI, szsI, szsI_snoc ks t]; omega
theorem szsI_take {ks : List Ti} {j : Nat} (hj : j < ks.length) : szsI (ks.take (j + 1)) = szsI (ks.take j) + szI ks[j] := by
  rw [List.take_add_one, List.getElem?_eq_getElem hj]
  exact szsI_snoc _ _
theorem szsI_mem : ∀ {ks : List Ti} {t : Ti}, t ∈ ks → szI t ≤ szsI ks
  | a :: ks, t, h => by
    rw [szsI]
    rcases List.mem_cons.1 h with rfl | h
    · omega
    · have := szsI_mem h; omega
theorem szsI_le : ∀ (ks : List Ti) (j : Nat), szsI (ks.take j) ≤ szsI ks
  | [], j => by simp
  | a :: ks, 0 => by rw [List.take_zero, szsI]; omega
  | a :: ks, j + 1 => by rw [List.take_succ_cons, szsI, szsI]; have := szsI_le ks j; omega
theorem dpsI_mem : ∀ {ks : List Ti} {t : Ti}, t ∈ ks → dpI t ≤ dpsI ks
  | a :: ks, t, h => by
    rw [dpsI]
    rcases List.mem_cons.1 h with rfl | h
    · omega
    · have := dpsI_mem h; omega
theorem dpsI_le {m : Nat} : ∀ {ks : List Ti}, (∀ t ∈ ks, dpI t ≤ m) → dpsI ks ≤ m
  | [], _ => by rw [dpsI]; omega
  | a :: ks, h => by
    rw [dpsI]
    have h1 := h a (List.mem_cons_self ..)
    have h2 := dpsI_le (ks := ks) fun t ht => h t (List.mem_cons_of_mem _ ht)
    omega
theorem len_szsI : ∀ (ks : List Ti) (j : Nat), j ≤ ks.length → j ≤ szsI (ks.take j)
  | ks, 0, _ => Nat.zero_le _
  | [], j + 1, h => by simp at h
  | a :: ks, j + 1, h => by
    rw [List.take_succ_cons, szsI]
    have := len_szsI ks j (by simpa using h)
    have := szI_pos a
    omega
theorem okIs_iff {b : Bool} : ∀ {ks : List Ti}, okIs b ks = true ↔ ∀ t ∈ ks, okI b t = true
  | [] => by rw [okIs]; simp
  | a :: ks => by
    rw [okIs, Bool.and_eq_true, okIs_iff (ks := ks)]
    simp
/-- a term that has words, not too many terms, not too deep -/
def Std (b : Bool) (d L : Nat) (t : Ti) : Prop := okI b t = true ∧ d + dpI t ≤ 129 ∧ szI t ≤ L

/-! in memory -/
abbrev tic (op fd : Int) (n : Nat) (v : Value) : Array Value := #[.int .i8 op, .int .i8 fd, .int .u64 ((n : Nat) : Int), v]
/-- A slice of n things of k cells each that can be read, in a block of S; xs: the cells of the things. -/
def Rx (S : Nat → Prop) (k : Nat) (w : World) (v : Value) (n : Nat) (xs : List Value) : Prop :=
  xs.length = n * k ∧ ∃ ao cap, v = .slice ao n cap ∧ n ≤ cap ∧ (n ≠ 0 → ∃ g o, ao = some ⟨g, o, none⟩ ∧ S g ∧ g < w.heap.size ∧ w.rangeAt g o xs)
theorem Rx.form {S : Nat → Prop} {k : Nat} {w : World} {v : Value} {n : Nat} {xs : List Value} (h : Rx S k w v n xs) : ∃ ao cap, v = .slice ao n cap := by
  obtain ⟨-, ao, cap, h, -⟩ := h
  exact ⟨ao, cap, h⟩
theorem Rx.one {S : Nat → Prop} {k : Nat} {w : World} {v : Value} {n : Nat} {xs : List Value} (h : Rx S k w v n xs) : v.oneCell' = true := by
  obtain ⟨ao, cap, rfl⟩ := h.form
  rfl
theorem Rx.carry {S T : Nat → Prop} {k : Nat} {w w' : World} {v : Value} {n : Nat} {xs : List Value} (h : Rx S k w v n xs) (hc : ∀ b, b < w.heap.size → S b → T b ∧ w'.heap[b]? = w.heap[b]?) : Rx T k w' v n xs := by
  obtain ⟨h1, ao, cap, h2, h3, h4⟩ := h
  refine ⟨h1, ao, cap, h2, h3, fun hn => ?_⟩
  obtain ⟨g, o, e1, e2, e3, e4⟩ := h4 hn
  obtain ⟨q1, q2⟩ := hc g e3 e2
  refine ⟨g, o, e1, q1, ?_, fun j v hj => (cell_same q2).trans (e4 j v hj)⟩
  have := Array.getElem?_eq_some_iff.1 (q2.trans (Array.getElem?_eq_getElem e3))
  exact this.1
theorem Rw.rx {S : Nat → Prop} {k t : Nat} {w : World} {v : Value} {n : Nat} {xs : List Value} (h : Rw S k t w v n xs) : Rx S k w v n xs := by
  refine ⟨h.1, ?_⟩
  rcases h.2 with ⟨rfl, rfl⟩ | ⟨g, o, cap, cur, rfl, hS, hg, hc, hs, ht⟩
  · exact ⟨none, 0, rfl, Nat.le_refl _, fun h => absurd rfl h⟩
  · refine ⟨_, _, rfl, hc, fun _ => ⟨g, o, rfl, hS, (Array.getElem?_eq_some_iff.1 hg).1, fun j v hj => ?_⟩⟩
    have hl := (List.getElem?_eq_some_iff.1 hj).1
    rw [h.1] at hl
    rw [cell_of_row _ _ _ _ _ _ hg, cells_at ht hl]
    exact hj
/-- the cells of the j-th -/
theorem Rx.at {S : Nat → Prop} {k : Nat} {w : World} {ao : Option Addr} {n cap : Nat} {xs : List Value} (h : Rx S k w (.slice ao n cap) n xs) {j : Nat} (hj : j < n) : ∃ g o, ao = some ⟨g, o, none⟩ ∧ n ≤ cap ∧ S g ∧ g < w.heap.size ∧ ∀ ds : List Value, (∀ i, i < ds.length → xs[j * k + i]? = ds[i]?) → w.rangeAt g (o + j * k) ds := by
  obtain ⟨-, ao', cap', e, h3, h4⟩ := h
  cases e
  obtain ⟨g, o, e1, e2, e3, e4⟩ := h4 (by omega)
  refine ⟨g, o, e1, h3, e2, e3, fun ds hd i v hi => ?_⟩
  have := e4 (j * k + i) v ((hd i (List.getElem?_eq_some_iff.1 hi).1).trans hi)
  rw [← Nat.add_assoc] at this
  exact this
mutual
def TiV (S : Nat → Prop) (w : World) : Ti → Array Value → Prop
  | .mk op fd n ks, cs => ∃ v xs, cs = tic op fd n v ∧ Rx S 4 w v ks.length xs ∧ TiL S w ks xs
def TiL (S : Nat → Prop) (w : World) : List Ti → List Value → Prop
  | [], xs => xs = []
  | t :: ts, xs => ∃ cs ys, xs = cs.toList ++ ys ∧ TiV S w t cs ∧ TiL S w ts ys
end
theorem TiV.get {S : Nat → Prop} {w : World} {op fd : Int} {n : Nat} {ks : List Ti} {cs : Array Value} (h : TiV S w (.mk op fd n ks) cs) : ∃ v xs, cs = tic op fd n v ∧ Rx S 4 w v ks.length xs ∧ TiL S w ks xs := by
  rw [TiV] at h; exact h
mutual
theorem TiV.carry {S T : Nat → Prop} {w w' : World} (hc : ∀ b, b < w.heap.size → S b → T b ∧ w'.heap[b]? = w.heap[b]?) : ∀ (t : Ti) (cs : Array Value), TiV S w t cs → TiV T w' t cs
  | .mk op fd n ks, cs, h => by
    rw [TiV] at h ⊢
    obtain ⟨v, xs, h1, h2, h3⟩ := h
    exact ⟨v, xs, h1, h2.carry hc, TiL.carry hc ks xs h3⟩
theorem TiL.carry {S T : Nat → Prop} {w w' : World} (hc : ∀ b, b < w.heap.size → S b → T b ∧ w'.heap[b]? = w.heap[b]?) : ∀ (ts : List Ti) (xs : List Value), TiL S w ts xs → TiL T w' ts xs
  | [], xs, h => by rw [TiL] at h ⊢; exact h
  | t :: ts, xs, h => by
    rw [TiL] at h ⊢
    obtain ⟨cs, ys, h1, h2, h3⟩ := h
    exact ⟨cs, ys, h1, TiV.carry hc t cs h2, TiL.carry hc ts ys h3⟩
end
theorem ti_on {S T : Nat → Prop} {w w' : World} {t : Ti} {cs : Array Value} (h : TiV S w t cs) (hc : ∀ b, b < w.heap.size → S b → T b ∧ w'.heap[b]? = w.heap[b]?) : TiV T w' t cs := TiV.carry hc t cs h
theorem TiV.size {S : Nat → Prop} {w : World} {t : Ti} {cs : Array Value} (h : TiV S w t cs) : cs.size = 4 := by
  obtain ⟨op, fd, n, ks⟩ := t
  obtain ⟨v, xs, rfl, -⟩ := h.get
  rfl
theorem TiV.one {S : Nat → Prop} {w : World} {t : Ti} {cs : Array Value} (h : TiV S w t cs) : cs.all (·.oneCell') = true := by
  obtain ⟨op, fd, n, ks⟩ := t
  obtain ⟨v, xs, rfl, h2, -⟩ := h.get
  obtain ⟨ao, cap, rfl⟩ := h2.form
  simp [Value.oneCell']
theorem TiV.info {S : Nat → Prop} {w : World} {t : Ti} {cs : Array Value} (h : TiV S w t cs) : (Tryz.prog.info? 26).map (·.size) = some cs.size := by rw [h.size]; exact sizeTM
/-- the j-th -/
theorem TiL.at {S : Nat → Prop} {w : World} : ∀ (ts : List Ti) (xs : List Value) (j : Nat) (hj : j < ts.length), TiL S w ts xs → ∃ cs, TiV S w ts[j] cs ∧ ∀ i, i < 4 → xs[j * 4 + i]? = cs[i]?
  | [], xs, j, hj, h => by simp at hj
  | t :: ts, xs, j, hj, h => by
    rw [TiL] at h
    obtain ⟨cs, ys, rfl, h2, h3⟩ := h
    have hs := h2.size
    cases j with
    | zero =>
      refine ⟨cs, h2, fun i hi => ?_⟩
      rw [Nat.zero_mul, Nat.zero_add, List.getElem?_append_left (by simp; omega)]
      simp
    | succ j =>
      obtain ⟨ds, h4, h5⟩ := TiL.at ts ys j (by simpa using hj) h3
      refine ⟨ds, h4, fun i hi => ?_⟩
      rw [List.getElem?_append_right (by simp; omega)]
      have := h5 i hi
      rw [← this]
      congr 1
      simp; omega
mutual
theorem tiV_of {S : Nat → Prop} {w : World} : ∀ (t : Tm) (cs : Array Value), TmV S w t cs → TiV S w (ti t) cs
  | .mk op fd n ks, cs => by
    rw [ti, TiV, TmV]
    rintro ⟨v, xs, h1, h2, h3⟩
    rw [← tis_len ks] at h2
    exact ⟨v, xs, h1, h2.rx, tiL_of ks xs h3⟩
theorem tiL_of {S : Nat → Prop} {w : World} : ∀ (ts : List Tm) (xs : List Value), TmL S w ts xs → TiL S w (tis ts) xs
  | [], xs => by rw [tis, TiL, TmL]; exact id
  | t :: ts, xs => by
    rw [tis, TiL, TmL]
    rintro ⟨cs, ys, h1, h2, h3⟩
    exact ⟨cs, ys, h1, tiV_of t cs h2, tiL_of ts ys h3⟩
end
theorem tis_at : ∀ (ts : List Tm) (j : Nat) (hj : j < ts.length) (hj' : j < (tis ts).length), (tis ts)[j] = ti ts[j]
  | t :: ts, 0, _, _ => by simp only [tis, List.getElem_cons_zero]
  | t :: ts, j + 1, hj, hj' => by
    simp only [tis, List.getElem_cons_succ]
    exact tis_at ts j (by simpa using hj) _
/-- a term that can be read in memory -/
def UmV (S : Nat → Prop) (w : World) (t : Tm) (cs : Array Value) : Prop := TiV S w (ti t) cs
def UmL (S : Nat → Prop) (w : World) (ts : List Tm) (xs : List Value) : Prop := TiL S w (tis ts) xs
theorem UmV.get {S : Nat → Prop} {w : World} {op fd n : Nat} {ks : List Tm} {cs : Array Value} (h : UmV S w (.mk op fd n ks) cs) : ∃ v xs, cs = tmc op fd n v ∧ Rx S 4 w v ks.length xs ∧ UmL S w ks xs := by
  unfold UmV at h
  rw [ti, TiV, tis_len] at h
  exact h
theorem um_on {S T : Nat → Prop} {w w' : World} {t : Tm} {cs : Array Value} (h : UmV S w t cs) (hc : ∀ b, b < w.heap.size → S b → T b ∧ w'.heap[b]? = w.heap[b]?) : UmV T w' t cs := ti_on h hc
theorem UmL.carry {S T : Nat → Prop} {w w' : World} (hc : ∀ b, b < w.heap.size → S b → T b ∧ w'.heap[b]? = w.heap[b]?) (ts : List Tm) (xs : List Value) (h : UmL S w ts xs) : UmL T w' ts xs := TiL.carry hc _ _ h
theorem UmV.size {S : Nat → Prop} {w : World} {t : Tm} {cs : Array Value} (h : UmV S w t cs) : cs.size = 4 := TiV.size h
theorem UmV.one {S : Nat → Prop} {w : World} {t : Tm} {cs : Array Value} (h : UmV S w t cs) : cs.all (·.oneCell') = true := TiV.one h
theorem UmV.info {S : Nat → Prop} {w : World} {t : Tm} {cs : Array Value} (h : UmV S w t cs) : (Tryz.prog.info? 26).map (·.size) = some cs.size := TiV.info h
theorem UmL.at {S : Nat → Prop} {w : World} (ts : List Tm) (xs : List Value) (j : Nat) (hj : j < ts.length) (h : UmL S w ts xs) : ∃ cs, UmV S w ts[j] cs ∧ ∀ i, i < 4 → xs[j * 4 + i]? = cs[i]? := by
  have hj' : j < (tis ts).length := by rw [tis_len]; exact hj
  obtain ⟨cs, h1, h2⟩ := TiL.at (tis ts) xs j hj' h
  rw [tis_at ts j hj hj'] at h1
  exact ⟨cs, h1, h2⟩
/-! queries and policies -/
structure Qi where
  nm : ByteArray
  pd : Ti
structure Pi where
  main : Ti
  qs : List Qi
def pi (p : Po) : Pi := ⟨ti p.main, p.qs.map fun q => ⟨q.nm, ti q.pd⟩⟩
def QiL (S : Nat → Prop) (w : World) : List Qi → List Value → Prop
  | [], xs => xs = []
  | q :: qs, xs => ∃ cs ys, xs = .string q.nm :: (cs.toList ++ ys) ∧ TiV S w q.pd cs ∧ QiL S w qs ys
theorem QiL.carry {S T : Nat → Prop} {w w' : World} (hc : ∀ b, b < w.heap.size → S b → T b ∧ w'.heap[b]? = w.heap[b]?) : ∀ (qs : List Qi) (xs : List Value), QiL S w qs xs → QiL T w' qs xs
  | [], xs, h => h
  | q :: qs, xs, h => by
    obtain ⟨cs, ys, h1, h2, h3⟩ := h
    exact ⟨cs, ys, h1, ti_on h2 hc, QiL.carry hc qs ys h3⟩
theorem QiL.at {S : Nat → Prop} {w : World} : ∀ (qs : List Qi) (xs : List Value) (j : Nat) (hj : j < qs.length), QiL S w qs xs → ∃ cs, TiV S w (qs[j]).pd cs ∧ ∀ i, i < 5 → xs[j * 5 + i]? = (Value.string (qs[j]).nm :: cs.toList)[i]?
  | [], xs, j, hj, h => by simp at hj
  | q :: qs, xs, j, hj, h => by
    obtain ⟨cs, ys, rfl, h2, h3⟩ := h
    have hs := h2.size
    cases j with
    | zero =>
      refine ⟨cs, h2, fun i hi => ?_⟩
      rw [Nat.zero_mul, Nat.zero_add, ← List.cons_append, List.getElem?_append_left (by simp; omega)]
      rfl
    | succ j =>
      obtain ⟨ds, h4, h5⟩ := QiL.at qs ys j (by simpa using hj) h3
      refine ⟨ds, h4, fun i hi => ?_⟩
      rw [← List.cons_append, List.getElem?_append_right (by simp; omega)]
      refine Eq.trans ?_ (h5 i hi)
      congr 1
      simp; omega
def PiV (S : Nat → Prop) (w : World) (p : Pi) (cs : Array Value) : Prop :=
  ∃ ms qv xs, cs = ms ++ #[qv] ∧ TiV S w p.main ms ∧ Rx S 5 w qv p.qs.length xs ∧ QiL S w p.qs xs
theorem PiV.carry {S T : Nat → Prop} {w w' : World} {p : Pi} {cs : Array Value} (h : PiV S w p cs) (hc : ∀ b, b < w.heap.size → S b → T b ∧ w'.heap[b]? = w.heap[b]?) : PiV T w' p cs := by
  obtain ⟨ms, qv, xs, h1, h2, h3, h4⟩ := h
  exact ⟨ms, qv, xs, h1, ti_on h2 hc, h3.carry hc, QiL.carry hc _ _ h4⟩
theorem PiV.size {S : Nat → Prop} {w : World} {p : Pi} {cs : Array Value} (h : PiV S w p cs) : cs.size = 5 := by
  obtain ⟨ms, qv, xs, rfl, h2, -⟩ := h
  simp [h2.size]
theorem PiV.one {S : Nat → Prop} {w : World} {p : Pi} {cs : Array Value} (h : PiV S w p cs) : cs.all (·.oneCell') = true := by
  obtain ⟨ms, qv, xs, rfl, h2, h3, -⟩ := h
  rw [Array.all_append, h2.one]
  simp [h3.one]
theorem PiV.info {S : Nat → Prop} {w : World} {p : Pi} {cs : Array Value} (h : PiV S w p cs) : (Tryz.prog.info? 29).map (·.size) = some cs.size := by rw [h.size]; exact sizePO
theorem qiL_of {S : Nat → Prop} {w : World} : ∀ (qs : List Qy) (xs : List Value), QyL S w qs xs → QiL S w (qs.map fun q => ⟨q.nm, ti q.pd⟩) xs
  | [], xs => id
  | q :: qs, xs => by
    rintro ⟨cs, ys, h1, h2, h3⟩
    exact ⟨cs, ys, h1, tiV_of _ cs h2, qiL_of qs ys h3⟩
theorem piV_of {S : Nat → Prop} {w : World} (p : Po) (cs : Array Value) (h : PoV S w p cs) : PiV S w (pi p) cs := by
  have hl : (pi p).qs.length = p.qs.length := List.length_map _
  obtain ⟨ms, qv, xs, h1, h2, h3, h4⟩ := h
  exact ⟨ms, qv, xs, h1, tiV_of _ ms h2, by rw [hl]; exact h3.rx, qiL_of _ xs h4⟩
def UyL (S : Nat → Prop) (w : World) (qs : List Qy) (xs : List Value) : Prop := QiL S w (qs.map fun q => ⟨q.nm, ti q.pd⟩) xs
theorem UyL.carry {S T : Nat → Prop} {w w' : World} (hc : ∀ b, b < w.heap.size → S b → T b ∧ w'.heap[b]? = w.heap[b]?) (qs : List Qy) (xs : List Value) (h : UyL S w qs xs) : UyL T w' qs xs := QiL.carry hc _ _ h
theorem UyL.at {S : Nat → Prop} {w : World} (qs : List Qy) (xs : List Value) (j : Nat) (hj : j < qs.length) (h : UyL S w qs xs) : ∃ cs, UmV S w (qs[j]).pd cs ∧ ∀ i, i < 5 → xs[j * 5 + i]? = (Value.string (qs[j]).nm :: cs.toList)[i]? := by
  obtain ⟨cs, h1, h2⟩ := QiL.at (S := S) (w := w) (qs.map fun (q : Qy) => (⟨q.nm, ti q.pd⟩ : Qi)) xs j (by rw [List.length_map]; exact hj) h
  simp only [List.getElem_map] at h1 h2
  exact ⟨cs, h1, h2⟩
/-- a policy with words, apart -/
theorem piV_get {S : Nat → Prop} {w : World} {p : Po} {cs : Array Value} (h : PiV S w (pi p) cs) : ∃ ms qv xs, cs = ms ++ #[qv] ∧ UmV S w p.main ms ∧ Rx S 5 w qv p.qs.length xs ∧ UyL S w p.qs xs := by
  have hl : (pi p).qs.length = p.qs.length := List.length_map _
  obtain ⟨ms, qv, xs, h1, h2, h3, h4⟩ := h
  rw [hl] at h3
  exact ⟨ms, qv, xs, h1, h2, h3, h4⟩
end Go.Proofs.YtoncogkamlgjhaaGreatDoor
