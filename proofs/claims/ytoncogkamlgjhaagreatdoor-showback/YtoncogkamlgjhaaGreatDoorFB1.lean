/-
  Proved here: terms in memory (TmV), the reader in memory (RdM), and how both are carried. No condition.
-/
import Derived.Test.YtoncogkamlgjhaaGreatDoorFQA
import Derived.Test.YtoncogkamlgjhaaGreatDoorFA2
import Derived.Test.YtoncogkamlgjhaaGreatDoorFM1
namespace Go.Proofs.YtoncogkamlgjhaaGreatDoor
set_option maxRecDepth 100000
open Go.RowKit

/-- a term's cells -/
abbrev tmc (op fd n : Nat) (v : Value) : Array Value := #[.int .i8 ((op : Nat) : Int), .int .i8 ((fd : Nat) : Int), .int .u64 ((n : Nat) : Int), v]
mutual
/-- Cells of a term; its kids lie in blocks of S. -/
def TmV (S : Nat → Prop) (w : World) : Tm → Array Value → Prop
  | .mk op fd n ks, cs => ∃ v xs, cs = tmc op fd n v ∧ Rw S 4 26 w v ks.length xs ∧ TmL S w ks xs
def TmL (S : Nat → Prop) (w : World) : List Tm → List Value → Prop
  | [], xs => xs = []
  | t :: ts, xs => ∃ cs ys, xs = cs.toList ++ ys ∧ TmV S w t cs ∧ TmL S w ts ys
end
theorem TmV.get {S : Nat → Prop} {w : World} {op fd n : Nat} {ks : List Tm} {cs : Array Value} (h : TmV S w (.mk op fd n ks) cs) : ∃ v xs, cs = tmc op fd n v ∧ Rw S 4 26 w v ks.length xs ∧ TmL S w ks xs := by
  rw [TmV] at h; exact h
theorem TmV.of {S : Nat → Prop} {w : World} {op fd n : Nat} {ks : List Tm} {v : Value} {xs : List Value} (h : Rw S 4 26 w v ks.length xs) (hl : TmL S w ks xs) : TmV S w (.mk op fd n ks) (tmc op fd n v) := by
  rw [TmV]; exact ⟨v, xs, rfl, h, hl⟩
mutual
theorem TmV.carry {S T : Nat → Prop} {w w' : World} (hc : ∀ b, b < w.heap.size → S b → T b ∧ w'.heap[b]? = w.heap[b]?) : ∀ (t : Tm) (cs : Array Value), TmV S w t cs → TmV T w' t cs
  | .mk op fd n ks, cs, h => by
    rw [TmV] at h ⊢
    obtain ⟨v, xs, h1, h2, h3⟩ := h
    exact ⟨v, xs, h1, h2.carry hc, TmL.carry hc ks xs h3⟩
theorem TmL.carry {S T : Nat → Prop} {w w' : World} (hc : ∀ b, b < w.heap.size → S b → T b ∧ w'.heap[b]? = w.heap[b]?) : ∀ (ts : List Tm) (xs : List Value), TmL S w ts xs → TmL T w' ts xs
  | [], xs, h => by rw [TmL] at h ⊢; exact h
  | t :: ts, xs, h => by
    rw [TmL] at h ⊢
    obtain ⟨cs, ys, h1, h2, h3⟩ := h
    exact ⟨cs, ys, h1, TmV.carry hc t cs h2, TmL.carry hc ts ys h3⟩
end
theorem TmV.size {S : Nat → Prop} {w : World} {t : Tm} {cs : Array Value} (h : TmV S w t cs) : cs.size = 4 := by
  obtain ⟨op, fd, n, ks⟩ := t
  obtain ⟨v, xs, rfl, -⟩ := h.get
  rfl
theorem TmV.one {S : Nat → Prop} {w : World} {t : Tm} {cs : Array Value} (h : TmV S w t cs) : cs.all (·.oneCell') = true := by
  obtain ⟨op, fd, n, ks⟩ := t
  obtain ⟨v, xs, rfl, h2, -⟩ := h.get
  obtain ⟨ao, cap, rfl⟩ := h2.form
  simp [Value.oneCell']
theorem infoTM : (Tryz.prog.info? 26).map (fun i => (i.zero, i.size, i.bytes)) = some (some (.agg (tmc 0 0 0 nilS)), 4, 40) := by kernel_rfl
theorem sizeTM : (Tryz.prog.info? 26).map (·.size) = some 4 := by kernel_rfl
theorem TmV.info {S : Nat → Prop} {w : World} {t : Tm} {cs : Array Value} (h : TmV S w t cs) : (Tryz.prog.info? 26).map (·.size) = some cs.size := by rw [h.size]; exact sizeTM
theorem TmL.len {S : Nat → Prop} {w : World} : ∀ (ts : List Tm) (xs : List Value), TmL S w ts xs → xs.length = ts.length * 4
  | [], xs, h => by rw [TmL] at h; subst h; rfl
  | t :: ts, xs, h => by
    rw [TmL] at h
    obtain ⟨cs, ys, rfl, h2, h3⟩ := h
    have := TmL.len ts ys h3
    have := h2.size
    simp; omega
theorem TmL.snoc {S : Nat → Prop} {w : World} {t : Tm} {cs : Array Value} (ht : TmV S w t cs) : ∀ (ts : List Tm) (xs : List Value), TmL S w ts xs → TmL S w (ts ++ [t]) (xs ++ cs.toList)
  | [], xs, h => by
    rw [TmL] at h; subst h
    rw [List.nil_append, List.nil_append, TmL]
    exact ⟨cs, [], by simp, ht, by rw [TmL]⟩
  | a :: ts, xs, h => by
    rw [TmL] at h
    obtain ⟨ds, ys, rfl, h2, h3⟩ := h
    rw [List.cons_append, TmL]
    exact ⟨ds, ys ++ cs.toList, by simp, h2, TmL.snoc ht ts ys h3⟩
theorem TmL.nil {S : Nat → Prop} {w : World} : TmL S w [] [] := by rw [TmL]
theorem TmL.one {S : Nat → Prop} {w : World} {t : Tm} {cs : Array Value} (h : TmV S w t cs) : TmL S w [t] cs.toList := by
  have := TmL.snoc h [] [] TmL.nil
  simpa using this
/-- the j-th -/
theorem TmL.at {S : Nat → Prop} {w : World} : ∀ (ts : List Tm) (xs : List Value) (j : Nat) (hj : j < ts.length), TmL S w ts xs → ∃ cs, TmV S w ts[j] cs ∧ ∀ i, i < 4 → xs[j * 4 + i]? = cs[i]?
  | [], xs, j, hj, h => by simp at hj
  | t :: ts, xs, j, hj, h => by
    rw [TmL] at h
    obtain ⟨cs, ys, rfl, h2, h3⟩ := h
    have hs := h2.size
    cases j with
    | zero =>
      refine ⟨cs, h2, fun i hi => ?_⟩
      rw [Nat.zero_mul, Nat.zero_add, List.getElem?_append_left (by simp; omega)]
      simp
    | succ j =>
      obtain ⟨ds, h4, h5⟩ := TmL.at ts ys j (by simpa using hj) h3
      refine ⟨ds, h4, fun i hi => ?_⟩
      rw [List.getElem?_append_right (by simp; omega)]
      have := h5 i hi
      rw [← this]
      congr 1
      simp; omega
/-- A slice of one term, just made. -/
theorem TmV.bld {S : Nat → Prop} {w : World} {t : Tm} {cs : Array Value} (h : TmV S w t cs) (op : Nat) (hf : ∀ b, w.heap.size ≤ b → S b) : TmV S (w.alloc (.cells cs 26)) (ov op [t]) (tmc op 0 0 (.slice (some ⟨w.heap.size, 0, none⟩) 1 1)) := by
  have hs := h.size
  refine TmV.of (xs := cs.toList) ⟨by simp [hs], Or.inr ⟨w.heap.size, 0, 1, cs, rfl, hf _ (Nat.le_refl _), heap_alloc_new _ _, Nat.le_refl _, by omega, ?_⟩⟩ (TmL.one (TmV.carry (fun b hb hS => ⟨hS, heap_alloc_old _ _ hb⟩) _ _ h))
  simp only [List.length_cons, List.length_nil, List.drop_zero]
  rw [List.take_of_length_le (by simp [hs])]
theorem TmV.leaf (S : Nat → Prop) (w : World) (op fd n : Nat) : TmV S w (.mk op fd n []) (tmc op fd n nilS) := TmV.of (Rw.nil _ _ _ _) TmL.nil

/-- the fields' names, as they are put into the map -/
def fT : List (ByteArray × Value) := (fdT.map fun p => (p.1, Value.int .i8 ((p.2 : Nat) : Int))).reverse
theorem lay_app : ∀ (a : List (ByteArray × Value)) (k : Lit), (∀ p ∈ a, k ≠ .string p.1.data.toList) → ∀ b, lay (a ++ b) k = lay b k
  | [], k, _, b => rfl
  | p :: a, k, h, b => by
    rw [List.cons_append, lay, updL_other _ _ (h p (List.mem_cons_self ..))]
    exact lay_app a k (fun q hq => h q (List.mem_cons_of_mem _ hq)) b
theorem lit_ne {s t : ByteArray} (h : s ≠ t) : Lit.string s.data.toList ≠ .string t.data.toList := fun e => h (by
  have e' : s.data.toList = t.data.toList := by simpa using e
  exact ByteArray.ext (Array.ext' e'))
theorem lay_one (s t : ByteArray) (v : Value) (l : List (ByteArray × Value)) : lay ((t, v) :: l) (.string s.data.toList) = if s = t then some v else lay l (.string s.data.toList) := by
  rw [lay]
  split
  · rename_i e; subst e; rw [updL_same]
  · rename_i e; rw [updL_other _ _ (lit_ne e)]
theorem fT_lay (s : ByteArray) : lay fT (.string s.data.toList) = (fdOf s).map fun f => Value.int .i8 ((f : Nat) : Int) := by
  have hT : fT = [(Qswitch, .int .i8 10), (Qport, .int .i8 9), (Qdport, .int .i8 8), (Qsport, .int .i8 7), (Qproto, .int .i8 6), (Qto, .int .i8 5), (Qfrom, .int .i8 4), (Qvlan, .int .i8 3), (Qkind, .int .i8 2), (Qdst, .int .i8 1), (Qsrc, .int .i8 0)] := rfl
  rw [hT]
  simp only [lay_one]
  unfold fdOf fdT
  by_cases h0 : s = Qsrc
  · subst h0; rfl
  by_cases h1 : s = Qdst
  · subst h1; rfl
  by_cases h2 : s = Qkind
  · subst h2; rfl
  by_cases h3 : s = Qvlan
  · subst h3; rfl
  by_cases h4 : s = Qfrom
  · subst h4; rfl
  by_cases h5 : s = Qto
  · subst h5; rfl
  by_cases h6 : s = Qproto
  · subst h6; rfl
  by_cases h7 : s = Qsport
  · subst h7; rfl
  by_cases h8 : s = Qdport
  · subst h8; rfl
  by_cases h9 : s = Qport
  · subst h9; rfl
  by_cases ha : s = Qswitch
  · subst ha; rfl
  simp [h0, h1, h2, h3, h4, h5, h6, h7, h8, h9, ha, lay]

/-- Block r is a reader at the i-th word; its words lie in older blocks, as its map, of block m. -/
structure RdM (l : List Wd) (r m : Nat) (ws : Value) (i : Nat) (W : World) : Prop where
  blk : W.heap[r]? = some (.cells #[ws, .int .i64 ((i : Nat) : Int), .map (some m)] 50 (0, 0))
  wds : Wds (fun b => b < r) W ws l
  mp : ∃ n, Mp W 9 m n (lay fT)
  mlt : m < r
theorem RdM.lt {l : List Wd} {r m : Nat} {ws : Value} {i : Nat} {W : World} (h : RdM l r m ws i W) : r < W.heap.size := (Array.getElem?_eq_some_iff.1 h.blk).1
/-- what may turn when the reader goes on -/
abbrev Rn (r : Nat) (w : World) : Nat → Prop := fun x => x = r ∨ w.heap.size ≤ x
theorem RdM.to {l : List Wd} {r m : Nat} {ws : Value} {i j : Nat} {W W' : World} (h : RdM l r m ws i W) (ho : Only (Rn r W) W W') (hb : W'.heap[r]? = some (.cells #[ws, .int .i64 ((j : Nat) : Int), .map (some m)] 50 (0, 0))) : RdM l r m ws j W' := by
  have hl := h.lt
  obtain ⟨n, hm⟩ := h.mp
  have hml := h.mlt
  exact ⟨hb, h.wds.carry fun b hb hS => ⟨hS, ho.block b (by rintro (e | e) <;> omega)⟩, ⟨n, hm.carry (ho.block m (by rintro (e | e) <;> omega))⟩, hml⟩
theorem RdM.on {l : List Wd} {r m : Nat} {ws : Value} {i : Nat} {W W' : World} (h : RdM l r m ws i W) (hb : Below W.heap.size W W') : RdM l r m ws i W' :=
  h.to (Only.of hb fun _ hk => Or.inr hk) ((hb.block _ h.lt).trans h.blk)
theorem RdM.keep {l : List Wd} {r m : Nat} {ws : Value} {i : Nat} {W W' : World} (h : RdM l r m ws i W) (hk : ∀ b, b ≤ r → W'.heap[b]? = W.heap[b]?) : RdM l r m ws i W' := by
  obtain ⟨n, hm⟩ := h.mp
  exact ⟨(hk r (Nat.le_refl _)).trans h.blk, h.wds.carry fun b _ hS => ⟨hS, hk b (Nat.le_of_lt hS)⟩, ⟨n, hm.carry (hk m (Nat.le_of_lt h.mlt))⟩, h.mlt⟩
theorem RdM.go {l : List Wd} {r m : Nat} {ws : Value} {i : Nat} {W : World} (h : RdM l r m ws i W) (j : Nat) : RdM l r m ws j (W.setCell ⟨r, 1, none⟩ (.int .i64 ((j : Nat) : Int))) ∧ Only (Rn r W) W (W.setCell ⟨r, 1, none⟩ (.int .i64 ((j : Nat) : Int))) := by
  have ho : Only (Rn r W) W (W.setCell ⟨r, 1, none⟩ (.int .i64 ((j : Nat) : Int))) := (Only.refl _ W).setCell (p := ⟨r, 1, none⟩) (Or.inl rfl) _
  exact ⟨h.to ho (by rw [heap_setCell_same W r 1 _ _ _ h.blk]; rfl), ho⟩
theorem RdM.c1 {l : List Wd} {r m : Nat} {ws : Value} {i : Nat} {W : World} (h : RdM l r m ws i W) : W.cell? ⟨r, 1, none⟩ = some (.int .i64 ((i : Nat) : Int)) := (cell_of_row _ _ _ _ _ _ h.blk).trans rfl
theorem RdM.f1 {l : List Wd} {r m : Nat} {ws : Value} {i : Nat} {W : World} (h : RdM l r m ws i W) : W.frozen? ⟨r, 1, none⟩ = false := by simp [World.frozen?, h.blk]
theorem RdM.c0 {l : List Wd} {r m : Nat} {ws : Value} {i : Nat} {W : World} (h : RdM l r m ws i W) : W.cell? ⟨r, 0, none⟩ = some ws := (cell_of_row _ _ _ _ _ _ h.blk).trans rfl
theorem RdM.c2 {l : List Wd} {r m : Nat} {ws : Value} {i : Nat} {W : World} (h : RdM l r m ws i W) : W.cell? ⟨r, 2, none⟩ = some (.map (some m)) := (cell_of_row _ _ _ _ _ _ h.blk).trans rfl
/-- what one step leaves, behind what an earlier one left -/
theorem Only.thn {r : Nat} {a b c : World} (h : Only (Rn r a) a b) (k : Only (Rn r b) b c) : Only (Rn r a) a c := h.trans (k.mono fun x hx => by
  rcases hx with e | e
  · exact Or.inl e
  · exact Or.inr (Nat.le_trans h.size e))
theorem Only.bel {r : Nat} {a b c : World} (h : Only (Rn r a) a b) (k : Below b.heap.size b c) : Only (Rn r a) a c := h.thn (Only.of k fun _ hk => Or.inr hk)
theorem wcs_wat : ∀ (l : List Wd) (i : Nat), i < l.length → ∀ j, j < 4 → (wcs l)[i * 4 + j]? = (wdc (wat l i))[j]?
  | [], i, h, _, _ => by simp at h
  | x :: l, 0, h, j, hj => by
    show ((wdc x).toList ++ wcs l)[0 * 4 + j]? = _
    rw [Nat.zero_mul, Nat.zero_add, List.getElem?_append_left (by simp; omega), Array.getElem?_toList]
    rfl
  | x :: l, i + 1, h, j, hj => by
    have := wcs_wat l i (by simpa using h) j hj
    show ((wdc x).toList ++ wcs l)[(i + 1) * 4 + j]? = _
    rw [List.getElem?_append_right (by simp; omega)]
    have e : (i + 1) * 4 + j - (wdc x).toList.length = i * 4 + j := by simp; omega
    rw [e, this]; rfl
/-- the words' slice, and the word at a place -/
theorem RdM.word {l : List Wd} {r m : Nat} {ws : Value} {i k : Nat} {W : World} (h : RdM l r m ws i W) (hk : k < l.length) : ∃ g o cap, ws = .slice (some ⟨g, o, none⟩) l.length cap ∧ l.length ≤ cap ∧ g < r ∧ W.rangeAt g (o + k * 4) (wdc (wat l k)).toList := by
  obtain ⟨hx, ⟨-, h0⟩ | ⟨g, o, cap, cur, rfl, hS, hg, hc, hs, ht⟩⟩ := h.wds
  · omega
  · refine ⟨g, o, cap, rfl, hc, hS, range_of fun j hj => ?_⟩
    have hj4 : j < 4 := hj
    have hb : k * 4 + j < l.length * 4 := by omega
    rw [cell_of_row _ _ _ _ _ _ hg, Nat.add_assoc, cells_at ht hb, wcs_wat l k hk j hj4]
end Go.Proofs.YtoncogkamlgjhaaGreatDoor
