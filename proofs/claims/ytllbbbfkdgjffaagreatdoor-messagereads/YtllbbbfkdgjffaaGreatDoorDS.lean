/-
  Laws of our own: lists of actions and of copies that grow by appends, told apart by their blocks' types; a rule in a block that is read bit by bit (Rs). No condition.
-/
import Derived.Test.YtllbbbfkdgjffaaGreatDoorJH
namespace Go.Proofs.YtllbbbfkdgjffaaGreatDoor
open Go.RowKit

theorem buildRl (k c : Int) (w : World) : (Instr.build 31 #[(0, .int .i64 k), (3, .int .u64 c)]).run Tryz.prog w = .ok (.agg (rlc ⟨k, zf, [], c⟩ nilS)) w := by
  have e : rlc ⟨k, zf, [], c⟩ nilS = #[.int .i64 k, .int .u64 0, .int .u64 0, .int .u64 0, .int .u64 0, .int .u64 0, .int .u64 0, .int .u64 0, .int .u64 0, .int .u64 0, .int .u64 0, .int .u64 0, .int .u64 0, .int .u64 0, .int .u64 0, .int .u64 0, .int .u64 0, .int .u64 0, .int .u64 0, .int .u64 0, .int .u64 0, .int .u64 0, .int .u64 0, nilS, .int .u64 c] := by kernel_rfl
  rw [e]
  show _ = _
  kernel_rfl
section
variable {ops : Array Oper} {rest : List Oper} {o : Oper} {a : Act} {w : World} {Q : Exit → Act → World → Prop}
theorem bldRl (x y : Operand) (p q : Int) (ho : o.op = .build 31 #[(0, x), (3, y)]) (hx : a.eval x = .int .i64 p) (hy : a.eval y = .int .u64 q) (hw : Region.wanted o (yielded ops a.tmps) = true)
    (h : wpList Tryz.prog ops Q rest (a.put o.dst (.agg (rlc ⟨p, zf, [], q⟩ nilS))) w) : wpList Tryz.prog ops Q (o :: rest) a w := by
  unfold wpList
  rw [if_pos hw]
  refine Or.inl ?_
  unfold Oper.wp execOp
  have := buildRl p q w
  simp only [ho, List.map_toArray, List.map_cons, List.map_nil, hx, hy, Sem.run_bind, Sem.run_pure, Result.andThen_ok, this]
  exact h
theorem allocRl (w : World) : (Instr.alloc 31 true (.tuple #[])).run Tryz.prog w = .ok (ptr w.heap.size) (w.alloc (.cells (rlc zRl nilS) 31)) := by
  rw [zero_rl]
  show _ = _
  kernel_rfl
theorem alcRl (ho : o.op = .alloc 31) (hw : Region.wanted o (yielded ops a.tmps) = true)
    (h : wpList Tryz.prog ops Q rest (a.put o.dst (ptr w.heap.size)) (w.alloc (.cells (rlc zRl nilS) 31))) : wpList Tryz.prog ops Q (o :: rest) a w := by
  unfold wpList
  rw [if_pos hw]
  refine Or.inl ?_
  unfold Oper.wp execOp
  have := allocRl w
  simp only [ho, Sem.run_bind, Sem.run_pure, Result.andThen_ok, this]
  exact h
end
theorem Rw.keep {S : Nat → Prop} {k t : Nat} {w w' : World} {v : Value} {n : Nat} {xs : List Value} (h : Rw S k t w v n xs) (hk : ∀ b cur, S b → w.heap[b]? = some (.cells cur t (0, 0)) → w'.heap[b]? = w.heap[b]?) : Rw S k t w' v n xs := by
  refine ⟨h.1, ?_⟩
  rcases h.2 with h | ⟨g, o, cap, cur, h1, h2, h3, h4⟩
  · exact Or.inl h
  · exact Or.inr ⟨g, o, cap, cur, h1, h2, (hk g cur h2 h3).trans h3, h4⟩
theorem Apd.keep {S : Nat → Prop} {k t : Nat} {w w' : World} {u : Value} {n : Nat} {xs : List Value} (hA : Apd w u w') (hu : Rw S k t w u n xs) {b t' : Nat} {cur : Array Value} (hb : w.heap[b]? = some (.cells cur t' (0, 0))) (ht : t' ≠ t) : w'.heap[b]? = w.heap[b]? := by
  refine hA.block b (Array.getElem?_eq_some_iff.1 hb).1 fun e => ?_
  rcases hu.2 with ⟨rfl, _⟩ | ⟨g, o, cap, cur', rfl, _, h3, _⟩
  · simp [Value.ownBlock] at e
  · simp [Value.ownBlock] at e
    subst e
    rw [h3] at hb
    injection hb with hb
    injection hb with _ hb _
    exact ht hb.symm
def acc (a : Ac) : List Value := [.int .i8 a.dw, .int .i8 a.fd, .int .u64 a.n]
/-- A list of actions. -/
structure AcR (S : Nat → Prop) (w : World) (v : Value) (l : List Ac) : Prop where
  rw : Rw S 3 93 w v l.length (l.flatMap acc)
  fit : ∀ a ∈ l, a.Fit
  len : l.length ≤ 65535
theorem acc_at : ∀ (l : List Ac) (j i : Nat) (hj : j < l.length), i < 3 → (l.flatMap acc)[j * 3 + i]? = (acc l[j])[i]?
  | [], j, i, hj, _ => by simp at hj
  | a :: l, 0, i, hj, hi => by
    rw [List.flatMap_cons, List.getElem?_append_left (by simp [acc]; omega)]
    simp
  | a :: l, j + 1, i, hj, hi => by
    rw [List.flatMap_cons, List.getElem?_append_right (by simp [acc]; omega)]
    have := acc_at l j i (by simpa using hj) hi
    rw [show (j + 1) * 3 + i - (acc a).length = j * 3 + i by simp [acc]; omega, this]
    simp
theorem AcR.acs {S : Nat → Prop} {w : World} {v : Value} {l : List Ac} (h : AcR S w v l) : Acs S w v l := by
  have hl := h.len
  rcases h.rw.2 with ⟨rfl, h0⟩ | ⟨g, o, cap, cur, rfl, h2, h3, h4, h5, h6⟩
  · obtain rfl : l = [] := List.length_eq_zero_iff.1 h0
    exact Lst.nil _ _ _ _
  · refine ⟨_, cap, rfl, h4, by omega, (fun h => by cases h), fun _ => ⟨g, o, h2, rfl, fun j hj => ?_⟩⟩
    have hc : ∀ i, i < 3 → w.cell? ⟨g, o + j * 3 + i, none⟩ = (acc l[j])[i]? := fun i hi => by
      rw [cell_of_row _ _ _ _ _ _ h3, show o + j * 3 + i = o + (j * 3 + i) by omega, cells_at h6 (by omega)]
      exact acc_at l j i hj hi
    exact ⟨(hc 0 (by omega)).trans rfl, (hc 1 (by omega)).trans rfl, (hc 2 (by omega)).trans rfl, h.fit _ (List.getElem_mem hj)⟩
theorem AcR.nil (S : Nat → Prop) (w : World) : AcR S w nilS [] := ⟨Rw.nil _ _ _ _, by simp, by simp⟩
theorem AcR.keep {S : Nat → Prop} {w w' : World} {v : Value} {l : List Ac} (h : AcR S w v l) (hk : ∀ b cur, S b → w.heap[b]? = some (.cells cur 93 (0, 0)) → w'.heap[b]? = w.heap[b]?) : AcR S w' v l := ⟨h.rw.keep hk, h.fit, h.len⟩
/-- A list of copies. -/
def CpR (S : Nat → Prop) (w : World) (u : Value) (cp : List (List Ac)) : Prop := ∃ us : List Value, us.length = cp.length ∧ Rw S 1 87 w u cp.length us ∧ (∀ (j : Nat) x l, us[j]? = some x → cp[j]? = some l → AcR S w x l) ∧ cp.length ≤ 65535
theorem CpR.nil (S : Nat → Prop) (w : World) : CpR S w nilS [] := ⟨[], rfl, Rw.nil _ _ _ _, fun j x l h => by simp at h, by simp⟩
theorem CpR.keep {S : Nat → Prop} {w w' : World} {v : Value} {l : List (List Ac)} (h : CpR S w v l) (hk : ∀ b cur t, (t = 93 ∨ t = 87) → S b → w.heap[b]? = some (.cells cur t (0, 0)) → w'.heap[b]? = w.heap[b]?) : CpR S w' v l := by
  obtain ⟨us, h1, h2, h3, h4⟩ := h
  exact ⟨us, h1, h2.keep fun b cur => hk b cur _ (Or.inr rfl), fun j x l hx hl => (h3 j x l hx hl).keep fun b cur => hk b cur _ (Or.inl rfl), h4⟩
theorem CpR.cps {S : Nat → Prop} {w : World} {u : Value} {cp : List (List Ac)} (h : CpR S w u cp) : Cps S w u cp := by
  obtain ⟨us, h1, h2, h3, hl⟩ := h
  rcases h2.2 with ⟨rfl, h0⟩ | ⟨g, o, cap, cur, rfl, h5, h6, h7, h8, h9⟩
  · obtain rfl : cp = [] := List.length_eq_zero_iff.1 h0
    exact Lst.nil _ _ _ _
  · refine ⟨_, cap, rfl, h7, by omega, (fun h => by cases h), fun _ => ⟨g, o, h5, rfl, fun j hj => ?_⟩⟩
    have hju : j < us.length := by omega
    refine ⟨us[j], ?_, (h3 j us[j] cp[j] (List.getElem?_eq_getElem hju) (List.getElem?_eq_getElem hj)).acs⟩
    show w.cell? ⟨g, o + j * 1 + 0, none⟩ = _
    rw [cell_of_row _ _ _ _ _ _ h6, show o + j * 1 + 0 = o + j by omega, cells_at h9 (by omega)]
    exact List.getElem?_eq_getElem hju
theorem ne_act : (93 : Nat) ≠ 87 := by decide
/-- One more list of actions. -/
theorem CpR.add {S : Nat → Prop} {w w' : World} {u u' v : Value} {cp : List (List Ac)} {l : List Ac} {us : List Value} (h1 : us.length = cp.length) (h2 : Rw S 1 87 w u cp.length us) (h3 : ∀ (j : Nat) x l, us[j]? = some x → cp[j]? = some l → AcR S w x l) (hn : AcR S w v l) (hA : Apd w u w') (hS : ∀ b, w.heap.size ≤ b → S b) (hR : Rw (fun b => S b ∨ w.heap.size ≤ b) 1 87 w' u' (cp.length + 1) (us ++ [v])) (hl : cp.length < 65535) : CpR S w' u' (cp ++ [l]) := by
  refine ⟨us ++ [v], by simp [h1], ?_, fun j x y hx hy => ?_, by simp; omega⟩
  · rw [List.length_append]
    exact hR.carry fun b _ hb => ⟨hb.elim id (hS b), rfl⟩
  · have hk : ∀ b cur, S b → w.heap[b]? = some (.cells cur 93 (0, 0)) → w'.heap[b]? = w.heap[b]? := fun b cur _ hb => hA.keep h2 hb ne_act
    by_cases hj : j < us.length
    · rw [List.getElem?_append_left hj] at hx
      rw [List.getElem?_append_left (by omega)] at hy
      exact (h3 j x y hx hy).keep hk
    · have hj2 : j = us.length := by
        have := (List.getElem?_eq_some_iff.1 hx).1
        simp at this; omega
      subst hj2
      rw [List.getElem?_append_right (by omega)] at hx
      rw [h1, List.getElem?_append_right (by omega)] at hy
      simp at hx hy
      subst hx hy
      exact hn.keep hk
theorem rb_mtj {w : World} {g : Nat} {r : Rl} {u : Value} (h : RB w g r u) (k : Nat) (hk : k < 22) (x : Int) : RB (w.setCell ⟨g, 1 + k, none⟩ (.int .u64 x)) g { r with mt := upd r.mt k x } u := by
  show _ = _
  rw [heap_setCell_same w g (1 + k) _ _ _ h]
  refine congrArg (fun A => some (Obj.cells A 31 (0, 0))) ?_
  refine rlc_ext (by simp [rlc_size]) ?_ (fun i hi => ?_) ?_ ?_
  · rw [Array.getElem?_setIfInBounds, if_neg (by omega)]; exact rlc_rk r u
  · rw [Array.getElem?_setIfInBounds, rlc_size]
    by_cases e : i = k
    · subst e
      rw [if_pos rfl, if_pos (by omega)]
      show _ = some (Value.int .u64 (upd r.mt i x i))
      rw [upd_same]
    · rw [if_neg (by omega)]
      show _ = some (Value.int .u64 (upd r.mt k x i))
      rw [upd_other _ _ _ _ e]
      exact rlc_mt r u i hi
  · rw [Array.getElem?_setIfInBounds, if_neg (by omega)]; exact rlc_cp r u
  · rw [Array.getElem?_setIfInBounds, if_neg (by omega)]; exact rlc_ck r u
/-- The reader is marked bad, or stays as it was. -/
theorem RdS.mark {T : Nat → Prop} {w : World} {g : Nat} {v : Value} {bs : List Int} {st : Option (List Int)} (h : RdS T w g v bs st) (c : Bool) (hc : st = none → c = true) : RdS T (w.setCell ⟨g, 2, none⟩ (.bool c)) g v bs (bif c then none else st) := by
  obtain ⟨h1, h2, a, bad, h3, h4, h5⟩ := h
  have hO : Only (fun b => b = g) w (w.setCell ⟨g, 2, none⟩ (.bool c)) := (Only.refl (fun b => b = g) w).setCell (p := ⟨g, 2, none⟩) rfl _
  refine ⟨h1.carry fun b _ hT => ⟨hT, hO.block b fun e => h2 (e ▸ hT)⟩, h2, a, c, h3, ?_, ?_⟩
  · rw [heap_setCell_same _ g 2 _ _ _ h4]; rfl
  · cases c with
    | true => exact Or.inl ⟨rfl, rfl⟩
    | false =>
      refine Or.inr ⟨rfl, ?_⟩
      rcases h5 with ⟨_, e⟩ | ⟨_, e⟩
      · exact absurd (hc e) (by simp)
      · exact e
theorem RdS.free {T : Nat → Prop} {w : World} {g : Nat} {v : Value} {bs : List Int} {st : Option (List Int)} (h : RdS T w g v bs st) : w.frozen? ⟨g, 2, none⟩ = false := by
  obtain ⟨_, _, a, bad, _, h4, _⟩ := h
  simp [World.frozen?, h4]
theorem Rg.mark {T : Nat → Prop} {w : World} {g : Nat} {v : Value} {bs : List Int} {st : Option (List Int)} {x : World} (h : Rg T w g v bs st x) (c : Bool) (hc : st = none → c = true) : Rg T w g v bs (bif c then none else st) (x.setCell ⟨g, 2, none⟩ (.bool c)) :=
  ⟨h.only.trans ((Only.refl _ x).setCell (p := ⟨g, 2, none⟩) (Or.inl rfl) _), h.rd.mark c hc⟩
theorem Rw.bound {S : Nat → Prop} {k t : Nat} {w : World} {v : Value} {n : Nat} {xs : List Value} (h : Rw S k t w v n xs) : Rw (fun b => S b ∧ b < w.heap.size) k t w v n xs := h.carry fun _ hb hS => ⟨⟨hS, hb⟩, rfl⟩
theorem AcR.mono {S S' : Nat → Prop} {w : World} {v : Value} {l : List Ac} (h : AcR S w v l) (hs : ∀ b, b < w.heap.size → S b → S' b) : AcR S' w v l := ⟨h.rw.carry fun b hb hS => ⟨hs b hb hS, rfl⟩, h.fit, h.len⟩
theorem CpR.mono {S S' : Nat → Prop} {w : World} {v : Value} {l : List (List Ac)} (h : CpR S w v l) (hs : ∀ b, b < w.heap.size → S b → S' b) : CpR S' w v l := by
  obtain ⟨us, h1, h2, h3, h4⟩ := h
  exact ⟨us, h1, h2.carry fun b hb hS => ⟨hs b hb hS, rfl⟩, fun j x l hx hl => (h3 j x l hx hl).mono hs, h4⟩
theorem AcR.add {S : Nat → Prop} {w' : World} {v v' : Value} {l : List Ac} {a : Ac} {n : Nat} {w : World} (h : AcR S w v l) (hf : a.Fit) (hS : ∀ b, n ≤ b → S b) (hR : Rw (fun b => S b ∨ n ≤ b) 3 93 w' v' (l.length + 1) (l.flatMap acc ++ acc a)) (hl : l.length < 65535) : AcR S w' v' (l ++ [a]) := by
  refine ⟨?_, fun b hb => ?_, by simp; omega⟩
  · rw [List.length_append, List.flatMap_append]
    have := hR.carry (T := S) (w' := w') fun b _ hb => ⟨hb.elim id (hS b), rfl⟩
    simpa using this
  · rcases List.mem_append.1 hb with hb | hb
    · exact h.fit b hb
    · simp at hb; subst hb; exact hf
/-- A rule is read into a block; its copies lie in new memory. -/
structure Rs (T : Nat → Prop) (w x : World) (g : Nat) (v : Value) (bs : List Int) (S : Nat → Prop) (st : Option (List Int)) (r : Rl) (u : Value) (y : World) : Prop where
  rg : Rg T w g v bs st y
  only : Only (fun b => b = g ∨ x.heap.size ≤ b) x y
  res : RB y x.heap.size zRl nilS
  rb : RB y (x.heap.size + 1) r u
  cp : CpR S y u r.cp
  two : x.heap.size + 2 ≤ y.heap.size
  far : ∀ b, S b → x.heap.size + 2 ≤ b
section
variable {T : Nat → Prop} {w x : World} {g : Nat} {v : Value} {bs : List Int} {S S' : Nat → Prop} {st st' : Option (List Int)} {r r' : Rl} {u u' : Value} {y y' : World}
/-- The reader goes on. -/
theorem Rs.on (h : Rs T w x g v bs S st r u y) (hg : g < x.heap.size) (ho : Only (fun b => b = g) y y') (hr : Rg T w g v bs st' y') : Rs T w x g v bs S st' r u y' :=
  ⟨hr, h.only.trans (ho.mono fun b hb => Or.inl hb), (ho.block _ (by omega)).trans h.res, (ho.block _ (by omega)).trans h.rb, h.cp.keep fun b _ _ _ hb _ => ho.block b (by have := h.far b hb; omega), Nat.le_trans h.two ho.size, h.far⟩
theorem Rs.n (h : Rs T w x g v bs S st r u y) (hg : g < x.heap.size) (k : Nat) (hk : k ≤ 8) : Calls Tryz.prog 23 #[ptr g, .int .i64 (k : Int)] y fun e y' => ∃ (a : Int) (st' : Option (List Int)), e = .returned (.int .u64 a) ∧ (0 ≤ a ∧ a < 2 ^ (8 * k)) ∧ (st' = none → a = 0) ∧ Only (fun b => b = g) y y' ∧ Rs T w x g v bs S st' r u y' ∧ Got (tk k) st a st' :=
  (h.rg.n k hk).mono fun _e _w' ⟨a, st', h1, h2, h3, h4, h5, h6⟩ => ⟨a, st', h1, h2, h3, h4, h.on hg h4 h5, h6⟩
theorem Rs.mark (h : Rs T w x g v bs S st r u y) (hg : g < x.heap.size) (c : Bool) (hc : st = none → c = true) : Rs T w x g v bs S (bif c then none else st) r u (y.setCell ⟨g, 2, none⟩ (.bool c)) :=
  h.on hg ((Only.refl (fun b => b = g) y).setCell (p := ⟨g, 2, none⟩) rfl _) (h.rg.mark c hc)
/-- The rule's block and new memory change. -/
theorem Rs.step (h : Rs T w x g v bs S st r u y) (hT : ∀ b, T b → b < w.heap.size) (hg : g < w.heap.size) (hwx : w.heap.size ≤ x.heap.size) (ho : Only (fun b => x.heap.size + 1 ≤ b) y y') (hrb : RB y' (x.heap.size + 1) r' u') (hcp : CpR S' y' u' r'.cp) (hf : ∀ b, S' b → x.heap.size + 2 ≤ b) : Rs T w x g v bs S' st r' u' y' :=
  ⟨h.rg.more hT hg (ho.mono fun b hb => by omega), h.only.trans (ho.mono fun b hb => Or.inr (by omega)), (ho.block _ (by omega)).trans h.res, hrb, hcp, Nat.le_trans h.two ho.size, hf⟩
theorem Rs.mtj (h : Rs T w x g v bs S st r u y) (hT : ∀ b, T b → b < w.heap.size) (hg : g < w.heap.size) (hwx : w.heap.size ≤ x.heap.size) (k : Nat) (hk : k < 22) (a : Int) : Rs T w x g v bs S st { r with mt := upd r.mt k a } u (y.setCell ⟨x.heap.size + 1, 1 + k, none⟩ (.int .u64 a)) := by
  have ho : Only (fun b => b = x.heap.size + 1) y (y.setCell ⟨x.heap.size + 1, 1 + k, none⟩ (.int .u64 a)) := (Only.refl (fun b => b = x.heap.size + 1) y).setCell (p := ⟨x.heap.size + 1, 1 + k, none⟩) rfl _
  exact h.step hT hg hwx (ho.mono fun b hb => by omega) (rb_mtj h.rb k hk a) (h.cp.keep fun b cur t _ hS _ => ho.block b (by have := h.far b hS; omega)) h.far
/-- New memory alone changes, from n on; the copies lie below n. -/
theorem Rs.new (h : Rs T w x g v bs S st r u y) (hT : ∀ b, T b → b < w.heap.size) (hg : g < w.heap.size) (hwx : w.heap.size ≤ x.heap.size) {n : Nat} (hn : x.heap.size + 2 ≤ n) (hS : ∀ b, S b → b < n) (ho : Only (fun b => n ≤ b) y y') : Rs T w x g v bs S st r u y' :=
  h.step hT hg hwx (ho.mono fun b hb => by omega) ((ho.block _ (by omega)).trans h.rb) (h.cp.keep fun b _ _ _ hb _ => ho.block b (by have := hS b hb; omega)) h.far
/-- The copies' slice is another one now. -/
theorem Rs.cpy (h : Rs T w x g v bs S st r u y) (hT : ∀ b, T b → b < w.heap.size) (hg : g < w.heap.size) (hwx : w.heap.size ≤ x.heap.size) {cp : List (List Ac)} (hcp : CpR S y u' cp) : Rs T w x g v bs S st { r with cp := cp } u' (y.setCell ⟨x.heap.size + 1, 23, none⟩ u') := by
  have ho : Only (fun b => b = x.heap.size + 1) y (y.setCell ⟨x.heap.size + 1, 23, none⟩ u') := (Only.refl (fun b => b = x.heap.size + 1) y).setCell (p := ⟨x.heap.size + 1, 23, none⟩) rfl _
  exact h.step hT hg hwx (ho.mono fun b hb => by omega) (rb_cp h.rb cp u') (hcp.keep fun b cur t _ hS _ => ho.block b (by have := h.far b hS; omega)) h.far
/-- The copies lie where they lie now. -/
theorem Rs.bnd (h : Rs T w x g v bs (fun b => x.heap.size + 2 ≤ b) st r u y) : Rs T w x g v bs (fun b => x.heap.size + 2 ≤ b ∧ b < y.heap.size) st r u y :=
  ⟨h.rg, h.only, h.res, h.rb, h.cp.mono fun _b hb hS => ⟨hS, hb⟩, h.two, fun _b hb => hb.1⟩
theorem Rs.wide (h : Rs T w x g v bs S st r u y) : Rs T w x g v bs (fun b => x.heap.size + 2 ≤ b) st r u y :=
  ⟨h.rg, h.only, h.res, h.rb, h.cp.mono fun b _ hS => h.far b hS, h.two, fun _b hb => hb⟩
/-- The rule is laid into the result's block. -/
theorem Rs.fin (h : Rs T w x g v bs S st r u y) (hT : ∀ b, T b → b < w.heap.size) (hg : g < w.heap.size) (hwx : w.heap.size ≤ x.heap.size) : RB (y.setRow x.heap.size (rlc r u)) x.heap.size r u ∧ Rg T w g v bs st (y.setRow x.heap.size (rlc r u)) ∧ Only (fun b => b = g ∨ x.heap.size ≤ b) x (y.setRow x.heap.size (rlc r u)) ∧ CpR (fun b => x.heap.size ≤ b) (y.setRow x.heap.size (rlc r u)) u r.cp := by
  have ho : Only (fun b => b = x.heap.size) y (y.setRow x.heap.size (rlc r u)) := ⟨rfl, rfl, rfl, by simp [World.setRow], fun k hk => setRow_other y x.heap.size k _ hk⟩
  refine ⟨setRow_heap y x.heap.size (rlc zRl nilS) (rlc r u) 31 _ h.res, h.rg.more hT hg (ho.mono fun b hb => by omega), h.only.trans (ho.mono fun b hb => Or.inr (by omega)), ?_⟩
  exact (h.cp.keep fun b _ _ _ hS _ => ho.block b (by have := h.far b hS; omega)).mono fun b _ hS => by have := h.far b hS; omega
theorem CpR.one (h : CpR S y u r.cp) : u.oneCell' = true := by
  obtain ⟨us, _, h2, _⟩ := h
  exact h2.one
/-- One more list of actions behind the copies. -/
theorem Rs.app (h : Rs T w x g v bs (fun b => x.heap.size + 2 ≤ b) st r u y) (hT : ∀ b, T b → b < w.heap.size) (hg : g < w.heap.size) (hwx : w.heap.size ≤ x.heap.size) {us : List Value} {s : Value} {l : List Ac} {y3 : World} (h1 : us.length = r.cp.length) (h2 : Rw (fun b => x.heap.size + 2 ≤ b) 1 87 y u r.cp.length us) (h3 : ∀ (j : Nat) x' l, us[j]? = some x' → r.cp[j]? = some l → AcR (fun b => x.heap.size + 2 ≤ b) y x' l) (hn : AcR (fun b => x.heap.size + 2 ≤ b) y s l) (hA : Apd (y.alloc (.cells #[s] 87)) u y3) (hR : Rw (fun b => x.heap.size + 2 ≤ b ∨ (y.alloc (.cells #[s] 87)).heap.size ≤ b) 1 87 y3 u' (r.cp.length + 1) (us ++ [s])) (hl : r.cp.length < 65535) :
    RB y3 (x.heap.size + 1) r u ∧ Rs T w x g v bs (fun b => x.heap.size + 2 ≤ b) st { r with cp := r.cp ++ [l] } u' (y3.setCell ⟨x.heap.size + 1, 23, none⟩ u') := by
  have hal : Below y.heap.size y (y.alloc (.cells #[s] 87)) := (Below.refl _ _).alloc (Nat.le_refl _) _
  have hk : ∀ b, b < y.heap.size → (y.alloc (.cells #[s] 87)).heap[b]? = y.heap[b]? := fun b hb => hal.block b hb
  have lt_of : ∀ {b : Nat} {c : Obj}, y.heap[b]? = some c → b < y.heap.size := fun hb => (Array.getElem?_eq_some_iff.1 hb).1
  have h2' : Rw (fun b => x.heap.size + 2 ≤ b) 1 87 (y.alloc (.cells #[s] 87)) u r.cp.length us := h2.keep fun b cur _ hb => hk b (lt_of hb)
  have two := h.two
  have hsz := hal.size
  have hcp : CpR (fun b => x.heap.size + 2 ≤ b) y3 u' (r.cp ++ [l]) := CpR.add h1 h2' (fun j x' l hx hl => (h3 j x' l hx hl).keep fun b cur _ hb => hk b (lt_of hb)) (hn.keep fun b cur _ hb => hk b (lt_of hb)) hA (fun b hb => by omega) hR hl
  have hO : Only (fun b => x.heap.size + 2 ≤ b) y y3 := (Only.of hal fun b hb => by omega).trans (hA.only (fun b hb => by have : (y.alloc (.cells #[s] 87)).heap.size ≤ b := hb; omega) fun b hb => h2'.own b hb)
  have hrb : RB y3 (x.heap.size + 1) r u := (hO.block _ (by omega)).trans h.rb
  have ho2 : Only (fun b => b = x.heap.size + 1) y3 (y3.setCell ⟨x.heap.size + 1, 23, none⟩ u') := (Only.refl (fun b => b = x.heap.size + 1) y3).setCell (p := ⟨x.heap.size + 1, 23, none⟩) rfl _
  refine ⟨hrb, h.step hT hg hwx ((hO.mono fun b hb => by omega).trans (ho2.mono fun b hb => by omega)) (rb_cp hrb _ u') (hcp.keep fun b _ _ _ hS _ => ho2.block b (by omega)) fun b hb => hb⟩
end
end Go.Proofs.YtllbbbfkdgjffaaGreatDoor
