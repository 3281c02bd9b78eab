/-
  Proved here: slices.Clone at actions and at lists of actions: new memory, the same contents. Condition: the slice is no greater than a slice may be.
-/
/-
  Laws of our own: stores of one cell as steps of a region that draws its order; the one operation that is ready. No condition beyond what each names.
-/
import Derived.Test.YtfbehaodhooaaaaGreatDoorFC
namespace Go.Proofs.YtfbehaodhooaaaaGreatDoor
set_option maxRecDepth 100000
open Go.RowKit

/-- The cells of a list of things. -/
def cel {α : Type} (enc : α → List Value) (l : List α) : List Value := l.flatMap enc
section
variable {α : Type} {enc : α → List Value} {k : Nat}
theorem cel_len (hk : ∀ x, (enc x).length = k) : ∀ l : List α, (cel enc l).length = l.length * k
  | [] => by simp [cel]
  | x :: l => by
    have := cel_len hk l
    simp only [cel] at this
    simp [cel, hk x, this, Nat.add_mul, Nat.add_comm]
theorem cel_at (hk : ∀ x, (enc x).length = k) : ∀ (l : List α) (j i : Nat) (hj : j < l.length), i < k → (cel enc l)[j * k + i]? = (enc l[j])[i]?
  | [], j, i, hj, _ => by simp at hj
  | x :: l, 0, i, _, hi => by
    simp only [cel, List.flatMap_cons, Nat.zero_mul, Nat.zero_add, List.getElem_cons_zero]
    rw [List.getElem?_append_left (by rw [hk]; exact hi)]
  | x :: l, j + 1, i, hj, hi => by
    have := cel_at hk l j i (by simpa using hj) hi
    simp only [cel] at this
    simp only [cel, List.flatMap_cons, List.getElem_cons_succ]
    rw [List.getElem?_append_right (by rw [hk, Nat.add_mul]; omega), hk, show (j + 1) * k + i - k = j * k + i by rw [Nat.add_mul]; omega]
    exact this
theorem cel_pos (hk : ∀ x, (enc x).length = k) {l : List α} {q : Nat} (hq : q < (cel enc l).length) : ∃ j i, j < l.length ∧ i < k ∧ q = j * k + i := by
  rw [cel_len hk] at hq
  have hk0 : 0 < k := by
    rcases Nat.eq_zero_or_pos k with e | e
    · rw [e] at hq; simp at hq
    · exact e
  refine ⟨q / k, q % k, Nat.div_lt_of_lt_mul (by rw [Nat.mul_comm]; exact hq), Nat.mod_lt _ hk0, ?_⟩
  rw [Nat.mul_comm]; exact (Nat.div_add_mod q k).symm
/-- What lies in a slice's cells. -/
theorem Lst.cells {T : Nat → Prop} {R : World → (Nat → Option Value) → α → Prop} {w : World} {a : Addr} {n cap : Nat} {l : List α} (hk : ∀ x, (enc x).length = k) (hR : ∀ f x, R w f x → ∀ i, i < k → f i = (enc x)[i]?) (h : Lst T k R w (.slice (some a) n cap) l) :
    ∀ j x, (cel enc l)[j]? = some x → w.cell? (a.add j) = some x := by
  obtain ⟨ao, c, e, -, -, -, h5⟩ := h
  intro q x hq
  obtain ⟨j, i, hj, hi, rfl⟩ := cel_pos hk (List.getElem?_eq_some_iff.1 hq).1
  obtain ⟨b, o, -, e2, hc⟩ := h5 (fun e => by rw [e] at hj; simp at hj)
  simp only [Value.slice.injEq] at e
  rw [e2] at e
  obtain ⟨e1, -, -⟩ := e
  cases e1
  have := hR _ _ (hc j hj) i hi
  rw [Addr.add_lit]
  rw [cel_at hk l j i hj hi] at hq
  rw [← Nat.add_assoc, this]; exact hq
/-- A row of one's own, as a list. -/
theorem Lst.of_own {R : World → (Nat → Option Value) → α → Prop} {w : World} {base e n : Nat} {v : Value} {l : List α} (hk : ∀ x, (enc x).length = k) (hR : ∀ f x, x ∈ l → (∀ i, i < k → f i = (enc x)[i]?) → R w f x) (hl : l.length ≤ 140737488355328) (hn : n = l.length) (h : w.ownsRow base e k v n (cel enc l)) : Lst (fun b => base ≤ b) k R w v l := by
  subst hn
  rcases h.2 with ⟨rfl, h0⟩ | ⟨g, cap, cur, rfl, hb, hg, h1, h2, h3, h4⟩
  · obtain rfl : l = [] := List.eq_nil_of_length_eq_zero h0
    exact Lst.nil _ _ _ _
  · refine ⟨_, cap, rfl, h1, hl, (fun h => by cases h), fun _ => ⟨g, 0, hb, rfl, fun j hj => hR _ _ (List.getElem_mem hj) fun i hi => ?_⟩⟩
    have hb1 : j * k + i < l.length * k := by
      have : (j + 1) * k ≤ l.length * k := Nat.mul_le_mul_right _ hj
      rw [Nat.add_mul] at this
      omega
    rw [cell_of_row _ _ _ _ _ _ hg, ← cel_at hk l j i hj hi, ← h4, List.getElem?_take, if_pos hb1]
    simp
end
theorem cell_on {w u : World} (hu : Below w.heap.size w u) {p : Addr} {x : Value} (h : w.cell? p = some x) : u.cell? p = some x := by
  have hlt : p.block < w.heap.size := by
    unfold World.cell? at h
    rcases Nat.lt_or_ge p.block w.heap.size with h2 | h2
    · exact h2
    · rw [Array.getElem?_eq_none h2] at h; simp at h
  rw [hu.cell hlt]; exact h
def c3 (a : Ac) : List Value := [.int .i8 a.dw, .int .i8 a.fd, .int .u64 a.n]
theorem infoAct : (Tryz.prog.info? 105).map (fun i => (i.zero, i.size, i.bytes)) = some (some (.agg #[.int .i8 0, .int .i8 0, .int .u64 0]), 3, 16) := by kernel_rfl
theorem infoActs : (Tryz.prog.info? 102).map (fun i => (i.zero, i.size, i.bytes)) = some (some nilS, 1, 24) := by kernel_rfl
def ClP (w : World) (l : List Ac) (e : Ending) (w' : World) : Prop := ∃ v', e = .returned v' ∧ Below w.heap.size w w' ∧ Acs (fun b => w.heap.size ≤ b) w' v' l
theorem three_of {f : Nat → Option Value} {a : Ac} (h : ∀ i, i < 3 → f i = (c3 a)[i]?) : f 0 = some (.int .i8 a.dw) ∧ f 1 = some (.int .i8 a.fd) ∧ f 2 = some (.int .u64 a.n) := ⟨h 0 (by omega), h 1 (by omega), h 2 (by omega)⟩
set_option maxHeartbeats 800000 in
set_option maxRecDepth 100000 in
theorem clB_any {T : Nat → Prop} (w : World) (v : Value) (l : List Ac) (h : Acs T w v l) (hb : l.length * 16 ≤ 140737488355328) : Calls Tryz.prog 48 #[v] w (ClP w l) := by
  have hq : ∀ (w : World) (a : Option Addr) (n c n' c' : Nat), (binOp .eql 102 (.slice a n c) (.slice none n' c')).run Tryz.prog w = .ok (.bool a.isNone) w := fun w a n c n' c' => Lib.run_eql_slice_nil w _ _ a n c n' c' Tryz.underlying102
  obtain ⟨ao, cap, rfl, h2, h3, h4, h5⟩ := id h
  cases ao with
  | none =>
    have hl : l = [] := by
      cases l with
      | nil => rfl
      | cons x l => obtain ⟨b, o, -, e, -⟩ := h5 (by simp); cases e
    subst hl
    clear h h5
    go_enter Tryz.func48, Tryz.ntmps48
    go_wp2
    go_ret
    exact ⟨_, rfl, Below.refl _ _, Lst.nil _ _ _ _⟩
  | some a =>
    obtain ⟨i, hi, hz0, hz1, hz2⟩ := info_parts infoAct
    have hk : ∀ x : Ac, (c3 x).length = 3 := fun _ => rfl
    have hcl : ∀ (u : World) j x, (cel c3 l)[j]? = some x → Hid (Below w.heap.size w u → u.cell? (a.add j) = some x) := fun u j x hx hu => by
      have h0 := Lst.cells hk (fun f x hR i hi => by
        obtain ⟨r1, r2, r3, -⟩ := hR
        have : i = 0 ∨ i = 1 ∨ i = 2 := by omega
        rcases this with rfl | rfl | rfl
        · exact r1
        · exact r2
        · exact r3) h j x hx
      exact cell_on hu h0
    have hfit : ∀ x ∈ l, x.Fit := h.all fun _ _ hR => hR.2.2.2
    have hone : ∀ x ∈ cel c3 l, x.oneCell' = true := fun x hx => by
      obtain ⟨y, -, hy⟩ := List.mem_flatMap.1 hx
      simp only [c3, List.mem_cons, List.not_mem_nil, or_false] at hy
      rcases hy with rfl | rfl | rfl <;> rfl
    have HC := hid hcl
    clear hcl h h5
    go_enter Tryz.func48, Tryz.ntmps48
    go_wp2_with (at_builtin; refine wpList_append_own _ rfl _ _ 102 rfl w.heap.size 105 i _ 3 16 Tryz.underlying102 hi hz0 hz1 hz2 rfl (by decide) _ _ _ rfl (World.ownsRow_made w #[] 0 (Nat.le_refl _) (Nat.zero_le _) (by simp)) a l.length cap (cel c3 l) rfl ?qc1 ?qc2 ?qc3 ?qc4 ?qc5 ?qc6 ?_)
    case qc1 => exact cel_len hk l
    case qc2 => exact fun j x hx => (HC.out _ j x hx).out ((Below.refl _ _).alloc (Nat.le_refl _) _)
    case qc3 => exact hone
    case qc4 => unfold maxLen; omega
    case qc5 => rw [Nat.zero_add]; exact hb
    case qc6 => simp
    intro v' w' hown hg hn
    have HO := hid hown
    have HB : Hid (Below w.heap.size w w') := ((Below.refl _ w).alloc (Nat.le_refl _) _).grown hg (by simp) (fun k hk => by simp [Value.ownBlock] at hk; omega)
    clear hown hg hn HC
    go_wp2
    go_ret
    refine ⟨_, rfl, HB.out, Lst.of_own hk (fun f x hx hf => ?_) h3 (by omega) HO.out⟩
    obtain ⟨r1, r2, r3⟩ := three_of hf
    exact ⟨r1, r2, r3, hfit x hx⟩
end Go.Proofs.YtfbehaodhooaaaaGreatDoor
namespace Go.Proofs.YtfbehaodhooaaaaGreatDoor
set_option maxRecDepth 100000
open Go.RowKit

section
variable {ops : Array Oper} {o : Oper} {a : Act} {w : World} {Kt : Act → World → Prop} {Q : Exit → Act → World → Prop} {E : Prop}
theorem stepStA (x y : Operand) (hop : o.op = .store 102 x y) (hgd : o.guard = none) (b i : Nat) (ao : Option Addr) (n c : Nat) (u : Value) (hx : a.eval x = .pointer (some ⟨b, i, none⟩)) (hy : a.eval y = .slice ao n c) (hc : w.cell? ⟨b, i, none⟩ = some u) (hz : w.frozen? ⟨b, i, none⟩ = false)
    (hk : Kt (a.put o.dst undef) (w.setCell ⟨b, i, none⟩ (.slice ao n c))) : if Region.wanted o (yielded ops a.tmps) = true then Oper.wp Tryz.prog o a w Kt Q else E := by
  have hw : Region.wanted o (yielded ops a.tmps) = true := by simp [Region.wanted, hgd]
  rw [if_pos hw]
  unfold Oper.wp execOp
  simp only [hop, hx, hy]
  go_simp
  exact hk
theorem stepStC (x y : Operand) (hop : o.op = .store 33 x y) (hgd : o.guard = none) (b i : Nat) (ao : Option Addr) (n c : Nat) (u : Value) (hx : a.eval x = .pointer (some ⟨b, i, none⟩)) (hy : a.eval y = .slice ao n c) (hc : w.cell? ⟨b, i, none⟩ = some u) (hz : w.frozen? ⟨b, i, none⟩ = false)
    (hk : Kt (a.put o.dst undef) (w.setCell ⟨b, i, none⟩ (.slice ao n c))) : if Region.wanted o (yielded ops a.tmps) = true then Oper.wp Tryz.prog o a w Kt Q else E := by
  have hw : Region.wanted o (yielded ops a.tmps) = true := by simp [Region.wanted, hgd]
  rw [if_pos hw]
  unfold Oper.wp execOp
  simp only [hop, hx, hy]
  go_simp
  exact hk
theorem stepStU (x y : Operand) (hop : o.op = .store 28 x y) (hgd : o.guard = none) (b i : Nat) (n : Int) (u : Value) (hx : a.eval x = .pointer (some ⟨b, i, none⟩)) (hy : a.eval y = .int .u64 n) (hc : w.cell? ⟨b, i, none⟩ = some u) (hz : w.frozen? ⟨b, i, none⟩ = false)
    (hk : Kt (a.put o.dst undef) (w.setCell ⟨b, i, none⟩ (.int .u64 n))) : if Region.wanted o (yielded ops a.tmps) = true then Oper.wp Tryz.prog o a w Kt Q else E := by
  have hw : Region.wanted o (yielded ops a.tmps) = true := by simp [Region.wanted, hgd]
  rw [if_pos hw]
  unfold Oper.wp execOp
  simp only [hop, hx, hy]
  go_simp
  exact hk
/-- A look-up that tells whether there is one. -/
theorem stepLookOk (m x : Operand) (t : TypeId) (hop : o.op = .lookup t m x true) (hgd : o.guard = none)
    {K e : TypeId} {b n : Nat} {G : Lit → Option Value} {z key : Value} {l : Lit} (hm : a.eval m = .map (some b)) (hx : a.eval x = key) (h : Mp w K b n G) (hK : Maps.Keyed Tryz.prog K) (ht : Tryz.prog.underlying t = some (.map K e)) (hz : (zeroValue e).run Tryz.prog w = .ok z w) (hkey : keyOf Tryz.prog K key = some l)
    (hk : Kt (a.put o.dst (.tuple #[(G l).getD z, .bool (G l).isSome])) w) : if Region.wanted o (yielded ops a.tmps) = true then Oper.wp Tryz.prog o a w Kt Q else E := by
  have hw : Region.wanted o (yielded ops a.tmps) = true := by simp [Region.wanted, hgd]
  rw [if_pos hw]
  unfold Oper.wp
  simp [execOp, hop, hm, hx, h.look_ok hK ht hz hkey, Result.andThen]
  exact hk
end
/-- A box of a whole value, in a walk: it names the new world. -/
theorem bxAgg {ops : Array Oper} {rest : List Oper} {o : Oper} {a : Act} {w : World} {Q : Exit → Act → World → Prop} (ty : TypeId) (x : Operand) (ho : o.op = .box ty x) (hw : Region.wanted o (yielded ops a.tmps) = true) (cs : Array Value) (hx : a.eval x = .agg cs) (W : World) (hW : Hid (w.alloc (.cells cs ty) = W))
    (h : wpList Tryz.prog ops Q rest (a.put o.dst (pv w.heap.size)) W) : wpList Tryz.prog ops Q (o :: rest) a w := by
  unfold wpList
  rw [if_pos hw]
  refine Or.inl ?_
  unfold Oper.wp execOp
  have hrun : (Instr.box ty (.agg cs)).run Tryz.prog w = .ok (pv w.heap.size) (w.alloc (.cells cs ty)) := rfl
  simp only [ho, hx, Sem.run_bind, Sem.run_pure, Result.andThen_ok, hrun]
  rw [hW.out]
  exact h
end Go.Proofs.YtfbehaodhooaaaaGreatDoor
