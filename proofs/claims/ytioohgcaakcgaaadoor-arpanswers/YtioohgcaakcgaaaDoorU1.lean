/-
  Proved here: small facts that the walks of this stage share: how a number of a packet's header is stored, a packet stored into the block that was made last, what is read of what is built. No program's function is spoken of.
-/
import Derived.Test.YtioohgcaakcgaaaDoorX3
import Derived.Test.YtioohgcaakcgaaaDoorD6
namespace Go.Proofs.YtioohgcaakcgaaaDoor
open Go.RowKit

def eqR (n : Nat) (a b : Nat → Int) : Bool := (List.range n).all fun i => a i == b i
theorem eqR_iff {n : Nat} {a b : Nat → Int} : eqR n a b = true ↔ ∀ k, k < n → a k = b k := by
  simp [eqR]
theorem isB_of {l : List Int} (h : l.all (fun x => decide (0 ≤ x) && decide (x < 256)) = true) : IsB l := fun x hx => by
  have := List.all_eq_true.1 h x hx
  simpa using this
/-- A slice of bytes written out. -/
theorem sl_lit (w : World) (bs : List Int) (hB : IsB bs) (hl : bs.length ≤ 1000) : Sl (w.heap.size + 1) (w.alloc (.cells (bs.map (Value.int .u8)).toArray 5)) (.slice (some ⟨w.heap.size, 0, none⟩) bs.length bs.length) bs :=
  ⟨_, bs.length, rfl, Nat.le_refl _, by omega, hB, (fun h => by cases h), fun _ => ⟨w.heap.size, 0, by omega, rfl, fun j hj => by
    rw [Nat.zero_add, World.cell?_alloc_new]
    simp only [List.getElem?_toArray, List.getElem?_map, List.getElem?_eq_getElem hj, List.getD_eq_getElem?_getD]
    rfl⟩⟩
theorem Sl.drew {B : Nat} {w : World} {v : Value} {bs : List Int} (h : Sl B w v bs) : Sl B w.drew v bs := h.on (Below.refl _ _).drew
/-- A packet into the block that was made last. -/
theorem st27n {ops : Array Oper} {rest : List Oper} {o : Oper} {a : Act} {w : World} {Q : Exit → Act → World → Prop} (x y : Operand) (ho : o.op = .store 32 x y) (w0 : World) (z : Nat → Int) (u : Value) (hW : w = w0.alloc (.cells (prow z u) 32)) (hx : a.eval x = .pointer (some ⟨w0.heap.size, 0, none⟩)) (m : Nat → Int) (v : Value) (hy : a.eval y = pv m v) (hv1 : v.oneCell' = true) (hw : Region.wanted o (yielded ops a.tmps) = true)
    (h : wpList Tryd.prog ops Q rest (a.put o.dst undef) (w0.alloc (.cells (prow m v) 32))) : wpList Tryd.prog ops Q (o :: rest) a w := by
  subst hW
  refine st27 x y ho _ hx m v hy hv1 hw z u (PBlk.new w0 z u) ?_
  rw [World.setRow_alloc_new]
  exact h

theorem prow_set (h : Nat → Int) (v : Value) (j : Nat) (hj : j < 11) (x : Int) : (prow h v).setIfInBounds j (.int .u64 x) = prow (upd h j x) v := by
  apply Array.ext_getElem?
  intro k
  rw [Array.getElem?_setIfInBounds]
  by_cases e : j = k
  · subst e
    rw [if_pos rfl, if_pos (by rw [prow_size]; omega), prow_at _ _ j hj, upd_same]
  · rw [if_neg e]
    by_cases hk : k < 11
    · rw [prow_at _ _ k hk, prow_at _ _ k hk, upd_other _ _ _ _ (fun q => e q.symm)]
    · by_cases hk2 : k = 11
      · subst hk2; rw [prow_last, prow_last]
      · rw [Array.getElem?_eq_none (by rw [prow_size]; omega), Array.getElem?_eq_none (by rw [prow_size]; omega)]
theorem PBlk.set {w : World} {b : Nat} {h : Nat → Int} {v : Value} (hh : PBlk w b h v) (j : Nat) (hj : j < 11) (x : Int) : PBlk (w.setCell ⟨b, j, none⟩ (.int .u64 x)) b (upd h j x) v := by
  unfold PBlk; rw [heap_setCell_same w b j _ 32 _ hh, prow_set h v j hj x]
theorem PBlk.setOther {w : World} {b : Nat} {h : Nat → Int} {v : Value} (hh : PBlk w b h v) (c j : Nat) (u : Value) (hne : b ≠ c) : PBlk (w.setCell ⟨c, j, none⟩ u) b h v := by
  unfold PBlk; rw [heap_setCell_other _ _ _ _ hne]; exact hh
theorem PBlk.frozen {w : World} {b : Nat} {h : Nat → Int} {v : Value} (hh : PBlk w b h v) (o : Nat) : w.frozen? ⟨b, o, none⟩ = false := by
  have : w.heap[b]? = some (Obj.cells (prow h v) 32 (0, 0)) := hh
  simp [World.frozen?, this]
/-- A number of a packet's header is stored. -/
theorem st23P {ops : Array Oper} {rest : List Oper} {o : Oper} {a : Act} {w : World} {Q : Exit → Act → World → Prop} (x y : Operand) (ho : o.op = .store 22 x y) (g j : Nat) (hx : a.eval x = .pointer (some ⟨g, j, none⟩)) (v : Int) (hy : a.eval y = .int .u64 v) (hw : Region.wanted o (yielded ops a.tmps) = true) (f : Nat → Int) (u : Value) (hg : PBlk w g f u) (hj : j < 11)
    (h : wpList Tryd.prog ops Q rest (a.put o.dst undef) (w.setCell ⟨g, j, none⟩ (.int .u64 v))) : wpList Tryd.prog ops Q (o :: rest) a w := by
  unfold wpList
  rw [if_pos hw]
  refine Or.inl ?_
  have hs : (sizeOf 22).run Tryd.prog w = .ok 1 w := by
    have h1 : (Tryd.prog.info? 22).map (·.size) = some 1 := by kernel_rfl
    cases hq : Tryd.prog.info? 22 with
    | none => simp [hq] at h1
    | some i =>
      have hs : i.size = 1 := by simpa [hq] using h1
      simp [sizeOf, typeInfo, hq, hs]
  have hc := run_storeCells_cells (P := Tryd.prog) g j [.int .u64 v] 0 w (fun i hi => by
    have : i = 0 := by simpa using hi
    subst this; simp [hg.cell j hj]) (fun i _ => hg.frozen _) (fun u hu => by
    have : u = .int .u64 v := by simpa using hu
    subst this; rfl)
  simp only [Nat.add_zero] at hc
  unfold Oper.wp execOp
  simp only [ho, hx, hy, Instr.storeAt, Instr.sureAddr, storeVar, Value.cells, Sem.run_bind, Sem.run_pure, Result.andThen_ok, hs, hc, List.size_toArray, List.length_cons, List.length_nil, Nat.zero_add, ne_eq, not_true_eq_false, if_false, Sem.run_ite]
  exact h
theorem bOut_isB {h : Nat → Int} {bs : List Int} (h0 : ∀ k, 0 ≤ h k) (hB : IsB bs) : IsB (bOut h bs) := by
  by_cases e : bErr h bs = 0
  · have c := can_of h0 hB e
    rw [can_out c]; exact can_isB c
  · unfold bOut; rw [if_neg e]; exact IsB.nil
theorem pktL_len {h : Nat → Int} {bs : List Int} (c : Can h bs) : (pktL h bs).length ≤ 2000 := by
  have h1 := ethL_len h
  have h2 := c.short
  have h3 := ipL_len h (ahead h + bs.length)
  have h4 := ahead_bd h
  unfold pktL
  rw [List.length_append]
  split
  · rw [arpL_len]; omega
  · split
    · rw [List.length_append]; omega
    · omega
theorem bOut_len {h : Nat → Int} {bs : List Int} (h0 : ∀ k, 0 ≤ h k) (hB : IsB bs) : (bOut h bs).length ≤ 2000 := by
  by_cases e : bErr h bs = 0
  · have c := can_of h0 hB e
    rw [can_out c]; exact pktL_len c
  · unfold bOut; rw [if_neg e]; simp
/-- What is read of what is built. -/
theorem back1 {h : Nat → Int} {bs : List Int} (c : Can h bs) : prE (pktL h bs) = 0 ∧ prB (pktL h bs) = bs ∧ eqR 11 (upd (upd h 9 0) 10 0) (prH (pktL h bs)) = true := by
  obtain ⟨F, hF, hk⟩ := parse_build c
  obtain ⟨e1, e2, e3⟩ := prE_some hF
  refine ⟨e1, e3, ?_⟩
  rw [e2]
  refine eqR_iff.2 (eleven ?_ ?_ ?_ ?_ ?_ ?_ ?_ ?_ ?_ ?_ ?_)
  all_goals (rw [hk _ (by omega)]; rfl)
/-- What is built of what is read. -/
theorem back2 {l : List Int} (hl : IsB l) (e : prE l = 0) : (∀ k, 0 ≤ prH l k) ∧ IsB (prB l) ∧ (prB l).length ≤ 1500 ∧ bErr (prH l) (prB l) = 0 ∧ bOut (prH l) (prB l) = l := by
  cases hp : pPkt l with
  | none => rw [(prE_none hp).1] at e; cases e
  | some q =>
    obtain ⟨F, b⟩ := q
    obtain ⟨_, e2, e3⟩ := prE_some hp
    obtain ⟨c, hk, _⟩ := build_parse hl hp
    rw [e2, e3]
    refine ⟨c.nn, c.isB, ?_, can_err c, by rw [can_out c]; exact hk⟩
    have h1 := c.short
    have h2 := ahead_bd F
    omega

end Go.Proofs.YtioohgcaakcgaaaDoor
