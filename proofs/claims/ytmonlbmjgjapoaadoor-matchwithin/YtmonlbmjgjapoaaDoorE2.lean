/-
  Proved here: what the closure of 'wakes' makes, and that 'wakes' returns true; no old memory turns. Condition: the widths' table holds its eleven numbers.
-/
import Derived.Test.YtmonlbmjgjapoaaDoorE1
import Derived.Test.YtmonlbmjgjapoaaDoorM6
import Derived.Test.YtmonlbmjgjapoaaDoorM8
namespace Go.Proofs.YtmonlbmjgjapoaaDoor
open Go.RowKit

/-- A match into the block that was made last. -/
theorem st26n {ops : Array Oper} {rest : List Oper} {o : Oper} {a : Act} {w : World} {Q : Exit → Act → World → Prop} (x y : Operand) (ho : o.op = .store 26 x y) (w0 : World) (z : Nat → Int) (hW : w = w0.alloc (.cells (row 22 z) 26)) (hx : a.eval x = .pointer (some ⟨w0.heap.size, 0, none⟩)) (m : Nat → Int) (hy : a.eval y = mv m) (hw : Region.wanted o (yielded ops a.tmps) = true)
    (h : wpList Tryd.prog ops Q rest (a.put o.dst undef) (w0.alloc (.cells (row 22 m) 26))) : wpList Tryd.prog ops Q (o :: rest) a w := by
  subst hW
  exact st26new x y ho hx m hy z hw h
theorem st22 {ops : Array Oper} {rest : List Oper} {o : Oper} {a : Act} {w : World} {Q : Exit → Act → World → Prop} (x y : Operand) (ho : o.op = .store 22 x y) (g j : Nat) (hx : a.eval x = .pointer (some ⟨g, j, none⟩)) (v : Int) (hy : a.eval y = .int .u64 v) (hw : Region.wanted o (yielded ops a.tmps) = true) (n t : Nat) (f : Nat → Int) (hg : Blk w g n t f) (hj : j < n)
    (h : wpList Tryd.prog ops Q rest (a.put o.dst undef) (w.setCell ⟨g, j, none⟩ (.int .u64 v))) : wpList Tryd.prog ops Q (o :: rest) a w := by
  unfold wpList
  rw [if_pos hw]
  refine Or.inl ?_
  have hs : (sizeOf 22).run Tryd.prog w = .ok 1 w := by
    have h1 : (Tryd.prog.info? 22).map (·.size) = some 1 := by kernel_rfl
    cases hq : Tryd.prog.info? 22 with
    | none => simp [hq] at h1
    | some i =>
      have hs : i.size = 1 := by simpa [hq] using h1
      simp [sizeOf, typeInfo, hq, hs]
  have hc := run_storeCells_cells (P := Tryd.prog) g j [.int .u64 v] 0 w (fun i hi => by
    have : i = 0 := by simpa using hi
    subst this; simp [hg.cell j hj]) (fun i _ => hg.frozen _) (fun u hu => by
    have : u = .int .u64 v := by simpa using hu
    subst this; rfl)
  simp only [Nat.add_zero] at hc
  unfold Oper.wp execOp
  simp only [ho, hx, hy, Instr.storeAt, Instr.sureAddr, storeVar, Value.cells, Sem.run_bind, Sem.run_pure, Result.andThen_ok, hs, hc, List.size_toArray, List.length_cons, List.length_nil, Nat.zero_add, ne_eq, not_true_eq_false, if_false, Sem.run_ite]
  exact h

section
variable {ops : Array Oper} {o : Oper} {a : Act} {S : World → Prop}
theorem y26 (x : Operand) (ho : o.op = .load 26 x) (g : Nat) (hx : a.eval x = .pointer (some ⟨g, 0, none⟩)) (hw : Region.wanted o (yielded ops a.tmps) = true) (m : Nat → Int) (hS : ∀ w, S w → Blk w g 22 26 m) : YieldsIf Tryd.prog ops S o (mv m) a :=
  .inl ⟨hw, fun w hw' => by
    unfold execOp
    simp only [ho, hx, Instr.loadAt, Instr.sureAddr, Sem.run_bind, Sem.run_pure, Result.andThen_ok, run_loadVar_row w g 26 26 (row 22 m) (0, 0) _ (hS w hw') Tryd.underlying26 rfl (size26 m)]⟩
theorem y24 (x : Operand) (ho : o.op = .load 24 x) (g : Nat) (hx : a.eval x = .pointer (some ⟨g, 0, none⟩)) (hw : Region.wanted o (yielded ops a.tmps) = true) (m : Nat → Int) (hS : ∀ w, S w → Blk w g 11 24 m) : YieldsIf Tryd.prog ops S o (hv m) a :=
  .inl ⟨hw, fun w hw' => by
    unfold execOp
    simp only [ho, hx, Instr.loadAt, Instr.sureAddr, Sem.run_bind, Sem.run_pure, Result.andThen_ok, run_loadVar_row w g 24 24 (row 11 m) (0, 0) _ (hS w hw') Tryd.underlying24 rfl (size24 m)]⟩
theorem yEql (x y : Operand) (ho : o.op = .binOp .eql 26 x y 26) (p q : Nat → Int) (hx : a.eval x = mv p) (hy : a.eval y = mv q) (hw : Region.wanted o (yielded ops a.tmps) = true) (c : Bool) (hc : eqM p q = c) : YieldsIf Tryd.prog ops S o (.bool c) a :=
  .inl ⟨hw, fun w _ => by
    unfold execOp
    simp only [ho, hx, hy, Sem.run_bind, Sem.run_pure, Result.andThen_ok, run_eqGuard_agg w _ _ _ _ _ _ guard26, run_eql_struct, eqS_run, hc]⟩
end

/-- The call's own world w' over w: nothing old has turned, and the widths hold. -/
def Inv (w w' : World) : Prop := Below w.heap.size w w' ∧ Tab w'
theorem Inv.refl {w : World} (h : Tab w) : Inv w w := ⟨Below.refl _ _, h⟩
theorem Inv.drew {w w' : World} (h : Inv w w') : Inv w w'.drew := ⟨h.1.drew, h.2.on (Below.refl _ _).drew⟩
theorem Inv.on {w w' w2 : World} (h : Inv w w') (hb : Below w'.heap.size w' w2) : Inv w w2 := ⟨h.1.trans (hb.mono h.1.size), h.2.on hb⟩
theorem Inv.alloc {w w' : World} (h : Inv w w') (o : Obj) : Inv w (w'.alloc o) := h.on ((Below.refl _ _).alloc (Nat.le_refl _) _)

def ofF (v m : Int) : Nat → Int := upd (upd zf 5 v) 16 m
theorem res22 (tmps : Array Value) (w : World) (g : Nat) (m : Nat → Int) (hp : tmps.getD 4 undef = .pointer (some ⟨g, 0, none⟩)) (hg : Blk w g 22 26 m) :
    (results Tryd.f22 tmps).run Tryd.prog w = .ok (mv m) w :=
  results_cell_row Tryd.results22 tmps w g 26 _ (0, 0) _ hp hg Tryd.underlying26 rfl (size26 m)

set_option maxHeartbeats 800000 in
theorem of_any (v m : Int) (w : World) :
    Calls Tryd.prog 22 #[.int .u64 v, .int .u64 m] w fun e w' => e = .returned (mv (ofF v m)) ∧ Below w.heap.size w w' := by
  have hX0 := W2.b w zf zf
  have hX1 := hX0.set 5 v
  have hX2 : Blk ((w.alloc (.cells (row 22 zf) 26)).alloc (.cells (((row 22 zf).setIfInBounds 5 (.int .u64 v)).setIfInBounds 16 (.int .u64 m)) 26)) (w.heap.size + 1) 22 26 (ofF v m) := by
    rw [row_set, row_set]; exact Blk.new1 w _ 22 26 _
  have hR2 : Blk ((w.alloc (.cells (row 22 zf) 26)).alloc (.cells (((row 22 zf).setIfInBounds 5 (.int .u64 v)).setIfInBounds 16 (.int .u64 m)) 26)) w.heap.size 22 26 zf := (Blk.new w 22 26 zf).alloc _
  have hl2 : Below w.heap.size w ((w.alloc (.cells (row 22 zf) 26)).alloc (.cells (((row 22 zf).setIfInBounds 5 (.int .u64 v)).setIfInBounds 16 (.int .u64 m)) 26)) := ((Below.refl _ _).alloc (Nat.le_refl _) _).alloc (by simp) _
  go_enter Tryd.func22, Tryd.ntmps22
  go_wp2_with (first | (refine alc26 rfl rfl ?_) | (refine st22 (.tmp 8) (.tmp 6) rfl _ _ rfl v rfl rfl 22 26 _ hX0 (by omega) ?_) | (refine st22 (.tmp 11) (.tmp 9) rfl _ _ rfl m rfl rfl 22 26 _ hX1 (by omega) ?_) | (refine ld26 (.tmp 5) rfl _ rfl rfl (ofF v m) hX2 ?_) | (refine st26 (.tmp 4) (.tmp 12) rfl _ rfl (ofF v m) rfl rfl zf hR2 ?_))
  refine bodyPost_ret (v := mv (ofF v m)) (res22 _ _ w.heap.size (ofF v m) rfl (hR2.setRow _)) rfl ⟨rfl, ?_⟩
  exact below_setRow hl2 (by omega) _
end Go.Proofs.YtmonlbmjgjapoaaDoor
