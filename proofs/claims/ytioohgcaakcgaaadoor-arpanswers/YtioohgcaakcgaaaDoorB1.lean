/-
  Proved here: how headers (eleven numbers) and packets (eleven numbers and a slice) are loaded, stored and made; what it is that a slice holds bytes. No condition.
-/
import Derived.Test.YtioohgcaakcgaaaDoorProg
import Derived.Test.YtioohgcaakcgaaaDoorN1
import Derived.WalkKit
import Derived.WalkSpells
import Derived.WalkLawsBesides
import Derived.BigQuiet
import Derived.ChangeKeysEq
import Derived.Deep.RegionHeld3
import Derived.Deep.MidRow
import Derived.Deep.WholeRow
import Derived.Laws.CopyOwn
import Derived.Laws.AppendOwnNone
namespace Go.Proofs.YtioohgcaakcgaaaDoor
open Go.RowKit

def wid : Nat → Int
  | 0 => 48 | 1 => 48 | 2 => 16 | 3 => 12 | 4 => 32 | 5 => 32 | 6 => 8 | 7 => 16 | 8 => 16 | 9 => 16 | 10 => 16 | _ => 0
theorem wid_bd (k : Nat) : 0 ≤ wid k ∧ wid k ≤ 48 := by
  unfold wid; split <;> omega
def widV (f : Int) : Int := if 0 ≤ f ∧ f < 11 then wid f.toNat else 0
theorem widV_nat (k : Nat) (hk : k < 11) : widV (k : Int) = wid k := by
  unfold widV; rw [if_pos (by omega)]; simp
/-- The widths' table holds its eleven numbers. -/
def Tab (w : World) : Prop := ∀ k : Nat, k < 11 → w.cell? ⟨0, k, none⟩ = some (.int .i64 (wid k))
theorem Tab.pos {w : World} (h : Tab w) : 0 < w.heap.size := by
  rcases Nat.eq_zero_or_pos w.heap.size with h' | h'
  · have := h 0 (by omega)
    simp [World.cell?, h'] at this
  · exact h'
theorem Tab.on {w w' : World} (h : Tab w) (hb : Below w.heap.size w w') : Tab w' := fun k hk => by
  rw [hb.cell (p := ⟨0, k, none⟩) h.pos]; exact h k hk

def row (n : Nat) (f : Nat → Int) : Array Value := Array.ofFn (n := n) fun k => Value.int .u64 (f k.val)
theorem row_size (n : Nat) (f : Nat → Int) : (row n f).size = n := by simp [row]
theorem row_at (n : Nat) (f : Nat → Int) (k : Nat) (hk : k < n) : (row n f)[k]? = some (.int .u64 (f k)) := by
  simp [row, hk]
theorem row_none (n : Nat) (f : Nat → Int) (k : Nat) (hk : ¬ k < n) : (row n f)[k]? = none := by
  simp [row, hk]
theorem row_ext {n : Nat} {f : Nat → Int} {cs : Array Value} (hs : cs.size = n) (h : ∀ k, k < n → cs[k]? = some (.int .u64 (f k))) : cs = row n f := by
  apply Array.ext_getElem?
  intro k
  by_cases hk : k < n
  · rw [h k hk, row_at n f k hk]
  · rw [Array.getElem?_eq_none (by omega), row_none n f k hk]
theorem row_congr {n : Nat} {f g : Nat → Int} (h : ∀ k, k < n → f k = g k) : row n f = row n g :=
  row_ext (row_size n f) fun k hk => by rw [row_at n f k hk, h k hk]
theorem row_one (n : Nat) (f : Nat → Int) : (row n f).all (·.oneCell') = true := by
  rw [Array.all_eq_true_iff_forall_mem]
  intro v hv
  simp [row] at hv
  obtain ⟨k, rfl⟩ := hv
  rfl
abbrev hv (h : Nat → Int) : Value := .agg (row 11 h)
def zf : Nat → Int := fun _ => 0
def upd (h : Nat → Int) (f : Nat) (x : Int) : Nat → Int := fun k => bif Nat.beq k f then x else h k
theorem upd_same (h : Nat → Int) (f : Nat) (x : Int) : upd h f x f = x := by simp [upd]
theorem upd_other (h : Nat → Int) (f : Nat) (x : Int) (k : Nat) (hk : k ≠ f) : upd h f x k = h k := by
  unfold upd
  cases hb : Nat.beq k f
  · rfl
  · exact absurd (Nat.eq_of_beq_eq_true hb) hk
theorem row_set (n : Nat) (f : Nat → Int) (j : Nat) (x : Int) : (row n f).setIfInBounds j (.int .u64 x) = row n (upd f j x) := by
  refine row_ext (by simp [row_size]) fun k hk => ?_
  rw [Array.getElem?_setIfInBounds]
  by_cases h : j = k
  · subst h
    rw [if_pos rfl, if_pos (by simpa [row_size] using hk), upd_same]
  · rw [if_neg h, row_at n f k hk, upd_other f j x k (fun e => h e.symm)]

/-- Block b holds the n numbers f. -/
def Blk (w : World) (b : Nat) (n t : Nat) (f : Nat → Int) : Prop := w.heap[b]? = some (Obj.cells (row n f) t (0, 0))
theorem Blk.lt {w : World} {b n t : Nat} {f : Nat → Int} (h : Blk w b n t f) : b < w.heap.size := (Array.getElem?_eq_some_iff.1 h).1
theorem Blk.new (w : World) (n t : Nat) (f : Nat → Int) : Blk (w.alloc (.cells (row n f) t)) w.heap.size n t f := heap_alloc_new _ _
theorem Blk.new1 (w : World) (o : Obj) (n t : Nat) (f : Nat → Int) : Blk ((w.alloc o).alloc (.cells (row n f) t)) (w.heap.size + 1) n t f := by
  have := Blk.new (w.alloc o) n t f
  simpa using this
theorem Blk.alloc {w : World} {b n t : Nat} {f : Nat → Int} (h : Blk w b n t f) (o : Obj) : Blk (w.alloc o) b n t f := by
  unfold Blk; rw [Below.heap_alloc _ _ _ h.lt]; exact h
theorem Blk.on {w w' : World} {b n t : Nat} {f : Nat → Int} (h : Blk w b n t f) (hb : Below w.heap.size w w') : Blk w' b n t f := by
  unfold Blk; rw [hb.block _ h.lt]; exact h
theorem bel_drewN {b : Nat} {w w' : World} (h : Below b w w') (q : Nat) : Below b w (w'.drewN q) := ⟨h.os, h.tape, h.output, h.size, h.block⟩
theorem Blk.drewN {w : World} {b n t : Nat} {f : Nat → Int} (h : Blk w b n t f) (q : Nat) : Blk (w.drewN q) b n t f := h
theorem Blk.drew {w : World} {b n t : Nat} {f : Nat → Int} (h : Blk w b n t f) : Blk w.drew b n t f := h
theorem Blk.cell {w : World} {b n t : Nat} {f : Nat → Int} (h : Blk w b n t f) (k : Nat) (hk : k < n) : w.cell? ⟨b, k, none⟩ = some (.int .u64 (f k)) := by
  rw [cell_of_row w b k _ _ _ h, row_at n f k hk]
theorem Blk.frozen {w : World} {b n t : Nat} {f : Nat → Int} (h : Blk w b n t f) (o : Nat) : w.frozen? ⟨b, o, none⟩ = false := by
  have : w.heap[b]? = some (Obj.cells (row n f) t (0, 0)) := h
  simp [World.frozen?, this]
theorem Blk.set {w : World} {b n t : Nat} {f : Nat → Int} (h : Blk w b n t f) (j : Nat) (x : Int) : Blk (w.setCell ⟨b, j, none⟩ (.int .u64 x)) b n t (upd f j x) := by
  unfold Blk; rw [heap_setCell_same w b j _ t _ h, row_set]
theorem Blk.setOther {w : World} {b n t : Nat} {f : Nat → Int} (h : Blk w b n t f) (c j : Nat) (v : Value) (hne : b ≠ c) : Blk (w.setCell ⟨c, j, none⟩ v) b n t f := by
  unfold Blk; rw [heap_setCell_other _ _ _ _ hne]; exact h


theorem size25 (h : Nat → Int) : (Tryd.prog.info? 30).map (·.size) = some (row 11 h).size := by
  rw [row_size]; kernel_rfl
theorem zero25 : (Tryd.prog.info? 30).map (fun i => (i.zero, i.size)) = some (some (hv zf), 11) := by kernel_rfl
/-- A packet's twelve cells. -/
def prow (h : Nat → Int) (v : Value) : Array Value := (row 11 h).push v
theorem prow_size (h : Nat → Int) (v : Value) : (prow h v).size = 12 := by simp [prow, row_size]
theorem prow_at (h : Nat → Int) (v : Value) (k : Nat) (hk : k < 11) : (prow h v)[k]? = some (.int .u64 (h k)) := by
  unfold prow
  rw [Array.getElem?_push, if_neg (by rw [row_size]; omega), row_at 11 h k hk]
theorem prow_last (h : Nat → Int) (v : Value) : (prow h v)[11]? = some v := by
  unfold prow
  rw [Array.getElem?_push, if_pos (by rw [row_size])]
theorem prow_one (h : Nat → Int) {v : Value} (hv : v.oneCell' = true) : (prow h v).all (·.oneCell') = true := by
  unfold prow
  rw [Array.all_push, row_one 11 h, hv]; rfl
abbrev pv (h : Nat → Int) (v : Value) : Value := .agg (prow h v)
abbrev nilS : Value := .slice none 0 0
theorem size27 (h : Nat → Int) (v : Value) : (Tryd.prog.info? 32).map (·.size) = some (prow h v).size := by
  rw [prow_size]; kernel_rfl
theorem zero27 : (Tryd.prog.info? 32).map (fun i => (i.zero, i.size)) = some (some (pv zf nilS), 12) := by kernel_rfl
/-- Block b holds a packet. -/
def PBlk (w : World) (b : Nat) (h : Nat → Int) (v : Value) : Prop := w.heap[b]? = some (Obj.cells (prow h v) 32 (0, 0))
theorem PBlk.lt {w : World} {b : Nat} {h : Nat → Int} {v : Value} (hh : PBlk w b h v) : b < w.heap.size := (Array.getElem?_eq_some_iff.1 hh).1
theorem PBlk.new (w : World) (h : Nat → Int) (v : Value) : PBlk (w.alloc (.cells (prow h v) 32)) w.heap.size h v := heap_alloc_new _ _
theorem PBlk.alloc {w : World} {b : Nat} {h : Nat → Int} {v : Value} (hh : PBlk w b h v) (o : Obj) : PBlk (w.alloc o) b h v := by
  unfold PBlk; rw [Below.heap_alloc _ _ _ hh.lt]; exact hh
theorem PBlk.on {w w' : World} {b : Nat} {h : Nat → Int} {v : Value} (hh : PBlk w b h v) (hb : Below w.heap.size w w') : PBlk w' b h v := by
  unfold PBlk; rw [hb.block _ hh.lt]; exact hh
theorem PBlk.cell {w : World} {b : Nat} {h : Nat → Int} {v : Value} (hh : PBlk w b h v) (k : Nat) (hk : k < 11) : w.cell? ⟨b, k, none⟩ = some (.int .u64 (h k)) := by
  rw [cell_of_row w b k _ _ _ hh, prow_at h v k hk]
theorem PBlk.last {w : World} {b : Nat} {h : Nat → Int} {v : Value} (hh : PBlk w b h v) : w.cell? ⟨b, 11, none⟩ = some v := by
  rw [cell_of_row w b 11 _ _ _ hh, prow_last h v]
theorem PBlk.setRow {w : World} {b : Nat} {h : Nat → Int} {v : Value} (hh : PBlk w b h v) (h' : Nat → Int) (v' : Value) : PBlk (w.setRow b (prow h' v')) b h' v' := setRow_heap w b _ _ 32 _ hh
theorem PBlk.setRowOther {w : World} {b : Nat} {h : Nat → Int} {v : Value} (hh : PBlk w b h v) (c : Nat) (cs : Array Value) (hne : b ≠ c) : PBlk (w.setRow c cs) b h v := by
  unfold PBlk; rw [setRow_other w c b cs hne]; exact hh
theorem Blk.setRow {w : World} {b n t : Nat} {f : Nat → Int} (h : Blk w b n t f) (g : Nat → Int) : Blk (w.setRow b (row n g)) b n t g := setRow_heap w b _ _ t _ h
theorem Blk.setRowOther {w : World} {b n t : Nat} {f : Nat → Int} (h : Blk w b n t f) (c : Nat) (cs : Array Value) (hne : b ≠ c) : Blk (w.setRow c cs) b n t f := by
  unfold Blk; rw [setRow_other w c b cs hne]; exact h

section
variable {ops : Array Oper} {rest : List Oper} {o : Oper} {a : Act} {w : World} {Q : Exit → Act → World → Prop}
/-- A whole header is loaded. -/
theorem ld25 (x : Operand) (ho : o.op = .load 30 x) (g : Nat) (hx : a.eval x = .pointer (some ⟨g, 0, none⟩)) (hw : Region.wanted o (yielded ops a.tmps) = true) (m : Nat → Int) (hg : Blk w g 11 30 m)
    (h : wpList Tryd.prog ops Q rest (a.put o.dst (hv m)) w) : wpList Tryd.prog ops Q (o :: rest) a w := by
  unfold wpList
  rw [if_pos hw]
  exact Or.inl (wp_load_row 30 x ho g hx 30 (row 11 m) (0, 0) _ hg Tryd.underlying30 rfl (size25 m) h)
theorem range_head {w : World} {b : Nat} {m : Nat → Int} {v : Value} (h : PBlk w b m v) : w.rangeAt b 0 (row 11 m).toList := fun j u hj => by
  have hj' : (row 11 m)[j]? = some u := by simpa using hj
  by_cases hk : j < 11
  · rw [row_at _ _ _ hk] at hj'
    rw [Nat.zero_add, h.cell j hk]; exact hj'
  · rw [row_none _ _ _ hk] at hj'; cases hj'
/-- A packet's header is loaded. -/
theorem ldPH (x : Operand) (ho : o.op = .load 30 x) (g : Nat) (hx : a.eval x = .pointer (some ⟨g, 0, none⟩)) (hw : Region.wanted o (yielded ops a.tmps) = true) (m : Nat → Int) (v : Value) (hg : PBlk w g m v)
    (h : wpList Tryd.prog ops Q rest (a.put o.dst (hv m)) w) : wpList Tryd.prog ops Q (o :: rest) a w := by
  unfold wpList
  rw [if_pos hw]
  refine Or.inl (wp_load_mid 30 x ho g 0 hx (row 11 m).toList _ (range_head hg) Tryd.underlying30 rfl (by rw [size25 m]; simp) ?_)
  simpa using h
/-- A whole packet is loaded. -/
theorem ld27 (x : Operand) (ho : o.op = .load 32 x) (g : Nat) (hx : a.eval x = .pointer (some ⟨g, 0, none⟩)) (hw : Region.wanted o (yielded ops a.tmps) = true) (m : Nat → Int) (v : Value) (hg : PBlk w g m v)
    (h : wpList Tryd.prog ops Q rest (a.put o.dst (pv m v)) w) : wpList Tryd.prog ops Q (o :: rest) a w := by
  unfold wpList
  rw [if_pos hw]
  exact Or.inl (wp_load_row 32 x ho g hx 32 (prow m v) (0, 0) _ hg Tryd.underlying32 rfl (size27 m v) h)
theorem alc25 (ho : o.op = .alloc 30) (hw : Region.wanted o (yielded ops a.tmps) = true)
    (h : wpList Tryd.prog ops Q rest (a.put o.dst (.pointer (some ⟨w.heap.size, 0, none⟩))) (w.alloc (.cells (row 11 zf) 30))) : wpList Tryd.prog ops Q (o :: rest) a w := by
  unfold wpList
  rw [if_pos hw]
  refine Or.inl ?_
  unfold Oper.wp execOp
  simp only [ho, Instr.alloc, Sem.run_bind, (zero_of_info zero25).1, Result.andThen_ok, newVar, newRow, newObj, Value.cells, go_sem]
  exact h
theorem alc27 (ho : o.op = .alloc 32) (hw : Region.wanted o (yielded ops a.tmps) = true)
    (h : wpList Tryd.prog ops Q rest (a.put o.dst (.pointer (some ⟨w.heap.size, 0, none⟩))) (w.alloc (.cells (prow zf nilS) 32))) : wpList Tryd.prog ops Q (o :: rest) a w := by
  unfold wpList
  rw [if_pos hw]
  refine Or.inl ?_
  unfold Oper.wp execOp
  simp only [ho, Instr.alloc, Sem.run_bind, (zero_of_info zero27).1, Result.andThen_ok, newVar, newRow, newObj, Value.cells, go_sem]
  exact h
theorem st25 (x y : Operand) (ho : o.op = .store 30 x y) (g : Nat) (hx : a.eval x = .pointer (some ⟨g, 0, none⟩)) (m : Nat → Int) (hy : a.eval y = hv m) (hw : Region.wanted o (yielded ops a.tmps) = true) (z : Nat → Int) (hg : Blk w g 11 30 z)
    (h : wpList Tryd.prog ops Q rest (a.put o.dst undef) (w.setRow g (row 11 m))) : wpList Tryd.prog ops Q (o :: rest) a w := by
  unfold wpList
  rw [if_pos hw]
  exact Or.inl (wp_store_row 30 x y ho g (row 11 m) hx hy 30 (row 11 z) hg (size25 m) (by rw [row_size, row_size]) (row_one 11 m) h)
theorem st27 (x y : Operand) (ho : o.op = .store 32 x y) (g : Nat) (hx : a.eval x = .pointer (some ⟨g, 0, none⟩)) (m : Nat → Int) (v : Value) (hy : a.eval y = pv m v) (hv1 : v.oneCell' = true) (hw : Region.wanted o (yielded ops a.tmps) = true) (z : Nat → Int) (u : Value) (hg : PBlk w g z u)
    (h : wpList Tryd.prog ops Q rest (a.put o.dst undef) (w.setRow g (prow m v))) : wpList Tryd.prog ops Q (o :: rest) a w := by
  unfold wpList
  rw [if_pos hw]
  exact Or.inl (wp_store_row 32 x y ho g (prow m v) hx hy 32 (prow z u) hg (size27 m v) (by rw [prow_size, prow_size]) (prow_one m hv1) h)
theorem st23 (x y : Operand) (ho : o.op = .store 22 x y) (g j : Nat) (hx : a.eval x = .pointer (some ⟨g, j, none⟩)) (v : Int) (hy : a.eval y = .int .u64 v) (hw : Region.wanted o (yielded ops a.tmps) = true) (n t : Nat) (f : Nat → Int) (hg : Blk w g n t f) (hj : j < n)
    (h : wpList Tryd.prog ops Q rest (a.put o.dst undef) (w.setCell ⟨g, j, none⟩ (.int .u64 v))) : wpList Tryd.prog ops Q (o :: rest) a w := by
  unfold wpList
  rw [if_pos hw]
  refine Or.inl ?_
  have hs : (sizeOf 22).run Tryd.prog w = .ok 1 w := by
    have h1 : (Tryd.prog.info? 22).map (·.size) = some 1 := by kernel_rfl
    cases hq : Tryd.prog.info? 22 with
    | none => simp [hq] at h1
    | some i =>
      have hs : i.size = 1 := by simpa [hq] using h1
      simp [sizeOf, typeInfo, hq, hs]
  have hc := run_storeCells_cells (P := Tryd.prog) g j [.int .u64 v] 0 w (fun i hi => by
    have : i = 0 := by simpa using hi
    subst this; simp [hg.cell j hj]) (fun i _ => hg.frozen _) (fun u hu => by
    have : u = .int .u64 v := by simpa using hu
    subst this; rfl)
  simp only [Nat.add_zero] at hc
  unfold Oper.wp execOp
  simp only [ho, hx, hy, Instr.storeAt, Instr.sureAddr, storeVar, Value.cells, Sem.run_bind, Sem.run_pure, Result.andThen_ok, hs, hc, List.size_toArray, List.length_cons, List.length_nil, Nat.zero_add, ne_eq, not_true_eq_false, if_false, Sem.run_ite]
  exact h
end

theorem idx_hv (h : Nat → Int) (k : Nat) (hk : k < 11) (w : World) : (Instr.index 30 (hv h) (.int .i64 (k : Int))).run Tryd.prog w = .ok (.int .u64 (h k)) w := by
  have hk' : k = 0 ∨ k = 1 ∨ k = 2 ∨ k = 3 ∨ k = 4 ∨ k = 5 ∨ k = 6 ∨ k = 7 ∨ k = 8 ∨ k = 9 ∨ k = 10 := by omega
  rcases hk' with rfl | rfl | rfl | rfl | rfl | rfl | rfl | rfl | rfl | rfl | rfl
  all_goals (show _ = _; kernel_rfl)

/-- A slice value that holds the bytes bs, in a block below B. -/
def Sl (B : Nat) (w : World) (v : Value) (bs : List Int) : Prop :=
  ∃ ao cap, v = .slice ao bs.length cap ∧ bs.length ≤ cap ∧ bs.length ≤ 140737488355328 ∧ IsB bs ∧ (ao = none → cap = 0) ∧
    (bs ≠ [] → ∃ b o, b < B ∧ ao = some ⟨b, o, none⟩ ∧ ∀ j, j < bs.length → w.cell? ⟨b, o + j, none⟩ = some (.int .u8 (bs.getD j 0)))
theorem Sl.one {B : Nat} {w : World} {v : Value} {bs : List Int} (h : Sl B w v bs) : v.oneCell' = true := by
  obtain ⟨ao, cap, rfl, _⟩ := h
  rfl
theorem Sl.isB {B : Nat} {w : World} {v : Value} {bs : List Int} (h : Sl B w v bs) : IsB bs := by
  obtain ⟨ao, cap, _, _, _, h, _⟩ := h
  exact h
theorem Sl.len {B : Nat} {w : World} {v : Value} {bs : List Int} (h : Sl B w v bs) : bs.length ≤ 140737488355328 := by
  obtain ⟨ao, cap, _, _, h2, _⟩ := h
  exact h2
theorem Sl.nil (B : Nat) (w : World) : Sl B w nilS [] := ⟨none, 0, rfl, by simp, by simp, IsB.nil, fun _ => rfl, fun h => absurd rfl h⟩
theorem Sl.on {B : Nat} {w w' : World} {v : Value} {bs : List Int} (h : Sl B w v bs) (hb : Below B w w') : Sl B w' v bs := by
  obtain ⟨ao, cap, h1, h2, h3, h4, h6, h5⟩ := h
  refine ⟨ao, cap, h1, h2, h3, h4, h6, fun hne => ?_⟩
  obtain ⟨b, o, hlt, rfl, hc⟩ := h5 hne
  refine ⟨b, o, hlt, rfl, fun j hj => ?_⟩
  rw [hb.cell (p := ⟨b, o + j, none⟩) hlt]
  exact hc j hj
theorem Sl.mono {B B' : Nat} {w : World} {v : Value} {bs : List Int} (h : Sl B w v bs) (hB : B ≤ B') : Sl B' w v bs := by
  obtain ⟨ao, cap, h1, h2, h3, h4, h6, h5⟩ := h
  refine ⟨ao, cap, h1, h2, h3, h4, h6, fun hne => ?_⟩
  obtain ⟨b, o, hlt, rfl, hc⟩ := h5 hne
  exact ⟨b, o, by omega, rfl, hc⟩
/-- What the call owns is a slice of bytes. -/
theorem Sl.own {w : World} {base : Nat} {v : Value} {bs : List Int} (h : w.ownsRow base 5 1 v bs.length (bs.map (Value.int .u8))) (hl : bs.length ≤ 140737488355328) (hb : IsB bs) : Sl w.heap.size w v bs := by
  rcases h.2 with ⟨rfl, h0⟩ | ⟨g, cap, cur, rfl, _, hg, hcap, _, _, htake⟩
  · refine ⟨none, 0, by rw [h0], by omega, by omega, hb, fun _ => rfl, fun hne => ?_⟩
    exact absurd (List.length_eq_zero_iff.1 h0) hne
  · refine ⟨_, cap, rfl, hcap, hl, hb, (fun h => by cases h), fun _ => ⟨g, 0, (Array.getElem?_eq_some_iff.1 hg).1, rfl, fun j hj => ?_⟩⟩
    rw [Nat.zero_add, cell_of_row w g j cur 5 (0, 0) hg]
    have h2 : (cur.toList.take (bs.length * 1))[j]? = (bs.map (Value.int .u8))[j]? := by rw [htake]
    rw [List.getElem?_take, if_pos (by omega)] at h2
    simp only [Array.getElem?_toList, List.getElem?_map] at h2
    rw [h2, List.getD_eq_getElem?_getD, List.getElem?_eq_getElem hj]; rfl

/-- The call owns the bytes ys in the slice v. -/
abbrev Owns (base : Nat) (w : World) (v : Value) (ys : List Int) : Prop := w.ownsRow base 5 1 v ys.length (ys.map (Value.int .u8))
theorem Owns.isNil {base : Nat} {w : World} : Owns base w nilS [] := World.ownsRow_nil _ _ _ _
/-- From the slice v in w to the slice v' in w', which holds ys: no old block but v's own has turned. -/
structure Ext (base : Nat) (w : World) (v : Value) (w' : World) (v' : Value) (ys : List Int) : Prop where
  own : Owns base w' v' ys
  grown : w.grownBy w' v.ownBlock
  same : ∀ k, v'.ownBlock = some k → k < w.heap.size → v.ownBlock = some k
theorem Ext.refl {base : Nat} {w : World} {v : Value} {ys : List Int} (h : Owns base w v ys) : Ext base w v w v ys := ⟨h, World.grownBy.refl _ _, fun _ hk _ => hk⟩
theorem Ext.trans {base : Nat} {w w1 w2 : World} {v v1 v2 : Value} {xs ys : List Int} (a : Ext base w v w1 v1 xs) (b : Ext base w1 v1 w2 v2 ys) : Ext base w v w2 v2 ys := by
  refine ⟨b.own, ⟨b.grown.os.trans a.grown.os, b.grown.tape.trans a.grown.tape, b.grown.output.trans a.grown.output, Nat.le_trans a.grown.size b.grown.size, fun k hk hne => ?_⟩, fun k hk hlt => ?_⟩
  · rw [b.grown.block k (Nat.lt_of_lt_of_le hk a.grown.size) (fun e => hne (a.same k e.symm hk).symm), a.grown.block k hk hne]
  · exact a.same k (b.same k hk (Nat.lt_of_lt_of_le hlt a.grown.size)) hlt
theorem Ext.below {base : Nat} {w w' : World} {v v' : Value} {xs ys : List Int} (h : Owns base w v xs) (a : Ext base w v w' v' ys) (hb : base ≤ w.heap.size) : Below base w w' :=
  (Below.refl base w).grown a.grown hb fun k hk => (h.lt k hk).1
theorem Ext.block {base : Nat} {w w' : World} {v v' : Value} {xs ys : List Int} (h : Owns base w v xs) (a : Ext base w v w' v' ys) {b t : Nat} {cs : Array Value} (hb : w.heap[b]? = some (.cells cs t (0, 0))) (ht : t ≠ 5) : w'.heap[b]? = some (.cells cs t (0, 0)) := by
  rw [a.grown.block b (Array.getElem?_eq_some_iff.1 hb).1 (fun e => ?_)]
  · exact hb
  · rcases h.2 with ⟨rfl, _⟩ | ⟨g, cap, cur, rfl, _, hg, _⟩
    · simp [Value.ownBlock] at e
    · simp [Value.ownBlock] at e
      subst e
      rw [hg] at hb
      simp only [Option.some.injEq, Obj.cells.injEq] at hb
      exact ht hb.2.1.symm
/-- A new block of another kind ahead of what is done to an owned slice. -/
theorem Ext.allocFirst {base : Nat} {w w' : World} {v v' : Value} {xs ys : List Int} {o : Obj} (h : Owns base w v xs) (a : Ext base (w.alloc o) v w' v' ys) : Ext base w v w' v' ys := by
  have h0 : Ext base w v (w.alloc o) v xs := ⟨h.alloc o, World.grownBy_alloc w o _, fun _ hk _ => hk⟩
  exact h0.trans a
/-- A slice that was nil: all that was there stays. -/
theorem Ext.belowNil {base : Nat} {w w' : World} {v' : Value} {ys : List Int} (a : Ext base w nilS w' v' ys) : Below w.heap.size w w' :=
  ⟨a.grown.os, a.grown.tape, a.grown.output, a.grown.size, fun k hk => a.grown.block k hk (by simp [Value.ownBlock])⟩
def allU (p : Nat → Bool) : Nat → Bool
  | 0 => true
  | k + 1 => allU p k && p k
theorem allU_false {p : Nat → Bool} : ∀ {n k : Nat}, k < n → p k = false → allU p n = false
  | 0, _, hk, _ => absurd hk (by omega)
  | n + 1, k, hk, hb => by
    by_cases e : k = n
    · subst e; simp [allU, hb]
    · simp [allU, allU_false (n := n) (by omega) hb]
theorem allU_iff {p : Nat → Bool} : ∀ {n : Nat}, allU p n = true ↔ ∀ k, k < n → p k = true
  | 0 => by simp [allU]
  | n + 1 => by
    simp only [allU, Bool.and_eq_true, allU_iff (n := n)]
    constructor
    · rintro ⟨h1, h2⟩ k hk
      by_cases e : k = n
      · subst e; exact h2
      · exact h1 k (by omega)
    · intro h
      exact ⟨fun k hk => h k (by omega), h n (by omega)⟩
theorem allU_congr {p q : Nat → Bool} {n : Nat} (h : ∀ k, k < n → p k = q k) : allU p n = allU q n := by
  rw [Bool.eq_iff_iff, allU_iff, allU_iff]
  constructor <;> intro ha k hk
  · rw [← h k hk]; exact ha k hk
  · rw [h k hk]; exact ha k hk
end Go.Proofs.YtioohgcaakcgaaaDoor
