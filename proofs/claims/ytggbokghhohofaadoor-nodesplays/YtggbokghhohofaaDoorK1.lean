/-
  Rows of numbers (row), blocks that hold them (Blk), headers as values (hv); how a whole header is loaded out of its block. No condition.
-/
import Derived.Test.YtggbokghhohofaaDoorProg
import Derived.WalkKit
import Derived.WalkSpells
import Derived.WalkLawsBesides
import Derived.BigQuiet
import Derived.ChangeKeysEq
import Derived.Deep.RegionHeld3
import Derived.Deep.MidRow
import Derived.Deep.WholeRow
namespace Go.Proofs.YtggbokghhohofaaDoor
open Go.RowKit

def row (n : Nat) (f : Nat → Int) : Array Value := Array.ofFn (n := n) fun k => Value.int .u64 (f k.val)
theorem row_size (n : Nat) (f : Nat → Int) : (row n f).size = n := by simp [row]
theorem row_at (n : Nat) (f : Nat → Int) (k : Nat) (hk : k < n) : (row n f)[k]? = some (.int .u64 (f k)) := by
  simp [row, hk]
theorem row_none (n : Nat) (f : Nat → Int) (k : Nat) (hk : ¬ k < n) : (row n f)[k]? = none := by
  simp [row, hk]
theorem row_ext {n : Nat} {f : Nat → Int} {cs : Array Value} (hs : cs.size = n) (h : ∀ k, k < n → cs[k]? = some (.int .u64 (f k))) : cs = row n f := by
  apply Array.ext_getElem?
  intro k
  by_cases hk : k < n
  · rw [h k hk, row_at n f k hk]
  · rw [Array.getElem?_eq_none (by omega), row_none n f k hk]
theorem row_congr {n : Nat} {f g : Nat → Int} (h : ∀ k, k < n → f k = g k) : row n f = row n g :=
  row_ext (row_size n f) fun k hk => by rw [row_at n f k hk, h k hk]
theorem row_one (n : Nat) (f : Nat → Int) : (row n f).all (·.oneCell') = true := by
  rw [Array.all_eq_true_iff_forall_mem]
  intro v hv
  simp [row] at hv
  obtain ⟨k, rfl⟩ := hv
  rfl
def zf : Nat → Int := fun _ => 0
def upd (h : Nat → Int) (f : Nat) (x : Int) : Nat → Int := fun k => bif Nat.beq k f then x else h k
theorem upd_same (h : Nat → Int) (f : Nat) (x : Int) : upd h f x f = x := by simp [upd]
theorem upd_other (h : Nat → Int) (f : Nat) (x : Int) (k : Nat) (hk : k ≠ f) : upd h f x k = h k := by
  unfold upd
  cases hb : Nat.beq k f
  · rfl
  · exact absurd (Nat.eq_of_beq_eq_true hb) hk
theorem row_set (n : Nat) (f : Nat → Int) (j : Nat) (x : Int) : (row n f).setIfInBounds j (.int .u64 x) = row n (upd f j x) := by
  refine row_ext (by simp [row_size]) fun k hk => ?_
  rw [Array.getElem?_setIfInBounds]
  by_cases h : j = k
  · subst h
    rw [if_pos rfl, if_pos (by simpa [row_size] using hk), upd_same]
  · rw [if_neg h, row_at n f k hk, upd_other f j x k (fun e => h e.symm)]

/-- Block b is a match's (n = 22) or a header's (n = 11), and holds the numbers f. -/
def Blk (w : World) (b : Nat) (n t : Nat) (f : Nat → Int) : Prop := w.heap[b]? = some (Obj.cells (row n f) t (0, 0))
theorem Blk.lt {w : World} {b n t : Nat} {f : Nat → Int} (h : Blk w b n t f) : b < w.heap.size := (Array.getElem?_eq_some_iff.1 h).1
theorem Blk.new (w : World) (n t : Nat) (f : Nat → Int) : Blk (w.alloc (.cells (row n f) t)) w.heap.size n t f := heap_alloc_new _ _
theorem Blk.new1 (w : World) (o : Obj) (n t : Nat) (f : Nat → Int) : Blk ((w.alloc o).alloc (.cells (row n f) t)) (w.heap.size + 1) n t f := by
  have := Blk.new (w.alloc o) n t f
  simpa using this
theorem Blk.alloc {w : World} {b n t : Nat} {f : Nat → Int} (h : Blk w b n t f) (o : Obj) : Blk (w.alloc o) b n t f := by
  unfold Blk; rw [Below.heap_alloc _ _ _ h.lt]; exact h
theorem Blk.on {w w' : World} {b n t : Nat} {f : Nat → Int} (h : Blk w b n t f) (hb : Below w.heap.size w w') : Blk w' b n t f := by
  unfold Blk; rw [hb.block _ h.lt]; exact h
theorem bel_drewN {b : Nat} {w w' : World} (h : Below b w w') (q : Nat) : Below b w (w'.drewN q) := ⟨h.os, h.tape, h.output, h.size, h.block⟩
theorem Blk.drewN {w : World} {b n t : Nat} {f : Nat → Int} (h : Blk w b n t f) (q : Nat) : Blk (w.drewN q) b n t f := h
theorem Blk.drew {w : World} {b n t : Nat} {f : Nat → Int} (h : Blk w b n t f) : Blk w.drew b n t f := h
theorem Blk.cell {w : World} {b n t : Nat} {f : Nat → Int} (h : Blk w b n t f) (k : Nat) (hk : k < n) : w.cell? ⟨b, k, none⟩ = some (.int .u64 (f k)) := by
  rw [cell_of_row w b k _ _ _ h, row_at n f k hk]
theorem Blk.frozen {w : World} {b n t : Nat} {f : Nat → Int} (h : Blk w b n t f) (o : Nat) : w.frozen? ⟨b, o, none⟩ = false := by
  have : w.heap[b]? = some (Obj.cells (row n f) t (0, 0)) := h
  simp [World.frozen?, this]
theorem Blk.set {w : World} {b n t : Nat} {f : Nat → Int} (h : Blk w b n t f) (j : Nat) (x : Int) : Blk (w.setCell ⟨b, j, none⟩ (.int .u64 x)) b n t (upd f j x) := by
  unfold Blk; rw [heap_setCell_same w b j _ t _ h, row_set]
theorem Blk.setOther {w : World} {b n t : Nat} {f : Nat → Int} (h : Blk w b n t f) (c j : Nat) (v : Value) (hne : b ≠ c) : Blk (w.setCell ⟨c, j, none⟩ v) b n t f := by
  unfold Blk; rw [heap_setCell_other _ _ _ _ hne]; exact h

end Go.Proofs.YtggbokghhohofaaDoor
