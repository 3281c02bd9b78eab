/-
  Proved here: how a zero match is made and laid, how a match is stored whole, and what a function of two results, a match and a bool, hands back. No condition.
-/
import Derived.Test.YtmonlbmjgjapoaaDoorM4
import Derived.Laws.CopyOwn
namespace Go.Proofs.YtmonlbmjgjapoaaDoor
open Go.RowKit
theorem zero26 : (Tryd.prog.info? 26).map (fun i => (i.zero, i.size)) = some (some (mv zf), 22) := by kernel_rfl
theorem build26 (w : World) : (Instr.build 26 #[]).run Tryd.prog w = .ok (mv zf) w := by
  show _ = _
  kernel_rfl
section
variable {ops : Array Oper} {rest : List Oper} {o : Oper} {a : Act} {w : World} {Q : Exit → Act → World → Prop}
theorem alc26 (ho : o.op = .alloc 26) (hw : Region.wanted o (yielded ops a.tmps) = true)
    (h : wpList Tryd.prog ops Q rest (a.put o.dst (.pointer (some ⟨w.heap.size, 0, none⟩))) (w.alloc (.cells (row 22 zf) 26))) : wpList Tryd.prog ops Q (o :: rest) a w := by
  unfold wpList
  rw [if_pos hw]
  refine Or.inl ?_
  unfold Oper.wp execOp
  simp only [ho, Instr.alloc, Sem.run_bind, (zero_of_info zero26).1, Result.andThen_ok, newVar, newRow, newObj, Value.cells, go_sem]
  exact h
theorem bld26 (ho : o.op = .build 26 #[]) (hw : Region.wanted o (yielded ops a.tmps) = true)
    (h : wpList Tryd.prog ops Q rest (a.put o.dst (mv zf)) w) : wpList Tryd.prog ops Q (o :: rest) a w := by
  unfold wpList
  rw [if_pos hw]
  refine Or.inl ?_
  unfold Oper.wp execOp
  have := build26 w
  simp only [ho, List.map_toArray, List.map_nil, Sem.run_bind, Sem.run_pure, Result.andThen_ok, this]
  exact h
theorem st26 (x y : Operand) (ho : o.op = .store 26 x y) (g : Nat) (hx : a.eval x = .pointer (some ⟨g, 0, none⟩)) (m : Nat → Int) (hy : a.eval y = mv m) (hw : Region.wanted o (yielded ops a.tmps) = true) (z : Nat → Int) (hg : Blk w g 22 26 z)
    (h : wpList Tryd.prog ops Q rest (a.put o.dst undef) (w.setRow g (row 22 m))) : wpList Tryd.prog ops Q (o :: rest) a w := by
  unfold wpList
  rw [if_pos hw]
  exact Or.inl (wp_store_row 26 x y ho g (row 22 m) hx hy 26 (row 22 z) hg (size26 m) (by rw [row_size, row_size]) (row_one 22 m) h)
/-- A match into a block that was made last. -/
theorem st26new (x y : Operand) (ho : o.op = .store 26 x y) (hx : a.eval x = .pointer (some ⟨w.heap.size, 0, none⟩)) (m : Nat → Int) (hy : a.eval y = mv m) (z : Nat → Int) (hw : Region.wanted o (yielded ops a.tmps) = true)
    (h : wpList Tryd.prog ops Q rest (a.put o.dst undef) (w.alloc (.cells (row 22 m) 26))) : wpList Tryd.prog ops Q (o :: rest) a (w.alloc (.cells (row 22 z) 26)) := by
  refine st26 x y ho _ hx m hy hw z (Blk.new w 22 26 z) ?_
  rw [World.setRow_alloc_new]
  exact h
end
theorem Blk.setRow {w : World} {b n t : Nat} {f : Nat → Int} (h : Blk w b n t f) (g : Nat → Int) : Blk (w.setRow b (row n g)) b n t g := setRow_heap w b _ _ t _ h
theorem Blk.setRowOther {w : World} {b n t : Nat} {f : Nat → Int} (h : Blk w b n t f) (c : Nat) (cs : Array Value) (hne : b ≠ c) : Blk (w.setRow c cs) b n t f := by
  unfold Blk; rw [setRow_other w c b cs hne]; exact h
/-- What a function of two results, a match and a bool, hands back. -/
theorem res14 (tmps : Array Value) (w : World) (g : Nat) (m : Nat → Int) (c : Bool) (hp : tmps.getD 4 undef = .pointer (some ⟨g, 0, none⟩)) (h5 : tmps.getD 5 undef = .bool c) (hg : Blk w g 22 26 m) :
    (results Tryd.f14 tmps).run Tryd.prog w = .ok (.tuple #[mv m, .bool c]) w := by
  have hp' : tmps[4]?.getD undef = .pointer (some ⟨g, 0, none⟩) := by simpa using hp
  have h5' : tmps[5]?.getD undef = .bool c := by simpa using h5
  simp [results, Tryd.results14, hp', h5', asAddr, run_loadVar_row w g 26 26 _ (0, 0) _ hg Tryd.underlying26 rfl (size26 m)]

def orF (a b : Nat → Int) : Nat → Int := fun j => bits .or .u64 (a j) (b j)
def clash (a b : Nat → Int) (k : Nat) : Bool := bits .and .u64 (bits .and .u64 (bits .xor .u64 (a k) (b k)) (a (11 + k))) (b (11 + k)) != 0
def mtOk (a b : Nat → Int) : Bool := mOk a && mOk b && allU (fun k => !clash a b k) 11
def mt (a b : Nat → Int) : Nat → Int := bif mtOk a b then orF a b else zf
def rclash (a b : Nat → Int) (k : Nat) : Bool := bits .and .u64 (a k) (bits .and .u64 (a (11 + k)) (b (11 + k))) != bits .and .u64 (b k) (bits .and .u64 (a (11 + k)) (b (11 + k)))
def rmtOk (a b : Nat → Int) : Bool := mOk a && mOk b && allU (fun k => !rclash a b k) 11
def rmt (a b : Nat → Int) : Nat → Int := bif rmtOk a b then orF a b else zf
def part (a b : Nat → Int) (k : Nat) : Nat → Int := fun j => if j < k ∨ (11 ≤ j ∧ j < 11 + k) then orF a b j else 0
theorem part_zero (a b : Nat → Int) : part a b 0 = zf := by
  funext j
  unfold part zf
  rw [if_neg (by omega)]
theorem part_step (a b : Nat → Int) (k : Nat) (hk : k < 11) : upd (upd (part a b k) (11 + k) (orF a b (11 + k))) k (orF a b k) = part a b (k + 1) := by
  funext j
  by_cases h1 : j = k
  · subst h1
    rw [upd_same]; unfold part; rw [if_pos (by omega)]
  · rw [upd_other _ _ _ _ h1]
    by_cases h2 : j = 11 + k
    · subst h2
      rw [upd_same]; unfold part; rw [if_pos (by omega)]
    · rw [upd_other _ _ _ _ h2]
      unfold part
      by_cases h3 : j < k ∨ (11 ≤ j ∧ j < 11 + k)
      · rw [if_pos h3, if_pos (by omega)]
      · rw [if_neg h3, if_neg (by omega)]
theorem part_all (a b : Nat → Int) : row 22 (part a b 11) = row 22 (orF a b) := row_congr fun k hk => by
  unfold part; rw [if_pos (by omega)]
abbrev W3 (w : World) (a b : Nat → Int) : World := (W2 w a b).alloc (.cells (row 22 zf) 26)
theorem W3.a (w : World) (a b : Nat → Int) : Blk (W3 w a b) w.heap.size 22 26 a := (W2.a w a b).alloc _
theorem W3.b (w : World) (a b : Nat → Int) : Blk (W3 w a b) (w.heap.size + 1) 22 26 b := (W2.b w a b).alloc _
theorem W3.r (w : World) (a b : Nat → Int) : Blk (W3 w a b) (w.heap.size + 1 + 1) 22 26 zf := by
  have := Blk.new (W2 w a b) 22 26 zf
  simpa using this
theorem W3.low (w : World) (a b : Nat → Int) : Below w.heap.size w (W3 w a b) := (W2.low w a b).alloc (by simp; omega) _
end Go.Proofs.YtmonlbmjgjapoaaDoor
