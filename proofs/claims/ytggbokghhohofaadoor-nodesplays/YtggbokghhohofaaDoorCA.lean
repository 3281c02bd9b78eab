/-
  Plain, and definitions: nodes; the keys of package nodes' maps; a store in memory (StM). Condition where it is named: the numbers fit their kinds.
-/
import Derived.Test.YtggbokghhohofaaDoorBE
import Derived.Test.YtggbokghhohofaaDoorM1
namespace Go.Proofs.YtggbokghhohofaaDoor
open Go.RowKit Go.Maps
set_option maxRecDepth 100000

theorem lawS : Keyed Tryd.prog 9 := string_keyed Tryd.underlying9
theorem key_s {s : ByteArray} (hs : s.size ≤ maxLen) : keyOf Tryd.prog 9 (.string s) = some (.string s.data.toList) := WideMaps.keyOf_string_mk Tryd.underlying9 hs
theorem lawT : Keyed Tryd.prog 70 := Keyed.of_law (deep_law_laid (m := 3) (by kernel_rfl) (by decide) (of_decide_eq_true (by kernel_rfl)) (by kernel_rfl) (by kernel_rfl))
/-- A test's key. -/
def kt (fd n hi lo : Int) : Lit := .string (keyBytes [.int .i8 fd, .int .u64 n, .int .i64 hi, .int .i64 lo])
abbrev tkc (fd n hi lo : Int) : Array Value := #[.int .i8 fd, .int .u64 n, .int .i64 hi, .int .i64 lo]
structure Tf (fd n hi lo : Int) : Prop where
  f : -128 ≤ fd ∧ fd < 128
  n : InB n
  h : I64 hi
  l : I64 lo
theorem key_t {fd n hi lo : Int} (h : Tf fd n hi lo) : keyOf Tryd.prog 70 (.agg (tkc fd n hi lo)) = some (kt fd n hi lo) := by
  have w1 : (Lit.int .i8 fd).wf = true := by
    have := h.f
    simp only [Lit.wf, show IntKind.i8.min = -128 from rfl, show IntKind.i8.max = 127 from rfl, Bool.and_eq_true, decide_eq_true_eq]
    omega
  have w2 : (Lit.int .u64 n).wf = true := WalkArith.wf_u64 (by have := h.n; simp only [InB] at this; omega)
  have w3 : (Lit.int .i64 hi).wf = true := WalkArith.wf_i64 (by have := h.h; simp only [I64] at this; omega)
  have w4 : (Lit.int .i64 lo).wf = true := WalkArith.wf_i64 (by have := h.l; simp only [I64] at this; omega)
  obtain ⟨m, hm⟩ : ∃ m, Tryd.prog.types.size = m + 1 := ⟨Tryd.prog.types.size - 1, by kernel_rfl⟩
  have hf : (Value.agg (tkc fd n hi lo)).formed Tryd.prog 70 = true := by
    have : Tryd.prog.cellsOf 70 = 4 := by kernel_rfl
    simp [Value.formed, Tryd.underlying70, this]
  have hk : Tryd.prog.keyType 70 = true := by kernel_rfl
  have c4 : Tryd.prog.cellsOf 70 = 4 := by kernel_rfl
  have c1 : Tryd.prog.cellsOf 32 = 1 := by kernel_rfl
  have c2 : Tryd.prog.cellsOf 33 = 1 := by kernel_rfl
  have c3 : Tryd.prog.cellsOf 3 = 1 := by kernel_rfl
  have e1 : Tryd.prog.keyLits (m + 1) 32 [.int .i8 fd] = some [.int .i8 fd] := by unfold Program.keyLits; rw [Tryd.underlying32]; simp [w1]
  have e2 : Tryd.prog.keyLits (m + 1) 33 [.int .u64 n] = some [.int .u64 n] := by unfold Program.keyLits; rw [Tryd.underlying33]; simp [w2]
  have e3 : Tryd.prog.keyLits (m + 1) 3 [.int .i64 hi] = some [.int .i64 hi] := by unfold Program.keyLits; rw [Tryd.underlying3]; simp [w3]
  have e4 : Tryd.prog.keyLits (m + 1) 3 [.int .i64 lo] = some [.int .i64 lo] := by unfold Program.keyLits; rw [Tryd.underlying3]; simp [w4]
  have e5 : Tryd.prog.keyLits (m + 1 + 1) 70 [.int .i8 fd, .int .u64 n, .int .i64 hi, .int .i64 lo] = some [.int .i8 fd, .int .u64 n, .int .i64 hi, .int .i64 lo] := by
    unfold Program.keyLits
    rw [Tryd.underlying70]
    simp only [c4]
    rw [if_pos (by simp)]
    simp [c1, c2, c3, e1, e2, e3, e4]
  unfold keyOf
  rw [Tryd.underlying70]
  simp only [hk, hf, Bool.and_self, if_true, hm]
  rw [show (Value.agg (tkc fd n hi lo)).cells.toList = [.int .i8 fd, .int .u64 n, .int .i64 hi, .int .i64 lo] from rfl, e5]
  rfl
theorem kt_inj {fd n hi lo fd' n' hi' lo' : Int} (h : Tf fd n hi lo) (h' : Tf fd' n' hi' lo') (e : kt fd n hi lo = kt fd' n' hi' lo') : fd = fd' ∧ n = n' ∧ hi = hi' ∧ lo = lo' := by
  have := lawT.inj (key_t h) (e ▸ key_t h')
  simpa using this
/-- A node. -/
structure Nd where
  fd : Int
  n : Int
  hi : Int
  lo : Int
  lf : List (List Ac)
abbrev lfN (K : List (List Ac)) : Nd := ⟨-1, 0, 0, 0, K⟩
abbrev tsN (fd n hi lo : Int) : Nd := ⟨fd, n, hi, lo, []⟩
/-- A node, with the slice of its rows. -/
abbrev Nv := Value × Nd
abbrev ndc (x : Nv) : Array Value := #[.int .i8 x.2.fd, .int .u64 x.2.n, .int .i64 x.2.hi, .int .i64 x.2.lo, x.1]
abbrev flN (x : Nv) : List Value := (ndc x).toList
theorem flN5 (x : Nv) : (flN x).length = 5 := rfl
def keyR (K : List (List Ac)) : Lit := .string (rtx K)
/-- What a node of a store is. -/
structure NdOk (x : Nd) : Prop where
  fit : Tf x.fd x.n x.hi x.lo
  oks : Oks x.lf
  tot : tot x.lf ≤ 40000
/-- A store in memory: its own block p, the block of its list, its two maps bt, bl. -/
structure StM (B p : Nat) (w : World) (all : List Nd) (va : Value) (bt bl nt nl : Nat) (Gt Gl : Lit → Option Value) (d : List Nv) : Prop where
  dm : d.map (·.2) = all
  hB : B ≤ p ∧ B ≤ bt ∧ B ≤ bl ∧ bt ≠ bl
  hp : w.heap[p]? = some (.cells #[va, .map (some bt), .map (some bl)] 59 (0, 0))
  rw : Rw (fun b => B ≤ b) 5 41 w va d.length (fl flN d)
  mt : Mp w 70 bt nt Gt
  ml : Mp w 9 bl nl Gl
  ntl : nt ≤ all.length
  nll : nl ≤ all.length
  lf : ∀ x ∈ d, Cps (fun b => B ≤ b ∧ b ≠ p ∧ b ≠ bt ∧ b ≠ bl ∧ va.ownBlock ≠ some b) w x.1 x.2.lf
  ok : ∀ x ∈ all, NdOk x
  gt : ∀ k v, Gt k = some v ↔ ∃ (i : Nat) (hi : i < all.length) (fd n h l : Int), all[i] = tsN fd n h l ∧ 0 ≤ fd ∧ k = kt fd n h l ∧ v = .int .i64 ((i : Nat) : Int)
  gl : ∀ k v, Gl k = some v ↔ ∃ (i : Nat) (hi : i < all.length) (K : List (List Ac)), all[i] = lfN K ∧ k = keyR K ∧ v = .int .i64 ((i : Nat) : Int)
  len : all.length ≤ 65536
/-- the blocks of its own -/
def Own1 (p bt bl : Nat) (va : Value) (b : Nat) : Prop := b = p ∨ b = bt ∨ b = bl ∨ va.ownBlock = some b
theorem StM.own {B p : Nat} {w : World} {all : List Nd} {va : Value} {bt bl nt nl : Nat} {Gt Gl : Lit → Option Value} {d : List Nv} (h : StM B p w all va bt bl nt nl Gt Gl d) : ∀ b, Own1 p bt bl va b → B ≤ b ∧ b < w.heap.size := fun b hb => by
  obtain ⟨h1, h2, h3, -⟩ := h.hB
  rcases hb with rfl | rfl | rfl | hb
  · exact ⟨h1, (Array.getElem?_eq_some_iff.1 h.hp).1⟩
  · exact ⟨h2, h.mt.lt⟩
  · exact ⟨h3, h.ml.lt⟩
  · exact ⟨h.rw.own b hb, h.rw.ownLt b hb⟩
/-- What does not touch its blocks leaves it as it was. -/
theorem StM.keep {B p : Nat} {w w' : World} {all : List Nd} {va : Value} {bt bl nt nl : Nat} {Gt Gl : Lit → Option Value} {d : List Nv} (h : StM B p w all va bt bl nt nl Gt Gl d) (hb : ∀ b, B ≤ b → b < w.heap.size → w'.heap[b]? = w.heap[b]?) : StM B p w' all va bt bl nt nl Gt Gl d where
  dm := h.dm
  hB := h.hB
  hp := (hb p h.hB.1 (Array.getElem?_eq_some_iff.1 h.hp).1).trans h.hp
  rw := h.rw.carry fun b hb' hS => ⟨hS, hb b hS hb'⟩
  mt := h.mt.carry (hb bt h.hB.2.1 h.mt.lt)
  ml := h.ml.carry (hb bl h.hB.2.2.1 h.ml.lt)
  ntl := h.ntl
  nll := h.nll
  lf x hx := (h.lf x hx).carry fun b hb' hS => ⟨hS, hb b hS.1 hb'⟩
  ok := h.ok
  gt := h.gt
  gl := h.gl
  len := h.len
theorem StM.cells {B p : Nat} {w : World} {all : List Nd} {va : Value} {bt bl nt nl : Nat} {Gt Gl : Lit → Option Value} {d : List Nv} (h : StM B p w all va bt bl nt nl Gt Gl d) : w.cell? ⟨p, 0, none⟩ = some va ∧ w.cell? ⟨p, 1, none⟩ = some (.map (some bt)) ∧ w.cell? ⟨p, 2, none⟩ = some (.map (some bl)) :=
  ⟨(cell_of_row _ _ _ _ _ _ h.hp).trans rfl, (cell_of_row _ _ _ _ _ _ h.hp).trans rfl, (cell_of_row _ _ _ _ _ _ h.hp).trans rfl⟩
theorem StM.dl {B p : Nat} {w : World} {all : List Nd} {va : Value} {bt bl nt nl : Nat} {Gt Gl : Lit → Option Value} {d : List Nv} (h : StM B p w all va bt bl nt nl Gt Gl d) : d.length = all.length := by rw [← h.dm]; simp
/-- A store, whatever holds it. -/
def St (B p : Nat) (w : World) (all : List Nd) : Prop := ∃ va bt bl nt nl Gt Gl d, StM B p w all va bt bl nt nl Gt Gl d
theorem St.on {B p : Nat} {w w' : World} {all : List Nd} (h : St B p w all) (hb : Below w.heap.size w w') : St B p w' all := by
  obtain ⟨va, bt, bl, nt, nl, Gt, Gl, d, h⟩ := h
  exact ⟨va, bt, bl, nt, nl, Gt, Gl, d, h.keep fun b _ h2 => hb.block b h2⟩
end Go.Proofs.YtggbokghhohofaaDoor
