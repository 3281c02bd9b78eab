/-
  Plain facts: the widths of the fields, in how many bytes each stands, matches as numbers, when a match is one, and what follows of its numbers' size. No program is spoken of.
-/
/-
  Proved here: what it is that a slice holds bytes in certain blocks; what stays as worlds go on; small laws on rows of numbers. No condition.
-/
/-
  Plain facts: messages as data; their bytes; how bytes are read, with the looks at what is read (c = true) or without (c = false). No program is spoken of.
-/
/-
  Proved here: how lists, rules, held rules and messages lie in memory, and that they stay as long as their blocks do. No condition.
-/
import Derived.Test.YtllbbbfkdgjffaaGreatDoorK1
import Derived.WalkKit
import Derived.Laws.BitsAllLaws
import Derived.OneCell
import Derived.BigQuiet
import Derived.Deep.RegionHeld3
import Derived.Deep.MidRow
import Derived.Deep.WholeRow
import Derived.Deep.RegionLaw
import Derived.Deep.DeepCutAuto
namespace Go.Proofs.YtllbbbfkdgjffaaGreatDoor
open Go.RowKit

def wid : Nat → Int
  | 0 => 48 | 1 => 48 | 2 => 16 | 3 => 12 | 4 => 32 | 5 => 32 | 6 => 8 | 7 => 16 | 8 => 16 | 9 => 16 | 10 => 16 | _ => 0
theorem wid_bd (k : Nat) : 0 ≤ wid k ∧ wid k ≤ 48 := by
  unfold wid; split <;> omega
def widV (f : Int) : Int := if 0 ≤ f ∧ f < 11 then wid f.toNat else 0
theorem widV_nat (k : Nat) (hk : k < 11) : widV (k : Int) = wid k := by
  unfold widV; rw [if_pos (by omega)]; simp
/-- In how many bytes a field stands. -/
def sz : Nat → Nat
  | 0 => 6 | 1 => 6 | 2 => 2 | 3 => 2 | 4 => 4 | 5 => 4 | 6 => 1 | 7 => 2 | 8 => 2 | 9 => 2 | 10 => 2 | _ => 0
theorem sz_le (k : Nat) : sz k ≤ 6 := by
  unfold sz; split <;> omega
theorem sz_pos (k : Nat) (h : k < 11) : 0 < sz k := by
  have : k = 0 ∨ k = 1 ∨ k = 2 ∨ k = 3 ∨ k = 4 ∨ k = 5 ∨ k = 6 ∨ k = 7 ∨ k = 8 ∨ k = 9 ∨ k = 10 := by omega
  rcases this with rfl | rfl | rfl | rfl | rfl | rfl | rfl | rfl | rfl | rfl | rfl <;> simp [sz]
theorem sz_wid (k : Nat) (h : k < 11) : (wid k + 7) / 8 = (sz k : Int) := by
  have : k = 0 ∨ k = 1 ∨ k = 2 ∨ k = 3 ∨ k = 4 ∨ k = 5 ∨ k = 6 ∨ k = 7 ∨ k = 8 ∨ k = 9 ∨ k = 10 := by omega
  rcases this with rfl | rfl | rfl | rfl | rfl | rfl | rfl | rfl | rfl | rfl | rfl <;> decide
theorem wid_sz (k : Nat) : (wid k).toNat ≤ 8 * sz k := by
  unfold wid sz; split <;> decide

def zf : Nat → Int := fun _ => 0
def upd (h : Nat → Int) (f : Nat) (x : Int) : Nat → Int := fun k => bif Nat.beq k f then x else h k
theorem upd_same (h : Nat → Int) (f : Nat) (x : Int) : upd h f x f = x := by simp [upd]
theorem upd_other (h : Nat → Int) (f : Nat) (x : Int) (k : Nat) (hk : k ≠ f) : upd h f x k = h k := by
  unfold upd
  cases hb : Nat.beq k f
  · rfl
  · exact absurd (Nat.eq_of_beq_eq_true hb) hk
def allU (p : Nat → Bool) : Nat → Bool
  | 0 => true
  | k + 1 => allU p k && p k
theorem allU_false {p : Nat → Bool} : ∀ {n k : Nat}, k < n → p k = false → allU p n = false
  | 0, _, hk, _ => absurd hk (by omega)
  | n + 1, k, hk, hb => by
    by_cases e : k = n
    · subst e; simp [allU, hb]
    · simp [allU, allU_false (n := n) (by omega) hb]
theorem allU_iff {p : Nat → Bool} : ∀ {n : Nat}, allU p n = true ↔ ∀ k, k < n → p k = true
  | 0 => by simp [allU]
  | n + 1 => by
    simp only [allU, Bool.and_eq_true, allU_iff (n := n)]
    constructor
    · rintro ⟨h1, h2⟩ k hk
      by_cases e : k = n
      · subst e; exact h2
      · exact h1 k (by omega)
    · intro h
      exact ⟨fun k hk => h k (by omega), h n (by omega)⟩
theorem allU_congr {p q : Nat → Bool} {n : Nat} (h : ∀ k, k < n → p k = q k) : allU p n = allU q n := by
  rw [Bool.eq_iff_iff, allU_iff, allU_iff]
  constructor <;> intro ha k hk
  · rw [← h k hk]; exact ha k hk
  · rw [h k hk]; exact ha k hk
def bad (m : Nat → Int) (k : Nat) : Bool := m (11 + k) / 2 ^ (wid k).toNat != 0 || bits .andNot .u64 (m k) (m (11 + k)) != 0
def mOk (m : Nat → Int) : Bool := allU (fun k => !bad m k) 11
def chk (m : Nat → Int) : Int := if mOk m then 0 else 20
theorem chk_ok {m : Nat → Int} (h : mOk m = true) : chk m = 0 := by simp [chk, h]
theorem chk_bad {m : Nat → Int} (h : mOk m = false) : chk m = 20 := by simp [chk, h]
theorem mOk_congr {m n : Nat → Int} (h : ∀ k, k < 22 → m k = n k) : mOk m = mOk n := by
  unfold mOk
  exact allU_congr fun k hk => by unfold bad; rw [h (11 + k) (by omega), h k (by omega)]

def InB (x : Int) : Prop := 0 ≤ x ∧ x < 18446744073709551616
theorem wrap_toNat (X : BitVec 64) : IntKind.u64.wrap (X.toNat : Int) = (X.toNat : Int) := by
  rw [IntKind.wrap_u64]
  have := X.isLt
  omega
theorem andNot_eq (x y : Int) : bits .andNot .u64 x y = ((BitVec.ofInt 64 x &&& ~~~BitVec.ofInt 64 y).toNat : Int) := wrap_toNat _
theorem toNat_ofInt {x : Int} (h : InB x) : ((BitVec.ofInt 64 x).toNat : Int) = x := by
  obtain ⟨n, rfl⟩ := Int.eq_ofNat_of_zero_le h.1
  have := h.2
  rw [BitVec.ofInt_natCast, BitVec.toNat_ofNat, Nat.mod_eq_of_lt (by omega)]
theorem andNot_le {x y : Int} (hx : InB x) (hy : InB y) (h : bits .andNot .u64 x y = 0) : x ≤ y := by
  rw [andNot_eq] at h
  have h0 : BitVec.ofInt 64 x &&& ~~~BitVec.ofInt 64 y = 0#64 := by
    apply BitVec.eq_of_toNat_eq
    simpa using h
  have h1 : BitVec.ofInt 64 x &&& BitVec.ofInt 64 y = BitVec.ofInt 64 x := by
    apply BitVec.eq_of_getLsbD_eq
    intro i hi
    have := congrArg (fun b => b.getLsbD i) h0
    simp [hi] at this
    simp
    exact this
  have h2 : (BitVec.ofInt 64 x).toNat ≤ (BitVec.ofInt 64 y).toNat := by
    rw [← h1, BitVec.toNat_and]; exact Nat.and_le_right
  rw [← toNat_ofInt hx, ← toNat_ofInt hy]
  omega
/-- Of a match that is one: Value is at most Mask, and Mask goes into the field's bytes. -/
theorem mOk_le {m : Nat → Int} (h : mOk m = true) (hb : ∀ k, k < 22 → InB (m k)) (k : Nat) (hk : k < 11) : m k ≤ m (11 + k) ∧ m (11 + k) < 2 ^ (8 * sz k) := by
  have h1 := allU_iff.1 h k hk
  simp only [bad, Bool.not_or, Bool.and_eq_true, bne, Bool.not_not, beq_iff_eq] at h1
  refine ⟨andNot_le (hb k (by omega)) (hb (11 + k) (by omega)) h1.2, ?_⟩
  have hp : (0 : Int) < 2 ^ (wid k).toNat := Int.pow_pos (by omega)
  have h2 : m (11 + k) < 2 ^ (wid k).toNat := by
    by_cases h : m (11 + k) < 2 ^ (wid k).toNat
    · exact h
    · have := Int.le_ediv_of_mul_le hp (a := 1) (b := m (11 + k)) (by omega)
      omega
  have h3 : (2 : Int) ^ (wid k).toNat ≤ 2 ^ (8 * sz k) := by exact_mod_cast Nat.pow_le_pow_right (by omega) (wid_sz k)
  omega
end Go.Proofs.YtllbbbfkdgjffaaGreatDoor
namespace Go.Proofs.YtllbbbfkdgjffaaGreatDoor
open Go.RowKit

/-- From w to w' no block outside S has turned. -/
structure Only (S : Nat → Prop) (w w' : World) : Prop where
  os : w'.os = w.os
  tape : w'.tape = w.tape
  output : w'.output = w.output
  size : w.heap.size ≤ w'.heap.size
  block : ∀ k, ¬ S k → w'.heap[k]? = w.heap[k]?
/-- All blocks to come are in S. -/
def Fresh (S : Nat → Prop) (w : World) : Prop := ∀ k, w.heap.size ≤ k → S k
theorem Fresh.on {S : Nat → Prop} {w w' : World} (h : Fresh S w) (hs : w.heap.size ≤ w'.heap.size) : Fresh S w' := fun k hk => h k (Nat.le_trans hs hk)
theorem Only.refl (S : Nat → Prop) (w : World) : Only S w w := ⟨rfl, rfl, rfl, Nat.le_refl _, fun _ _ => rfl⟩
theorem Only.trans {S : Nat → Prop} {a b c : World} (h : Only S a b) (k : Only S b c) : Only S a c :=
  ⟨k.os.trans h.os, k.tape.trans h.tape, k.output.trans h.output, Nat.le_trans h.size k.size, fun i hi => (k.block i hi).trans (h.block i hi)⟩
theorem Only.mono {S T : Nat → Prop} {a b : World} (h : Only S a b) (hst : ∀ k, S k → T k) : Only T a b := ⟨h.os, h.tape, h.output, h.size, fun k hk => h.block k fun hs => hk (hst k hs)⟩
theorem Only.below {B : Nat} {S : Nat → Prop} {w w' : World} (h : Only S w w') (hS : ∀ k, S k → B ≤ k) : Below B w w' := ⟨h.os, h.tape, h.output, h.size, fun k hk => h.block k fun hs => by have := hS k hs; omega⟩
theorem Only.of {S : Nat → Prop} {w w' : World} (h : Below w.heap.size w w') (hf : Fresh S w) : Only S w w' :=
  ⟨h.os, h.tape, h.output, h.size, fun k hk => h.block k (by
    rcases Nat.lt_or_ge k w.heap.size with h | h
    · exact h
    · exact absurd (hf k h) hk)⟩
theorem Only.drew {S : Nat → Prop} {w w' : World} (h : Only S w w') : Only S w w'.drew := ⟨h.os, h.tape, h.output, h.size, h.block⟩
theorem Only.alloc {S : Nat → Prop} {w w' : World} (h : Only S w w') (hf : Fresh S w') (o : Obj) : Only S w (w'.alloc o) := h.trans (Only.of ((Below.refl _ _).alloc (Nat.le_refl _) _) hf)
theorem Only.setCell {S : Nat → Prop} {w w' : World} (h : Only S w w') {p : Addr} (hp : S p.block) (v : Value) : Only S w (w'.setCell p v) := by
  have hb : Below 0 w' (w'.setCell p v) := (Below.refl 0 w').setCell (p := p) (Nat.zero_le _) v
  refine h.trans ⟨hb.os, hb.tape, hb.output, hb.size, fun k hk => ?_⟩
  exact heap_setCell_other w' p k v (fun e => hk (e ▸ hp))
theorem cell_same {w w' : World} {b o : Nat} (h : w'.heap[b]? = w.heap[b]?) : w'.cell? ⟨b, o, none⟩ = w.cell? ⟨b, o, none⟩ := by
  unfold World.cell?; rw [h]
theorem cell_lt {w : World} {b o : Nat} {v : Value} (h : w.cell? ⟨b, o, none⟩ = some v) : b < w.heap.size := by
  unfold World.cell? at h
  rcases Nat.lt_or_ge b w.heap.size with h2 | h2
  · exact h2
  · rw [Array.getElem?_eq_none h2] at h; simp at h

/-- A slice value that holds the bytes bs, in a block of S. -/
def SlC (S : Nat → Prop) (w : World) (v : Value) (bs : List Int) : Prop :=
  ∃ ao cap, v = .slice ao bs.length cap ∧ bs.length ≤ cap ∧ bs.length ≤ 140737488355328 ∧ IsB bs ∧ (ao = none → cap = 0) ∧
    (bs ≠ [] → ∃ b o, S b ∧ ao = some ⟨b, o, none⟩ ∧ ∀ j, j < bs.length → w.cell? ⟨b, o + j, none⟩ = some (.int .u8 (bs.getD j 0)))
theorem SlC.of {B : Nat} {w : World} {v : Value} {bs : List Int} (h : Sl B w v bs) : SlC (· < B) w v bs := h
theorem SlC.carry {S T : Nat → Prop} {w w' : World} {v : Value} {bs : List Int} (h : SlC S w v bs) (hc : ∀ k, k < w.heap.size → S k → T k ∧ w'.heap[k]? = w.heap[k]?) : SlC T w' v bs := by
  obtain ⟨ao, cap, h1, h2, h3, h4, h5, h6⟩ := h
  refine ⟨ao, cap, h1, h2, h3, h4, h5, fun hne => ?_⟩
  obtain ⟨b, o, hb, rfl, hcl⟩ := h6 hne
  have h0 : 0 < bs.length := by
    rcases Nat.eq_zero_or_pos bs.length with e | e
    · exact absurd (List.length_eq_zero_iff.1 e) hne
    · exact e
  have hq := hc b (cell_lt (hcl 0 h0)) hb
  exact ⟨b, o, hq.1, rfl, fun j hj => by rw [cell_same hq.2]; exact hcl j hj⟩
theorem SlC.mono {S T : Nat → Prop} {w : World} {v : Value} {bs : List Int} (h : SlC S w v bs) (hc : ∀ k, S k → T k) : SlC T w v bs := h.carry fun k _ hk => ⟨hc k hk, rfl⟩
theorem SlC.on {S T : Nat → Prop} {w w' : World} {v : Value} {bs : List Int} (h : SlC S w v bs) (ho : Only T w w') (hd : ∀ k, S k → ¬ T k) : SlC S w' v bs := h.carry fun k _ hk => ⟨hk, ho.block k (hd k hk)⟩
theorem SlC.sl {S : Nat → Prop} {w : World} {v : Value} {bs : List Int} (h : SlC S w v bs) : Sl w.heap.size w v bs := by
  obtain ⟨ao, cap, h1, h2, h3, h4, h5, h6⟩ := h
  refine ⟨ao, cap, h1, h2, h3, h4, h5, fun hne => ?_⟩
  obtain ⟨b, o, hb, rfl, hcl⟩ := h6 hne
  have h0 : 0 < bs.length := by
    rcases Nat.eq_zero_or_pos bs.length with e | e
    · exact absurd (List.length_eq_zero_iff.1 e) hne
    · exact e
  exact ⟨b, o, cell_lt (hcl 0 h0), rfl, hcl⟩
theorem SlC.isB {S : Nat → Prop} {w : World} {v : Value} {bs : List Int} (h : SlC S w v bs) : IsB bs := h.sl.isB
theorem SlC.len {S : Nat → Prop} {w : World} {v : Value} {bs : List Int} (h : SlC S w v bs) : bs.length ≤ 140737488355328 := h.sl.len
theorem SlC.one {S : Nat → Prop} {w : World} {v : Value} {bs : List Int} (h : SlC S w v bs) : v.oneCell' = true := h.sl.one
theorem SlC.nil (S : Nat → Prop) (w : World) : SlC S w nilS [] := ⟨none, 0, rfl, by simp, by simp, IsB.nil, fun _ => rfl, fun h => absurd rfl h⟩
/-- What the call owns. -/
theorem SlC.own {S : Nat → Prop} {w : World} {base : Nat} {v : Value} {bs : List Int} (h : Owns base w v bs) (hl : bs.length ≤ 140737488355328) (hb : IsB bs) (hS : ∀ k, base ≤ k → k < w.heap.size → S k) : SlC S w v bs := by
  have hs := Sl.own h hl hb
  obtain ⟨ao, cap, rfl, h2, h3, h4, h5, h6⟩ := hs
  refine ⟨ao, cap, rfl, h2, h3, h4, h5, fun hne => ?_⟩
  obtain ⟨b, o, hb, rfl, hcl⟩ := h6 hne
  exact ⟨b, o, hS b (h.lt b (by simp [Value.ownBlock])).1 hb, rfl, hcl⟩
/-- A piece of a slice. -/
theorem SlC.cut {S : Nat → Prop} {w : World} {b o n cap : Nat} {bs : List Int} (h : SlC S w (.slice (some ⟨b, o, none⟩) n cap) bs) (i m c : Nat) (hi : i + m ≤ bs.length) (hc : m ≤ c) : SlC S w (.slice (some ⟨b, o + i, none⟩) m c) ((bs.drop i).take m) := by
  obtain ⟨ao', cap', e, h1, h2, h3, h4, h5⟩ := h
  simp only [Value.slice.injEq] at e
  obtain ⟨rfl, _, rfl⟩ := e
  have hl : ((bs.drop i).take m).length = m := by rw [List.length_take, List.length_drop]; omega
  refine ⟨_, c, by rw [hl], by omega, by omega, (h3.drop i).take m, (fun h => by cases h), fun hne => ?_⟩
  have hm : 0 < m := by
    rcases Nat.eq_zero_or_pos m with e | e
    · subst e; simp at hne
    · exact e
  obtain ⟨b', o', hb, e, hcl⟩ := h5 (fun e => by subst e; simp at hi; omega)
  simp only [Option.some.injEq, Addr.mk.injEq] at e
  obtain ⟨rfl, rfl, _⟩ := e
  refine ⟨b, o + i, hb, rfl, fun j hj => ?_⟩
  rw [hl] at hj
  rw [Nat.add_assoc, hcl (i + j) (by omega)]
  simp only [List.getD_eq_getElem?_getD, List.getElem?_take, if_pos hj, List.getElem?_drop]

theorem SlC.cutif {S : Nat → Prop} {w : World} {b o n cap : Nat} {bs : List Int} (h : SlC S w (.slice (some ⟨b, o, none⟩) n cap) bs) (i m : Nat) (hi : i + m ≤ bs.length) : SlC S w (.slice (if cap = i then some ⟨b, o, none⟩ else some ⟨b, o + i, none⟩) m (cap - i)) ((bs.drop i).take m) := by
  have hc : bs.length ≤ cap := by
    obtain ⟨_, _, e, h1, _⟩ := h
    simp only [Value.slice.injEq] at e
    omega
  by_cases h0 : cap = i
  · have hm : m = 0 := by omega
    subst hm
    rw [if_pos h0]
    exact ⟨some ⟨b, o, none⟩, cap - i, by simp, by simp, by simp, by simpa using IsB.nil, (fun h => by simp at h), fun hne => absurd (by simp) hne⟩
  · rw [if_neg h0]
    exact h.cut i m (cap - i) hi (by omega)

def row (n : Nat) (f : Nat → Int) : Array Value := Array.ofFn (n := n) fun k => Value.int .u64 (f k.val)
theorem row_size (n : Nat) (f : Nat → Int) : (row n f).size = n := by simp [row]
theorem row_at (n : Nat) (f : Nat → Int) (k : Nat) (hk : k < n) : (row n f)[k]? = some (.int .u64 (f k)) := by
  simp [row, hk]
theorem row_none (n : Nat) (f : Nat → Int) (k : Nat) (hk : ¬ k < n) : (row n f)[k]? = none := by
  simp [row, hk]
theorem row_ext {n : Nat} {f : Nat → Int} {cs : Array Value} (hs : cs.size = n) (h : ∀ k, k < n → cs[k]? = some (.int .u64 (f k))) : cs = row n f := by
  apply Array.ext_getElem?
  intro k
  by_cases hk : k < n
  · rw [h k hk, row_at n f k hk]
  · rw [Array.getElem?_eq_none (by omega), row_none n f k hk]
theorem row_congr {n : Nat} {f g : Nat → Int} (h : ∀ k, k < n → f k = g k) : row n f = row n g :=
  row_ext (row_size n f) fun k hk => by rw [row_at n f k hk, h k hk]
theorem row_one (n : Nat) (f : Nat → Int) : (row n f).all (·.oneCell') = true := by
  rw [Array.all_eq_true_iff_forall_mem]
  intro v hv
  simp [row] at hv
  obtain ⟨k, rfl⟩ := hv
  rfl
abbrev mv (m : Nat → Int) : Value := .agg (row 22 m)
abbrev hv (h : Nat → Int) : Value := .agg (row 11 h)
theorem row_set (n : Nat) (f : Nat → Int) (j : Nat) (x : Int) : (row n f).setIfInBounds j (.int .u64 x) = row n (upd f j x) := by
  refine row_ext (by simp [row_size]) fun k hk => ?_
  rw [Array.getElem?_setIfInBounds]
  by_cases h : j = k
  · subst h
    rw [if_pos rfl, if_pos (by simpa [row_size] using hk), upd_same]
  · rw [if_neg h, row_at n f k hk, upd_other f j x k (fun e => h e.symm)]

/-- Block b is a match's (n = 22) or a header's (n = 11), and holds the numbers f. -/
def Blk (w : World) (b : Nat) (n t : Nat) (f : Nat → Int) : Prop := w.heap[b]? = some (Obj.cells (row n f) t (0, 0))
theorem Blk.lt {w : World} {b n t : Nat} {f : Nat → Int} (h : Blk w b n t f) : b < w.heap.size := (Array.getElem?_eq_some_iff.1 h).1
theorem Blk.new (w : World) (n t : Nat) (f : Nat → Int) : Blk (w.alloc (.cells (row n f) t)) w.heap.size n t f := heap_alloc_new _ _
theorem Blk.new1 (w : World) (o : Obj) (n t : Nat) (f : Nat → Int) : Blk ((w.alloc o).alloc (.cells (row n f) t)) (w.heap.size + 1) n t f := by
  have := Blk.new (w.alloc o) n t f
  simpa using this
theorem Blk.alloc {w : World} {b n t : Nat} {f : Nat → Int} (h : Blk w b n t f) (o : Obj) : Blk (w.alloc o) b n t f := by
  unfold Blk; rw [Below.heap_alloc _ _ _ h.lt]; exact h
theorem Blk.on {w w' : World} {b n t : Nat} {f : Nat → Int} (h : Blk w b n t f) (hb : Below w.heap.size w w') : Blk w' b n t f := by
  unfold Blk; rw [hb.block _ h.lt]; exact h
theorem bel_drewN {b : Nat} {w w' : World} (h : Below b w w') (q : Nat) : Below b w (w'.drewN q) := ⟨h.os, h.tape, h.output, h.size, h.block⟩
theorem Blk.drewN {w : World} {b n t : Nat} {f : Nat → Int} (h : Blk w b n t f) (q : Nat) : Blk (w.drewN q) b n t f := h
theorem Blk.drew {w : World} {b n t : Nat} {f : Nat → Int} (h : Blk w b n t f) : Blk w.drew b n t f := h
theorem Blk.cell {w : World} {b n t : Nat} {f : Nat → Int} (h : Blk w b n t f) (k : Nat) (hk : k < n) : w.cell? ⟨b, k, none⟩ = some (.int .u64 (f k)) := by
  rw [cell_of_row w b k _ _ _ h, row_at n f k hk]
theorem Blk.frozen {w : World} {b n t : Nat} {f : Nat → Int} (h : Blk w b n t f) (o : Nat) : w.frozen? ⟨b, o, none⟩ = false := by
  have : w.heap[b]? = some (Obj.cells (row n f) t (0, 0)) := h
  simp [World.frozen?, this]
theorem Blk.set {w : World} {b n t : Nat} {f : Nat → Int} (h : Blk w b n t f) (j : Nat) (x : Int) : Blk (w.setCell ⟨b, j, none⟩ (.int .u64 x)) b n t (upd f j x) := by
  unfold Blk; rw [heap_setCell_same w b j _ t _ h, row_set]
theorem Blk.setOther {w : World} {b n t : Nat} {f : Nat → Int} (h : Blk w b n t f) (c j : Nat) (v : Value) (hne : b ≠ c) : Blk (w.setCell ⟨c, j, none⟩ v) b n t f := by
  unfold Blk; rw [heap_setCell_other _ _ _ _ hne]; exact h

end Go.Proofs.YtllbbbfkdgjffaaGreatDoor
namespace Go.Proofs.YtllbbbfkdgjffaaGreatDoor

structure Ac where
  dw : Int
  fd : Int
  n : Int
structure Rl where
  rk : Int
  mt : Nat → Int
  cp : List (List Ac)
  ck : Int
structure Hd where
  r : Rl
  pk : Int
  bt : Int
structure Ms where
  ty : Int
  id : Int
  dw : Int
  r : Rl
  po : Int
  up : Bool
  sw : Int
  ps : List Int
  ed : List Int
  fr : List Int
  hs : List Hd
  co : Int
def zRl : Rl := ⟨0, zf, [], 0⟩
def zMs : Ms := ⟨0, 0, 0, zRl, 0, false, 0, [], [], [], [], 0⟩

/-- Numbers that the types hold. -/
def In16 (x : Int) : Prop := 0 ≤ x ∧ x < 65536
def Ac.Fit (a : Ac) : Prop := (-128 ≤ a.dw ∧ a.dw < 128) ∧ (-128 ≤ a.fd ∧ a.fd < 128) ∧ InB a.n
def Rl.Fit (r : Rl) : Prop := (-9223372036854775808 ≤ r.rk ∧ r.rk < 9223372036854775808) ∧ (∀ k, k < 22 → InB (r.mt k)) ∧ (∀ k, 22 ≤ k → r.mt k = 0) ∧ (∀ l ∈ r.cp, ∀ a ∈ l, a.Fit) ∧ InB r.ck
def Hd.Fit (h : Hd) : Prop := h.r.Fit ∧ InB h.pk ∧ InB h.bt
structure Ms.Fit (m : Ms) : Prop where
  ty : -128 ≤ m.ty ∧ m.ty < 128
  id : 0 ≤ m.id ∧ m.id < 4294967296
  dw : -128 ≤ m.dw ∧ m.dw < 128
  r : m.r.Fit
  po : In16 m.po
  sw : In16 m.sw
  ps : ∀ x ∈ m.ps, In16 x
  ed : ∀ x ∈ m.ed, In16 x
  fr : IsB m.fr
  hs : ∀ h ∈ m.hs, h.Fit
  co : In16 m.co

/-- What stands where: the bytes. -/
def encAc (a : Ac) : List Int := dg a.dw 1 ++ (dg a.fd 1 ++ dg a.n 8)
def encCp (l : List Ac) : List Int := dg l.length 2 ++ l.flatMap encAc
def mb (m : Nat → Int) : Nat → Int
  | 0 => 0
  | k + 1 => mb m k + (if m (11 + k) = 0 then 0 else 2 ^ k)
def ent (m : Nat → Int) (k : Nat) : List Int := if m (11 + k) = 0 then [] else dg (m k) (sz k) ++ dg (m (11 + k)) (sz k)
def fs (m : Nat → Int) : Nat → List Int
  | 0 => []
  | k + 1 => fs m k ++ ent m k
def encMt (m : Nat → Int) : List Int := dg (mb m 11) 2 ++ fs m 11
def encCs (l : List (List Ac)) : List Int := dg l.length 2 ++ l.flatMap encCp
def encRl (r : Rl) : List Int := dg r.rk 4 ++ (dg r.ck 8 ++ (encMt r.mt ++ encCs r.cp))
def encHd (h : Hd) : List Int := encRl h.r ++ (dg h.pk 8 ++ dg h.bt 8)
def encHs (l : List Hd) : List Int := dg l.length 2 ++ l.flatMap encHd
def encSh (l : List Int) : List Int := dg l.length 2 ++ l.flatMap fun x => dg x 2
/-- Parts of a message. -/
inductive Fk where
  | sw | ps | ed | dw | rl | po | mo | fr | hs | up | co
def pts (ty : Int) : List Fk := if ty = 4 then [.sw, .ps, .ed] else if ty = 5 then [.dw, .rl] else if ty = 6 ∨ ty = 7 then [.po, .fr] else if ty = 11 then [.mo, .hs] else if ty = 12 then [.po, .up] else if ty = 13 then [.co] else []
def flag (b : Bool) : Int := bif b then 1 else 0
def encF (m : Ms) : Fk → List Int
  | .sw => dg m.sw 2
  | .ps => encSh m.ps
  | .ed => encSh m.ed
  | .dw => dg m.dw 1
  | .rl => encRl m.r
  | .po => dg m.po 2
  | .mo => dg m.po 2
  | .fr => dg m.fr.length 2 ++ m.fr
  | .hs => encHs m.hs
  | .up => dg (flag m.up) 1
  | .co => dg m.co 2
def body (m : Ms) : List Int := (pts m.ty).flatMap (encF m)
def encMs (m : Ms) : List Int := dg 1 1 ++ (dg m.ty 1 ++ (dg (8 + (body m).length : Nat) 2 ++ (dg m.id 4 ++ body m)))

/-- What is right. -/
def okAc (a : Ac) : Bool := decide (a.dw = 0 ∧ 0 ≤ a.fd ∨ a.dw = 1 ∧ a.fd = 0 ∨ a.dw = 2 ∧ a.fd = 0 ∧ a.n = 0)
def okCp (l : List Ac) : Bool := l.all okAc
def okRk (x : Int) : Bool := decide (-2147483648 ≤ x ∧ x ≤ 2147483647)
def okRl (r : Rl) : Bool := okRk r.rk && (mOk r.mt && r.cp.all okCp)
def okHd (h : Hd) : Bool := okRl h.r
def okDo (x : Int) : Bool := decide (0 ≤ x ∧ x ≤ 3)
def okMo (x : Int) : Bool := decide (x ≤ 1)
def okF (m : Ms) : Fk → Bool
  | .dw => okDo m.dw
  | .rl => okRl m.r
  | .mo => okMo m.po
  | .hs => m.hs.all okHd
  | _ => true
def clF (m : Ms) : Fk → Ms
  | .sw => { m with sw := 0 }
  | .ps => { m with ps := [] }
  | .ed => { m with ed := [] }
  | .dw => { m with dw := 0 }
  | .rl => { m with r := zRl }
  | .po => { m with po := 0 }
  | .mo => { m with po := 0 }
  | .fr => { m with fr := [] }
  | .hs => { m with hs := [] }
  | .up => { m with up := false }
  | .co => { m with co := 0 }
def blRl (r : Rl) : Bool := decide (r.rk = 0) && (allU (fun k => r.mt k == 0) 22 && (decide (r.cp.length = 0) && decide (r.ck = 0)))
def blank (m : Ms) : Bool := decide (m.dw = 0) && (blRl m.r && (decide (m.po = 0) && (!m.up && (decide (m.sw = 0) && (decide (m.co = 0) && (decide (m.ps.length = 0) && (decide (m.ed.length = 0) && (decide (m.fr.length = 0) && decide (m.hs.length = 0)))))))))
def isTy (x : Int) : Bool := decide (0 ≤ x ∧ x < 14)
def rest (m : Ms) : Ms := (pts m.ty).foldl clF m
def okMs (m : Ms) : Bool := isTy m.ty && (blank (rest m) && (pts m.ty).all (okF m))
/-- What Encode answers: an error's number. -/
def enE (m : Ms) : Int := if okMs m then (if (encMs m).length ≤ 8192 then 0 else 3) else 70

/-- Reading. -/
def i8 (n : Int) : Int := if n < 128 then n else n - 256
def i32 (n : Int) : Int := if n % 4294967296 < 2147483648 then n % 4294967296 else n % 4294967296 - 4294967296
def kp {α : Type} (c ok : Bool) (x : α) : Option α := if (c && !ok) = true then none else some x
def rdl {α : Type} (p : List Int → Option (α × List Int)) : Nat → List Int → Option (List α × List Int)
  | 0, r => some ([], r)
  | n + 1, r => (p r).bind fun x => (rdl p n x.2).map fun q => (x.1 :: q.1, q.2)
def rdL {α : Type} (p : List Int → Option (α × List Int)) (r : List Int) : Option (List α × List Int) := (tk 2 r).bind fun c => rdl p c.1.toNat c.2
def rdAc (c : Bool) (r : List Int) : Option (Ac × List Int) := (tk 1 r).bind fun a => (tk 1 a.2).bind fun b => (tk 8 b.2).bind fun d => kp c (okAc ⟨i8 a.1, i8 b.1, d.1⟩) (⟨i8 a.1, i8 b.1, d.1⟩, d.2)
def rdFs (b : Int) : Nat → (Nat → Int) → List Int → Option ((Nat → Int) × List Int)
  | 0, m, r => some (m, r)
  | j + 1, m, r => if b / 2 ^ (10 - j) % 2 = 1 then (tk (sz (10 - j)) r).bind fun x => (tk (sz (10 - j)) x.2).bind fun y => if y.1 = 0 then none else rdFs b j (upd (upd m (10 - j) x.1) (11 + (10 - j)) y.1) y.2 else rdFs b j m r
def rdMt (c : Bool) (r : List Int) : Option ((Nat → Int) × List Int) := (tk 2 r).bind fun b => if b.1 / 2048 = 0 then (rdFs b.1 11 zf b.2).bind fun x => kp c (mOk x.1) x else none
def rdRl (c : Bool) (r : List Int) : Option (Rl × List Int) := (tk 4 r).bind fun a => (tk 8 a.2).bind fun b => (rdMt c b.2).bind fun d => (rdL (rdL (rdAc c)) d.2).map fun e => (⟨i32 a.1, d.1, e.1, b.1⟩, e.2)
def rdHd (c : Bool) (r : List Int) : Option (Hd × List Int) := (rdRl c r).bind fun a => (tk 8 a.2).bind fun b => (tk 8 b.2).map fun d => (⟨a.1, b.1, d.1⟩, d.2)
def rdBy (r : List Int) : Option (List Int × List Int) := (tk 2 r).bind fun x => if x.1.toNat ≤ x.2.length then some (x.2.take x.1.toNat, x.2.drop x.1.toNat) else none
def rdF (c : Bool) (m : Ms) (r : List Int) : Fk → Option (Ms × List Int)
  | .sw => (tk 2 r).map fun x => ({ m with sw := x.1 }, x.2)
  | .ps => (rdL (tk 2) r).map fun x => ({ m with ps := x.1 }, x.2)
  | .ed => (rdL (tk 2) r).map fun x => ({ m with ed := x.1 }, x.2)
  | .dw => (tk 1 r).bind fun x => kp c (okDo (i8 x.1)) ({ m with dw := i8 x.1 }, x.2)
  | .rl => (rdRl c r).map fun x => ({ m with r := x.1 }, x.2)
  | .po => (tk 2 r).map fun x => ({ m with po := x.1 }, x.2)
  | .mo => (tk 2 r).bind fun x => kp c (okMo x.1) ({ m with po := x.1 }, x.2)
  | .fr => (rdBy r).map fun x => ({ m with fr := x.1 }, x.2)
  | .hs => (rdL (rdHd c) r).map fun x => ({ m with hs := x.1 }, x.2)
  | .up => (tk 1 r).bind fun x => if x.1 ≤ 1 then some ({ m with up := decide (x.1 = 1) }, x.2) else none
  | .co => (tk 2 r).map fun x => ({ m with co := x.1 }, x.2)
def rdPs (c : Bool) : List Fk → Ms → List Int → Option (Ms × List Int)
  | [], m, r => some (m, r)
  | k :: l, m, r => (rdF c m r k).bind fun x => rdPs c l x.1 x.2
def fld (d : List Int) (a k : Nat) : Int := num ((d.drop a).take k)
def tyOf (bs : List Int) : Int := i8 (fld bs 1 1)
def m0 (bs : List Int) : Ms := { zMs with ty := tyOf bs, id := fld bs 4 4 }
def prs (c : Bool) (bs : List Int) : Option Ms := (rdPs c (pts (tyOf bs)) (m0 bs) (bs.drop 8)).bind fun x => if x.2 = [] then some x.1 else none
def dec (bs : List Int) : Option Ms := if bs.length ≤ 8192 ∧ fld bs 0 1 = 1 ∧ isTy (tyOf bs) = true ∧ fld bs 2 2 = bs.length then prs true bs else none
/-- What Decode answers: an error's number. -/
def deE (bs : List Int) : Int := if bs.length < 8 ∨ (bs.length : Int) < fld bs 2 2 then 51 else match dec bs with | none => 70 | some _ => 0
end Go.Proofs.YtllbbbfkdgjffaaGreatDoor
namespace Go.Proofs.YtllbbbfkdgjffaaGreatDoor
open Go.RowKit

section
variable {α : Type}
/-- A slice of things of k cells each, in a block of T; R says what cells a thing has. -/
def Lst (T : Nat → Prop) (k : Nat) (R : World → (Nat → Option Value) → α → Prop) (w : World) (v : Value) (l : List α) : Prop :=
  ∃ ao cap, v = .slice ao l.length cap ∧ l.length ≤ cap ∧ l.length ≤ 140737488355328 ∧ (ao = none → cap = 0) ∧
    (l ≠ [] → ∃ b o, T b ∧ ao = some ⟨b, o, none⟩ ∧ ∀ j (hj : j < l.length), R w (fun i => w.cell? ⟨b, o + j * k + i, none⟩) l[j])
theorem Lst.carry {T T' : Nat → Prop} {k : Nat} {R R' : World → (Nat → Option Value) → α → Prop} {w w' : World} {v : Value} {l : List α} (h : Lst T k R w v l) (hc : ∀ b, b < w.heap.size → T b → T' b ∧ w'.heap[b]? = w.heap[b]?) (hS : ∀ f x, R w f x → ∃ u, f 0 = some u) (hR : ∀ f x, R w f x → R' w' f x) : Lst T' k R' w' v l := by
  obtain ⟨ao, cap, h1, h2, h3, h4, h5⟩ := h
  refine ⟨ao, cap, h1, h2, h3, h4, fun hne => ?_⟩
  obtain ⟨b, o, hb, rfl, hcl⟩ := h5 hne
  have h0 : 0 < l.length := List.length_pos_iff.2 hne
  obtain ⟨u, hu⟩ := hS _ _ (hcl 0 h0)
  have hq := hc b (cell_lt hu) hb
  refine ⟨b, o, hq.1, rfl, fun j hj => ?_⟩
  have := hR _ _ (hcl j hj)
  have e : (fun i => w'.cell? ⟨b, o + j * k + i, none⟩) = fun i => w.cell? ⟨b, o + j * k + i, none⟩ := by
    funext i; exact cell_same hq.2
  rw [e]; exact this
theorem Lst.form {T : Nat → Prop} {k : Nat} {R : World → (Nat → Option Value) → α → Prop} {w : World} {v : Value} {l : List α} (h : Lst T k R w v l) : ∃ ao cap, v = .slice ao l.length cap ∧ l.length ≤ cap := by
  obtain ⟨ao, cap, h1, h2, _⟩ := h
  exact ⟨ao, cap, h1, h2⟩
theorem Lst.len {T : Nat → Prop} {k : Nat} {R : World → (Nat → Option Value) → α → Prop} {w : World} {v : Value} {l : List α} (h : Lst T k R w v l) : l.length ≤ 140737488355328 := by
  obtain ⟨ao, cap, h1, h2, h3, _⟩ := h
  exact h3
theorem Lst.nil (T : Nat → Prop) (k : Nat) (R : World → (Nat → Option Value) → α → Prop) (w : World) : Lst T k R w nilS [] := ⟨none, 0, rfl, by simp, by simp, fun _ => rfl, fun h => absurd rfl h⟩
theorem Lst.all {T : Nat → Prop} {k : Nat} {R : World → (Nat → Option Value) → α → Prop} {P : α → Prop} {w : World} {v : Value} {l : List α} (h : Lst T k R w v l) (hP : ∀ f x, R w f x → P x) : ∀ x ∈ l, P x := by
  intro x hx
  obtain ⟨_, _, _, _, _, _, h5⟩ := h
  obtain ⟨j, hj, rfl⟩ := List.getElem_of_mem hx
  obtain ⟨b, o, _, _, hcl⟩ := h5 (fun e => by subst e; simp at hj)
  exact hP _ _ (hcl j hj)
end

def RSh : World → (Nat → Option Value) → Int → Prop := fun _ f x => f 0 = some (.int .u16 x) ∧ In16 x
def RAc : World → (Nat → Option Value) → Ac → Prop := fun _ f a => f 0 = some (.int .i8 a.dw) ∧ f 1 = some (.int .i8 a.fd) ∧ f 2 = some (.int .u64 a.n) ∧ a.Fit
abbrev Shs (T : Nat → Prop) (w : World) (v : Value) (l : List Int) : Prop := Lst T 1 RSh w v l
abbrev Acs (T : Nat → Prop) (w : World) (v : Value) (l : List Ac) : Prop := Lst T 3 RAc w v l
def RCp (T : Nat → Prop) : World → (Nat → Option Value) → List Ac → Prop := fun w f l => ∃ u, f 0 = some u ∧ Acs T w u l
abbrev Cps (T : Nat → Prop) (w : World) (v : Value) (l : List (List Ac)) : Prop := Lst T 1 (RCp T) w v l
/-- The cells of a rule, with its Copies' slice; of a held rule; of a message. -/
def rlc (r : Rl) (u : Value) : Array Value := #[.int .i64 r.rk] ++ row 22 r.mt ++ #[u, .int .u64 r.ck]
def hdc (h : Hd) (u : Value) : Array Value := rlc h.r u ++ #[.int .u64 h.pk, .int .u64 h.bt]
structure Sls where
  cp : Value
  ps : Value
  ed : Value
  fr : Value
  hs : Value
def msc (m : Ms) (s : Sls) : Array Value := #[.int .i8 m.ty, .int .u32 m.id, .int .i8 m.dw] ++ rlc m.r s.cp ++ #[.int .u16 m.po, .bool m.up, .int .u16 m.sw, s.ps, s.ed, s.fr, s.hs, .int .u16 m.co]
def RHd (T : Nat → Prop) : World → (Nat → Option Value) → Hd → Prop := fun w f h => ∃ u, (∀ i, i < 27 → f i = (hdc h u)[i]?) ∧ Cps T w u h.r.cp ∧ h.Fit
abbrev Hds (T : Nat → Prop) (w : World) (v : Value) (l : List Hd) : Prop := Lst T 27 (RHd T) w v l
theorem rlc_size (r : Rl) (u : Value) : (rlc r u).size = 25 := by simp [rlc, row_size]
theorem hdc_size (h : Hd) (u : Value) : (hdc h u).size = 27 := by simp [hdc, rlc_size]
theorem msc_size (m : Ms) (s : Sls) : (msc m s).size = 36 := by simp [msc, rlc_size]
theorem rlc_rk (r : Rl) (u : Value) : (rlc r u)[0]? = some (.int .i64 r.rk) := by simp [rlc, row_size]
theorem rlc_mt (r : Rl) (u : Value) (k : Nat) (h : k < 22) : (rlc r u)[1 + k]? = some (.int .u64 (r.mt k)) := by
  unfold rlc
  rw [Array.append_assoc, Array.getElem?_append_right (by simp), Array.getElem?_append_left (by simp [row_size]; omega)]
  simp only [List.size_toArray, List.length_cons, List.length_nil]
  rw [show 1 + k - (0 + 1) = k by omega]
  exact row_at 22 r.mt k h
theorem rlc_cp (r : Rl) (u : Value) : (rlc r u)[23]? = some u := by simp [rlc, row_size]
theorem rlc_ck (r : Rl) (u : Value) : (rlc r u)[24]? = some (.int .u64 r.ck) := by simp [rlc, row_size]
theorem hdc_rl (h : Hd) (u : Value) (k : Nat) (hk : k < 25) : (hdc h u)[k]? = (rlc h.r u)[k]? := by
  unfold hdc
  rw [Array.getElem?_append_left (by rw [rlc_size]; exact hk)]
theorem hdc_pk (h : Hd) (u : Value) : (hdc h u)[25]? = some (.int .u64 h.pk) := by simp [hdc, rlc_size]
theorem hdc_bt (h : Hd) (u : Value) : (hdc h u)[26]? = some (.int .u64 h.bt) := by simp [hdc, rlc_size]
theorem msc_rl (m : Ms) (s : Sls) (k : Nat) (hk : k < 25) : (msc m s)[3 + k]? = (rlc m.r s.cp)[k]? := by
  unfold msc
  rw [Array.append_assoc, Array.getElem?_append_right (by simp), Array.getElem?_append_left (by simp [rlc_size]; omega)]
  simp only [List.size_toArray, List.length_cons, List.length_nil]
  rw [show 3 + k - (0 + 1 + 1 + 1) = k by omega]
theorem msc_at (m : Ms) (s : Sls) : (msc m s)[0]? = some (.int .i8 m.ty) ∧ (msc m s)[1]? = some (.int .u32 m.id) ∧ (msc m s)[2]? = some (.int .i8 m.dw) ∧ (msc m s)[28]? = some (.int .u16 m.po) ∧ (msc m s)[29]? = some (.bool m.up) ∧ (msc m s)[30]? = some (.int .u16 m.sw) ∧ (msc m s)[31]? = some s.ps ∧ (msc m s)[32]? = some s.ed ∧ (msc m s)[33]? = some s.fr ∧ (msc m s)[34]? = some s.hs ∧ (msc m s)[35]? = some (.int .u16 m.co) := by
  refine ⟨?_, ?_, ?_, ?_, ?_, ?_, ?_, ?_, ?_, ?_, ?_⟩ <;> simp [msc, rlc_size]

section
variable {T T' : Nat → Prop} {w w' : World} (hc : ∀ b, b < w.heap.size → T b → T' b ∧ w'.heap[b]? = w.heap[b]?)
include hc
theorem Shs.carry {v : Value} {l : List Int} (h : Shs T w v l) : Shs T' w' v l := Lst.carry h hc (fun _ _ h => ⟨_, h.1⟩) (fun _ _ h => h)
theorem Acs.carry {v : Value} {l : List Ac} (h : Acs T w v l) : Acs T' w' v l := Lst.carry h hc (fun _ _ h => ⟨_, h.1⟩) (fun _ _ h => h)
theorem Cps.carry {v : Value} {l : List (List Ac)} (h : Cps T w v l) : Cps T' w' v l := Lst.carry h hc (fun _ _ ⟨_, h, _⟩ => ⟨_, h⟩) (fun _ _ ⟨u, h1, h2⟩ => ⟨u, h1, Acs.carry hc h2⟩)
theorem Hds.carry {v : Value} {l : List Hd} (h : Hds T w v l) : Hds T' w' v l := Lst.carry h hc (fun _ x ⟨u, h, _⟩ => ⟨_, (h 0 (by omega)).trans ((hdc_rl x u 0 (by omega)).trans (rlc_rk _ _))⟩) (fun _ _ ⟨u, h1, h2, h3⟩ => ⟨u, h1, Cps.carry hc h2, h3⟩)
end
/-- The slices of a message hold what it holds, in blocks of T. -/
structure Mss (T : Nat → Prop) (w : World) (m : Ms) (s : Sls) : Prop where
  cp : Cps T w s.cp m.r.cp
  ps : Shs T w s.ps m.ps
  ed : Shs T w s.ed m.ed
  fr : SlC T w s.fr m.fr
  hs : Hds T w s.hs m.hs
theorem Mss.carry {T T' : Nat → Prop} {w w' : World} {m : Ms} {s : Sls} (h : Mss T w m s) (hc : ∀ b, b < w.heap.size → T b → T' b ∧ w'.heap[b]? = w.heap[b]?) : Mss T' w' m s :=
  ⟨Cps.carry hc h.cp, Shs.carry hc h.ps, Shs.carry hc h.ed, h.fr.carry hc, Hds.carry hc h.hs⟩
end Go.Proofs.YtllbbbfkdgjffaaGreatDoor
