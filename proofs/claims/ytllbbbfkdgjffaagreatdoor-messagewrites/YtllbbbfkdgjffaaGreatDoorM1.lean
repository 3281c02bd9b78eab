/-
  Plain facts: the widths of the fields, in how many bytes each stands, matches as numbers, when a match is one, and what follows of its numbers' size. No program is spoken of.
-/
/-
  Proved here: what it is that a slice holds bytes in certain blocks; what stays as worlds go on; small laws on rows of numbers. No condition.
-/
import Derived.Test.YtllbbbfkdgjffaaGreatDoorK1
import Derived.WalkKit
import Derived.Laws.BitsAllLaws
import Derived.OneCell
import Derived.BigQuiet
import Derived.Deep.RegionHeld3
import Derived.Deep.MidRow
import Derived.Deep.WholeRow
import Derived.Deep.RegionLaw
import Derived.Deep.DeepCutAuto
namespace Go.Proofs.YtllbbbfkdgjffaaGreatDoor
open Go.RowKit

def wid : Nat → Int
  | 0 => 48 | 1 => 48 | 2 => 16 | 3 => 12 | 4 => 32 | 5 => 32 | 6 => 8 | 7 => 16 | 8 => 16 | 9 => 16 | 10 => 16 | _ => 0
theorem wid_bd (k : Nat) : 0 ≤ wid k ∧ wid k ≤ 48 := by
  unfold wid; split <;> omega
def widV (f : Int) : Int := if 0 ≤ f ∧ f < 11 then wid f.toNat else 0
theorem widV_nat (k : Nat) (hk : k < 11) : widV (k : Int) = wid k := by
  unfold widV; rw [if_pos (by omega)]; simp
/-- In how many bytes a field stands. -/
def sz : Nat → Nat
  | 0 => 6 | 1 => 6 | 2 => 2 | 3 => 2 | 4 => 4 | 5 => 4 | 6 => 1 | 7 => 2 | 8 => 2 | 9 => 2 | 10 => 2 | _ => 0
theorem sz_le (k : Nat) : sz k ≤ 6 := by
  unfold sz; split <;> omega
theorem sz_pos (k : Nat) (h : k < 11) : 0 < sz k := by
  have : k = 0 ∨ k = 1 ∨ k = 2 ∨ k = 3 ∨ k = 4 ∨ k = 5 ∨ k = 6 ∨ k = 7 ∨ k = 8 ∨ k = 9 ∨ k = 10 := by omega
  rcases this with rfl | rfl | rfl | rfl | rfl | rfl | rfl | rfl | rfl | rfl | rfl <;> simp [sz]
theorem sz_wid (k : Nat) (h : k < 11) : (wid k + 7) / 8 = (sz k : Int) := by
  have : k = 0 ∨ k = 1 ∨ k = 2 ∨ k = 3 ∨ k = 4 ∨ k = 5 ∨ k = 6 ∨ k = 7 ∨ k = 8 ∨ k = 9 ∨ k = 10 := by omega
  rcases this with rfl | rfl | rfl | rfl | rfl | rfl | rfl | rfl | rfl | rfl | rfl <;> decide
theorem wid_sz (k : Nat) : (wid k).toNat ≤ 8 * sz k := by
  unfold wid sz; split <;> decide

def zf : Nat → Int := fun _ => 0
def upd (h : Nat → Int) (f : Nat) (x : Int) : Nat → Int := fun k => bif Nat.beq k f then x else h k
theorem upd_same (h : Nat → Int) (f : Nat) (x : Int) : upd h f x f = x := by simp [upd]
theorem upd_other (h : Nat → Int) (f : Nat) (x : Int) (k : Nat) (hk : k ≠ f) : upd h f x k = h k := by
  unfold upd
  cases hb : Nat.beq k f
  · rfl
  · exact absurd (Nat.eq_of_beq_eq_true hb) hk
def allU (p : Nat → Bool) : Nat → Bool
  | 0 => true
  | k + 1 => allU p k && p k
theorem allU_false {p : Nat → Bool} : ∀ {n k : Nat}, k < n → p k = false → allU p n = false
  | 0, _, hk, _ => absurd hk (by omega)
  | n + 1, k, hk, hb => by
    by_cases e : k = n
    · subst e; simp [allU, hb]
    · simp [allU, allU_false (n := n) (by omega) hb]
theorem allU_iff {p : Nat → Bool} : ∀ {n : Nat}, allU p n = true ↔ ∀ k, k < n → p k = true
  | 0 => by simp [allU]
  | n + 1 => by
    simp only [allU, Bool.and_eq_true, allU_iff (n := n)]
    constructor
    · rintro ⟨h1, h2⟩ k hk
      by_cases e : k = n
      · subst e; exact h2
      · exact h1 k (by omega)
    · intro h
      exact ⟨fun k hk => h k (by omega), h n (by omega)⟩
theorem allU_congr {p q : Nat → Bool} {n : Nat} (h : ∀ k, k < n → p k = q k) : allU p n = allU q n := by
  rw [Bool.eq_iff_iff, allU_iff, allU_iff]
  constructor <;> intro ha k hk
  · rw [← h k hk]; exact ha k hk
  · rw [h k hk]; exact ha k hk
def bad (m : Nat → Int) (k : Nat) : Bool := m (11 + k) / 2 ^ (wid k).toNat != 0 || bits .andNot .u64 (m k) (m (11 + k)) != 0
def mOk (m : Nat → Int) : Bool := allU (fun k => !bad m k) 11
def chk (m : Nat → Int) : Int := if mOk m then 0 else 20
theorem chk_ok {m : Nat → Int} (h : mOk m = true) : chk m = 0 := by simp [chk, h]
theorem chk_bad {m : Nat → Int} (h : mOk m = false) : chk m = 20 := by simp [chk, h]
theorem mOk_congr {m n : Nat → Int} (h : ∀ k, k < 22 → m k = n k) : mOk m = mOk n := by
  unfold mOk
  exact allU_congr fun k hk => by unfold bad; rw [h (11 + k) (by omega), h k (by omega)]

def InB (x : Int) : Prop := 0 ≤ x ∧ x < 18446744073709551616
theorem wrap_toNat (X : BitVec 64) : IntKind.u64.wrap (X.toNat : Int) = (X.toNat : Int) := by
  rw [IntKind.wrap_u64]
  have := X.isLt
  omega
theorem andNot_eq (x y : Int) : bits .andNot .u64 x y = ((BitVec.ofInt 64 x &&& ~~~BitVec.ofInt 64 y).toNat : Int) := wrap_toNat _
theorem toNat_ofInt {x : Int} (h : InB x) : ((BitVec.ofInt 64 x).toNat : Int) = x := by
  obtain ⟨n, rfl⟩ := Int.eq_ofNat_of_zero_le h.1
  have := h.2
  rw [BitVec.ofInt_natCast, BitVec.toNat_ofNat, Nat.mod_eq_of_lt (by omega)]
theorem andNot_le {x y : Int} (hx : InB x) (hy : InB y) (h : bits .andNot .u64 x y = 0) : x ≤ y := by
  rw [andNot_eq] at h
  have h0 : BitVec.ofInt 64 x &&& ~~~BitVec.ofInt 64 y = 0#64 := by
    apply BitVec.eq_of_toNat_eq
    simpa using h
  have h1 : BitVec.ofInt 64 x &&& BitVec.ofInt 64 y = BitVec.ofInt 64 x := by
    apply BitVec.eq_of_getLsbD_eq
    intro i hi
    have := congrArg (fun b => b.getLsbD i) h0
    simp [hi] at this
    simp
    exact this
  have h2 : (BitVec.ofInt 64 x).toNat ≤ (BitVec.ofInt 64 y).toNat := by
    rw [← h1, BitVec.toNat_and]; exact Nat.and_le_right
  rw [← toNat_ofInt hx, ← toNat_ofInt hy]
  omega
/-- Of a match that is one: Value is at most Mask, and Mask goes into the field's bytes. -/
theorem mOk_le {m : Nat → Int} (h : mOk m = true) (hb : ∀ k, k < 22 → InB (m k)) (k : Nat) (hk : k < 11) : m k ≤ m (11 + k) ∧ m (11 + k) < 2 ^ (8 * sz k) := by
  have h1 := allU_iff.1 h k hk
  simp only [bad, Bool.not_or, Bool.and_eq_true, bne, Bool.not_not, beq_iff_eq] at h1
  refine ⟨andNot_le (hb k (by omega)) (hb (11 + k) (by omega)) h1.2, ?_⟩
  have hp : (0 : Int) < 2 ^ (wid k).toNat := Int.pow_pos (by omega)
  have h2 : m (11 + k) < 2 ^ (wid k).toNat := by
    by_cases h : m (11 + k) < 2 ^ (wid k).toNat
    · exact h
    · have := Int.le_ediv_of_mul_le hp (a := 1) (b := m (11 + k)) (by omega)
      omega
  have h3 : (2 : Int) ^ (wid k).toNat ≤ 2 ^ (8 * sz k) := by exact_mod_cast Nat.pow_le_pow_right (by omega) (wid_sz k)
  omega
end Go.Proofs.YtllbbbfkdgjffaaGreatDoor
namespace Go.Proofs.YtllbbbfkdgjffaaGreatDoor
open Go.RowKit

/-- From w to w' no block outside S has turned. -/
structure Only (S : Nat → Prop) (w w' : World) : Prop where
  os : w'.os = w.os
  tape : w'.tape = w.tape
  output : w'.output = w.output
  size : w.heap.size ≤ w'.heap.size
  block : ∀ k, ¬ S k → w'.heap[k]? = w.heap[k]?
/-- All blocks to come are in S. -/
def Fresh (S : Nat → Prop) (w : World) : Prop := ∀ k, w.heap.size ≤ k → S k
theorem Fresh.on {S : Nat → Prop} {w w' : World} (h : Fresh S w) (hs : w.heap.size ≤ w'.heap.size) : Fresh S w' := fun k hk => h k (Nat.le_trans hs hk)
theorem Only.refl (S : Nat → Prop) (w : World) : Only S w w := ⟨rfl, rfl, rfl, Nat.le_refl _, fun _ _ => rfl⟩
theorem Only.trans {S : Nat → Prop} {a b c : World} (h : Only S a b) (k : Only S b c) : Only S a c :=
  ⟨k.os.trans h.os, k.tape.trans h.tape, k.output.trans h.output, Nat.le_trans h.size k.size, fun i hi => (k.block i hi).trans (h.block i hi)⟩
theorem Only.mono {S T : Nat → Prop} {a b : World} (h : Only S a b) (hst : ∀ k, S k → T k) : Only T a b := ⟨h.os, h.tape, h.output, h.size, fun k hk => h.block k fun hs => hk (hst k hs)⟩
theorem Only.below {B : Nat} {S : Nat → Prop} {w w' : World} (h : Only S w w') (hS : ∀ k, S k → B ≤ k) : Below B w w' := ⟨h.os, h.tape, h.output, h.size, fun k hk => h.block k fun hs => by have := hS k hs; omega⟩
theorem Only.of {S : Nat → Prop} {w w' : World} (h : Below w.heap.size w w') (hf : Fresh S w) : Only S w w' :=
  ⟨h.os, h.tape, h.output, h.size, fun k hk => h.block k (by
    rcases Nat.lt_or_ge k w.heap.size with h | h
    · exact h
    · exact absurd (hf k h) hk)⟩
theorem Only.drew {S : Nat → Prop} {w w' : World} (h : Only S w w') : Only S w w'.drew := ⟨h.os, h.tape, h.output, h.size, h.block⟩
theorem Only.alloc {S : Nat → Prop} {w w' : World} (h : Only S w w') (hf : Fresh S w') (o : Obj) : Only S w (w'.alloc o) := h.trans (Only.of ((Below.refl _ _).alloc (Nat.le_refl _) _) hf)
theorem Only.setCell {S : Nat → Prop} {w w' : World} (h : Only S w w') {p : Addr} (hp : S p.block) (v : Value) : Only S w (w'.setCell p v) := by
  have hb : Below 0 w' (w'.setCell p v) := (Below.refl 0 w').setCell (p := p) (Nat.zero_le _) v
  refine h.trans ⟨hb.os, hb.tape, hb.output, hb.size, fun k hk => ?_⟩
  exact heap_setCell_other w' p k v (fun e => hk (e ▸ hp))
theorem cell_same {w w' : World} {b o : Nat} (h : w'.heap[b]? = w.heap[b]?) : w'.cell? ⟨b, o, none⟩ = w.cell? ⟨b, o, none⟩ := by
  unfold World.cell?; rw [h]
theorem cell_lt {w : World} {b o : Nat} {v : Value} (h : w.cell? ⟨b, o, none⟩ = some v) : b < w.heap.size := by
  unfold World.cell? at h
  rcases Nat.lt_or_ge b w.heap.size with h2 | h2
  · exact h2
  · rw [Array.getElem?_eq_none h2] at h; simp at h

/-- A slice value that holds the bytes bs, in a block of S. -/
def SlC (S : Nat → Prop) (w : World) (v : Value) (bs : List Int) : Prop :=
  ∃ ao cap, v = .slice ao bs.length cap ∧ bs.length ≤ cap ∧ bs.length ≤ 140737488355328 ∧ IsB bs ∧ (ao = none → cap = 0) ∧
    (bs ≠ [] → ∃ b o, S b ∧ ao = some ⟨b, o, none⟩ ∧ ∀ j, j < bs.length → w.cell? ⟨b, o + j, none⟩ = some (.int .u8 (bs.getD j 0)))
theorem SlC.of {B : Nat} {w : World} {v : Value} {bs : List Int} (h : Sl B w v bs) : SlC (· < B) w v bs := h
theorem SlC.carry {S T : Nat → Prop} {w w' : World} {v : Value} {bs : List Int} (h : SlC S w v bs) (hc : ∀ k, k < w.heap.size → S k → T k ∧ w'.heap[k]? = w.heap[k]?) : SlC T w' v bs := by
  obtain ⟨ao, cap, h1, h2, h3, h4, h5, h6⟩ := h
  refine ⟨ao, cap, h1, h2, h3, h4, h5, fun hne => ?_⟩
  obtain ⟨b, o, hb, rfl, hcl⟩ := h6 hne
  have h0 : 0 < bs.length := by
    rcases Nat.eq_zero_or_pos bs.length with e | e
    · exact absurd (List.length_eq_zero_iff.1 e) hne
    · exact e
  have hq := hc b (cell_lt (hcl 0 h0)) hb
  exact ⟨b, o, hq.1, rfl, fun j hj => by rw [cell_same hq.2]; exact hcl j hj⟩
theorem SlC.mono {S T : Nat → Prop} {w : World} {v : Value} {bs : List Int} (h : SlC S w v bs) (hc : ∀ k, S k → T k) : SlC T w v bs := h.carry fun k _ hk => ⟨hc k hk, rfl⟩
theorem SlC.on {S T : Nat → Prop} {w w' : World} {v : Value} {bs : List Int} (h : SlC S w v bs) (ho : Only T w w') (hd : ∀ k, S k → ¬ T k) : SlC S w' v bs := h.carry fun k _ hk => ⟨hk, ho.block k (hd k hk)⟩
theorem SlC.sl {S : Nat → Prop} {w : World} {v : Value} {bs : List Int} (h : SlC S w v bs) : Sl w.heap.size w v bs := by
  obtain ⟨ao, cap, h1, h2, h3, h4, h5, h6⟩ := h
  refine ⟨ao, cap, h1, h2, h3, h4, h5, fun hne => ?_⟩
  obtain ⟨b, o, hb, rfl, hcl⟩ := h6 hne
  have h0 : 0 < bs.length := by
    rcases Nat.eq_zero_or_pos bs.length with e | e
    · exact absurd (List.length_eq_zero_iff.1 e) hne
    · exact e
  exact ⟨b, o, cell_lt (hcl 0 h0), rfl, hcl⟩
theorem SlC.isB {S : Nat → Prop} {w : World} {v : Value} {bs : List Int} (h : SlC S w v bs) : IsB bs := h.sl.isB
theorem SlC.len {S : Nat → Prop} {w : World} {v : Value} {bs : List Int} (h : SlC S w v bs) : bs.length ≤ 140737488355328 := h.sl.len
theorem SlC.one {S : Nat → Prop} {w : World} {v : Value} {bs : List Int} (h : SlC S w v bs) : v.oneCell' = true := h.sl.one
theorem SlC.nil (S : Nat → Prop) (w : World) : SlC S w nilS [] := ⟨none, 0, rfl, by simp, by simp, IsB.nil, fun _ => rfl, fun h => absurd rfl h⟩
/-- What the call owns. -/
theorem SlC.own {S : Nat → Prop} {w : World} {base : Nat} {v : Value} {bs : List Int} (h : Owns base w v bs) (hl : bs.length ≤ 140737488355328) (hb : IsB bs) (hS : ∀ k, base ≤ k → k < w.heap.size → S k) : SlC S w v bs := by
  have hs := Sl.own h hl hb
  obtain ⟨ao, cap, rfl, h2, h3, h4, h5, h6⟩ := hs
  refine ⟨ao, cap, rfl, h2, h3, h4, h5, fun hne => ?_⟩
  obtain ⟨b, o, hb, rfl, hcl⟩ := h6 hne
  exact ⟨b, o, hS b (h.lt b (by simp [Value.ownBlock])).1 hb, rfl, hcl⟩
/-- A piece of a slice. -/
theorem SlC.cut {S : Nat → Prop} {w : World} {b o n cap : Nat} {bs : List Int} (h : SlC S w (.slice (some ⟨b, o, none⟩) n cap) bs) (i m c : Nat) (hi : i + m ≤ bs.length) (hc : m ≤ c) : SlC S w (.slice (some ⟨b, o + i, none⟩) m c) ((bs.drop i).take m) := by
  obtain ⟨ao', cap', e, h1, h2, h3, h4, h5⟩ := h
  simp only [Value.slice.injEq] at e
  obtain ⟨rfl, _, rfl⟩ := e
  have hl : ((bs.drop i).take m).length = m := by rw [List.length_take, List.length_drop]; omega
  refine ⟨_, c, by rw [hl], by omega, by omega, (h3.drop i).take m, (fun h => by cases h), fun hne => ?_⟩
  have hm : 0 < m := by
    rcases Nat.eq_zero_or_pos m with e | e
    · subst e; simp at hne
    · exact e
  obtain ⟨b', o', hb, e, hcl⟩ := h5 (fun e => by subst e; simp at hi; omega)
  simp only [Option.some.injEq, Addr.mk.injEq] at e
  obtain ⟨rfl, rfl, _⟩ := e
  refine ⟨b, o + i, hb, rfl, fun j hj => ?_⟩
  rw [hl] at hj
  rw [Nat.add_assoc, hcl (i + j) (by omega)]
  simp only [List.getD_eq_getElem?_getD, List.getElem?_take, if_pos hj, List.getElem?_drop]

theorem SlC.cutif {S : Nat → Prop} {w : World} {b o n cap : Nat} {bs : List Int} (h : SlC S w (.slice (some ⟨b, o, none⟩) n cap) bs) (i m : Nat) (hi : i + m ≤ bs.length) : SlC S w (.slice (if cap = i then some ⟨b, o, none⟩ else some ⟨b, o + i, none⟩) m (cap - i)) ((bs.drop i).take m) := by
  have hc : bs.length ≤ cap := by
    obtain ⟨_, _, e, h1, _⟩ := h
    simp only [Value.slice.injEq] at e
    omega
  by_cases h0 : cap = i
  · have hm : m = 0 := by omega
    subst hm
    rw [if_pos h0]
    exact ⟨some ⟨b, o, none⟩, cap - i, by simp, by simp, by simp, by simpa using IsB.nil, (fun h => by simp at h), fun hne => absurd (by simp) hne⟩
  · rw [if_neg h0]
    exact h.cut i m (cap - i) hi (by omega)

def row (n : Nat) (f : Nat → Int) : Array Value := Array.ofFn (n := n) fun k => Value.int .u64 (f k.val)
theorem row_size (n : Nat) (f : Nat → Int) : (row n f).size = n := by simp [row]
theorem row_at (n : Nat) (f : Nat → Int) (k : Nat) (hk : k < n) : (row n f)[k]? = some (.int .u64 (f k)) := by
  simp [row, hk]
theorem row_none (n : Nat) (f : Nat → Int) (k : Nat) (hk : ¬ k < n) : (row n f)[k]? = none := by
  simp [row, hk]
theorem row_ext {n : Nat} {f : Nat → Int} {cs : Array Value} (hs : cs.size = n) (h : ∀ k, k < n → cs[k]? = some (.int .u64 (f k))) : cs = row n f := by
  apply Array.ext_getElem?
  intro k
  by_cases hk : k < n
  · rw [h k hk, row_at n f k hk]
  · rw [Array.getElem?_eq_none (by omega), row_none n f k hk]
theorem row_congr {n : Nat} {f g : Nat → Int} (h : ∀ k, k < n → f k = g k) : row n f = row n g :=
  row_ext (row_size n f) fun k hk => by rw [row_at n f k hk, h k hk]
theorem row_one (n : Nat) (f : Nat → Int) : (row n f).all (·.oneCell') = true := by
  rw [Array.all_eq_true_iff_forall_mem]
  intro v hv
  simp [row] at hv
  obtain ⟨k, rfl⟩ := hv
  rfl
abbrev mv (m : Nat → Int) : Value := .agg (row 22 m)
abbrev hv (h : Nat → Int) : Value := .agg (row 11 h)
theorem row_set (n : Nat) (f : Nat → Int) (j : Nat) (x : Int) : (row n f).setIfInBounds j (.int .u64 x) = row n (upd f j x) := by
  refine row_ext (by simp [row_size]) fun k hk => ?_
  rw [Array.getElem?_setIfInBounds]
  by_cases h : j = k
  · subst h
    rw [if_pos rfl, if_pos (by simpa [row_size] using hk), upd_same]
  · rw [if_neg h, row_at n f k hk, upd_other f j x k (fun e => h e.symm)]

/-- Block b is a match's (n = 22) or a header's (n = 11), and holds the numbers f. -/
def Blk (w : World) (b : Nat) (n t : Nat) (f : Nat → Int) : Prop := w.heap[b]? = some (Obj.cells (row n f) t (0, 0))
theorem Blk.lt {w : World} {b n t : Nat} {f : Nat → Int} (h : Blk w b n t f) : b < w.heap.size := (Array.getElem?_eq_some_iff.1 h).1
theorem Blk.new (w : World) (n t : Nat) (f : Nat → Int) : Blk (w.alloc (.cells (row n f) t)) w.heap.size n t f := heap_alloc_new _ _
theorem Blk.new1 (w : World) (o : Obj) (n t : Nat) (f : Nat → Int) : Blk ((w.alloc o).alloc (.cells (row n f) t)) (w.heap.size + 1) n t f := by
  have := Blk.new (w.alloc o) n t f
  simpa using this
theorem Blk.alloc {w : World} {b n t : Nat} {f : Nat → Int} (h : Blk w b n t f) (o : Obj) : Blk (w.alloc o) b n t f := by
  unfold Blk; rw [Below.heap_alloc _ _ _ h.lt]; exact h
theorem Blk.on {w w' : World} {b n t : Nat} {f : Nat → Int} (h : Blk w b n t f) (hb : Below w.heap.size w w') : Blk w' b n t f := by
  unfold Blk; rw [hb.block _ h.lt]; exact h
theorem bel_drewN {b : Nat} {w w' : World} (h : Below b w w') (q : Nat) : Below b w (w'.drewN q) := ⟨h.os, h.tape, h.output, h.size, h.block⟩
theorem Blk.drewN {w : World} {b n t : Nat} {f : Nat → Int} (h : Blk w b n t f) (q : Nat) : Blk (w.drewN q) b n t f := h
theorem Blk.drew {w : World} {b n t : Nat} {f : Nat → Int} (h : Blk w b n t f) : Blk w.drew b n t f := h
theorem Blk.cell {w : World} {b n t : Nat} {f : Nat → Int} (h : Blk w b n t f) (k : Nat) (hk : k < n) : w.cell? ⟨b, k, none⟩ = some (.int .u64 (f k)) := by
  rw [cell_of_row w b k _ _ _ h, row_at n f k hk]
theorem Blk.frozen {w : World} {b n t : Nat} {f : Nat → Int} (h : Blk w b n t f) (o : Nat) : w.frozen? ⟨b, o, none⟩ = false := by
  have : w.heap[b]? = some (Obj.cells (row n f) t (0, 0)) := h
  simp [World.frozen?, this]
theorem Blk.set {w : World} {b n t : Nat} {f : Nat → Int} (h : Blk w b n t f) (j : Nat) (x : Int) : Blk (w.setCell ⟨b, j, none⟩ (.int .u64 x)) b n t (upd f j x) := by
  unfold Blk; rw [heap_setCell_same w b j _ t _ h, row_set]
theorem Blk.setOther {w : World} {b n t : Nat} {f : Nat → Int} (h : Blk w b n t f) (c j : Nat) (v : Value) (hne : b ≠ c) : Blk (w.setCell ⟨c, j, none⟩ v) b n t f := by
  unfold Blk; rw [heap_setCell_other _ _ _ _ hne]; exact h

end Go.Proofs.YtllbbbfkdgjffaaGreatDoor
