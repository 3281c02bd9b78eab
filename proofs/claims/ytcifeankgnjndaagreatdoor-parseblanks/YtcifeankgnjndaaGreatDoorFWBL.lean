/-
  Proved here: ParseBlanks returns true. Condition: the tables; the texts are no longer than there can be.
-/
import Derived.Test.YtcifeankgnjndaaGreatDoorFW6
import Derived.Test.YtcifeankgnjndaaGreatDoorFW1
import Derived.Test.YtcifeankgnjndaaGreatDoorFW3
import Derived.Test.YtcifeankgnjndaaGreatDoorFJG
import Derived.Laws.IdiomStrings
import Derived.Lib.AppendStr
import Derived.Lib.UnsafeStr
namespace Go.Proofs.YtcifeankgnjndaaGreatDoor
set_option maxRecDepth 100000
open Go.RowKit
set_option maxRecDepth 100000

abbrev Own (w : World) (B : Nat) (v : Value) (l : List UInt8) : Prop := w.ownsRow B 5 1 v l.length (Lib.byteCells l)
theorem own_snoc {w : World} {B : Nat} {v : Value} {l : List UInt8} {x : UInt8} (h : w.ownsRow B 5 1 v (l.length + 1) (Lib.byteCells l ++ [.int .u8 (x.toNat : Int)])) : Own w B v (l ++ [x]) := by
  show w.ownsRow B 5 1 v (l ++ [x]).length (Lib.byteCells (l ++ [x]))
  rw [show (l ++ [x]).length = l.length + 1 by simp, show Lib.byteCells (l ++ [x]) = Lib.byteCells l ++ [.int .u8 (x.toNat : Int)] by simp [Lib.byteCells]]
  exact h
theorem own_str {w : World} {B : Nat} {v : Value} {l m : List UInt8} {n : Nat} {xs : List Value} (h : w.ownsRow B 5 1 v n xs) (hn : n = l.length + m.length) (hx : xs = Lib.byteCells l ++ Lib.byteCells m) : Own w B v (l ++ m) := by
  show w.ownsRow B 5 1 v (l ++ m).length (Lib.byteCells (l ++ m))
  rw [List.length_append, show Lib.byteCells (l ++ m) = Lib.byteCells l ++ Lib.byteCells m by simp [Lib.byteCells], ← hn, ← hx]
  exact h
theorem own_form {w : World} {B : Nat} {v : Value} {l : List UInt8} (h : Own w B v l) : ∃ a c, v = .slice a l.length c := by
  obtain ⟨_, h | ⟨g, cap, cur, hv, _⟩⟩ := h
  · exact ⟨none, 0, by rw [h.1, h.2]⟩
  · exact ⟨_, _, hv⟩
theorem own_formN {w : World} {B : Nat} {v : Value} {l : List UInt8} (h : Own w B v l) : ∃ a n c, v = .slice a n c ∧ n = l.length := by
  obtain ⟨a, c, h⟩ := own_form h
  exact ⟨a, _, c, h, rfl⟩
theorem conv_own {w : World} {B : Nat} {v : Value} {l : List UInt8} (h : Own w B v l) : (convert 44 9 v).run Tryz.prog w = .ok (.string ⟨l.toArray⟩) w := by
  have h' := h
  obtain ⟨_, h1 | ⟨g, cap, cur, hv, _⟩⟩ := h
  · have hl : l = [] := List.length_eq_zero_iff.1 h1.2
    subst hl
    rw [h1.1, run_convert_bytes_string w 44 9 5 none 0 0 Tryz.underlying44 Tryz.underlying5 Tryz.underlying9]
    simp [Conv.bytesToString]
    rfl
  · subst hv
    refine run_convert_bytes_back w 44 9 5 ⟨g, 0, none⟩ cap l Tryz.underlying44 Tryz.underlying5 Tryz.underlying9 fun j hj => ?_
    exact h'.cells rfl j _ (by simp [Lib.byteCells, hj])
theorem infoU8 : ∃ i, Tryz.prog.info? 5 = some i ∧ i.zero = some (.int .u8 0) ∧ i.size = 1 ∧ i.bytes = 1 := by
  have h : (Tryz.prog.info? 5).map (fun i => (i.zero, i.size, i.bytes)) = some (some (.int .u8 0), 1, 1) := by kernel_rfl
  obtain ⟨i, h1, h2, h3, h4⟩ := info_parts h
  exact ⟨i, h1, h2, h3, h4⟩
theorem lng_len (r : List UInt8) : ∀ l : List UInt8, (lng r l).length ≤ l.length * (r.length + 6)
  | [] => by simp [lng]
  | c :: l => by
    have := lng_len r l
    rw [lng, List.length_cons, List.length_append, List.length_cons, Nat.add_mul]
    split
    · simp; omega
    · simp; omega
theorem lng_snoc (r l : List UInt8) (c : UInt8) : lng r (l ++ [c]) = lng r l ++ (c :: if c = 32 ∨ c = 10 then [9, 32, 35] ++ (r ++ [10, 32]) else []) := by
  rw [lng_app, lng, lng, List.append_nil]
theorem cell_one_new (w : World) (v : Value) (t : TypeId) : ∀ j u, ([v] : List Value)[j]? = some u → (w.alloc (.cells #[v] t)).cell? (Addr.add ⟨w.heap.size, 0, none⟩ j) = some u := by
  intro j u h
  cases j with
  | zero =>
    have : u = v := by simpa using h.symm
    subst this
    rw [Addr.add_lit, cell_of_row _ _ _ _ _ _ (heap_alloc_new w _)]; rfl
  | succ j => simp at h
theorem cell_two_new (w : World) (u v : Value) (t : TypeId) : ∀ j x, ([u, v] : List Value)[j]? = some x → (w.alloc (.cells #[u, v] t)).cell? (Addr.add ⟨w.heap.size, 0, none⟩ j) = some x := by
  intro j x h
  rw [Addr.add_lit, cell_of_row _ _ _ _ _ _ (heap_alloc_new w _), Nat.zero_add]
  simpa using h
end Go.Proofs.YtcifeankgnjndaaGreatDoor
