/-
  Proved here: HeaderKnown's body returns true; no old memory turns. Condition: the three tables hold what they should.
-/
import Derived.Test.YthjgndkcijgfmaaDoorW9
namespace Go.Proofs.YthjgndkcijgfmaaDoor
open Go.RowKit

def kn : Nat → Int
  | 2 => 2054 | 6 => 6 | 13 => 2048 | 19 => 80 | 24 => 33024 | 35 => 1535 | 46 => 1536 | 47 => 4096 | 57 => 1536 | 60 => 1 | _ => 0
abbrev knV (j : Nat) : Value := .int .u64 (kn j)
abbrev knC : Array Value := #[knV 0, knV 1, knV 2, knV 3, knV 4, knV 5, knV 6, knV 7, knV 8, knV 9, knV 10, knV 11, knV 12, knV 13, knV 14, knV 15, knV 16, knV 17, knV 18, knV 19, knV 20, knV 21, knV 22, knV 23, knV 24, knV 25, knV 26, knV 27, knV 28, knV 29, knV 30, knV 31, knV 32, knV 33, knV 34, knV 35, knV 36, knV 37, knV 38, knV 39, knV 40, knV 41, knV 42, knV 43, knV 44, knV 45, knV 46, knV 47, knV 48, knV 49, knV 50, knV 51, knV 52, knV 53, knV 54, knV 55, knV 56, knV 57, knV 58, knV 59, knV 60, knV 61, knV 62, knV 63, knV 64, knV 65]
theorem knC_eq : knC = ((List.range 66).map knV).toArray := rfl
theorem knC_at (j : Nat) (hj : j < 66) : knC[j]? = some (knV j) := by
  rw [knC_eq]; simp [hj]
theorem kn_bad : ∀ k : Fin 6, chk (fun j => kn (11 * k.val + j)) = 10 := by decide +kernel
theorem kn_cell {w1 : World} {b : Nat} (hh : w1.heap[b]? = some (Obj.cells knC 24 (0, 0))) (j : Nat) (hj : j < 66) : w1.cell? ⟨b, j, none⟩ = some (.int .u64 (kn j)) := by
  have e : w1.cell? ⟨b, j, none⟩ = knC[j]? := by simp [World.cell?, hh]
  rw [e]
  exact knC_at j hj
def hk0 : Nat → Int
  | 2 => 34997 | _ => 0

theorem kn_next {w wr w1 : World} {o : Obj} (hbl : Below w.heap.size w wr) (hlt : w.heap.size < wr.heap.size) (hh : wr.heap[w.heap.size]? = some (Obj.cells knC 24 (0, 0)))
    (hb1 : Below (wr.alloc o).heap.size (wr.alloc o) w1) : Below w.heap.size w w1 ∧ w.heap.size < w1.heap.size ∧ w1.heap[w.heap.size]? = some (Obj.cells knC 24 (0, 0)) := by
  refine ⟨(hbl.alloc (by omega) _).trans (hb1.mono (by simp; omega)), ?_, ?_⟩
  · have := hb1.size; simp at this; omega
  · rw [hb1.block _ (by simp; omega), Below.heap_alloc _ _ _ hlt]; exact hh
theorem bd_k0 : ∀ k, 0 ≤ hk0 k ∧ hk0 k < 18446744073709551616 := by intro k; unfold hk0; split <;> omega
theorem hOk_k0 : hOk hk0 = true := by decide +kernel
theorem txt_k0 : txtOf hk0 = [107, 105, 110, 100, 61, 48, 120, 56, 56, 98, 53] := by
  simp [txtOf, hOk_k0, txtL, txtUpto, hk0, sep, nameL, numL, hexL, hexd]

set_option maxHeartbeats 3200000 in
theorem known_any (w : World) (hT : Tabs w) :
    Calls Tryd.prog 7 #[] w fun e w' => e = .returned (.bool true) ∧ Below w.heap.size w w' := by
  go_enter Tryd.func7, Tryd.ntmps7
  go_wp2_with fail
  go_loopw [11] (fun i wr => ∃ k : Nat, k ≤ 6 ∧ i = .int .i64 k ∧ Below w.heap.size w wr ∧ w.heap.size < wr.heap.size ∧ wr.heap[w.heap.size]? = some (Obj.cells knC 24 (0, 0))) (fun i _ => 6 - (intOf i).toNat)
  case atStart => exact ⟨0, by omega, rfl, (Below.refl _ _).alloc (Nat.le_refl _) _, by simp, heap_alloc_new _ _⟩
  case round =>
    obtain ⟨k, hk, rfl, hbl, hlt, hh⟩ := hrel
    by_cases h6 : k < 6
    · have hcell := kn_cell hh
      have hk' : k = 0 ∨ k = 1 ∨ k = 2 ∨ k = 3 ∨ k = 4 ∨ k = 5 := by omega
      rcases hk' with rfl | rfl | rfl | rfl | rfl | rfl
      · go_wp2_with fail
        go_fit (check_any (fun j => kn (11 * 0 + j)) _ (hT.on (hbl.alloc (by omega) _)).wid)
        rw [show chk (fun j => kn (11 * 0 + j)) = 10 from kn_bad 0]
        rintro e w1 ⟨rfl, hb1⟩
        have hn := kn_next hbl hlt hh hb1
        go_wp2
        go_roundw
        case rel => exact ⟨1, by omega, by go_num, hn.1, hn.2.1, hn.2.2⟩
        case measure => simp [intOf]
      · go_wp2_with fail
        go_fit (check_any (fun j => kn (11 * 1 + j)) _ (hT.on (hbl.alloc (by omega) _)).wid)
        rw [show chk (fun j => kn (11 * 1 + j)) = 10 from kn_bad 1]
        rintro e w1 ⟨rfl, hb1⟩
        have hn := kn_next hbl hlt hh hb1
        go_wp2
        go_roundw
        case rel => exact ⟨2, by omega, by go_num, hn.1, hn.2.1, hn.2.2⟩
        case measure => simp [intOf]
      · go_wp2_with fail
        go_fit (check_any (fun j => kn (11 * 2 + j)) _ (hT.on (hbl.alloc (by omega) _)).wid)
        rw [show chk (fun j => kn (11 * 2 + j)) = 10 from kn_bad 2]
        rintro e w1 ⟨rfl, hb1⟩
        have hn := kn_next hbl hlt hh hb1
        go_wp2
        go_roundw
        case rel => exact ⟨3, by omega, by go_num, hn.1, hn.2.1, hn.2.2⟩
        case measure => simp [intOf]
      · go_wp2_with fail
        go_fit (check_any (fun j => kn (11 * 3 + j)) _ (hT.on (hbl.alloc (by omega) _)).wid)
        rw [show chk (fun j => kn (11 * 3 + j)) = 10 from kn_bad 3]
        rintro e w1 ⟨rfl, hb1⟩
        have hn := kn_next hbl hlt hh hb1
        go_wp2
        go_roundw
        case rel => exact ⟨4, by omega, by go_num, hn.1, hn.2.1, hn.2.2⟩
        case measure => simp [intOf]
      · go_wp2_with fail
        go_fit (check_any (fun j => kn (11 * 4 + j)) _ (hT.on (hbl.alloc (by omega) _)).wid)
        rw [show chk (fun j => kn (11 * 4 + j)) = 10 from kn_bad 4]
        rintro e w1 ⟨rfl, hb1⟩
        have hn := kn_next hbl hlt hh hb1
        go_wp2
        go_roundw
        case rel => exact ⟨5, by omega, by go_num, hn.1, hn.2.1, hn.2.2⟩
        case measure => simp [intOf]
      · go_wp2_with fail
        go_fit (check_any (fun j => kn (11 * 5 + j)) _ (hT.on (hbl.alloc (by omega) _)).wid)
        rw [show chk (fun j => kn (11 * 5 + j)) = 10 from kn_bad 5]
        rintro e w1 ⟨rfl, hb1⟩
        have hn := kn_next hbl hlt hh hb1
        go_wp2
        go_roundw
        case rel => exact ⟨6, by omega, by go_num, hn.1, hn.2.1, hn.2.2⟩
        case measure => simp [intOf]
    · obtain rfl : k = 6 := by omega
      have hTr := hT.on hbl
      clear hh
      go_wp2_with fail
      go_fit (text_any hk0 bd_k0 wr hTr)
      rw [txt_k0]
      rintro e w1 ⟨rfl, hb1⟩
      have hl1 : Below w.heap.size w w1 := hbl.trans (hb1.mono hbl.size)
      go_wp2_with fail
      go_fit (wakes_any w1 (hTr.on hb1))
      rintro e w2 ⟨rfl, hb2⟩
      go_wp2
      go_ret
      exact ⟨rfl, hl1.trans (hb2.mono hl1.size)⟩
end Go.Proofs.YthjgndkcijgfmaaDoor
