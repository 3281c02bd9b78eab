/-
  Proved here: wakes returns true; no old memory turns. Condition: the three tables hold what they should.
-/
import Derived.Test.YthjgndkcijgfmaaDoorW8
namespace Go.Proofs.YthjgndkcijgfmaaDoor
open Go.RowKit

def hw0 : Nat → Int
  | 0 => 1 | 2 => 2048 | 4 => 167772161 | 6 => 6 | 8 => 80 | 9 => 3 | _ => 0
def hz0 : Nat → Int := fun _ => 0
def wakeL : List UInt8 := [115, 114, 99, 61, 48, 48, 58, 48, 48, 58, 48, 48, 58, 48, 48, 58, 48, 48, 58, 48, 49, 32, 107, 105, 110, 100, 61, 48, 120, 48, 56, 48, 48, 32, 102, 114, 111, 109, 61, 49, 48, 46, 48, 46, 48, 46, 49, 32, 112, 114, 111, 116, 111, 61, 54, 32, 100, 112, 111, 114, 116, 61, 56, 48, 32, 112, 111, 114, 116, 61, 51]
theorem chk_w0 : chk hw0 = 0 := by decide +kernel
theorem chk_z0 : chk hz0 = 10 := by decide +kernel
theorem hOk_w0 : hOk hw0 = true := by decide +kernel
theorem bd_w0 : ∀ k, 0 ≤ hw0 k ∧ hw0 k < 18446744073709551616 := by intro k; unfold hw0; split <;> omega
theorem d0 : Lib.decDigits 0 = [48] := Lib.decDigits_one (by decide)
theorem d1 : Lib.decDigits 1 = [49] := Lib.decDigits_one (by decide)
theorem d3 : Lib.decDigits 3 = [51] := Lib.decDigits_one (by decide)
theorem d6 : Lib.decDigits 6 = [54] := Lib.decDigits_one (by decide)
theorem d10 : Lib.decDigits 10 = [49, 48] := Lib.decDigits_two (by decide) (by decide)
theorem d80 : Lib.decDigits 80 = [56, 48] := Lib.decDigits_two (by decide) (by decide)
theorem txt_w0 : txtOf hw0 = wakeL := by
  simp [txtOf, hOk_w0, txtL, txtUpto, hw0, sep, nameL, numL, macL, hexL, hexd, ipL, d0, d1, d3, d6, d10, d80, wakeL]

theorem cell_h {h : Nat → Int} {w1 : World} {b : Nat} (hh : w1.heap[b]? = some (Obj.cells (hcs h) 24 (0, 0))) (j : Nat) (hj : j < 11) : w1.cell? ⟨b, j, none⟩ = some (.int .u64 (h j)) := by
  have e : w1.cell? ⟨b, j, none⟩ = (hcs h)[j]? := by simp [World.cell?, hh]
  rw [e]
  have hk' : j = 0 ∨ j = 1 ∨ j = 2 ∨ j = 3 ∨ j = 4 ∨ j = 5 ∨ j = 6 ∨ j = 7 ∨ j = 8 ∨ j = 9 ∨ j = 10 := by omega
  rcases hk' with rfl | rfl | rfl | rfl | rfl | rfl | rfl | rfl | rfl | rfl | rfl <;> rfl

set_option maxHeartbeats 1600000 in
theorem wakes_any (w : World) (hT : Tabs w) :
    Calls Tryd.prog 14 #[] w fun e w' => e = .returned (.bool true) ∧ Below w.heap.size w w' := by
  have hb0 : Below w.heap.size w (w.alloc (.cells (hcs hw0) 24)) := (Below.refl _ _).alloc (Nat.le_refl _) _
  have hT0 : Tabs (w.alloc (.cells (hcs hw0) 24)) := hT.on hb0
  have C := Lib.hid (check_any hw0 _ hT0.wid)
  have hstr : ((wakeL.toArray.toList : List UInt8) == wakeL) = true := by decide +kernel
  go_enter Tryd.func14, Tryd.ntmps14
  go_wp2_with fail
  refine (C.out).mono ?_
  rw [chk_w0]
  rintro e w1 ⟨rfl, hb1⟩
  have hh1 : w1.heap[w.heap.size]? = some (Obj.cells (hcs hw0) 24 (0, 0)) := by rw [hb1.block _ (by simp), heap_alloc_new]
  have hT1 : Tabs w1 := hT0.on hb1
  have hl1 : Below w.heap.size w w1 := hb0.trans (hb1.mono (by simp))
  have c0 := cell_h hh1 0 (by decide)
  have c1 := cell_h hh1 1 (by decide)
  have c2 := cell_h hh1 2 (by decide)
  have c3 := cell_h hh1 3 (by decide)
  have c4 := cell_h hh1 4 (by decide)
  have c5 := cell_h hh1 5 (by decide)
  have c6 := cell_h hh1 6 (by decide)
  have c7 := cell_h hh1 7 (by decide)
  have c8 := cell_h hh1 8 (by decide)
  have c9 := cell_h hh1 9 (by decide)
  have c10 := cell_h hh1 10 (by decide)
  clear hh1 hb1 C hT0 hb0 hT
  go_wp2_with fail
  go_fit (text_any hw0 bd_w0 w1 hT1)
  rw [txt_w0]
  rintro e w2 ⟨rfl, hb2⟩
  have hT2 : Tabs w2 := hT1.on hb2
  have hl2 : Below w.heap.size w w2 := hl1.trans (hb2.mono hl1.size)
  clear c0 c1 c2 c3 c4 c5 c6 c7 c8 c9 c10
  go_wp2_with fail
  go_fit (width_any 3 w2 hT2.wid)
  rw [show widV 3 = 12 from rfl]
  rintro e w3 ⟨rfl, rfl⟩
  go_wp2_with fail
  go_fit (check_any hz0 _ hT2.wid)
  rw [chk_z0]
  rintro e w3 ⟨rfl, hb3⟩
  go_wp2
  go_ret
  exact ⟨rfl, hl2.trans (hb3.mono hl2.size)⟩
end Go.Proofs.YthjgndkcijgfmaaDoor
