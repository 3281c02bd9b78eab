/-
  Proved here: wakes of the statements' package returns true; no old memory turns. Conditions: Sum, Seal and Open answer what 'crc', 'seE', 'seL', 'opE', 'opL' say.
-/
import Derived.Test.YtdkmdabjhapdeaaR2
import Derived.Lib.SlBytesConst
import Derived.Lib.SmallJoins
namespace Go.Proofs.Ytdkmdabjhapdeaa
open Go.RowKit Seal

/-- What Sum, Seal and Open answer. -/
def SumOk : Prop := ∀ (B : Nat) (v : Value) (bs : List Int) (w : World), Sl B w v bs → B ≤ w.heap.size → Calls Try.prog 11 #[v] w fun e w' => e = .returned (.int .u32 (crc bs)) ∧ Below w.heap.size w w'
def SealOk : Prop := ∀ (B : Nat) (v : Value) (bs : List Int) (w : World), Sl B w v bs → B ≤ w.heap.size → Calls Try.prog 7 #[v] w fun e w' => ∃ v', e = .returned (.tuple #[v', .int .i64 (seE bs)]) ∧ Below w.heap.size w w' ∧ Owns w.heap.size w' v' (seL bs)
def OpenOk : Prop := ∀ (B : Nat) (v : Value) (bs : List Int) (w : World), Sl B w v bs → B ≤ w.heap.size → Calls Try.prog 9 #[v] w fun e w' => ∃ v', e = .returned (.tuple #[v', .int .i64 (opE bs)]) ∧ Below w.heap.size w w' ∧ Owns w.heap.size w' v' (opL bs)
structure Prg : Prop where
  sum : SumOk
  seal' : SealOk
  open' : OpenOk

abbrev N9 : List Int := [49, 50, 51, 52, 53, 54, 55, 56, 57]
theorem n9_b : IsB N9 := isB_of (by decide)
theorem n9_crc : crc N9 = 3421780262 := by kernel_rfl
theorem n9_se : seE N9 = 0 ∧ seL N9 = N9 ++ four (crc N9) := ⟨rfl, rfl⟩
theorem str9 : str N9 = { data := #[49, 50, 51, 52, 53, 54, 55, 56, 57] } := by kernel_rfl
theorem seL_len (bs : List Int) : (seL bs).length ≤ 16388 := by
  unfold seL; split
  · simp
  · simp [four]; omega
theorem seL_isB {bs : List Int} (h : IsB bs) : IsB (seL bs) := by
  unfold seL; split
  · exact IsB.nil
  · exact h.app (four_isB _)
theorem opL_isB {bs : List Int} (h : IsB bs) : IsB (opL bs) := by
  unfold opL; split
  · exact h.take _
  · exact IsB.nil
theorem opL_len (bs : List Int) : (opL bs).length ≤ bs.length := by
  unfold opL; split
  · rw [List.length_take]; omega
  · simp

/-- The bytes of a constant. -/
abbrev c9 : Array Value := #[.int .u8 49, .int .u8 50, .int .u8 51, .int .u8 52, .int .u8 53, .int .u8 54, .int .u8 55, .int .u8 56, .int .u8 57]
theorem sl_c9 (w : World) : Sl (w.heap.size + 1) (w.alloc (.cells c9 5 (9, 10))) (.slice (some ⟨w.heap.size, 0, none⟩) 9 9) N9 :=
  ⟨_, 9, rfl, by decide, by decide, n9_b, (fun h => by cases h), fun _ => ⟨w.heap.size, 0, by omega, rfl, fun j hj => by
    rw [Nat.zero_add, World.cell?_alloc_mark w]
    have : j = 0 ∨ j = 1 ∨ j = 2 ∨ j = 3 ∨ j = 4 ∨ j = 5 ∨ j = 6 ∨ j = 7 ∨ j = 8 := by simp at hj; omega
    rcases this with rfl | rfl | rfl | rfl | rfl | rfl | rfl | rfl | rfl <;> rfl⟩⟩
theorem conv9 (w : World) : (convert 22 22 (.slice (some ⟨w.heap.size, 0, none⟩) 9 9)).run Try.prog (w.alloc (.cells c9 5)) = .ok (.slice (some ⟨w.heap.size, 0, none⟩) 9 9) (w.alloc (.cells c9 5 (9, 10))) := Lib.run_convert_bytes_const w 22 5 c9 9 9 Try.underlying22 Try.underlying5

set_option maxHeartbeats 1600000 in
theorem wakes_any (P : Prg) (w : World) : Calls Try.prog 13 #[] w fun e w' => e = .returned (.bool true) ∧ Below w.heap.size w w' := by
  have q1 := conv9 w
  have l1 : Below w.heap.size w (w.alloc (.cells c9 5 (9, 10))) := (Below.refl _ _).alloc (Nat.le_refl _) _
  have HS1 : Hid (Sl (w.heap.size + 1) (w.alloc (.cells c9 5 (9, 10))) (.slice (some ⟨w.heap.size, 0, none⟩) 9 9) N9) := sl_c9 w
  have HL1 : Hid (Below w.heap.size w (w.alloc (.cells c9 5 (9, 10)))) := l1
  clear l1
  go_enter Try.func13, Try.ntmps13
  go_wp2_with fail
  go_fit (P.seal' (w.heap.size + 1) _ N9 _ HS1.out (by simp))
  rintro e w1 ⟨v1, rfl, hb1, hO1⟩
  rw [n9_se.1]
  rw [n9_se.2] at hO1
  have HS2 : Hid (Sl w1.heap.size w1 v1 (N9 ++ four (crc N9))) := Sl.own hO1 (by decide) (n9_b.app (four_isB _))
  have HL2 : Hid (Below w.heap.size w w1) := HL1.out.trans (hb1.mono HL1.out.size)
  clear hb1 hO1 HS1 HL1 q1
  go_wp2_with fail
  go_fit (P.open' w1.heap.size v1 _ w1 HS2.out (Nat.le_refl _))
  rintro e w2 ⟨v2, rfl, hb2, hO2⟩
  rw [(open_seal n9_b).1]
  rw [(open_seal n9_b).2] at hO2
  have HL3 : Hid (Below w.heap.size w w2) := HL2.out.trans (hb2.mono HL2.out.size)
  have hS3 : Sl w2.heap.size w2 v2 N9 := Sl.own hO2 (by decide) n9_b
  have q2 := conv9 w2
  have l4 : Below w2.heap.size w2 (w2.alloc (.cells c9 5 (9, 10))) := (Below.refl _ _).alloc (Nat.le_refl _) _
  have HS4 : Hid (Sl (w2.heap.size + 1) (w2.alloc (.cells c9 5 (9, 10))) (.slice (some ⟨w2.heap.size, 0, none⟩) 9 9) N9) := sl_c9 w2
  have HL4 : Hid (Below w.heap.size w (w2.alloc (.cells c9 5 (9, 10)))) := HL3.out.trans (l4.mono HL3.out.size)
  have HV4 : Hid (Sl w2.heap.size (w2.alloc (.cells c9 5 (9, 10))) v2 N9) := hS3.on l4
  clear hb2 hO2 HS2 HL2 HL3 hS3 l4
  go_wp2_with fail
  go_fit (P.sum (w2.heap.size + 1) _ N9 _ HS4.out (by simp))
  rintro e w3 ⟨rfl, hb3⟩
  rw [n9_crc]
  have k1 := conv_sl (HV4.out.on (hb3.mono (by simp)))
  rw [str9] at k1
  have HL5 : Hid (Below w.heap.size w w3) := HL4.out.trans (hb3.mono HL4.out.size)
  clear hb3 HS4 HL4 HV4 q2
  go_wp2
  go_ret
  exact ⟨rfl, HL5.out⟩
end Go.Proofs.Ytdkmdabjhapdeaa
