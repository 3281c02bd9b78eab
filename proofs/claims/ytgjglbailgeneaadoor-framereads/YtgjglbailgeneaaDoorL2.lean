/-
  Proved here: wakes of the statements' package returns true; no old memory turns. Condition: the widths' table holds its eleven numbers.
-/
import Derived.Test.YtgjglbailgeneaaDoorL1
import Derived.Test.YtgjglbailgeneaaDoorD6
namespace Go.Proofs.YtgjglbailgeneaaDoor
open Go.RowKit

abbrev WB : List Int := [255, 255, 255, 255, 255, 255, 0, 0, 0, 0, 0, 1, 136, 181, 7]
abbrev WS : List Int := [69, 0, 0, 20, 0, 0, 0, 0, 64, 17, 0, 0, 10, 0, 0, 1, 10, 0, 0, 2]
theorem wb_e : prE WB = 0 := by kernel_rfl
theorem wb_0 : prH WB 0 = 1 := by kernel_rfl
theorem wb_2 : prH WB 2 = 34997 := by kernel_rfl
theorem wb_b : prB WB = [7] := by kernel_rfl
theorem ws_s : sumL WS = 26327 := by kernel_rfl
theorem isB_of {l : List Int} (h : l.all (fun x => decide (0 ≤ x) && decide (x < 256)) = true) : IsB l := fun x hx => by
  have := List.all_eq_true.1 h x hx
  simpa using this
/-- A slice of bytes written out. -/
theorem sl_lit (w : World) (bs : List Int) (hB : IsB bs) (hl : bs.length ≤ 1000) : Sl (w.heap.size + 1) (w.alloc (.cells (bs.map (Value.int .u8)).toArray 5)) (.slice (some ⟨w.heap.size, 0, none⟩) bs.length bs.length) bs :=
  ⟨_, bs.length, rfl, Nat.le_refl _, by omega, hB, (fun h => by cases h), fun _ => ⟨w.heap.size, 0, by omega, rfl, fun j hj => by
    rw [Nat.zero_add, World.cell?_alloc_new]
    simp only [List.getElem?_toArray, List.getElem?_map, List.getElem?_eq_getElem hj, List.getD_eq_getElem?_getD]
    rfl⟩⟩
theorem Sl.drew {B : Nat} {w : World} {v : Value} {bs : List Int} (h : Sl B w v bs) : Sl B w.drew v bs := h.on (Below.refl _ _).drew
/-- A packet into the block that was made last. -/
theorem st27n {ops : Array Oper} {rest : List Oper} {o : Oper} {a : Act} {w : World} {Q : Exit → Act → World → Prop} (x y : Operand) (ho : o.op = .store 27 x y) (w0 : World) (z : Nat → Int) (u : Value) (hW : w = w0.alloc (.cells (prow z u) 27)) (hx : a.eval x = .pointer (some ⟨w0.heap.size, 0, none⟩)) (m : Nat → Int) (v : Value) (hy : a.eval y = pv m v) (hv1 : v.oneCell' = true) (hw : Region.wanted o (yielded ops a.tmps) = true)
    (h : wpList Tryd.prog ops Q rest (a.put o.dst undef) (w0.alloc (.cells (prow m v) 27))) : wpList Tryd.prog ops Q (o :: rest) a w := by
  subst hW
  refine st27 x y ho _ hx m v hy hv1 hw z u (PBlk.new w0 z u) ?_
  rw [World.setRow_alloc_new]
  exact h

set_option maxHeartbeats 1600000 in
theorem wakes_any (w : World) (hw : Tab w) : Calls Tryd.prog 13 #[] w fun e w' => e = .returned (.bool true) ∧ Below w.heap.size w w' := by
  have S0 := sl_lit w WB (isB_of (by decide)) (by decide)
  have hl0 : Below w.heap.size w (w.alloc (.cells (WB.map (Value.int .u8)).toArray 5)) := (Below.refl _ _).alloc (Nat.le_refl _) _
  have HS : Hid (Sl (w.heap.size + 1) (w.alloc (.cells (WB.map (Value.int .u8)).toArray 5)) (.slice (some ⟨w.heap.size, 0, none⟩) 15 15) WB) := S0
  have HT : Hid (Tab (w.alloc (.cells (WB.map (Value.int .u8)).toArray 5))) := hw.on hl0
  clear S0 hw
  go_enter Tryd.func13, Tryd.ntmps13
  go_wp2_with fail
  go_fit (parse_any (w.heap.size + 1) _ WB _ HS.out (by simp) HT.out)
  rintro e w1 ⟨vb, rfl, hb1, hO⟩
  have hl1 : Below w.heap.size w w1 := hl0.trans (hb1.mono hl0.size)
  have ez : prE WB = 0 := wb_e
  rw [wb_e]
  rw [wb_b] at hO
  obtain ⟨h, hh⟩ : ∃ h, h = prH WB := ⟨_, rfl⟩
  have h0 : h 0 = 1 := by rw [hh]; exact wb_0
  have h2 : h 2 = 34997 := by rw [hh]; exact wb_2
  rw [← hh]
  have hs1 : Sl w1.heap.size w1 vb [7] := Sl.own hO (by decide) (isB_of (by decide))
  obtain ⟨ao, n, c, rfl⟩ := hO.slice
  have P1 := PBlk.new w1 h (.slice ao n c)
  have c0 : (w1.alloc (.cells (prow h (.slice ao n c)) 27)).cell? ⟨w1.heap.size, 0, none⟩ = some (.int .u64 1) := by rw [P1.cell 0 (by omega), h0]
  have c2 : (w1.alloc (.cells (prow h (.slice ao n c)) 27)).cell? ⟨w1.heap.size, 2, none⟩ = some (.int .u64 34997) := by rw [P1.cell 2 (by omega), h2]
  have c11 := P1.last
  have e2 : (w1.alloc (.cells (prow h (.slice ao n c)) 27)).heap.size = w1.heap.size + 1 := by simp
  have e3 : ((w1.alloc (.cells (prow h (.slice ao n c)) 27)).alloc (.cells #[.int .u8 7] 5)).heap.size = w1.heap.size + 1 + 1 := by simp
  have hl2 : Below w1.heap.size w1 (w1.alloc (.cells (prow h (.slice ao n c)) 27)) := (Below.refl _ _).alloc (Nat.le_refl _) _
  have hl3 : Below w1.heap.size w1 ((w1.alloc (.cells (prow h (.slice ao n c)) 27)).alloc (.cells #[.int .u8 7] 5)) := hl2.alloc (by omega) _
  have hl4 : Below w1.heap.size w1 (((w1.alloc (.cells (prow h (.slice ao n c)) 27)).alloc (.cells #[.int .u8 7] 5)).alloc (.cells (WS.map (Value.int .u8)).toArray 5)) := hl3.alloc (by omega) _
  have HB : Hid (Calls Tryd.prog 16 #[.slice ao n c, .slice (some ⟨w1.heap.size + 1, 0, none⟩) 1 1] ((w1.alloc (.cells (prow h (.slice ao n c)) 27)).alloc (.cells #[.int .u8 7] 5)) fun e w' => e = .returned (.bool true) ∧ w' = (w1.alloc (.cells (prow h (.slice ao n c)) 27)).alloc (.cells #[.int .u8 7] 5)) := by
    have q := sl_one (w1.alloc (.cells (prow h (.slice ao n c)) 27)) 7 (by decide) (by decide)
    rw [e2] at q
    exact bytes_any _ _ _ _ [7] [7] _ (hs1.on hl3) q
  have HM : Hid (Calls Tryd.prog 11 #[.slice (some ⟨w1.heap.size + 1 + 1, 0, none⟩) 20 20] (((w1.alloc (.cells (prow h (.slice ao n c)) 27)).alloc (.cells #[.int .u8 7] 5)).alloc (.cells (WS.map (Value.int .u8)).toArray 5)) fun e w' => e = .returned (.int .u16 26327) ∧ w' = ((w1.alloc (.cells (prow h (.slice ao n c)) 27)).alloc (.cells #[.int .u8 7] 5)).alloc (.cells (WS.map (Value.int .u8)).toArray 5)) := by
    have q := sl_lit ((w1.alloc (.cells (prow h (.slice ao n c)) 27)).alloc (.cells #[.int .u8 7] 5)) WS (isB_of (by decide)) (by decide)
    rw [e3] at q
    have q2 := sum_any _ _ WS _ q
    rw [ws_s] at q2
    exact q2
  have HL : Hid (Below w.heap.size w (((w1.alloc (.cells (prow h (.slice ao n c)) 27)).alloc (.cells #[.int .u8 7] 5)).alloc (.cells (WS.map (Value.int .u8)).toArray 5))) := hl1.trans (hl4.mono hl1.size)
  clear hl0 HS HT hb1 hO hl1 ez h0 h2 hs1 e2 e3 hl2 hl3 hl4 hh P1
  go_wp2_with (first | (refine alc27 rfl rfl ?_) | (refine st27n (.tmp 2) (.tmp 8) rfl w1 zf nilS rfl rfl h _ rfl rfl rfl ?_) | (go_at_call 16; refine (HB.out).mono ?_; rintro e w' ⟨rfl, rfl⟩) | (go_at_call 11; refine (HM.out).mono ?_; rintro e w' ⟨rfl, rfl⟩))
  go_ret
  exact ⟨rfl, HL.out⟩
end Go.Proofs.YtgjglbailgeneaaDoor
