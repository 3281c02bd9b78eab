/-
  Proved here: wakes of the statements' package returns true; no old memory turns. Condition: the widths' table holds its eleven numbers.
-/
import Derived.Test.YtioohgcaakcgaaaDoorJ4
namespace Go.Proofs.YtioohgcaakcgaaaDoor
open Go.RowKit

theorem pv_congr {a b : Nat → Int} {v : Value} (h : ∀ k, k < 11 → a k = b k) : pv a v = pv b v := by
  show Value.agg (prow a v) = Value.agg (prow b v)
  unfold prow
  rw [row_congr h]
theorem some4_aH {s d f t op : Int} (n : Nums s d f t) (ho : op = 1 ∨ op = 2) : some4 (aH s d f t) [op] = fit s d := by
  have hi : isOp [op] = true := by rcases ho with rfl | rfl <;> rfl
  simp [some4, aH_ok n, hi, show aH s d f t 2 = 2054 from rfl]
theorem rdA_aH {s d f t op : Int} (n : Nums s d f t) (ho : op = 1 ∨ op = 2) : rdA (aH s d f t) [op] = (fit s d && (op == 1)) := by
  simp [rdA, some4_aH n ho]
/-- A question that fits, parsed: what a caller of Parse holds. -/
theorem asL_fit {mac f t : Int} (hm : mac < 281474976710656) : asL mac f t = frL 281474976710655 mac 1 f 0 t := if_pos hm
/-- A slice that is the call's own: its form and its bytes. -/
theorem Owns.open {base : Nat} {w : World} {v : Value} {ys : List Int} (h : Owns base w v ys) (hl : ys.length ≤ 4096) (hb : IsB ys) :
    ∃ ao c, v = .slice ao ys.length c ∧ (ys ≠ [] → ∃ g o, base ≤ g ∧ g < w.heap.size ∧ ao = some ⟨g, o, none⟩ ∧ ∀ j, j < ys.length → w.cell? ⟨g, o + j, none⟩ = some (.int .u8 (ys.getD j 0))) := by
  have hs := Sl.own h (by omega) hb
  obtain ⟨ao, c, rfl, _, _, _, _, q⟩ := hs
  refine ⟨ao, c, rfl, fun hne => ?_⟩
  obtain ⟨g, o, h1, rfl, h3⟩ := q hne
  have := h.lt g (by simp [Value.ownBlock])
  exact ⟨g, o, this.1, h1, rfl, h3⟩

theorem frL_ne (d s op f tg t : Int) : frL d s op f tg t ≠ [] := fun e => by
  have := congrArg List.length e
  rw [frL_len] at this
  cases this
abbrev LQ : List Int := frL 281474976710655 2199023255553 1 167772161 0 167772162
abbrev LA : List Int := frL 2199023255553 2199023255554 2 167772162 2199023255553 167772161
abbrev HQ : Nat → Int := aH 2199023255553 281474976710655 167772161 167772162
theorem lq_5 : LQ.getD 5 0 = 255 := by kernel_rfl
theorem lq_21 : LQ.getD 21 0 = 1 := by kernel_rfl
theorem la_21 : LA.getD 21 0 = 2 := by kernel_rfl
theorem nums_q : Nums 2199023255553 281474976710655 167772161 167772162 := ⟨by omega, by omega, by omega, by omega, by omega, by omega⟩
theorem an_e : anE 2199023255554 HQ [1] = 0 := by kernel_rfl
theorem an_l : anL 2199023255554 HQ [1] = LA := by
  have : anOk 2199023255554 HQ [1] = true := by kernel_rfl
  unfold anL
  rw [if_pos this]
  rfl
theorem as_0 : asL 281474976710656 1 2 = [] := if_neg (by omega)

set_option maxHeartbeats 1600000 in
theorem wakes_any (w : World) (hw : Tab w) : Calls Tryd.prog 11 #[] w fun e w' => e = .returned (.bool true) ∧ Below w.heap.size w w' := by
  have HW : Hid (Tab w) := hw
  clear hw
  go_enter Tryd.func11, Tryd.ntmps11
  go_wp2_with fail
  go_fit (ask_any 2199023255553 167772161 167772162 w HW.out (by omega) (by omega) (by omega) (by omega) (by omega))
  rintro e w1 ⟨v1, rfl, hb1, hO1⟩
  rw [asL_fit (by omega)] at hO1
  have HT1 : Hid (Tab w1) := HW.out.on hb1
  have HS1 : Hid (Sl w1.heap.size w1 v1 LQ) := Sl.own hO1 (by rw [frL_len]; omega) (frL_isB _ _ _ _ _ _)
  obtain ⟨ao1, c1, rfl, q1⟩ := hO1.open (by rw [frL_len]; omega) (frL_isB _ _ _ _ _ _)
  obtain ⟨g1, o1, _, l1, rfl, k1⟩ := q1 (frL_ne _ _ _ _ _ _)
  rw [frL_len] at HS1 k1 ⊢
  have k5 := k1 5 (by omega)
  have k21 := k1 21 (by omega)
  rw [lq_5] at k5
  rw [lq_21] at k21
  clear q1 k1 hO1 HW
  go_wp2_with fail
  go_fit (parse_any w1.heap.size _ LQ w1 HS1.out (Nat.le_refl _) HT1.out)
  rintro e w2 ⟨vb, rfl, hb2, hO2⟩
  obtain ⟨e1, e2, e3⟩ := aH_back nums_q (op := 1) (Or.inl rfl) rfl LQ rfl
  rw [e1, pv_congr e3]
  rw [e2] at hO2
  have HT2 : Tab w2 := HT1.out.on hb2
  have hl2 : Below w.heap.size w w2 := hb1.trans (hb2.mono hb1.size)
  have k5' : w2.cell? ⟨g1, o1 + 5, none⟩ = some (.int .u8 255) := by rw [hb2.cell (p := ⟨g1, o1 + 5, none⟩) l1]; exact k5
  have k21' : w2.cell? ⟨g1, o1 + 21, none⟩ = some (.int .u8 1) := by rw [hb2.cell (p := ⟨g1, o1 + 21, none⟩) l1]; exact k21
  have l2 : g1 < w2.heap.size := Nat.lt_of_lt_of_le l1 hb2.size
  have S2 : Sl w2.heap.size w2 vb [1] := Sl.own hO2 (by decide) (isB_of (by decide))
  obtain ⟨ao9, n9, c9, rfl⟩ := hO2.slice
  have hl3 : Below w2.heap.size w2 (w2.alloc (.cells (prow HQ (.slice ao9 n9 c9)) 32)) := (Below.refl _ _).alloc (Nat.le_refl _) _
  have HP : Hid (PBlk (w2.alloc (.cells (prow HQ (.slice ao9 n9 c9)) 32)) w2.heap.size HQ (.slice ao9 n9 c9)) := PBlk.new _ _ _
  have HT3 : Hid (Tab (w2.alloc (.cells (prow HQ (.slice ao9 n9 c9)) 32))) := HT2.on hl3
  have HS3 : Hid (Sl w2.heap.size (w2.alloc (.cells (prow HQ (.slice ao9 n9 c9)) 32)) (.slice ao9 n9 c9) [1]) := S2.on hl3
  have HL3 : Hid (Below w.heap.size w (w2.alloc (.cells (prow HQ (.slice ao9 n9 c9)) 32))) := hl2.trans (hl3.mono hl2.size)
  clear hb1 hb2 hO2 e1 e2 e3 k5 k21 HT1 HS1 S2 HT2 hl2 l1
  go_wp2_with (first | (refine alc27 rfl rfl ?_) | (refine st27n (.tmp 2) (.tmp 10) rfl w2 zf nilS rfl rfl HQ _ rfl rfl rfl ?_) | (refine ld27 (.tmp 2) rfl _ rfl rfl HQ _ HP.out ?_))
  go_fit (answer_any w2.heap.size 2199023255554 HQ _ [1] _ HT3.out (by simp) HS3.out nums_q.nn (by omega))
  rintro e w4 ⟨v4, rfl, hb4, hO4⟩
  rw [an_e]
  rw [an_l] at hO4
  have HT4 : Hid (Tab w4) := HT3.out.on hb4
  have HL4 : Hid (Below w.heap.size w w4) := HL3.out.trans (hb4.mono HL3.out.size)
  have hb4' : Below w2.heap.size w2 w4 := hl3.trans (hb4.mono hl3.size)
  have k5 : w4.cell? ⟨g1, o1 + 5, none⟩ = some (.int .u8 255) := by rw [hb4'.cell (p := ⟨g1, o1 + 5, none⟩) l2]; exact k5'
  have k21 : w4.cell? ⟨g1, o1 + 21, none⟩ = some (.int .u8 1) := by rw [hb4'.cell (p := ⟨g1, o1 + 21, none⟩) l2]; exact k21'
  obtain ⟨ao4, c4, rfl, q4⟩ := hO4.open (by rw [frL_len]; omega) (frL_isB _ _ _ _ _ _)
  obtain ⟨g4, o4, _, l4, rfl, k4⟩ := q4 (frL_ne _ _ _ _ _ _)
  rw [frL_len] at k4 ⊢
  have m21 := k4 21 (by omega)
  rw [la_21] at m21
  clear q4 k4 hO4 hb4 hb4' hl3 HP HT3 HS3 HL3 k5' k21'
  go_wp2_with (go_at_call 9; refine (ask_any 281474976710656 1 2 w4 HT4.out (by omega) (by omega) (by omega) (by omega) (by omega)).mono ?_; rintro e w5 ⟨v5, rfl, hb5, hO5⟩; rw [as_0] at hO5; obtain ⟨ao5, c5, rfl, _⟩ := hO5.open (by simp) IsB.nil)
  go_ret
  exact ⟨rfl, HL4.out.trans (hb5.mono HL4.out.size)⟩
end Go.Proofs.YtioohgcaakcgaaaDoor
