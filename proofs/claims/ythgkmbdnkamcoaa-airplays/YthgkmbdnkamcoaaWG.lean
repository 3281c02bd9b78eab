/-
  Proved here: great tells whether there are more than 300 acts, or more than 65536 bytes; no memory turns. Condition: the acts are old memory.
-/
import Derived.Test.YthgkmbdnkamcoaaWK
import Derived.Test.YthgkmbdnkamcoaaV1
namespace Go.Proofs.Ythgkmbdnkamcoaa
open Go.RowKit

def sumB (l : List Ac) : Nat := (l.map fun a => a.b.length).sum
theorem sumB_take (l : List Ac) (k : Nat) (hk : k < l.length) : sumB (l.take (k + 1)) = sumB (l.take k) + l[k].b.length := by
  unfold sumB
  rw [List.take_add_one, List.getElem?_eq_getElem hk, List.map_append, List.sum_append]; simp
theorem sumB_all (l : List Ac) (k : Nat) : sumB (l.take k) ≤ sumB l := by
  conv => rhs; rw [← List.take_append_drop k l]
  unfold sumB
  rw [List.map_append, List.sum_append]; omega
set_option maxHeartbeats 1600000 in
set_option maxRecDepth 100000 in
theorem great_any {T : Nat → Prop} (w : World) (v : Value) (l : List Ac) (h : Acts T w v l) :
    Calls Try.prog 8 #[v] w fun e w' => e = .returned (.bool (!decide (l.length ≤ 300 ∧ sumB l ≤ 65536))) ∧ Below w.heap.size w w' := by
  obtain ⟨ao, cap, rfl, hcap⟩ := h.form
  have hlen := h.len
  have H := hid h
  clear h
  go_enter Try.func8, Try.ntmps8
  go_wp2
  go_loopw [3, 4] (fun n i wr => ∃ k : Nat, k ≤ l.length ∧ k ≤ 301 ∧ i = .int .i64 k ∧ n = .int .i64 (sumB (l.take k) : Nat) ∧ Below w.heap.size w wr ∧ sumB (l.take k) ≤ k * 140737488355328) (fun _ i _ => l.length - (intOf i).toNat)
  case atStart => exact ⟨0, by omega, by omega, rfl, rfl, Below.refl _ _, by simp [sumB]⟩
  case round =>
    obtain ⟨k, hk, hk3, rfl, rfl, hlow, hsm⟩ := hrel
    have HB := hid hlow
    clear hlow
    by_cases hlt : k < l.length
    · have hd1 : decide ((k : Int) < (l.length : Int)) = true := by simp; omega
      by_cases h300 : k ≤ 300
      · have hd2 : decide ((k : Int) ≤ 300) = true := by simp; omega
        obtain ⟨b, o, rfl, -, hc⟩ := H.out.cell k hlt
        obtain ⟨-, -, ⟨u, hc2, hs⟩, hfit⟩ := hc
        have hsl := hs.len
        obtain ⟨ua, uc, rfl, -⟩ := hs
        have hst := sumB_take l k hlt
        have HST := hid hst
        generalize l[k] = a at *
        have k2 : wr.cell? ⟨b, o + k * 3 + 2, none⟩ = some (.slice ua a.b.length uc) := by rw [HB.out.cell (p := ⟨b, o + k * 3 + 2, none⟩) (cell_lt hc2)]; exact hc2
        have hw : IntKind.i64.wrap ((sumB (l.take k) : Int) + (a.b.length : Int)) = (sumB (l.take k) : Int) + (a.b.length : Int) := by rw [IntKind.wrap_i64]; omega
        have HL := hid hlt
        clear hc2 hst
        go_wp2
        go_roundw
        case rel => exact ⟨k + 1, by have := HL.out; omega, by omega, by go_num, by rw [HST.out]; first | rfl | (push_cast; rfl) | simp, ⟨HB.out.os, HB.out.tape, HB.out.output, HB.out.size, HB.out.block⟩, by rw [HST.out]; omega⟩
        case measure => simp [intOf]; omega
      · have hd2 : decide ((k : Int) ≤ 300) = false := by simp; omega
        have hd3 : decide ((300 : Int) < (l.length : Int)) = true := by simp; omega
        have HE : Hid (decide (l.length ≤ 300 ∧ sumB l ≤ 65536) = false) := decide_eq_false (by omega)
        go_wp2
        go_ret
        exact ⟨by rw [HE.out]; rfl, HB.out.os, HB.out.tape, HB.out.output, HB.out.size, HB.out.block⟩
    · obtain rfl : k = l.length := by omega
      have HS : Hid (sumB (l.take l.length) = sumB l) := by show _ = _; rw [List.take_length]
      by_cases h300 : 300 < l.length
      · have hd3 : decide ((300 : Int) < (l.length : Int)) = true := by simp; omega
        have HE : Hid (decide (l.length ≤ 300 ∧ sumB l ≤ 65536) = false) := decide_eq_false (by omega)
        go_wp2
        go_ret
        exact ⟨by rw [HE.out]; rfl, HB.out.os, HB.out.tape, HB.out.output, HB.out.size, HB.out.block⟩
      · have hd3 : decide ((300 : Int) < (l.length : Int)) = false := by simp; omega
        by_cases hs : 65536 < sumB (l.take l.length)
        · have hd4 : decide ((65536 : Int) < (sumB (l.take l.length) : Int)) = true := decide_eq_true (by omega)
          have HE : Hid (decide (l.length ≤ 300 ∧ sumB l ≤ 65536) = false) := decide_eq_false (by have := HS.out; omega)
          clear HS
          generalize sumB (l.take l.length) = z at *
          go_wp2
          go_ret
          exact ⟨by rw [HE.out]; rfl, HB.out.os, HB.out.tape, HB.out.output, HB.out.size, HB.out.block⟩
        · have hd4 : decide ((65536 : Int) < (sumB (l.take l.length) : Int)) = false := decide_eq_false (by omega)
          have HE : Hid (decide (l.length ≤ 300 ∧ sumB l ≤ 65536) = true) := decide_eq_true (by have := HS.out; omega)
          clear HS
          generalize sumB (l.take l.length) = z at *
          go_wp2
          go_ret
          exact ⟨by rw [HE.out]; rfl, HB.out.os, HB.out.tape, HB.out.output, HB.out.size, HB.out.block⟩
end Go.Proofs.Ythgkmbdnkamcoaa
