/-
  Proved here: Same of the statements' package of layer 6 tells whether two rows of bytes are the same; no memory turns. Conditions: the slices hold bytes.
-/
import Derived.Test.YthgkmbdnkamcoaaD8
namespace Go.Proofs.Ythgkmbdnkamcoaa
open Go.RowKit

theorem take_eq_next {xs ys : List Int} {k : Nat} (hx : k < xs.length) (hy : k < ys.length) : xs.take (k + 1) = ys.take (k + 1) ↔ xs.take k = ys.take k ∧ xs.getD k 0 = ys.getD k 0 := by
  rw [List.take_add_one, List.take_add_one, List.getElem?_eq_getElem hx, List.getElem?_eq_getElem hy, List.getD_eq_getElem?_getD, List.getD_eq_getElem?_getD, List.getElem?_eq_getElem hx, List.getElem?_eq_getElem hy]
  simp only [Option.toList, Option.getD_some]
  constructor
  · intro h
    have := List.append_inj h (by simp; omega)
    exact ⟨this.1, by simpa using this.2⟩
  · rintro ⟨h1, h2⟩
    rw [h1, h2]
theorem take_eq_next2 {xs ys : List (List Int)} {k : Nat} (hx : k < xs.length) (hy : k < ys.length) : xs.take (k + 1) = ys.take (k + 1) ↔ xs.take k = ys.take k ∧ xs.getD k [] = ys.getD k [] := by
  rw [List.take_add_one, List.take_add_one, List.getElem?_eq_getElem hx, List.getElem?_eq_getElem hy, List.getD_eq_getElem?_getD, List.getD_eq_getElem?_getD, List.getElem?_eq_getElem hx, List.getElem?_eq_getElem hy]
  simp only [Option.toList, Option.getD_some]
  constructor
  · intro h
    have := List.append_inj h (by simp; omega)
    exact ⟨this.1, by simpa using this.2⟩
  · rintro ⟨h1, h2⟩
    rw [h1, h2]

set_option maxHeartbeats 800000 in
theorem same_any (B C : Nat) (u v : Value) (xs ys : List Int) (w : World) (h1 : Sl B w u xs) (h2 : Sl C w v ys) :
    Calls Try.prog 19 #[u, v] w fun r w' => r = .returned (.bool (decide (xs = ys))) ∧ Below w.heap.size w w' := by
  have l1 := h1.len
  have l2 := h2.len
  obtain ⟨a1, c1, rfl, -, -, -, -, q1⟩ := h1
  obtain ⟨a2, c2, rfl, -, -, -, -, q2⟩ := h2
  have H1 : Hid (xs ≠ [] → ∃ b o, b < B ∧ a1 = some ⟨b, o, none⟩ ∧ ∀ j, j < xs.length → w.cell? ⟨b, o + j, none⟩ = some (.int .u8 (xs.getD j 0))) := q1
  have H2 : Hid (ys ≠ [] → ∃ b o, b < C ∧ a2 = some ⟨b, o, none⟩ ∧ ∀ j, j < ys.length → w.cell? ⟨b, o + j, none⟩ = some (.int .u8 (ys.getD j 0))) := q2
  clear q1 q2
  by_cases hl : xs.length = ys.length
  · have HL : Hid (xs.length = ys.length) := hl
    rw [← hl]
    obtain ⟨n, hn⟩ : ∃ n, n = xs.length := ⟨_, rfl⟩
    have HN : Hid (n = xs.length) := hn
    rw [← hn] at l1 ⊢
    clear hl hn l2
    go_enter Try.func19, Try.ntmps19
    go_wp2
    go_loopw [5] (fun i wr => ∃ k : Nat, k ≤ n ∧ i = .int .i64 k ∧ Below w.heap.size w wr ∧ xs.take k = ys.take k) (fun i _ => n - (intOf i).toNat)
    case atStart => exact ⟨0, by omega, rfl, Below.refl _ _, rfl⟩
    case round =>
      obtain ⟨k, hk, rfl, hlow, htk⟩ := hrel
      have HT : Hid (xs.take k = ys.take k) := htk
      have HB : Hid (Below w.heap.size w wr) := hlow
      clear htk
      by_cases hlt : k < n
      · have hkx : k < xs.length := by have := HN.out; omega
        have hky : k < ys.length := by have := HN.out; have := HL.out; omega
        obtain ⟨b1, o1, -, rfl, e1⟩ := H1.out (fun e => by rw [e] at hkx; simp at hkx)
        obtain ⟨b2, o2, -, rfl, e2⟩ := H2.out (fun e => by rw [e] at hky; simp at hky)
        have k1 : wr.cell? ⟨b1, o1 + k, none⟩ = some (.int .u8 (xs.getD k 0)) := by rw [hlow.cell (p := ⟨b1, o1 + k, none⟩) (cell_lt (e1 k hkx))]; exact e1 k hkx
        have k2 : wr.cell? ⟨b2, o2 + k, none⟩ = some (.int .u8 (ys.getD k 0)) := by rw [hlow.cell (p := ⟨b2, o2 + k, none⟩) (cell_lt (e2 k hky))]; exact e2 k hky
        have HX := take_eq_next hkx hky
        have HX' : Hid (xs.take (k + 1) = ys.take (k + 1) ↔ xs.take k = ys.take k ∧ xs.getD k 0 = ys.getD k 0) := HX
        generalize xs.getD k 0 = x at *
        generalize ys.getD k 0 = y at *
        clear e1 e2 HX hlow
        by_cases hxy : x = y
        · subst hxy
          have HNX : Hid (xs.take (k + 1) = ys.take (k + 1)) := HX'.out.2 ⟨HT.out, rfl⟩
          go_upto_region 6 with fail
          go_quiet (fail)
          go_wp2
          go_roundw
          case rel => exact ⟨k + 1, by omega, by go_num, ⟨HB.out.os, HB.out.tape, HB.out.output, HB.out.size, HB.out.block⟩, HNX.out⟩
          case measure => simp [intOf]; omega
        · have HNo : Hid (decide (xs = ys) = false) := by
            show _ = _
            rw [decide_eq_false_iff_not]
            intro e
            exact hxy (HX'.out.1 (by rw [e])).2
          have hne : (x != y) = true := by simp [hxy]
          go_upto_region 6 with fail
          go_quiet (fail)
          go_wp2
          go_ret
          exact ⟨by rw [HNo.out]; rfl, ⟨HB.out.os, HB.out.tape, HB.out.output, HB.out.size, HB.out.block⟩⟩
      · obtain rfl : k = n := by omega
        have HY : Hid (decide (xs = ys) = true) := by
          show _ = _
          rw [decide_eq_true_eq]
          have := HT.out
          rw [HN.out, List.take_length, HL.out, List.take_length] at this
          exact this
        go_wp2
        go_ret
        exact ⟨by rw [HY.out]; rfl, HB.out⟩
  · have HNo : Hid (decide (xs = ys) = false) := by
      show _ = _
      rw [decide_eq_false_iff_not]
      intro e
      exact hl (by rw [e])
    have hne : ((xs.length : Int) != (ys.length : Int)) = true := by simp; omega
    go_enter Try.func19, Try.ntmps19
    go_wp2
    go_ret
    exact ⟨by rw [HNo.out]; rfl, Below.refl _ _⟩

end Go.Proofs.Ythgkmbdnkamcoaa
