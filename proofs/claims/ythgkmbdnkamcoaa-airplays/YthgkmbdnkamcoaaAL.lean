/-
  Proved here: All of the statements' package of layer 6 tells whether two lists of rows of bytes are the same; no memory turns. Conditions: the slices hold bytes.
-/
import Derived.Test.YthgkmbdnkamcoaaSM
namespace Go.Proofs.Ythgkmbdnkamcoaa
open Go.RowKit

set_option maxHeartbeats 800000 in
theorem all_any (S T : Nat → Prop) (u v : Value) (xs ys : List (List Int)) (w : World) (h1 : Ls S w u xs) (h2 : Ls T w v ys) :
    Calls Try.prog 14 #[u, v] w fun r w' => r = .returned (.bool (decide (xs = ys))) ∧ Below w.heap.size w w' := by
  have l1 := h1.len
  have l2 := h2.len
  obtain ⟨a1, c1, rfl, -, -, -, q1⟩ := h1
  obtain ⟨a2, c2, rfl, -, -, -, q2⟩ := h2
  have H1 : Hid (xs ≠ [] → ∃ b o, S b ∧ a1 = some ⟨b, o, none⟩ ∧ ∀ j, j < xs.length → ∃ u, w.cell? ⟨b, o + j, none⟩ = some u ∧ SlC S w u (xs.getD j [])) := q1
  have H2 : Hid (ys ≠ [] → ∃ b o, T b ∧ a2 = some ⟨b, o, none⟩ ∧ ∀ j, j < ys.length → ∃ u, w.cell? ⟨b, o + j, none⟩ = some u ∧ SlC T w u (ys.getD j [])) := q2
  clear q1 q2
  by_cases hl : xs.length = ys.length
  · have HL : Hid (xs.length = ys.length) := hl
    rw [← hl]
    obtain ⟨n, hn⟩ : ∃ n, n = xs.length := ⟨_, rfl⟩
    have HN : Hid (n = xs.length) := hn
    rw [← hn] at l1 ⊢
    clear hl hn l2
    go_enter Try.func14, Try.ntmps14
    go_wp2
    go_loopw [5] (fun i wr => ∃ k : Nat, k ≤ n ∧ i = .int .i64 k ∧ Below w.heap.size w wr ∧ xs.take k = ys.take k) (fun i _ => n - (intOf i).toNat)
    case atStart => exact ⟨0, by omega, rfl, Below.refl _ _, rfl⟩
    case round =>
      obtain ⟨k, hk, rfl, hlow, htk⟩ := hrel
      have HT : Hid (xs.take k = ys.take k) := htk
      have HB : Hid (Below w.heap.size w wr) := hlow
      clear htk
      by_cases hlt : k < n
      · have hkx : k < xs.length := by have := HN.out; omega
        have hky : k < ys.length := by have := HN.out; have := HL.out; omega
        obtain ⟨b1, o1, -, rfl, e1⟩ := H1.out (fun e => by rw [e] at hkx; simp at hkx)
        obtain ⟨b2, o2, -, rfl, e2⟩ := H2.out (fun e => by rw [e] at hky; simp at hky)
        obtain ⟨p1, f1, s1⟩ := e1 k hkx
        obtain ⟨p2, f2, s2⟩ := e2 k hky
        have k1 : wr.cell? ⟨b1, o1 + k, none⟩ = some p1 := by rw [hlow.cell (p := ⟨b1, o1 + k, none⟩) (cell_lt f1)]; exact f1
        have k2 : wr.cell? ⟨b2, o2 + k, none⟩ = some p2 := by rw [hlow.cell (p := ⟨b2, o2 + k, none⟩) (cell_lt f2)]; exact f2
        have HX := take_eq_next2 hkx hky
        have HX' : Hid (xs.take (k + 1) = ys.take (k + 1) ↔ xs.take k = ys.take k ∧ xs.getD k [] = ys.getD k []) := HX
        have HEQ : Hid (xs = ys → xs.getD k [] = ys.getD k []) := fun e => by rw [e]
        clear e1 e2 HX
        generalize xs.getD k [] = m1 at *
        generalize ys.getD k [] = m2 at *
        have HC : Hid (∀ wx, Below w.heap.size w wx → Calls Try.prog 19 #[p1, p2] wx fun r w' => r = .returned (.bool (decide (m1 = m2))) ∧ Below w.heap.size w w') := by
          show ∀ _, _
          intro wx hb
          refine (same_any w.heap.size w.heap.size p1 p2 _ _ wx (s1.sl.on hb) (s2.sl.on hb)).mono ?_
          rintro r w' ⟨rfl, hb2⟩
          exact ⟨rfl, hb.trans (hb2.mono hb.size)⟩
        obtain ⟨q, hq⟩ : ∃ q, q = decide (m1 = m2) := ⟨_, rfl⟩
        rw [← hq] at HC
        have HQ : Hid (q = decide (m1 = m2)) := hq
        obtain ⟨pa1, pc1, rfl, -⟩ := s1
        obtain ⟨pa2, pc2, rfl, -⟩ := s2
        have hnot : ∀ (x : Bool) (w : World), (Op.unary .not (.bool x)).run Try.prog w = .ok (.bool (!x)) w := fun _ _ => rfl
        clear hq f1 f2
        cases q with
        | true =>
          have HNX : Hid (xs.take (k + 1) = ys.take (k + 1)) := HX'.out.2 ⟨HT.out, of_decide_eq_true HQ.out.symm⟩
          go_upto_region 6 with fail
          go_region_with (go_at_call 19; refine (HC.out _ (HB.out.trans (Below.refl _ _).drew)).mono ?_; rintro r w5 ⟨rfl, hb5⟩)
          all_goals (
            go_wp2
            go_roundw
            case rel => exact ⟨k + 1, by omega, by go_num, hb5, HNX.out⟩
            case measure => simp [intOf]; omega)
        | false =>
          have HNo : Hid (decide (xs = ys) = false) := by
            show _ = _
            rw [decide_eq_false_iff_not]
            intro e
            have := HQ.out
            rw [HEQ.out e] at this
            simp at this
          go_upto_region 6 with fail
          go_region_with (go_at_call 19; refine (HC.out _ (HB.out.trans (Below.refl _ _).drew)).mono ?_; rintro r w5 ⟨rfl, hb5⟩)
          all_goals (
            go_wp2
            go_ret
            exact ⟨by rw [HNo.out]; rfl, hb5⟩)
      · obtain rfl : k = n := by omega
        have HY : Hid (decide (xs = ys) = true) := by
          show _ = _
          rw [decide_eq_true_eq]
          have := HT.out
          rw [HN.out, List.take_length, HL.out, List.take_length] at this
          exact this
        go_wp2
        go_ret
        exact ⟨by rw [HY.out]; rfl, HB.out⟩
  · have HNo : Hid (decide (xs = ys) = false) := by
      show _ = _
      rw [decide_eq_false_iff_not]
      intro e
      exact hl (by rw [e])
    have hne : ((xs.length : Int) != (ys.length : Int)) = true := by simp; omega
    go_enter Try.func14, Try.ntmps14
    go_wp2
    go_ret
    exact ⟨by rw [HNo.out]; rfl, Below.refl _ _⟩
end Go.Proofs.Ythgkmbdnkamcoaa
