/-
  Proved here: the writer's method action; lists written by writeList, at uint16, Action, []Action; shorts, actions. Conditions: what is written lies in blocks that the writer does not turn.
-/
import Derived.Test.YtllbbbfkdgjffaaDoorH1
namespace Go.Proofs.YtllbbbfkdgjffaaDoor
open Go.RowKit

section
variable {S : Nat → Prop} {c m : Nat}
theorem wnumber_on {w w' : World} {xs : List Int} (ho : Only (OS c S) w w') (hW : Wt S w' c m xs) (k : Nat) (n : Int) (hk : k ≤ 8) (hk0 : 0 < k) :
    Calls Tryd.prog 15 #[.pointer (some ⟨c, 0, none⟩), .int .i64 k, .int .u64 n] w' fun e w2 => e = .returned (.tuple #[]) ∧ Only (OS c S) w w2 ∧ Wt S w2 c m (xs ++ dg n k) :=
  (wnumber_any hW k n hk hk0).mono fun _e _w2 ⟨h1, h2, h3⟩ => ⟨h1, ho.trans h2, h3⟩
theorem three_cells {w : World} {g : Nat} {x y z : Value} {t : TypeId} (h : w.heap[g]? = some (.cells #[x, y, z] t (0, 0))) : w.cell? ⟨g, 0, none⟩ = some x ∧ w.cell? ⟨g, 1, none⟩ = some y ∧ w.cell? ⟨g, 2, none⟩ = some z := by
  refine ⟨?_, ?_, ?_⟩
  · rw [cell_of_row w g 0 _ _ _ h]; rfl
  · rw [cell_of_row w g 1 _ _ _ h]; rfl
  · rw [cell_of_row w g 2 _ _ _ h]; rfl

set_option maxHeartbeats 800000 in
theorem waction_any {w : World} {xs : List Int} (hW : Wt S w c m xs) (a : Ac) (ha : a.Fit) :
    Calls Tryd.prog 94 #[.pointer (some ⟨c, 0, none⟩), av a] w (WrP S c m xs (encAc a) (okAc a) w) := by
  have hb1 : Below w.heap.size w (w.alloc (.cells #[.int .i8 a.dw, .int .i8 a.fd, .int .u64 a.n] 147)) := (Below.refl _ _).alloc (Nat.le_refl _) _
  have hg1 : (w.alloc (.cells #[.int .i8 a.dw, .int .i8 a.fd, .int .u64 a.n] 147)).heap[w.heap.size]? = some (.cells #[.int .i8 a.dw, .int .i8 a.fd, .int .u64 a.n] 147 (0, 0)) := heap_alloc_new _ _
  have hs1 : (w.alloc (.cells #[.int .i8 a.dw, .int .i8 a.fd, .int .u64 a.n] 147)).heap.size = w.heap.size + 1 := by simp
  have HA := hid (isAction_any a (w.alloc (.cells #[.int .i8 a.dw, .int .i8 a.fd, .int .u64 a.n] 147)))
  have HG := hid hW.gd
  have HM : Hid (∀ w2, Below (w.alloc (.cells #[.int .i8 a.dw, .int .i8 a.fd, .int .u64 a.n] 147)).heap.size (w.alloc (.cells #[.int .i8 a.dw, .int .i8 a.fd, .int .u64 a.n] 147)) w2 → Below w.heap.size w w2 ∧ Wt (Sx S w.heap.size w2.heap.size) w2 c m xs ∧ ∀ w3, Only (OS c (Sx S w.heap.size w2.heap.size)) w2 w3 → w3.cell? ⟨w.heap.size, 0, none⟩ = some (.int .i8 a.dw) ∧ w3.cell? ⟨w.heap.size, 1, none⟩ = some (.int .i8 a.fd) ∧ w3.cell? ⟨w.heap.size, 2, none⟩ = some (.int .u64 a.n)) := by
    show ∀ _, _
    intro w2 h2
    have hb := hb1.trans (h2.mono (by rw [hs1]; omega))
    refine ⟨hb, hW.hide hb, fun w3 ho => three_cells (t := 147) ?_⟩
    have hsz := h2.size
    rw [only_mid hW.gd ho _ (Nat.le_refl _) (by omega), h2.block _ (by omega)]
    exact hg1
  obtain ⟨⟨f1, f2⟩, ⟨f3, f4⟩, f5, f6⟩ := ha
  clear hb1 hg1 hs1 hW
  cases ho : okAc a with
  | false =>
    rw [ho] at HA
    clear ho
    obtain ⟨x, y, z⟩ := a
    simp only at HA HM f1 f2 f3 f4 f5 f6
    go_enter Tryd.func94, Tryd.ntmps94
    go_wp2_with (first
      | (go_at_call 98; refine (HA.out).mono ?_; rintro e w2 ⟨rfl, hb⟩; have HQ := hid (HM.out w2 hb).1; clear hb)
      | (go_at_call 13; refine (must_false _).mono ?_; rintro e w' ⟨rfl, hw⟩; rw [hw]; clear hw w'))
    exact ⟨rfl, WrP.no (Only.of HQ.out fun k hk => Or.inr (HG.out.fresh k hk))⟩
  | true =>
    rw [ho] at HA
    have hq := okAc_iff.1 ho
    have h0 : 0 ≤ a.dw := by omega
    have h1 : 0 ≤ a.fd := by omega
    clear ho hq
    obtain ⟨x, y, z⟩ := a
    simp only at HA HM f1 f2 f3 f4 f5 f6 h0 h1
    go_enter Tryd.func94, Tryd.ntmps94
    go_wp2_with (first
      | (go_at_call 98; refine (HA.out).mono ?_; rintro e w2 ⟨rfl, hb⟩; have HQ := hid (HM.out w2 hb); obtain ⟨q0, q1, q2⟩ := HQ.out.2.2 w2 (Only.refl _ _); clear hb)
      | (go_at_call 13; refine (must_true _).mono ?_; rintro e w' ⟨rfl, hw⟩; rw [hw]; clear hw w')
      | (go_at_call 15; refine (wnumber_on H2.out.1 H2.out.2 8 z (by omega) (by omega)).mono ?_; rintro e w5 ⟨rfl, hq⟩; have H3 := hid hq; clear hq)
      | (go_at_call 15; refine (wnumber_on H1.out.1 H1.out.2 1 y (by omega) (by omega)).mono ?_; rintro e w4 ⟨rfl, hq⟩; obtain ⟨u0, u1, u2⟩ := HQ.out.2.2 w4 hq.1; have H2 := hid hq; clear hq)
      | (go_at_call 15; refine (wnumber_on (Only.refl _ _) HQ.out.2.1 1 x (by omega) (by omega)).mono ?_; rintro e w3 ⟨rfl, hq⟩; obtain ⟨t0, t1, t2⟩ := HQ.out.2.2 w3 hq.1; have H1 := hid hq; clear hq))
    first | go_end0 | refine bodyPost_ret (results_none rfl _ _ _) rfl ?_
    have hf := H3.out
    rw [List.append_assoc, List.append_assoc] at hf
    have ho2 := only_back HG.out HQ.out.1 hf.1
    exact WrP.yes ho2 (hf.2.back HG.out ho2.size)
end
end Go.Proofs.YtllbbbfkdgjffaaDoor
