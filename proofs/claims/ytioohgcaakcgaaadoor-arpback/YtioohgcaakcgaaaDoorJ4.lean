/-
  Proved here: same of the statements' package tells whether two slices hold the same bytes; no old memory turns. No condition.
-/
import Derived.Test.YtioohgcaakcgaaaDoorJ3
namespace Go.Proofs.YtioohgcaakcgaaaDoor
open Go.RowKit

theorem list_of_getD {a b : List Int} (hl : a.length = b.length) (h : ∀ j, j < a.length → a.getD j 0 = b.getD j 0) : a = b := by
  apply List.ext_getElem hl
  intro j h1 h2
  have := h j h1
  simpa [List.getD_eq_getElem?_getD, List.getElem?_eq_getElem h1, List.getElem?_eq_getElem h2] using this

set_option maxHeartbeats 800000 in
/-- WHAT same ANSWERS. -/
theorem same_any (B C : Nat) (u v : Value) (a b : List Int) (w : World) (hu : Sl B w u a) (hv : Sl C w v b) (hB : B ≤ w.heap.size) (hC : C ≤ w.heap.size) :
    Calls Tryd.prog 8 #[u, v] w fun e w' => e = .returned (.bool (a == b)) ∧ Below w.heap.size w w' := by
  have ha := hu.len
  have hb := hv.len
  obtain ⟨ao, ca, rfl, _, _, _, _, qa⟩ := hu
  obtain ⟨bo, cb, rfl, _, _, _, _, qb⟩ := hv
  have QA : Hid (a ≠ [] → ∃ b o, b < B ∧ ao = some ⟨b, o, none⟩ ∧ ∀ j, j < a.length → w.cell? ⟨b, o + j, none⟩ = some (.int .u8 (a.getD j 0))) := qa
  have QB : Hid (b ≠ [] → ∃ c o, c < C ∧ bo = some ⟨c, o, none⟩ ∧ ∀ j, j < b.length → w.cell? ⟨c, o + j, none⟩ = some (.int .u8 (b.getD j 0))) := qb
  clear qa qb
  by_cases hl : a.length = b.length
  · have hd : ((a.length : Int) != (b.length : Int)) = false := by simp [hl]
    obtain ⟨n, hn⟩ : ∃ n, n = a.length := ⟨_, rfl⟩
    have HA : Hid (a.length = n) := hn.symm
    have HB : Hid (b.length = n) := hl.symm.trans hn.symm
    rw [HA.out] at ha hd ⊢
    rw [HB.out] at hb hd ⊢
    clear hl hn
    go_enter Tryd.func8, Tryd.ntmps8
    go_wp2
    go_loopw [5] (fun i wr => ∃ k : Nat, k ≤ n ∧ i = .int .i64 k ∧ (∀ j, j < k → a.getD j 0 = b.getD j 0) ∧ Below w.heap.size w wr) (fun i _ => n - (intOf i).toNat)
    case atStart => exact ⟨0, by omega, rfl, fun j hj => absurd hj (by omega), Below.refl _ _⟩
    case round =>
      obtain ⟨k, hk, rfl, hall, hlow⟩ := hrel
      have HALL : Hid (∀ j, j < k → a.getD j 0 = b.getD j 0) := hall
      have HL : Hid (Below w.heap.size w wr) := hlow
      clear hall hlow
      by_cases hlt : k < n
      · obtain ⟨ba, oa, la, rfl, cl⟩ := QA.out (fun e => by have := HA.out; subst e; simp at this; omega)
        obtain ⟨bb, ob, lb, rfl, cr⟩ := QB.out (fun e => by have := HB.out; subst e; simp at this; omega)
        obtain ⟨x, hx⟩ : ∃ x, x = a.getD k 0 := ⟨_, rfl⟩
        obtain ⟨y, hy⟩ : ∃ y, y = b.getD k 0 := ⟨_, rfl⟩
        have c1 : wr.cell? ⟨ba, oa + k, none⟩ = some (.int .u8 x) := by
          rw [HL.out.cell (p := ⟨ba, oa + k, none⟩) (Nat.lt_of_lt_of_le la hB), hx]
          exact cl k (by rw [HA.out]; exact hlt)
        have c2 : wr.cell? ⟨bb, ob + k, none⟩ = some (.int .u8 y) := by
          rw [HL.out.cell (p := ⟨bb, ob + k, none⟩) (Nat.lt_of_lt_of_le lb hC), hy]
          exact cr k (by rw [HB.out]; exact hlt)
        have HX : Hid (x = a.getD k 0) := hx
        have HY : Hid (y = b.getD k 0) := hy
        clear hx hy cl cr QA QB
        cases hne : (x != y)
        · have HXY : Hid (x = y) := by show _ = _; simpa using hne
          go_wp2
          go_region
          go_wp2
          go_roundw
          case rel =>
            refine ⟨k + 1, by omega, by go_num, fun j hj => ?_, HL.out.drew⟩
            by_cases e : j = k
            · subst e; rw [← HX.out, ← HY.out]; exact HXY.out
            · exact HALL.out j (by omega)
          case measure => simp [intOf]; omega
        · have HXY : Hid ((a == b) = false) := by
            show _ = _
            have h1 : x ≠ y := by simpa using hne
            have h2 : a ≠ b := fun e => h1 (by rw [HX.out, HY.out, e])
            simpa using h2
          go_wp2
          go_region
          go_wp2
          go_ret
          exact ⟨by rw [HXY.out]; rfl, HL.out.drew⟩
      · obtain rfl : k = n := by omega
        have HXY : Hid ((a == b) = true) := by
          show _ = _
          have := list_of_getD (HA.out.trans HB.out.symm) (fun j hj => HALL.out j (by rw [← HA.out]; exact hj))
          simp [this]
        clear QA QB
        go_wp2
        go_ret
        exact ⟨by rw [HXY.out]; rfl, HL.out⟩
  · have hd : ((a.length : Int) != (b.length : Int)) = true := by simp; omega
    have HF : Hid ((a == b) = false) := by
      show _ = _
      have h2 : a ≠ b := fun e => hl (by rw [e])
      simpa using h2
    clear hl QA QB
    go_enter Tryd.func8, Tryd.ntmps8
    go_wp2
    go_ret
    exact ⟨by rw [HF.out]; rfl, Below.refl _ _⟩
end Go.Proofs.YtioohgcaakcgaaaDoor
