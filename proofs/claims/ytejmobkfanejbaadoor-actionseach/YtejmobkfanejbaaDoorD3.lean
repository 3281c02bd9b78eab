/-
  Proved here: the document's Same says true just if both lists of copies are the same; no memory turns. No condition.
-/
import Derived.Test.YtejmobkfanejbaaDoorB7
namespace Go.Proofs.YtejmobkfanejbaaDoor
open Go.RowKit

set_option maxHeartbeats 6400000 in
set_option maxRecDepth 100000 in
theorem dsame_any {T T' : Nat → Prop} {w : World} {v v' : Value} {c c' : List (List Ac)} (h : Cps T w v c) (h' : Cps T' w v' c') :
    Calls Tryd.prog 18 #[v, v'] w fun e w' => (∃ r, e = .returned (.bool r) ∧ (r = true ↔ c = c')) ∧ Only (fun _ => False) w w' := by
  obtain ⟨ao, cap, rfl, hcap⟩ := h.form
  obtain ⟨ao', cap', rfl, hcap'⟩ := h'.form
  have hlen := h.len
  have hlen' := h'.len
  have H := hid h
  have H' := hid h'
  clear h h'
  by_cases hll : c.length = c'.length
  · have hne : ((c.length : Int) != (c'.length : Int)) = false := by simp [hll]
    have HLL := hid hll
    clear hll
    go_enter Tryd.func18, Tryd.ntmps18
    go_wp2
    go_loopw [5] (fun i wr => ∃ k : Nat, k ≤ c.length ∧ i = .int .i64 k ∧ c.take k = c'.take k ∧ Only (fun _ => False) w wr) (fun i _ => c.length - (intOf i).toNat)
    case atStart => exact ⟨0, by omega, rfl, by simp, Only.refl _ _⟩
    case round =>
      obtain ⟨k, hk, rfl, hsm, ho⟩ := hrel
      generalize wr = wx at *
      have HO := hid ho
      have HS := hid hsm
      clear ho hsm
      by_cases hlt : k < c.length
      · have hlt' : k < c'.length := by have := HLL.out; omega
        have hB := still_below HO.out
        obtain ⟨p, q, a1, c1, rfl, g0, hc1, hl1, hu⟩ := H.out.at hB hlt
        obtain ⟨p', q', a1', c1', rfl, g0', hc1', hl1', hu'⟩ := H'.out.at hB hlt'
        have HNe : Hid (c[k] ≠ c'[k] → ¬ c = c') := fun h' => ne_at hlt hlt' h'
        have HEq : Hid (c[k] = c'[k] → c.take (k + 1) = c'.take (k + 1)) := fun h' => by rw [take_one' c k hlt, take_one' c' k hlt', HS.out, h']
        have hbd : decide ((k : Int) < (c'.length : Int)) = true := decide_eq_true (by omega)
        have HU := hid hu
        have HU' := hid hu'
        clear HS hB hu hu'
        generalize c[k] = x at g0 HNe HEq HU hc1 hl1
        generalize c'[k] = y at g0' HNe HEq HU' hc1' hl1'
        by_cases hxy : x.length = y.length
        · have hne2 : ((x.length : Int) != (y.length : Int)) = false := by simp [hxy]
          have HXY := hid hxy
          have HG := hid (And.intro g0 g0')
          clear hxy
          go_wp2
          go_region
          go_wp2
          go_loopw [6] (fun i wr => ∃ j : Nat, j ≤ x.length ∧ i = .int .i64 j ∧ x.take j = y.take j ∧ Only (fun _ => False) wx wr) (fun i _ => x.length - (intOf i).toNat)
          case atStart => exact ⟨0, by omega, rfl, by simp, (Only.refl _ _).drew⟩
          case round =>
            obtain ⟨j, hj, rfl, hsm, ho⟩ := hrel
            have f0 : wr.cell? ⟨p, q + k, none⟩ = _ := (cell_same (ho.block p (by simp))).trans HG.out.1
            have f0' : wr.cell? ⟨p', q' + k, none⟩ = _ := (cell_same (ho.block p' (by simp))).trans HG.out.2
            have HO2 := hid ho
            have HS2 := hid hsm
            clear ho hsm g0 g0'
            by_cases hjt : j < x.length
            · have hjt' : j < y.length := by have := HXY.out; omega
              have hbd2 : decide ((j : Int) < (y.length : Int)) = true := decide_eq_true (by omega)
              have hB := still_below HO2.out
              obtain ⟨b, o, rfl, k0, k1, k2, -⟩ := HU.out.at hB hjt
              obtain ⟨b', o', rfl, k0', k1', k2', -⟩ := HU'.out.at hB hjt'
              have HNe2 : Hid (x[j] ≠ y[j] → ¬ c = c') := fun h' => HNe.out (ne_at hjt hjt' h')
              have HEq2 : Hid (x[j] = y[j] → x.take (j + 1) = y.take (j + 1)) := fun h' => by rw [take_one' x j hjt, take_one' y j hjt', HS2.out, h']
              clear HS2 hB
              generalize x[j] = a at k0 k1 k2 HNe2 HEq2
              generalize y[j] = a' at k0' k1' k2' HNe2 HEq2
              obtain ⟨d, f, n⟩ := a
              obtain ⟨d', f', n'⟩ := a'
              by_cases e1 : d = d'
              · by_cases e2 : f = f'
                · by_cases e3 : n = n'
                  · subst e1 e2 e3
                    have HF := hid (HEq2.out rfl)
                    go_wp2
                    go_region
                    go_wp2
                    go_roundw
                    case rel => exact ⟨j + 1, by omega, by go_num, HF.out, HO2.out.drew⟩
                    case measure => simp [intOf]; omega
                  · have HF := hid (HNe2.out (Ac.ne (Or.inr (Or.inr e3))))
                    subst e1 e2
                    have t3 : (n == n') = false := beq_eq_false_iff_ne.2 e3
                    go_wp2
                    go_region
                    go_wp2
                    go_ret
                    exact ⟨⟨_, rfl, by simpa using HF.out⟩, (HO.out.trans HO2.out).drew⟩
                · have HF := hid (HNe2.out (Ac.ne (Or.inr (Or.inl e2))))
                  subst e1
                  have t3 : (f == f') = false := beq_eq_false_iff_ne.2 e2
                  go_wp2
                  go_region
                  go_wp2
                  go_ret
                  exact ⟨⟨_, rfl, by simpa using HF.out⟩, (HO.out.trans HO2.out).drew⟩
              · have HF := hid (HNe2.out (Ac.ne (Or.inl e1)))
                have t3 : (d == d') = false := beq_eq_false_iff_ne.2 e1
                go_wp2
                go_region
                go_wp2
                go_ret
                exact ⟨⟨_, rfl, by simpa using HF.out⟩, (HO.out.trans HO2.out).drew⟩
            · obtain rfl : j = x.length := by omega
              have HF : Hid (x = y) := by
                have h1 := HS2.out
                rw [List.take_length, HXY.out, List.take_length] at h1
                exact h1
              go_wp2
              go_roundw
              case rel => exact ⟨k + 1, by omega, by go_num, HEq.out HF.out, HO.out.trans HO2.out⟩
              case measure => simp [intOf]; omega
        · have hne2 : ((x.length : Int) != (y.length : Int)) = true := by simp; omega
          have HF := hid (HNe.out fun e => hxy (by rw [e]))
          clear hxy
          go_wp2
          go_region
          go_wp2
          go_ret
          exact ⟨⟨_, rfl, by simpa using HF.out⟩, HO.out.drew⟩
      · obtain rfl : k = c.length := by omega
        have HF : Hid (c = c') := by
          have h1 := HS.out
          rw [List.take_length, HLL.out, List.take_length] at h1
          exact h1
        go_wp2
        go_ret
        exact ⟨⟨_, rfl, by simpa using HF.out⟩, HO.out⟩
  · have hne : ((c.length : Int) != (c'.length : Int)) = true := by simp; omega
    go_enter Tryd.func18, Tryd.ntmps18
    go_wp2
    go_ret
    exact ⟨⟨_, rfl, by simp; rintro rfl; exact hll rfl⟩, Only.refl _ _⟩
end Go.Proofs.YtejmobkfanejbaaDoor
