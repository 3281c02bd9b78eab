/-
  Proved here: slices.Equal at actions, slices.EqualFunc with it, Same of package actions: true just if both are the same; no memory turns. No condition.
-/
import Derived.Test.YtejmobkfanejbaaDoorB3
namespace Go.Proofs.YtejmobkfanejbaaDoor
open Go.RowKit

theorem Ac.ne {d f n d' f' n' : Int} (h : d ≠ d' ∨ f ≠ f' ∨ n ≠ n') : (⟨d, f, n⟩ : Ac) ≠ ⟨d', f', n'⟩ := by
  intro e
  simp only [Ac.mk.injEq] at e
  omega
theorem ne_at {α : Type} {l l' : List α} {k : Nat} (h1 : k < l.length) (h2 : k < l'.length) (h : l[k] ≠ l'[k]) : l ≠ l' := by
  rintro rfl; exact h rfl
theorem still_below {w w' : World} (h : Only (fun _ => False) w w') : Below w.heap.size w w' := h.below fun _ hf => hf.elim
set_option maxHeartbeats 3200000 in
set_option maxRecDepth 100000 in
theorem equal_any {T T' : Nat → Prop} {w : World} {v v' : Value} {l l' : List Ac} (h : Acs T w v l) (h' : Acs T' w v' l') :
    Calls Tryd.prog 29 #[v, v'] w fun e w' => (∃ r, e = .returned (.bool r) ∧ (r = true ↔ l = l')) ∧ Only (fun _ => False) w w' := by
  obtain ⟨ao, cap, rfl, hcap⟩ := h.form
  obtain ⟨ao', cap', rfl, hcap'⟩ := h'.form
  have hlen := h.len
  have hlen' := h'.len
  have H := hid h
  have H' := hid h'
  clear h h'
  by_cases hll : l.length = l'.length
  · have hne : ((l.length : Int) != (l'.length : Int)) = false := by simp [hll]
    have HLL := hid hll
    clear hll
    go_enter Tryd.func29, Tryd.ntmps29
    go_wp2
    go_loopw [5, 13] (fun _ i wr => ∃ k : Nat, k ≤ l.length ∧ i = .int .i64 k ∧ l.take k = l'.take k ∧ Only (fun _ => False) w wr) (fun _ i _ => l.length - (intOf i).toNat)
    case atStart => exact ⟨0, by omega, rfl, by simp, Only.refl _ _⟩
    case round =>
      obtain ⟨k, hk, rfl, hsm, ho⟩ := hrel
      have HO := hid ho
      have HS := hid hsm
      clear ho hsm
      by_cases hlt : k < l.length
      · have hlt' : k < l'.length := by have := HLL.out; omega
        have hB := still_below HO.out
        obtain ⟨p, q, rfl, g0, g1, g2, -⟩ := H.out.at hB hlt
        obtain ⟨p', q', rfl, g0', g1', g2', -⟩ := H'.out.at hB hlt'
        have HNe : Hid (l[k] ≠ l'[k] → ¬ l = l') := fun h' => ne_at hlt hlt' h'
        have HEq : Hid (l[k] = l'[k] → l.take (k + 1) = l'.take (k + 1)) := fun h' => by rw [take_one' l k hlt, take_one' l' k hlt', HS.out, h']
        clear HS hB
        generalize l[k] = x at g0 g1 g2 HNe HEq
        generalize l'[k] = y at g0' g1' g2' HNe HEq
        obtain ⟨d, f, n⟩ := x
        obtain ⟨d', f', n'⟩ := y
        by_cases e1 : d = d'
        · by_cases e2 : f = f'
          · by_cases e3 : n = n'
            · subst e1 e2 e3
              have HF := hid (HEq.out rfl)
              go_wp2
              go_region
              go_wp2
              go_roundw
              case rel => exact ⟨k + 1, by omega, by go_num, HF.out, HO.out.drew⟩
              case measure => simp [intOf]; omega
            · have HF := hid (HNe.out (Ac.ne (Or.inr (Or.inr e3))))
              subst e1 e2
              have t3 : (n == n') = false := beq_eq_false_iff_ne.2 e3
              go_wp2
              go_region
              go_wp2
              go_ret
              exact ⟨⟨_, rfl, by simpa using HF.out⟩, HO.out.drew⟩
          · have HF := hid (HNe.out (Ac.ne (Or.inr (Or.inl e2))))
            subst e1
            have t3 : (f == f') = false := beq_eq_false_iff_ne.2 e2
            go_wp2
            go_region
            go_wp2
            go_ret
            exact ⟨⟨_, rfl, by simpa using HF.out⟩, HO.out.drew⟩
        · have HF := hid (HNe.out (Ac.ne (Or.inl e1)))
          have t3 : (d == d') = false := beq_eq_false_iff_ne.2 e1
          go_wp2
          go_region
          go_wp2
          go_ret
          exact ⟨⟨_, rfl, by simpa using HF.out⟩, HO.out.drew⟩
      · obtain rfl : k = l.length := by omega
        have HF : Hid (l = l') := by
          have h1 := HS.out
          rw [List.take_length, HLL.out, List.take_length] at h1
          exact h1
        go_wp2
        go_ret
        exact ⟨⟨_, rfl, by simpa using HF.out⟩, HO.out⟩
  · have hne : ((l.length : Int) != (l'.length : Int)) = true := by simp; omega
    go_enter Tryd.func29, Tryd.ntmps29
    go_wp2
    go_ret
    exact ⟨⟨_, rfl, by simp; rintro rfl; exact hll rfl⟩, Only.refl _ _⟩
abbrev clE : Value := .func (.func 29) #[] #[]
theorem entE (args : Array Value) (w : World) : (callFunc 29 args).run Tryd.prog w = .ok (.enter 29 args) w := rfl
set_option maxHeartbeats 3200000 in
set_option maxRecDepth 100000 in
theorem eqF_any {T T' : Nat → Prop} {w : World} {v v' : Value} {c c' : List (List Ac)} (h : Cps T w v c) (h' : Cps T' w v' c') :
    Calls Tryd.prog 28 #[v, v', clE] w fun e w' => (∃ r, e = .returned (.bool r) ∧ (r = true ↔ c = c')) ∧ Only (fun _ => False) w w' := by
  obtain ⟨ao, cap, rfl, hcap⟩ := h.form
  obtain ⟨ao', cap', rfl, hcap'⟩ := h'.form
  have hlen := h.len
  have hlen' := h'.len
  have H := hid h
  have H' := hid h'
  clear h h'
  by_cases hll : c.length = c'.length
  · have hne : ((c.length : Int) != (c'.length : Int)) = false := by simp [hll]
    have HLL := hid hll
    clear hll
    go_enter Tryd.func28, Tryd.ntmps28
    go_wp2
    go_loopw [17] (fun i wr => ∃ k : Nat, k ≤ c.length ∧ i = .int .i64 k ∧ c.take k = c'.take k ∧ Only (fun _ => False) w wr) (fun i _ => c.length - (intOf i).toNat)
    case atStart => exact ⟨0, by omega, rfl, by simp, Only.refl _ _⟩
    case round =>
      obtain ⟨k, hk, rfl, hsm, ho⟩ := hrel
      generalize wr = wx at *
      have HO := hid ho
      have HS := hid hsm
      clear ho hsm
      by_cases hlt : k < c.length
      · have hlt' : k < c'.length := by have := HLL.out; omega
        have hB := still_below HO.out
        obtain ⟨p, q, a1, c1, rfl, g0, -, -, hu⟩ := H.out.at hB hlt
        obtain ⟨p', q', a1', c1', rfl, g0', -, -, hu'⟩ := H'.out.at hB hlt'
        have HNe : Hid (c[k] ≠ c'[k] → ¬ c = c') := fun h' => ne_at hlt hlt' h'
        have HEq : Hid (c[k] = c'[k] → c.take (k + 1) = c'.take (k + 1)) := fun h' => by rw [take_one' c k hlt, take_one' c' k hlt', HS.out, h']
        have hbd : decide ((k : Int) < (c'.length : Int)) = true := decide_eq_true (by omega)
        clear HS hB
        have HC := hid (equal_any hu hu')
        clear hu hu'
        generalize c[k] = x at g0 HNe HEq HC
        generalize c'[k] = y at g0' HNe HEq HC
        go_wp2_with (refine callCl 29 (.tmp 26) [.tmp 27, .tmp 28] _ [.slice a1 x.length c1, .slice a1' y.length c1'] [] rfl rfl rfl rfl entE _ HC.out ?_; rintro r w5 ⟨⟨rb, rfl, hr⟩, ho5⟩; refine Or.inl ⟨_, rfl, ?_⟩; have HO5 := hid (HO.out.trans ho5); have HR := hid hr; clear HC ho5 hr; cases rb)
        · go_ret
          have hnn : ¬ c = c' := HNe.out fun e => by have := HR.out.2 e; cases this
          exact ⟨⟨_, rfl, by simpa using hnn⟩, HO5.out⟩
        · go_roundw
          case rel => exact ⟨k + 1, by omega, by go_num, HEq.out (HR.out.1 rfl), HO5.out⟩
          case measure => simp [intOf]; omega
      · obtain rfl : k = c.length := by omega
        have HF : Hid (c = c') := by
          have h1 := HS.out
          rw [List.take_length, HLL.out, List.take_length] at h1
          exact h1
        go_wp2
        go_ret
        exact ⟨⟨_, rfl, by simpa using HF.out⟩, HO.out⟩
  · have hne : ((c.length : Int) != (c'.length : Int)) = true := by simp; omega
    go_enter Tryd.func28, Tryd.ntmps28
    go_wp2
    go_ret
    exact ⟨⟨_, rfl, by simp; rintro rfl; exact hll rfl⟩, Only.refl _ _⟩
theorem asame_any {T T' : Nat → Prop} {w : World} {v v' : Value} {c c' : List (List Ac)} (h : Cps T w v c) (h' : Cps T' w v' c') :
    Calls Tryd.prog 17 #[v, v'] w fun e w' => (∃ r, e = .returned (.bool r) ∧ (r = true ↔ c = c')) ∧ Only (fun _ => False) w w' := by
  have HC := hid (eqF_any h h')
  obtain ⟨ao, cap, rfl, hcap⟩ := h.form
  obtain ⟨ao', cap', rfl, hcap'⟩ := h'.form
  clear h h'
  go_enter Tryd.func17, Tryd.ntmps17
  go_wp2_with (go_at_call 28; refine (HC.out).mono ?_; rintro e w' ⟨⟨r, rfl, hr⟩, ho⟩; have HR := hid hr; have HO := hid ho; clear HC hr ho)
  go_ret
  exact ⟨⟨_, rfl, HR.out⟩, HO.out⟩
end Go.Proofs.YtejmobkfanejbaaDoor
