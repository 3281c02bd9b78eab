/-
  Proved here: ActionsSame says true of every two lists of copies. Condition: the widths' table holds its numbers.
-/
import Derived.Test.YtejmobkfanejbaaDoorSF
import Derived.Test.YtejmobkfanejbaaDoorD3
namespace Go.Proofs.YtejmobkfanejbaaDoor
open Go.RowKit

theorem the_bool (p : Prop) : ∃ b : Bool, b = true ↔ p := by
  by_cases h : p
  · exact ⟨true, by simp [h]⟩
  · exact ⟨false, by simp [h]⟩
theorem bool_of {p : Prop} {b r : Bool} (h1 : b = true ↔ p) (h2 : r = true ↔ p) : r = b := by
  cases b <;> cases r <;> simp_all
/-- Which memory stays. -/
abbrev Still (w w' : World) : Prop := Only (fun _ => False) w w'
theorem Cps.still {T : Nat → Prop} {w w' : World} {v : Value} {c : List (List Ac)} (h : Cps T w v c) (ho : Still w w') : Cps T w' v c := Cps.carry (fun b _ hT => ⟨hT, ho.block b (fun hf => hf)⟩) h
set_option maxHeartbeats 3200000 in
set_option maxRecDepth 100000 in
theorem same_law (w : World) (v v' : Value) (c c' : List (List Ac)) {T T' : Nat → Prop} (hc : Cps T w v c) (hc' : Cps T' w v' c') (ht : Tab w) : Calls Tryd.prog 5 #[v, v'] w fun e w' => e = .returned (.bool true) ∧ Below w.heap.size w w' := by
  obtain ⟨b, hb⟩ := the_bool (c = c')
  have HG1 := hid (great_any hc)
  have HG2 := hid (great_any hc')
  have HWk : Hid (∀ x, Still w x → Calls Tryd.prog 10 #[] x fun e w' => e = .returned (.bool true) ∧ Below w.heap.size w w') := fun x hx => (wakes_any x (ht.on (still_below hx))).mono fun e w' ⟨h1, h2⟩ => ⟨h1, (still_below hx).trans (h2.mono hx.size)⟩
  have HA : Hid (∀ x, Still w x → Calls Tryd.prog 17 #[v, v'] x fun e w' => e = .returned (.bool b) ∧ Still w w') := fun x hx => (asame_any (hc.still hx) (hc'.still hx)).mono fun e w' ⟨⟨r, h1, h2⟩, h3⟩ => ⟨by rw [h1, bool_of hb h2], hx.trans h3⟩
  have HA' : Hid (∀ x, Still w x → Calls Tryd.prog 17 #[v', v] x fun e w' => e = .returned (.bool b) ∧ Still w w') := fun x hx => (asame_any (hc'.still hx) (hc.still hx)).mono fun e w' ⟨⟨r, h1, h2⟩, h3⟩ => ⟨by rw [h1, bool_of hb (h2.trans eq_comm)], hx.trans h3⟩
  have HS : Hid (∀ x, Still w x → Calls Tryd.prog 17 #[v, v] x fun e w' => e = .returned (.bool true) ∧ Still w w') := fun x hx => (asame_any (hc.still hx) (hc.still hx)).mono fun e w' ⟨⟨r, h1, h2⟩, h3⟩ => ⟨by rw [h1, h2.2 rfl], hx.trans h3⟩
  have HD : Hid (∀ x, Still w x → Calls Tryd.prog 18 #[v, v'] x fun e w' => e = .returned (.bool b) ∧ Still w w') := fun x hx => (dsame_any (hc.still hx) (hc'.still hx)).mono fun e w' ⟨⟨r, h1, h2⟩, h3⟩ => ⟨by rw [h1, bool_of hb h2], hx.trans h3⟩
  have H0 : Hid (Still w w) := Only.refl _ _
  have H1 := hid (HA.out w H0.out)
  have HW0 := hid (HWk.out w H0.out)
  obtain ⟨ao, cap, rfl, -⟩ := hc.form
  obtain ⟨ao', cap', rfl, -⟩ := hc'.form
  clear hc hc' ht hb H0
  have hbb : (b == b) = true := by simp
  go_enter Tryd.func5, Tryd.ntmps5
  go_upto_region 3 with (first
    | (go_at_call 9; refine (HG1.out).mono ?_; rintro e w1 ⟨⟨g, rfl, -⟩, rfl⟩; clear HG1; cases g)
    | (go_at_call 9; refine (HG2.out).mono ?_; rintro e w1 ⟨⟨g, rfl, -⟩, rfl⟩; clear HG2; cases g)
    | (go_at_call 10; refine (HW0.out).mono ?_; rintro e w1 ⟨rfl, hb1⟩; have HB1 := hid hb1; clear HW0 HWk hb1))
  · go_wp2_with (first
      | (go_at_call 17; refine (H1.out).mono ?_; rintro e x1 ⟨rfl, o1⟩; have H2 := hid (HD.out x1 o1); clear H1 o1 HD)
      | (go_at_call 18; refine (H2.out).mono ?_; rintro e x2 ⟨rfl, o2⟩; have H3 := hid (HA'.out x2 o2); clear H2 o2 HA')
      | (go_at_call 17; refine (H3.out).mono ?_; rintro e x3 ⟨rfl, o3⟩; have H4 := hid (HA.out x3 o3); clear H3 o3 HA)
      | (go_at_call 17; refine (H4.out).mono ?_; rintro e x4 ⟨rfl, o4⟩; have H5 := hid (HS.out x4 o4); clear H4 o4 HS)
      | (go_at_call 17; refine (H5.out).mono ?_; rintro e x5 ⟨rfl, o5⟩; have H6 := hid (HWk.out x5 o5); clear H5 o5 HWk)
      | (go_at_call 10; refine (H6.out).mono ?_; rintro e x6 ⟨rfl, hb6⟩; have HB6 := hid hb6; clear H6 hb6))
    go_ret
    exact ⟨rfl, HB6.out⟩
  · go_ret
    exact ⟨rfl, HB1.out⟩
  · go_ret
    exact ⟨rfl, HB1.out⟩
end Go.Proofs.YtejmobkfanejbaaDoor
