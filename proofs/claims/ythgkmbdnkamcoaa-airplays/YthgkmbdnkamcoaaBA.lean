/-
  Proved here: the document's Do. Conditions: fewer than a million ones.
-/
import Derived.Test.YthgkmbdnkamcoaaB7
import Derived.Test.YthgkmbdnkamcoaaB8
import Derived.Test.YthgkmbdnkamcoaaB9
namespace Go.Proofs.Ythgkmbdnkamcoaa
open Go.RowKit

theorem rdo_bad {S : Nat → Prop} (w : World) (v : Value) (a : Ra) (x y : Int) (h : RR S w v a) (hb : rdoE a x y ≠ 0) : Calls Try.prog 17 #[v, .int .u8 x, .int .i64 y] w fun e w' => RdP S w v a x y e w' := by
  have HA := hid h
  obtain ⟨g, f, vr, vc, ps, qs, rfl, h, hrow, hcame⟩ := h
  have HS : Hid (rdoS a x y = a) := by show rdoS a x y = a; unfold rdoS; rw [if_neg hb]
  obtain ⟨c0, -⟩ := two_cells h.hg
  obtain ⟨ao, cap, rfl⟩ := h.row.form
  have hl : a.l.length = ps.length := by rw [hrow]; simp
  by_cases h4 : 4 < x
  · have hd : decide ((4 : Int) < x) = true := decide_eq_true h4
    have HE : Hid (rdoE a x y = 2) := by show rdoE a x y = 2; unfold rdoE; rw [if_pos (show bad x y from Or.inl h4)]
    clear h hb hrow hcame
    go_enter Try.func17, Try.ntmps17
    go_wp2
    go_ret
    exact ⟨by rw [HE.out]; rfl, Only.refl _ _, by rw [HS.out]; exact HA.out⟩
  · have hd : decide ((4 : Int) < x) = false := decide_eq_false h4
    by_cases h0 : y < 0
    · have hd0 : decide (y < 0) = true := decide_eq_true h0
      have HE : Hid (rdoE a x y = 2) := by show rdoE a x y = 2; unfold rdoE; rw [if_pos (show bad x y from Or.inr h0)]
      clear h hb hrow hcame
      go_enter Try.func17, Try.ntmps17
      go_wp2
      go_ret
      exact ⟨by rw [HE.out]; rfl, Only.refl _ _, by rw [HS.out]; exact HA.out⟩
    · have hd0 : decide (y < 0) = false := decide_eq_false h0
      have hne : ¬ bad x y := by unfold bad; omega
      have hz : ps.length = 0 := by
        rcases Nat.eq_zero_or_pos ps.length with e | e
        · exact e
        · exact absurd (by unfold rdoE; rw [if_neg hne, if_neg (by omega)]) hb
      have HE : Hid (rdoE a x y = 5) := by show rdoE a x y = 5; unfold rdoE; rw [if_neg hne, if_pos (by omega)]
      have hq : ((ps.length : Int) == 0) = true := by rw [hz]; rfl
      clear h hb hrow hcame hl hne hz
      go_enter Try.func17, Try.ntmps17
      go_wp2
      go_ret
      exact ⟨by rw [HE.out]; rfl, Only.refl _ _, by rw [HS.out]; exact HA.out⟩
theorem rdo_any {S : Nat → Prop} (w : World) (v : Value) (a : Ra) (x y : Int) (h : RR S w v a) (hf : Fresh S w) (hx : 0 ≤ x) (hy : y < 9223372036854775808) (hlr : a.l.length < 1000000) (hlc : a.n.length < 1000000) : Calls Try.prog 17 #[v, .int .u8 x, .int .i64 y] w fun e w' => RdP S w v a x y e w' := by
  by_cases hE : rdoE a x y = 0
  · have h4 : x ≤ 4 := by
      unfold rdoE at hE
      split at hE
      · cases hE
      · rename_i hb
        unfold bad at hb; omega
    have : x = 0 ∨ x = 1 ∨ x = 2 ∨ x = 3 ∨ x = 4 := by omega
    rcases this with rfl | rfl | rfl | rfl | rfl
    · exact rdo_0 w v a y h hf hy hE hlr hlc
    · exact rdo_1 w v a y h hf hy hE hlr hlc
    · exact rdo_2 w v a y h hf hy hE hlr hlc
    · exact rdo_3 w v a y h hf hy hE hlr hlc
    · exact rdo_4 w v a y h hf hy hE hlr hlc
  · exact rdo_bad w v a x y h hE
end Go.Proofs.Ythgkmbdnkamcoaa
