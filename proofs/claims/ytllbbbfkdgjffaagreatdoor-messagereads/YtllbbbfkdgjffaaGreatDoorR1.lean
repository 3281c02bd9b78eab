/-
  Proved here: isBlank tells whether a message has nothing but Type and Id. No condition.
-/
/-
  Proved here: the document's empty (of package tollbridgeref07) tells whether a rule has nothing. No condition.
-/
/-
  Proved here: what the cursor's methods bytes, number, small, count, short do: they take bytes off the front, or panic with ErrMessage; the cursor's own cell alone turns. Conditions: at most 8 bytes make a number.
-/
import Derived.Test.YtllbbbfkdgjffaaGreatDoorBL
import Derived.Test.YtllbbbfkdgjffaaGreatDoorDF
import Derived.Test.YtllbbbfkdgjffaaGreatDoorO1
import Derived.Test.YtllbbbfkdgjffaaGreatDoorJ3
namespace Go.Proofs.YtllbbbfkdgjffaaGreatDoor
open Go.RowKit

set_option maxHeartbeats 8000000 in
set_option maxRecDepth 100000 in
theorem isBlank_any {T : Nat → Prop} (m : Ms) (s : Sls) (w : World) (hs : Mss T w m s) :
    Calls Tryz.prog 31 #[.agg (msc m s)] w fun e w' => e = .returned (.bool (blank m)) ∧ Below w.heap.size w w' := by
  have hM1 : MB (w.alloc (.cells (msc m s) 37)) w.heap.size m s := heap_alloc_new _ _
  have HB := hid ((Below.refl w.heap.size w).alloc (Nat.le_refl _) (.cells (msc m s) 37))
  obtain ⟨-, -, a2, -⟩ := mb_cells hM1
  have HRg := hid (mb_range hM1)
  have HCp : Hid (Cps T (w.alloc (.cells (msc m s) 37)) s.cp m.r.cp) := Cps.carry (fun k hk h => ⟨h, heap_alloc_old _ _ hk⟩) hs.cp
  have HR := hid (isBlankRule_any m.r s.cp _ HCp.out)
  obtain ⟨pa, pc, hps, -⟩ := hs.ps.form
  obtain ⟨ea, ec, hed, -⟩ := hs.ed.form
  obtain ⟨fa, fc, hfr, -⟩ := hs.fr
  obtain ⟨ha, hc, hhs, -⟩ := hs.hs.form
  have l1 := hs.ps.len
  have l2 := hs.ed.len
  have l3 := hs.fr.len
  have l4 := hs.hs.len
  obtain ⟨W, HWe⟩ : ∃ W, Hid (w.alloc (.cells (msc m s) 37) = W) := ⟨_, rfl⟩
  rw [HWe.out] at HB a2 HRg HR hM1
  have HC : Hid (∀ w2, Below W.heap.size W w2 → w2.cell? ⟨w.heap.size, 28, none⟩ = some (.int .u16 m.po) ∧ w2.cell? ⟨w.heap.size, 29, none⟩ = some (.bool m.up) ∧ w2.cell? ⟨w.heap.size, 30, none⟩ = some (.int .u16 m.sw) ∧ w2.cell? ⟨w.heap.size, 31, none⟩ = some (.slice pa m.ps.length pc) ∧ w2.cell? ⟨w.heap.size, 32, none⟩ = some (.slice ea m.ed.length ec) ∧ w2.cell? ⟨w.heap.size, 33, none⟩ = some (.slice fa m.fr.length fc) ∧ w2.cell? ⟨w.heap.size, 34, none⟩ = some (.slice ha m.hs.length hc) ∧ w2.cell? ⟨w.heap.size, 35, none⟩ = some (.int .u16 m.co)) := by
    show ∀ _, _
    intro w2 hb
    have hM2 : MB w2 w.heap.size m s := by
      show _ = _
      rw [hb.block _ (Array.getElem?_eq_some_iff.1 hM1).1]; exact hM1
    obtain ⟨-, -, -, b28, b29, b30, b31, b32, b33, b34, b35⟩ := mb_cells hM2
    exact ⟨b28, b29, b30, b31.trans (by rw [hps]), b32.trans (by rw [hed]), b33.trans (by rw [hfr]), b34.trans (by rw [hhs]), b35⟩
  clear hM1 hs hps hed hfr hhs HCp
  have HBl : Hid (blank m = (decide (m.dw = 0) && (blRl m.r && (decide (m.po = 0) && ((!m.up) && (decide (m.sw = 0) && (decide (m.co = 0) && (decide (m.ps.length = 0) && (decide (m.ed.length = 0) && (decide (m.fr.length = 0) && (decide (m.hs.length = 0)))))))))))) := rfl
  obtain ⟨x1, X1⟩ : ∃ x, Hid (decide (m.dw = 0) = x) := ⟨_, rfl⟩
  obtain ⟨x2, X2⟩ : ∃ x, Hid (blRl m.r = x) := ⟨_, rfl⟩
  obtain ⟨x3, X3⟩ : ∃ x, Hid (decide (m.po = 0) = x) := ⟨_, rfl⟩
  obtain ⟨x4, X4⟩ : ∃ x, Hid ((!m.up) = x) := ⟨_, rfl⟩
  obtain ⟨x5, X5⟩ : ∃ x, Hid (decide (m.sw = 0) = x) := ⟨_, rfl⟩
  obtain ⟨x6, X6⟩ : ∃ x, Hid (decide (m.co = 0) = x) := ⟨_, rfl⟩
  obtain ⟨x7, X7⟩ : ∃ x, Hid (decide (m.ps.length = 0) = x) := ⟨_, rfl⟩
  obtain ⟨x8, X8⟩ : ∃ x, Hid (decide (m.ed.length = 0) = x) := ⟨_, rfl⟩
  obtain ⟨x9, X9⟩ : ∃ x, Hid (decide (m.fr.length = 0) = x) := ⟨_, rfl⟩
  obtain ⟨x10, X10⟩ : ∃ x, Hid (decide (m.hs.length = 0) = x) := ⟨_, rfl⟩
  rw [X1.out, X2.out, X3.out, X4.out, X5.out, X6.out, X7.out, X8.out, X9.out, X10.out] at HBl
  rw [X2.out] at HR
  have e1 : (m.dw == 0) = x1 := by rw [← X1.out]; rfl
  have e3 : (m.po == 0) = x3 := by rw [← X3.out]; rfl
  have e5 : (m.sw == 0) = x5 := by rw [← X5.out]; rfl
  have e6 : (m.co == 0) = x6 := by rw [← X6.out]; rfl
  have e7 : (((m.ps.length : Nat) : Int) == 0) = x7 := by rw [← X7.out, Bool.eq_iff_iff]; simp
  have e8 : (((m.ed.length : Nat) : Int) == 0) = x8 := by rw [← X8.out, Bool.eq_iff_iff]; simp
  have e9 : (((m.fr.length : Nat) : Int) == 0) = x9 := by rw [← X9.out, Bool.eq_iff_iff]; simp
  have e10 : (((m.hs.length : Nat) : Int) == 0) = x10 := by rw [← X10.out, Bool.eq_iff_iff]; simp
  have e4 : m.up = !x4 := by rw [← X4.out]; simp
  clear X1 X2 X3 X4 X5 X6 X7 X8 X9 X10
  generalize m.up = up at e4 HC
  cases x1
  · go_enter Tryz.func31, Tryz.ntmps31
    go_upto_region 1 with fail
    rw [HWe.out]
    go_wp2_with (fail)
    go_ret
    exact ⟨by rw [HBl.out]; rfl, HB.out⟩
  · skip
    cases x2
    · go_enter Tryz.func31, Tryz.ntmps31
      go_upto_region 1 with fail
      rw [HWe.out]
      go_wp2_with (first
        | (refine ldMid 31 (.tmp 7) rfl rfl _ 3 rfl (rlc m.r s.cp) _ Tryz.underlying31 rfl (sizeRl m.r s.cp) HRg.out ?_)
        | (go_at_call 45; refine (HR.out).mono ?_; rintro e w2 ⟨rfl, hb⟩; obtain ⟨b28, b29, b30, b31, b32, b33, b34, b35⟩ := HC.out w2 hb; have HB2 := hid hb; clear hb))
      go_ret
      exact ⟨by rw [HBl.out]; rfl, HB.out.trans (HB2.out.mono HB.out.size)⟩
    · skip
      cases x3
      · go_enter Tryz.func31, Tryz.ntmps31
        go_upto_region 1 with fail
        rw [HWe.out]
        go_wp2_with (first
          | (refine ldMid 31 (.tmp 7) rfl rfl _ 3 rfl (rlc m.r s.cp) _ Tryz.underlying31 rfl (sizeRl m.r s.cp) HRg.out ?_)
          | (go_at_call 45; refine (HR.out).mono ?_; rintro e w2 ⟨rfl, hb⟩; obtain ⟨b28, b29, b30, b31, b32, b33, b34, b35⟩ := HC.out w2 hb; have HB2 := hid hb; clear hb))
        go_ret
        exact ⟨by rw [HBl.out]; rfl, HB.out.trans (HB2.out.mono HB.out.size)⟩
      · skip
        cases x4
        · simp only [Bool.not_false] at e4
          subst e4
          go_enter Tryz.func31, Tryz.ntmps31
          go_upto_region 1 with fail
          rw [HWe.out]
          go_wp2_with (first
            | (refine ldMid 31 (.tmp 7) rfl rfl _ 3 rfl (rlc m.r s.cp) _ Tryz.underlying31 rfl (sizeRl m.r s.cp) HRg.out ?_)
            | (go_at_call 45; refine (HR.out).mono ?_; rintro e w2 ⟨rfl, hb⟩; obtain ⟨b28, b29, b30, b31, b32, b33, b34, b35⟩ := HC.out w2 hb; have HB2 := hid hb; clear hb))
          go_ret
          exact ⟨by rw [HBl.out]; rfl, HB.out.trans (HB2.out.mono HB.out.size)⟩
        · simp only [Bool.not_true] at e4
          subst e4
          skip
          cases x5
          · go_enter Tryz.func31, Tryz.ntmps31
            go_upto_region 1 with fail
            rw [HWe.out]
            go_wp2_with (first
              | (refine ldMid 31 (.tmp 7) rfl rfl _ 3 rfl (rlc m.r s.cp) _ Tryz.underlying31 rfl (sizeRl m.r s.cp) HRg.out ?_)
              | (go_at_call 45; refine (HR.out).mono ?_; rintro e w2 ⟨rfl, hb⟩; obtain ⟨b28, b29, b30, b31, b32, b33, b34, b35⟩ := HC.out w2 hb; have HB2 := hid hb; clear hb))
            go_ret
            exact ⟨by rw [HBl.out]; rfl, HB.out.trans (HB2.out.mono HB.out.size)⟩
          · skip
            cases x6
            · go_enter Tryz.func31, Tryz.ntmps31
              go_upto_region 1 with fail
              rw [HWe.out]
              go_wp2_with (first
                | (refine ldMid 31 (.tmp 7) rfl rfl _ 3 rfl (rlc m.r s.cp) _ Tryz.underlying31 rfl (sizeRl m.r s.cp) HRg.out ?_)
                | (go_at_call 45; refine (HR.out).mono ?_; rintro e w2 ⟨rfl, hb⟩; obtain ⟨b28, b29, b30, b31, b32, b33, b34, b35⟩ := HC.out w2 hb; have HB2 := hid hb; clear hb))
              go_ret
              exact ⟨by rw [HBl.out]; rfl, HB.out.trans (HB2.out.mono HB.out.size)⟩
            · skip
              cases x7
              · go_enter Tryz.func31, Tryz.ntmps31
                go_upto_region 1 with fail
                rw [HWe.out]
                go_wp2_with (first
                  | (refine ldMid 31 (.tmp 7) rfl rfl _ 3 rfl (rlc m.r s.cp) _ Tryz.underlying31 rfl (sizeRl m.r s.cp) HRg.out ?_)
                  | (go_at_call 45; refine (HR.out).mono ?_; rintro e w2 ⟨rfl, hb⟩; obtain ⟨b28, b29, b30, b31, b32, b33, b34, b35⟩ := HC.out w2 hb; have HB2 := hid hb; clear hb))
                go_ret
                exact ⟨by rw [HBl.out]; rfl, HB.out.trans (HB2.out.mono HB.out.size)⟩
              · skip
                cases x8
                · go_enter Tryz.func31, Tryz.ntmps31
                  go_upto_region 1 with fail
                  rw [HWe.out]
                  go_wp2_with (first
                    | (refine ldMid 31 (.tmp 7) rfl rfl _ 3 rfl (rlc m.r s.cp) _ Tryz.underlying31 rfl (sizeRl m.r s.cp) HRg.out ?_)
                    | (go_at_call 45; refine (HR.out).mono ?_; rintro e w2 ⟨rfl, hb⟩; obtain ⟨b28, b29, b30, b31, b32, b33, b34, b35⟩ := HC.out w2 hb; have HB2 := hid hb; clear hb))
                  go_ret
                  exact ⟨by rw [HBl.out]; rfl, HB.out.trans (HB2.out.mono HB.out.size)⟩
                · skip
                  cases x9
                  · go_enter Tryz.func31, Tryz.ntmps31
                    go_upto_region 1 with fail
                    rw [HWe.out]
                    go_wp2_with (first
                      | (refine ldMid 31 (.tmp 7) rfl rfl _ 3 rfl (rlc m.r s.cp) _ Tryz.underlying31 rfl (sizeRl m.r s.cp) HRg.out ?_)
                      | (go_at_call 45; refine (HR.out).mono ?_; rintro e w2 ⟨rfl, hb⟩; obtain ⟨b28, b29, b30, b31, b32, b33, b34, b35⟩ := HC.out w2 hb; have HB2 := hid hb; clear hb))
                    go_ret
                    exact ⟨by rw [HBl.out]; rfl, HB.out.trans (HB2.out.mono HB.out.size)⟩
                  · skip
                    cases x10
                    · go_enter Tryz.func31, Tryz.ntmps31
                      go_upto_region 1 with fail
                      rw [HWe.out]
                      go_wp2_with (first
                        | (refine ldMid 31 (.tmp 7) rfl rfl _ 3 rfl (rlc m.r s.cp) _ Tryz.underlying31 rfl (sizeRl m.r s.cp) HRg.out ?_)
                        | (go_at_call 45; refine (HR.out).mono ?_; rintro e w2 ⟨rfl, hb⟩; obtain ⟨b28, b29, b30, b31, b32, b33, b34, b35⟩ := HC.out w2 hb; have HB2 := hid hb; clear hb))
                      go_ret
                      exact ⟨by rw [HBl.out]; rfl, HB.out.trans (HB2.out.mono HB.out.size)⟩
                    · go_enter Tryz.func31, Tryz.ntmps31
                      go_upto_region 1 with fail
                      rw [HWe.out]
                      go_wp2_with (first
                        | (refine ldMid 31 (.tmp 7) rfl rfl _ 3 rfl (rlc m.r s.cp) _ Tryz.underlying31 rfl (sizeRl m.r s.cp) HRg.out ?_)
                        | (go_at_call 45; refine (HR.out).mono ?_; rintro e w2 ⟨rfl, hb⟩; obtain ⟨b28, b29, b30, b31, b32, b33, b34, b35⟩ := HC.out w2 hb; have HB2 := hid hb; clear hb))
                      go_ret
                      exact ⟨by rw [HBl.out]; rfl, HB.out.trans (HB2.out.mono HB.out.size)⟩
end Go.Proofs.YtllbbbfkdgjffaaGreatDoor
namespace Go.Proofs.YtllbbbfkdgjffaaGreatDoor
open Go.RowKit

set_option maxHeartbeats 1600000 in
set_option maxRecDepth 100000 in
theorem rempty_any {T : Nat → Prop} (r : Rl) (u : Value) (w : World) (hu : Cps T w u r.cp) :
    Calls Tryz.prog 49 #[.agg (rlc r u)] w fun e w' => e = .returned (.bool (blRl r)) ∧ Below w.heap.size w w' := by
  have hg1 : (w.alloc (.cells (rlc r u) 31)).heap[w.heap.size]? = some (.cells (rlc r u) 31 (0, 0)) := heap_alloc_new _ _
  have HB := hid ((Below.refl w.heap.size w).alloc (Nat.le_refl _) (.cells (rlc r u) 31))
  obtain ⟨q0, q1, q2, Q3⟩ := rl_cells hg1
  obtain ⟨ua, uc, rfl, -⟩ := hu.form
  have hlen := hu.len
  obtain ⟨W, HWe⟩ : ∃ W, Hid (w.alloc (.cells (rlc r (.slice ua r.cp.length uc)) 31) = W) := ⟨_, rfl⟩
  rw [HWe.out] at HB q0 q1 q2 Q3
  have HBl : Hid (blRl r = (decide (r.rk = 0) && (decide (r.ck = 0) && (decide (r.cp.length = 0) && eqM r.mt zf)))) := by
    show _ = _
    unfold blRl
    rw [allU_eqM]
    cases decide (r.rk = 0) <;> cases decide (r.ck = 0) <;> cases decide (r.cp.length = 0) <;> cases eqM r.mt zf <;> rfl
  clear hg1 hu
  obtain ⟨x1, X1⟩ : ∃ x, Hid (decide (r.rk = 0) = x) := ⟨_, rfl⟩
  obtain ⟨x2, X2⟩ : ∃ x, Hid (eqM r.mt zf = x) := ⟨_, rfl⟩
  obtain ⟨x3, X3⟩ : ∃ x, Hid (decide (r.cp.length = 0) = x) := ⟨_, rfl⟩
  obtain ⟨x4, X4⟩ : ∃ x, Hid (decide (r.ck = 0) = x) := ⟨_, rfl⟩
  rw [X1.out, X2.out, X3.out, X4.out] at HBl
  have e1 : (r.rk == 0) = x1 := by rw [← X1.out]; rfl
  have e3 : (((r.cp.length : Nat) : Int) == 0) = x3 := by
    rw [← X3.out, Bool.eq_iff_iff]; simp
  have e4 : (r.ck == 0) = x4 := by rw [← X4.out]; rfl
  clear X1 X3 X4
  cases x1
  · go_enter Tryz.func49, Tryz.ntmps49
    go_upto_region 1 with fail
    rw [HWe.out]
    go_wp2
    go_ret
    exact ⟨by rw [HBl.out]; rfl, HB.out⟩
  · cases x4
    · go_enter Tryz.func49, Tryz.ntmps49
      go_upto_region 1 with fail
      rw [HWe.out]
      go_wp2
      go_ret
      exact ⟨by rw [HBl.out]; rfl, HB.out⟩
    · cases x3
      · go_enter Tryz.func49, Tryz.ntmps49
        go_upto_region 1 with fail
        rw [HWe.out]
        go_wp2
        go_ret
        exact ⟨by rw [HBl.out]; rfl, HB.out⟩
      · go_enter Tryz.func49, Tryz.ntmps49
        go_upto_region 1 with fail
        rw [HWe.out]
        go_wp2_with (first
          | (refine ldMid 28 (.tmp 18) rfl rfl _ 1 rfl (row 22 r.mt) _ Tryz.underlying28 rfl (sizeMt r.mt) Q3.out ?_)
          | (refine bld26 rfl rfl ?_)
          | (refine eql26 (.tmp 19) (.tmp 20) rfl r.mt zf rfl rfl rfl ?_; rw [X2.out]))
        go_ret
        exact ⟨by rw [HBl.out]; rfl, HB.out⟩
end Go.Proofs.YtllbbbfkdgjffaaGreatDoor
namespace Go.Proofs.YtllbbbfkdgjffaaGreatDoor
open Go.RowKit

theorem fld_step {bs : List Int} {a i : Nat} (h : a + i < bs.length) : fld bs a (i + 1) = fld bs a i * 256 + bs.getD (a + i) 0 := by
  unfold fld
  rw [List.take_add_one, List.getElem?_drop, List.getElem?_eq_getElem h]
  simp only [Option.toList]
  rw [num_snoc, List.getD_eq_getElem?_getD, List.getElem?_eq_getElem h]; rfl
theorem fld_bd {bs : List Int} (hB : IsB bs) (a i : Nat) : 0 ≤ fld bs a i ∧ fld bs a i < 2 ^ (8 * i) := by
  have h := num_bd ((hB.drop a).take i)
  refine ⟨h.1, Int.lt_of_lt_of_le h.2 ?_⟩
  have hl : ((bs.drop a).take i).length ≤ i := by rw [List.length_take]; omega
  exact_mod_cast Nat.pow_le_pow_right (by omega) (Nat.mul_le_mul_left 8 hl)
/-- Block c is a cursor's; it has the bytes bs ahead, which lie in blocks of T. -/
def Cur (T : Nat → Prop) (w : World) (c : Nat) (bs : List Int) : Prop := ∃ v, w.heap[c]? = some (.cells #[v] 59 (0, 0)) ∧ SlC T w v bs
theorem Cur.lt {T : Nat → Prop} {w : World} {c : Nat} {bs : List Int} (h : Cur T w c bs) : c < w.heap.size := by
  obtain ⟨v, h, _⟩ := h
  exact (Array.getElem?_eq_some_iff.1 h).1
theorem Cur.isB {T : Nat → Prop} {w : World} {c : Nat} {bs : List Int} (h : Cur T w c bs) : IsB bs := by
  obtain ⟨v, _, h⟩ := h
  exact h.isB
theorem Cur.carry {T T' : Nat → Prop} {w w' : World} {c : Nat} {bs : List Int} (h : Cur T w c bs) (hq : w'.heap[c]? = w.heap[c]?) (hc : ∀ k, k < w.heap.size → T k → T' k ∧ w'.heap[k]? = w.heap[k]?) : Cur T' w' c bs := by
  obtain ⟨v, h1, h2⟩ := h
  exact ⟨v, by rw [hq]; exact h1, h2.carry hc⟩

set_option maxHeartbeats 400000 in
theorem cbytes_no {T : Nat → Prop} (c k : Nat) (bs : List Int) (w : World) (hc : Cur T w c bs) (hk : bs.length < k) :
    Calls Tryz.prog 51 #[.pointer (some ⟨c, 0, none⟩), .int .i64 k] w fun e w' => e = .panicked PC ∧ w' = w := by
  obtain ⟨v, h1, ao, cap, rfl, -⟩ := hc
  have c0 := cell_of_one h1
  have hd : decide (k ≤ bs.length) = false := by simpa using hk
  clear h1 hk
  go_enter Tryz.func51, Tryz.ntmps51
  go_wp2_with (go_at_call 30; refine (must_false _).mono ?_; rintro e w' ⟨rfl, hw⟩; rw [hw]; clear hw w')
  exact ⟨rfl, rfl, rfl⟩

set_option maxHeartbeats 800000 in
theorem cbytes_yes {T : Nat → Prop} (c k : Nat) (bs : List Int) (w : World) (hc : Cur T w c bs) (hT : ¬ T c) (hk : k ≤ bs.length) :
    Calls Tryz.prog 51 #[.pointer (some ⟨c, 0, none⟩), .int .i64 k] w fun e w' => ∃ v, e = .returned v ∧ Only (fun x => x = c) w w' ∧ SlC T w' v (bs.take k) ∧ Cur T w' c (bs.drop k) := by
  obtain ⟨v, h1, hs⟩ := hc
  have HS : Hid (SlC T w v bs) := hs
  obtain ⟨ao, cap, rfl, hcap, hlen, -, hno, h6⟩ := hs
  have c0 := cell_of_one h1
  have f0 := free_of_one h1
  have H1 : Hid (w.heap[c]? = some (.cells #[.slice ao bs.length cap] 59 (0, 0))) := h1
  have hd : decide (k ≤ bs.length) = true := by simpa using hk
  have HFin : Hid (∀ u, SlC T w u (bs.drop k) → Only (fun x => x = c) w (w.setCell ⟨c, 0, none⟩ u) ∧ Cur T (w.setCell ⟨c, 0, none⟩ u) c (bs.drop k) ∧ ∀ x ys, SlC T w x ys → SlC T (w.setCell ⟨c, 0, none⟩ u) x ys) := by
    show ∀ _, _
    intro u hu
    have hcar : ∀ i, i < w.heap.size → T i → T i ∧ (w.setCell ⟨c, 0, none⟩ u).heap[i]? = w.heap[i]? := fun i _ hi => ⟨hi, heap_setCell_other w ⟨c, 0, none⟩ i u (fun e => hT (by have e' : i = c := e; rw [← e']; exact hi))⟩
    exact ⟨(Only.refl (fun x => x = c) w).setCell (p := ⟨c, 0, none⟩) (show c = c from rfl) u, ⟨u, one_setCell H1.out, hu.carry hcar⟩, fun x ys hx => hx.carry hcar⟩
  cases ao with
  | none =>
    have hc0 := hno rfl
    subst hc0
    have hb : bs = [] := by
      rcases bs with _ | ⟨x, r⟩
      · rfl
      · simp at hcap
    subst hb
    have hk0 : k = 0 := by simpa using hk
    subst hk0
    clear h1 h6 hno hcap hlen hk hd
    go_enter Tryz.func51, Tryz.ntmps51
    go_wp2_with (go_at_call 30; refine (must_true _).mono ?_; rintro e w' ⟨rfl, hw⟩; rw [hw]; clear hw w')
    go_ret
    have := HFin.out nilS (SlC.nil T w)
    exact ⟨nilS, rfl, this.1, this.2.2 nilS _ (SlC.nil T w), this.2.1⟩
  | some a =>
    rcases Nat.eq_zero_or_pos bs.length with hb0 | hb0
    · obtain rfl : bs = [] := List.length_eq_zero_iff.1 hb0
      have hk0 : k = 0 := by simpa using hk
      subst hk0
      clear h1 h6 hno hlen hk hd hb0
      by_cases hcz : cap = 0
      · subst hcz
        go_enter Tryz.func51, Tryz.ntmps51
        go_wp2_with (go_at_call 30; refine (must_true _).mono ?_; rintro e w' ⟨rfl, hw⟩; rw [hw]; clear hw w')
        go_ret
        have := HFin.out _ HS.out
        exact ⟨_, rfl, this.1, this.2.2 _ _ HS.out, this.2.1⟩
      · go_enter Tryz.func51, Tryz.ntmps51
        go_wp2_with (go_at_call 30; refine (must_true _).mono ?_; rintro e w' ⟨rfl, hw⟩; rw [hw]; clear hw w')
        go_ret
        have hx : SlC T w (.slice (some a) 0 cap) [] := HS.out
        have := HFin.out _ hx
        exact ⟨_, rfl, this.1, this.2.2 _ _ HS.out, this.2.1⟩
    · obtain ⟨b, o, hTb, e, -⟩ := h6 (fun e => by rw [e] at hb0; simp at hb0)
      cases e
      have HL : Hid ((bs.take k).length = k ∧ (bs.drop k).length = bs.length - k) := ⟨by rw [List.length_take]; omega, List.length_drop⟩
      have HP : Hid (SlC T w (.slice (some ⟨b, o, none⟩) k cap) (bs.take k)) := by
        have := HS.out.cut 0 k cap (by omega) (by omega)
        simp only [Nat.add_zero, List.drop_zero] at this
        exact this
      have HD : Hid (SlC T w (.slice (if cap = k then some ⟨b, o, none⟩ else some ⟨b, o + k, none⟩) (bs.length - k) (cap - k)) (bs.drop k)) := by
        have := HS.out.cutif k (bs.length - k) (by omega)
        rw [List.take_of_length_le (by rw [List.length_drop]; exact Nat.le_refl _)] at this
        exact this
      clear h1 h6 hno hTb
      by_cases hck : cap = k
      · rw [if_pos hck, show cap - k = 0 by omega] at HD
        go_enter Tryz.func51, Tryz.ntmps51
        go_wp2_with (go_at_call 30; refine (must_true _).mono ?_; rintro e w' ⟨rfl, hw⟩; rw [hw]; clear hw w')
        go_ret
        have := HFin.out _ HD.out
        first
          | exact ⟨_, rfl, this.1, this.2.2 _ _ HP.out, this.2.1⟩
          | (subst hck; exact ⟨_, rfl, this.1, this.2.2 _ _ HP.out, this.2.1⟩)
      · rw [if_neg hck] at HD
        go_enter Tryz.func51, Tryz.ntmps51
        go_wp2_with (go_at_call 30; refine (must_true _).mono ?_; rintro e w' ⟨rfl, hw⟩; rw [hw]; clear hw w')
        go_ret
        have := HFin.out _ HD.out
        exact ⟨_, rfl, this.1, this.2.2 _ _ HP.out, this.2.1⟩

theorem or_byte {x y : Int} (h0 : 0 ≤ x) (h1 : x < 72057594037927936) (h2 : 0 ≤ y) (h3 : y < 256) : bits .or .u64 (x * 256) y = x * 256 + y := by
  obtain ⟨a, rfl⟩ := Int.eq_ofNat_of_zero_le h0
  obtain ⟨b, rfl⟩ := Int.eq_ofNat_of_zero_le h2
  have := u64_or_nat (a * 256) b (by omega) (by omega)
  rw [nat_join 8 _ _ (by omega) (by omega)] at this
  rw [show ((a : Int) * 256) = ((a * 256 : Nat) : Int) by omega]
  rw [this]; omega

theorem num_fld (bs : List Int) (k : Nat) : num (bs.take k) = fld bs 0 k := by simp [fld]

set_option maxHeartbeats 400000 in
theorem cnumber_no {T : Nat → Prop} (c k : Nat) (bs : List Int) (w : World) (hc : Cur T w c bs) (hk : bs.length < k) :
    Calls Tryz.prog 40 #[.pointer (some ⟨c, 0, none⟩), .int .i64 k] w fun e w' => e = .panicked PC ∧ w' = w := by
  have HC : Hid (Calls Tryz.prog 51 #[.pointer (some ⟨c, 0, none⟩), .int .i64 k] w fun e w' => e = .panicked PC ∧ w' = w)   := cbytes_no c k bs w hc hk
  clear hc hk
  go_enter Tryz.func40, Tryz.ntmps40
  go_wp2_with (go_at_call 51; refine (HC.out).mono ?_; rintro e w' ⟨rfl, hw⟩; rw [hw]; clear hw w')
  exact ⟨rfl, rfl, rfl⟩

set_option maxHeartbeats 800000 in
theorem cnumber_yes {T : Nat → Prop} (c k : Nat) (bs : List Int) (w : World) (hc : Cur T w c bs) (hT : ¬ T c) (hk : k ≤ bs.length) (h0 : 0 < k) (h4 : k ≤ 8) :
    Calls Tryz.prog 40 #[.pointer (some ⟨c, 0, none⟩), .int .i64 k] w fun e w' => e = .returned (.int .u64 (fld bs 0 k)) ∧ Only (fun x => x = c) w w' ∧ Cur T w' c (bs.drop k) := by
  have HC   := cbytes_yes c k bs w hc hT hk
  have HB : Hid (IsB bs) := hc.isB
  have hL : (bs.take k).length = k := by rw [List.length_take]; omega
  have HC' : Hid (Calls Tryz.prog 51 #[.pointer (some ⟨c, 0, none⟩), .int .i64 k] w fun e w' => ∃ b o k1, e = .returned (.slice (some ⟨b, o, none⟩) k k1) ∧ (Only (fun x => x = c) w w' ∧ Cur T w' c (bs.drop k)) ∧ ∀ j, j < k → w'.cell? ⟨b, o + j, none⟩ = some (.int .u8 (bs.getD j 0))) := by
    refine HC.mono ?_
    rintro e w1 ⟨v1, rfl, ho1, hs1, hc1⟩
    obtain ⟨a1, k1, rfl, -, -, -, -, h9⟩ := hs1
    obtain ⟨b, o, -, rfl, hcl⟩ := h9 (fun e => by rw [e] at hL; simp at hL; omega)
    refine ⟨b, o, k1, by rw [hL], ⟨ho1, hc1⟩, fun j hj => ?_⟩
    rw [hcl j (by rw [hL]; exact hj)]
    simp only [List.getD_eq_getElem?_getD, List.getElem?_take, if_pos hj]
  clear hc HC hL
  go_enter Tryz.func40, Tryz.ntmps40
  go_wp2_with (go_at_call 51; refine (HC'.out).mono ?_; rintro e w1 ⟨b, o, k1, rfl, ho1, hcl⟩
               have HO : Hid (Only (fun x => x = c) w w1 ∧ Cur T w1 c (bs.drop k)) := ho1
               have HCL : Hid (∀ j, j < k → w1.cell? ⟨b, o + j, none⟩ = some (.int .u8 (bs.getD j 0))) := hcl
               clear hcl ho1)
  go_loop [5, 7, 12] (fun n x i => ∃ j : Nat, j ≤ k ∧ i = .int .i64 j ∧ n = .int .u64 (fld bs 0 j)) (fun _ _ i => k - (intOf i).toNat)
  case atStart => exact ⟨0, by omega, rfl, by simp [fld, num]⟩
  case round =>
    obtain ⟨j, hj, rfl, rfl⟩ := hrel
    by_cases hlt2 : j < k
    · obtain ⟨x, hx⟩ : ∃ x, x = bs.getD j 0 := ⟨_, rfl⟩
      obtain ⟨m, hm⟩ : ∃ m, m = fld bs 0 j := ⟨_, rfl⟩
      have hc1 := HCL.out j (by omega)
      have hx0 := HB.out.at j
      have hm0 := fld_bd HB.out 0 j
      have hF := fld_step (bs := bs) (a := 0) (i := j) (by omega)
      rw [Nat.zero_add, ← hx, ← hm] at hF
      rw [← hx] at hc1 hx0
      rw [← hm] at hm0 ⊢
      have h56 : m < 72057594037927936 := Int.lt_of_lt_of_le hm0.2 (by
        have : (2 : Int) ^ (8 * j) ≤ 2 ^ 56 := by exact_mod_cast Nat.pow_le_pow_right (by omega) (show 8 * j ≤ 56 by omega)
        exact this)
      have hm1 := hm0.1
      have HR : Hid (bits .or .u64 (m * 256) x = fld bs 0 (j + 1)) := by
        show _ = _
        rw [or_byte hm1 h56 hx0.1 hx0.2, hF]
      clear hx hm hF hm0
      go_wp2
      go_round
      case rel => exact ⟨j + 1, by omega, by go_num, by rw [HR.out]⟩
      case measure => simp [intOf]; omega
    · obtain rfl : j = k := by omega
      clear HCL
      go_wp2
      go_ret
      exact ⟨rfl, HO.out⟩


/-- What a reading call leaves: nothing old but the cursor has turned; what the plain reading tells, or the panic. -/
def RdP {α : Type} (T : Nat → Prop) (c : Nat) (o : Option (α × List Int)) (V : Nat → World → Value → α → Prop) (w : World) (e : Ending) (w' : World) : Prop :=
  Only (fun x => x = c ∨ w.heap.size ≤ x) w w' ∧ ((o = none ∧ e = .panicked PC) ∨ ∃ x r v, o = some (x, r) ∧ e = .returned v ∧ Cur T w' c r ∧ V w.heap.size w' v x)
theorem RdP.no {α : Type} {T : Nat → Prop} {c : Nat} {o : Option (α × List Int)} {V : Nat → World → Value → α → Prop} {w w' : World} (h : Only (fun x => x = c ∨ w.heap.size ≤ x) w w') (ho : o = none) : RdP T c o V w (.panicked PC) w' := ⟨h, Or.inl ⟨ho, rfl⟩⟩
theorem RdP.yes {α : Type} {T : Nat → Prop} {c : Nat} {o : Option (α × List Int)} {V : Nat → World → Value → α → Prop} {w w' : World} {x : α} {r : List Int} {v : Value} (h : Only (fun x => x = c ∨ w.heap.size ≤ x) w w') (ho : o = some (x, r)) (hc : Cur T w' c r) (hv : V w.heap.size w' v x) : RdP T c o V w (.returned v) w' := ⟨h, Or.inr ⟨x, r, v, ho, rfl, hc, hv⟩⟩
theorem RdP.bad {α : Type} {T : Nat → Prop} {c : Nat} {V : Nat → World → Value → α → Prop} {w w' : World} {e : Ending} (h : RdP T c none V w e w') : e = .panicked PC ∧ Only (fun x => x = c ∨ w.heap.size ≤ x) w w' := by
  obtain ⟨h1, ⟨_, h2⟩ | ⟨_, _, _, h2, _⟩⟩ := h
  · exact ⟨h2, h1⟩
  · cases h2
theorem RdP.get {α : Type} {T : Nat → Prop} {c : Nat} {V : Nat → World → Value → α → Prop} {w w' : World} {e : Ending} {x : α} {r : List Int} (h : RdP T c (some (x, r)) V w e w') : ∃ v, e = .returned v ∧ Only (fun x => x = c ∨ w.heap.size ≤ x) w w' ∧ Cur T w' c r ∧ V w.heap.size w' v x := by
  obtain ⟨h1, ⟨h2, _⟩ | ⟨x', r', v, h2, h3, h4, h5⟩⟩ := h
  · cases h2
  · cases h2
    exact ⟨v, h3, h1, h4, h5⟩
theorem Cur.len {T : Nat → Prop} {w : World} {c : Nat} {bs : List Int} (h : Cur T w c bs) : bs.length ≤ 140737488355328 := by
  obtain ⟨_, _, hs⟩ := h
  exact hs.len
def VN (k : IntKind) : Nat → World → Value → Int → Prop := fun _ _ v x => v = .int k x
/-- A NUMBER IS READ. -/
theorem cnumber_any {T : Nat → Prop} (c k : Nat) (bs : List Int) (w : World) (hc : Cur T w c bs) (hT : ¬ T c) (h0 : 0 < k) (h8 : k ≤ 8) :
    Calls Tryz.prog 40 #[.pointer (some ⟨c, 0, none⟩), .int .i64 k] w (RdP T c (tk k bs) (VN .u64) w) := by
  by_cases hk : k ≤ bs.length
  · refine (cnumber_yes c k bs w hc hT hk h0 h8).mono ?_
    rintro e w' ⟨rfl, h1, h2⟩
    exact RdP.yes (h1.mono fun _ h => Or.inl h) (by rw [tk_some hk]) h2 (by unfold VN; rw [num_fld])
  · refine (cnumber_no c k bs w hc (by omega)).mono ?_
    rintro e w' ⟨rfl, rfl⟩
    exact RdP.no (Only.refl _ _) (tk_short (by omega))
theorem tk_bd {k : Nat} {bs r : List Int} {n : Int} (hB : IsB bs) (h : tk k bs = some (n, r)) : 0 ≤ n ∧ n < 2 ^ (8 * k) := by
  obtain ⟨_, h0, h1, _⟩ := tk_inv hB h
  exact ⟨h0, h1⟩
def rdI8 (bs : List Int) : Option (Int × List Int) := (tk 1 bs).map fun x => (i8 x.1, x.2)
theorem csmall_any {T : Nat → Prop} (c : Nat) (bs : List Int) (w : World) (hc : Cur T w c bs) (hT : ¬ T c) :
    Calls Tryz.prog 41 #[.pointer (some ⟨c, 0, none⟩)] w (RdP T c (rdI8 bs) (VN .i8) w) := by
  have HN := hid (cnumber_any c 1 bs w hc hT (by omega) (by omega))
  have hB := hc.isB
  unfold rdI8
  cases ht : tk 1 bs with
  | none =>
    rw [ht] at HN
    clear hc hB ht
    go_enter Tryz.func41, Tryz.ntmps41
    go_wp2_with (go_at_call 40; refine (HN.out).mono ?_; intro e w1 h9; obtain ⟨rfl, hq⟩ := h9.bad; have H1 := hid hq; clear hq h9)
    exact ⟨rfl, RdP.no H1.out rfl⟩
  | some p =>
    obtain ⟨n, r⟩ := p
    rw [ht] at HN
    have hb := tk_bd hB ht
    rw [pw1] at hb
    obtain ⟨n0, n1⟩ := hb
    clear hc hB ht
    by_cases hs : n < 128
    · have HI : Hid (i8 n = n) := by show _ = _; unfold i8; rw [if_pos hs]
      go_enter Tryz.func41, Tryz.ntmps41
      go_wp2_with (go_at_call 40; refine (HN.out).mono ?_; intro e w1 h9; obtain ⟨v, rfl, h1, h2, rfl⟩ := h9.get; have H1 := hid (And.intro h1 h2); clear h1 h2 h9)
      go_ret
      exact RdP.yes H1.out.1 rfl H1.out.2 (by unfold VN; rw [HI.out]; rfl)
    · have HI : Hid (i8 n = IntKind.i8.wrap n) := by
        show _ = _
        unfold i8; rw [if_neg hs]; simp [IntKind.wrap, IntKind.bits, IntKind.signed]; omega
      go_enter Tryz.func41, Tryz.ntmps41
      go_wp2_with (go_at_call 40; refine (HN.out).mono ?_; intro e w1 h9; obtain ⟨v, rfl, h1, h2, rfl⟩ := h9.get; have H1 := hid (And.intro h1 h2); clear h1 h2 h9)
      go_ret
      exact RdP.yes H1.out.1 rfl H1.out.2 (by unfold VN; rw [HI.out]; rfl)
theorem ccount_any {T : Nat → Prop} (c : Nat) (bs : List Int) (w : World) (hc : Cur T w c bs) (hT : ¬ T c) :
    Calls Tryz.prog 39 #[.pointer (some ⟨c, 0, none⟩)] w (RdP T c (tk 2 bs) (VN .i64) w) := by
  have HN := hid (cnumber_any c 2 bs w hc hT (by omega) (by omega))
  have hB := hc.isB
  cases ht : tk 2 bs with
  | none =>
    rw [ht] at HN
    clear hc hB ht
    go_enter Tryz.func39, Tryz.ntmps39
    go_wp2_with (go_at_call 40; refine (HN.out).mono ?_; intro e w1 h9; obtain ⟨rfl, hq⟩ := h9.bad; have H1 := hid hq; clear hq h9)
    exact ⟨rfl, RdP.no H1.out rfl⟩
  | some p =>
    obtain ⟨n, r⟩ := p
    rw [ht] at HN
    have hb := tk_bd hB ht
    rw [pw2] at hb
    obtain ⟨n0, n1⟩ := hb
    clear hc hB ht
    go_enter Tryz.func39, Tryz.ntmps39
    go_wp2_with (go_at_call 40; refine (HN.out).mono ?_; intro e w1 h9; obtain ⟨v, rfl, h1, h2, rfl⟩ := h9.get; have H1 := hid (And.intro h1 h2); clear h1 h2 h9)
    go_ret
    exact RdP.yes H1.out.1 rfl H1.out.2 rfl
theorem cshort_any {T : Nat → Prop} (c : Nat) (bs : List Int) (w : World) (hc : Cur T w c bs) (hT : ¬ T c) :
    Calls Tryz.prog 56 #[.pointer (some ⟨c, 0, none⟩)] w (RdP T c (tk 2 bs) (VN .u16) w) := by
  have HN := hid (cnumber_any c 2 bs w hc hT (by omega) (by omega))
  have hB := hc.isB
  cases ht : tk 2 bs with
  | none =>
    rw [ht] at HN
    clear hc hB ht
    go_enter Tryz.func56, Tryz.ntmps56
    go_wp2_with (go_at_call 40; refine (HN.out).mono ?_; intro e w1 h9; obtain ⟨rfl, hq⟩ := h9.bad; have H1 := hid hq; clear hq h9)
    exact ⟨rfl, RdP.no H1.out rfl⟩
  | some p =>
    obtain ⟨n, r⟩ := p
    rw [ht] at HN
    have hb := tk_bd hB ht
    rw [pw2] at hb
    obtain ⟨n0, n1⟩ := hb
    clear hc hB ht
    go_enter Tryz.func56, Tryz.ntmps56
    go_wp2_with (go_at_call 40; refine (HN.out).mono ?_; intro e w1 h9; obtain ⟨v, rfl, h1, h2, rfl⟩ := h9.get; have H1 := hid (And.intro h1 h2); clear h1 h2 h9)
    go_ret
    exact RdP.yes H1.out.1 rfl H1.out.2 rfl
end Go.Proofs.YtllbbbfkdgjffaaGreatDoor
