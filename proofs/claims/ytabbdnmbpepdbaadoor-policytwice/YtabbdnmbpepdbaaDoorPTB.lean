/-
  Proved here: PolicyTwice's body says true of a policy that Check refuses. Conditions: the tables; the policy lies in old memory.
-/
import Derived.Test.YtabbdnmbpepdbaaDoorPTA
namespace Go.Proofs.YtabbdnmbpepdbaaDoor
open Go.RowKit
set_option maxRecDepth 100000

set_option maxHeartbeats 6400000 in
theorem twice_no (p : Pi) (cs : Array Value) (w : World) (hp : PiV (fun b => b < w.heap.size) w p cs) (hwp : Wp p) (hc : chk p ≠ 0) (hT : TabP w) (hz : 3 ≤ w.heap.size) :
    Calls Tryd.prog 6 #[.agg cs] w fun e w' => e = .returned (.bool true) ∧ Below w.heap.size w w' := by
  have HPV := hid hp
  have HTw := hid hT
  obtain ⟨x0, x1, x2, x3, ao, cap, xs, rfl, -, -, -⟩ := hp.five
  have hB1 : Below w.heap.size w (w.alloc (.cells #[x0, x1, x2, x3, .slice ao p.qs.length cap] 29)) := (Below.refl _ _).alloc (Nat.le_refl _) _
  have HN1 : Hid ((w.alloc (.cells #[x0, x1, x2, x3, .slice ao p.qs.length cap] 29)).heap[w.heap.size]? = some (.cells #[x0, x1, x2, x3, .slice ao p.qs.length cap] 29 (0, 0))) := heap_alloc_new _ _
  have HPl := hid (plain8_no p _ (w.alloc (.cells #[x0, x1, x2, x3, .slice ao p.qs.length cap] 29)) (HPV.out.carry fun b hb hS => ⟨by have := hB1.size; omega, hB1.block b hb⟩) hwp hc (hT.on hB1 hz) (by have := hB1.size; omega))
  have HB1 := hid hB1
  have HCk : Hid (∀ W, Below w.heap.size w W → Calls Tryd.prog 9 #[.agg #[x0, x1, x2, x3, .slice ao p.qs.length cap]] W fun e w' => e = .returned (.int .i64 ((chk p : Nat) : Int)) ∧ Below W.heap.size W w') := fun W hb =>
    check8_any p _ W (HPV.out.carry fun b hb2 hS => ⟨by have := hb.size; omega, hb.block b hb2⟩) hwp (HTw.out.on hb hz) (by have := hb.size; omega)
  have HWk : Hid (∀ W, Below w.heap.size w W → Calls Tryd.prog 13 #[] W fun e w' => e = .returned (.bool true) ∧ Below W.heap.size W w') := fun W hb => wakes8_any W (HTw.out.on hb hz) (by have := hb.size; omega)
  have gc : (((chk p : Nat) : Int) != 0) = true := by simp; exact hc
  generalize chk p = c at HPl HCk gc
  clear hp hB1 hT hwp hc HPV HTw
  go_enter Tryd.func6, Tryd.ntmps6
  go_upto_region 1 with fail
  generalize w.alloc (.cells #[x0, x1, x2, x3, .slice ao p.qs.length cap] 29) = W1 at HN1 HB1 HPl ⊢
  go_upto_region 2 with (first
    | (refine ldRow 29 (.tmp 1) rfl rfl w.heap.size rfl 29 #[x0, x1, x2, x3, .slice ao p.qs.length cap] _ Tryd.underlying29 rfl sizePO HN1.out ?_)
    | (refine stNew 29 (.tmp 3) (.tmp 11) rfl rfl w2 29 pz pz rfl rfl rfl sizePO rfl pz1 ?_)
    | (go_at_call 14; refine (HPl.out).mono ?_; rintro e w2 ⟨rfl, hw⟩; have HB2 := hid (HB1.out.trans (hw.mono HB1.out.size)); have HN2 := hid ((hw.block _ (Array.getElem?_eq_some_iff.1 HN1.out).1).trans HN1.out); clear hw HPl))
  have HB3 : Hid (Below w.heap.size w (w2.alloc (.cells pz 29))) := HB2.out.alloc HB2.out.size _
  have HN3 : Hid ((w2.alloc (.cells pz 29)).heap[w.heap.size]? = some (.cells #[x0, x1, x2, x3, .slice ao p.qs.length cap] 29 (0, 0))) := (heap_alloc_old _ _ (Array.getElem?_eq_some_iff.1 HN2.out).1).trans HN2.out
  have HA3 : Hid ((w2.alloc (.cells pz 29)).heap[w2.heap.size]? = some (.cells pz 29 (0, 0))) := heap_alloc_new _ _
  generalize w2.alloc (.cells pz 29) = W3 at HB3 HN3 HA3 ⊢
  have HC3 := hid (HCk.out W3 HB3.out)
  clear HCk HB1 HN1
  go_wp2_with (first
    | (refine ldRow 29 (.tmp 1) rfl rfl w.heap.size rfl 29 #[x0, x1, x2, x3, .slice ao p.qs.length cap] _ Tryd.underlying29 rfl sizePO HN3.out ?_)
    | (go_at_call 9; refine (HC3.out).mono ?_; rintro e w4 ⟨rfl, hw⟩; have HB4 := hid (HB3.out.trans (hw.mono HB3.out.size)); have c44 : w4.cell? ⟨w2.heap.size, 4, none⟩ = some (.slice none 0 0) := (cell_of_row _ _ _ _ _ _ ((hw.block _ (Array.getElem?_eq_some_iff.1 HA3.out).1).trans HA3.out)).trans rfl; have HW4 := hid (HWk.out w4 HB4.out); clear hw HC3)
    | (go_at_call 13; refine (HW4.out).mono ?_; rintro e w5 ⟨rfl, hw⟩; have HB5 := hid (HB4.out.trans (hw.mono HB4.out.size)); clear hw))
  go_ret
  exact ⟨rfl, HB5.out⟩
end Go.Proofs.YtabbdnmbpepdbaaDoor
