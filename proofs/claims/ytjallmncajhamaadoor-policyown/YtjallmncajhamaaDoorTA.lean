/-
  Proved here: Pred of package policy. Conditions: as for Check.
-/
import Derived.Test.YtjallmncajhamaaDoorT9
namespace Go.Proofs.YtjallmncajhamaaDoor
open Go.RowKit
set_option maxRecDepth 100000

set_option maxHeartbeats 12800000 in
theorem pred8_any (t : Ti) (cs : Array Value) (w : World) (ht : TiV (fun b => b < w.heap.size) w t cs) (hwi : Wi t) (hT : TabP w) (hz : 3 ≤ w.heap.size) : Calls Tryd.prog 14 #[.agg cs] w fun e w' => e = .returned (.int .i64 ((prd t : Nat) : Int)) ∧ Below w.heap.size w w' := by
  have h4 := ht.size
  have hone := ht.one
  have hB1 : Below w.heap.size w (w.alloc (.cells cs 26)) := (Below.refl _ _).alloc (Nat.le_refl _) _
  have hN1 : (w.alloc (.cells cs 26)).heap[w.heap.size]? = some (.cells cs 26 (0, 0)) := heap_alloc_new _ _
  have h1 : TiV (fun b => b < (w.alloc (.cells cs 26)).heap.size) (w.alloc (.cells cs 26)) t cs := ti_on ht fun b hb hS => ⟨by have := hB1.size; omega, hB1.block b hb⟩
  have hsz : (w.alloc (.cells cs 26)).heap.size = w.heap.size + 1 := by simp
  have hinf : (Tryd.prog.info? 26).map (·.size) = some cs.size := by rw [h4]; exact sizeTM
  obtain ⟨x0, x1, x2, x3, rfl⟩ := arr4 h4
  obtain ⟨r, hr⟩ : ∃ r, r = prd t := ⟨_, rfl⟩
  rw [← hr]
  have HR := hid hr
  clear hr
  go_enter Tryd.func14, Tryd.ntmps14
  go_upto_region 1 with fail
  generalize w.alloc (.cells #[x0, x1, x2, x3] 26) = W1 at hB1 hN1 h1 hsz ⊢
  have hb2 : Below W1.heap.size W1 (W1.alloc (.cells #[x0, x1, x2, x3] 26)) := (Below.refl _ _).alloc (Nat.le_refl _) _
  have h2 : TiV (fun b => b < (W1.alloc (.cells #[x0, x1, x2, x3] 26)).heap.size) (W1.alloc (.cells #[x0, x1, x2, x3] 26)) t #[x0, x1, x2, x3] := ti_on h1 fun b hb hS => ⟨by have := hb2.size; omega, hb2.block b hb⟩
  have hRx : Rx (fun b => b < (W1.alloc (.cells #[x0, x1, x2, x3] 26)).heap.size) 4 (W1.alloc (.cells #[x0, x1, x2, x3] 26)) (.slice (some ⟨W1.heap.size, 0, none⟩) 1 1) [t].length [x0, x1, x2, x3] := ⟨rfl, _, _, rfl, Nat.le_refl _, fun _ => ⟨_, _, rfl, by simp, by simp, range_blk (heap_alloc_new _ _), rfl, _, heap_alloc_new _ _, Nat.le_refl _⟩⟩
  have hTl : TiL (fun b => b < (W1.alloc (.cells #[x0, x1, x2, x3] 26)).heap.size) (W1.alloc (.cells #[x0, x1, x2, x3] 26)) [t] [x0, x1, x2, x3] := by
    have := TiL.snoc h2 [] [] (by rw [TiL])
    simpa using this
  have HTg := hid (big8_any [t] _ _ _ (by simp) hRx hTl)
  have HSZ := hid hsz
  have HB1 := hid hB1
  have HN1 := hid hN1
  have HC2 := hid hb2
  have HI := hid hinf
  have HOn : Hid (∀ W, Below W1.heap.size W1 W → Calls Tryd.prog 38 #[.agg #[x0, x1, x2, x3], .int .i8 0] W fun e w' => e = .returned (.bool (oneI true t)) ∧ Below W.heap.size W w') := fun W hb =>
    isOne8_any _ t #[x0, x1, x2, x3] true W (Nat.le_refl _) hwi (ti_on h1 fun b hl2 hS => ⟨by have := hb.size; omega, hb.block b hl2⟩) (hT.on (HB1.out.trans (hb.mono HB1.out.size)) hz) (by have := hb.size; have := HSZ.out; omega)
  clear hsz hB1 hN1 hb2 hRx hTl h1 h2 ht hone hinf hT h4
  cases hf : fitI [t] with
  | false =>
    obtain rfl : r = 200 := by rw [HR.out]; unfold prd; rw [hf]; rfl
    rw [hf] at HTg
    clear HR hf HOn
    go_wp2_with (first
      | (refine ldRow 26 (.tmp 1) rfl rfl w.heap.size rfl 26 #[x0, x1, x2, x3] _ Tryd.underlying26 rfl HI.out HN1.out ?_)
      | (refine bldSl 24 26 (.tmp 3) rfl rfl #[x0, x1, x2, x3] rfl Tryd.underlying24 _ _ _ rfl rfl rfl rfl (by decide) (by decide) ?_)
      | (go_at_call 36; refine (HTg.out).mono ?_; rintro e w4 ⟨rfl, hw⟩; have HC4 := hid (HC2.out.trans (hw.mono HC2.out.size)); clear hw))
    go_ret
    exact ⟨rfl, HB1.out.trans (HC4.out.mono HB1.out.size)⟩
  | true =>
  rw [hf] at HTg
  have HRt : Hid (r = if oneI true t = true then 0 else 170) := by show _ = _; rw [HR.out]; unfold prd; rw [hf, if_pos rfl]
  clear HR hf
  generalize oneI true t = q at HRt HOn
  cases q with
  | false =>
    obtain rfl : r = 170 := HRt.out
    clear HRt
    go_wp2_with (first
      | (refine ldRow 26 (.tmp 1) rfl rfl w.heap.size rfl 26 #[x0, x1, x2, x3] _ Tryd.underlying26 rfl HI.out HN4.out ?_)
      | (refine ldRow 26 (.tmp 1) rfl rfl w.heap.size rfl 26 #[x0, x1, x2, x3] _ Tryd.underlying26 rfl HI.out HN1.out ?_)
      | (refine bldSl 24 26 (.tmp 3) rfl rfl #[x0, x1, x2, x3] rfl Tryd.underlying24 _ _ _ rfl rfl rfl rfl (by decide) (by decide) ?_)
      | (go_at_call 38; refine (HOn4.out).mono ?_; rintro e w5 ⟨rfl, hw⟩; have HC5 := hid (HC4.out.trans (hw.mono HC4.out.size)); clear hw)
      | (go_at_call 36; refine (HTg.out).mono ?_; rintro e w4 ⟨rfl, hw⟩; have HC4 := hid (HC2.out.trans (hw.mono HC2.out.size)); have HN4 := hid ((HC4.out.block _ (by have := HSZ.out; omega)).trans HN1.out); have HOn4 := hid (HOn.out w4 HC4.out); clear hw HTg))
    go_ret
    exact ⟨rfl, HB1.out.trans (HC5.out.mono HB1.out.size)⟩
  | true =>
    obtain rfl : r = 0 := HRt.out
    clear HRt
    go_wp2_with (first
      | (refine ldRow 26 (.tmp 1) rfl rfl w.heap.size rfl 26 #[x0, x1, x2, x3] _ Tryd.underlying26 rfl HI.out HN4.out ?_)
      | (refine ldRow 26 (.tmp 1) rfl rfl w.heap.size rfl 26 #[x0, x1, x2, x3] _ Tryd.underlying26 rfl HI.out HN1.out ?_)
      | (refine bldSl 24 26 (.tmp 3) rfl rfl #[x0, x1, x2, x3] rfl Tryd.underlying24 _ _ _ rfl rfl rfl rfl (by decide) (by decide) ?_)
      | (go_at_call 38; refine (HOn4.out).mono ?_; rintro e w5 ⟨rfl, hw⟩; have HC5 := hid (HC4.out.trans (hw.mono HC4.out.size)); clear hw)
      | (go_at_call 36; refine (HTg.out).mono ?_; rintro e w4 ⟨rfl, hw⟩; have HC4 := hid (HC2.out.trans (hw.mono HC2.out.size)); have HN4 := hid ((HC4.out.block _ (by have := HSZ.out; omega)).trans HN1.out); have HOn4 := hid (HOn.out w4 HC4.out); clear hw HTg))
    go_ret
    exact ⟨rfl, HB1.out.trans (HC5.out.mono HB1.out.size)⟩
end Go.Proofs.YtjallmncajhamaaDoor
