/-
  Proved here: Check of package policy. Conditions: the tables; the policy lies in old memory, its Ops are of eight bits.
-/
import Derived.Test.YtjallmncajhamaaDoorT8
namespace Go.Proofs.YtjallmncajhamaaDoor
open Go.RowKit
set_option maxRecDepth 100000

/-! Check, Pred -/
theorem fitI_of {ts : List Ti} : fitI ts = true ↔ szsI ts ≤ 4096 ∧ dpsI ts ≤ 128 := fitI_iff
noncomputable def AQb (qs : List Qi) : Bool := @decide (AQ qs) (Classical.propDecidable _)
theorem AQb_iff {qs : List Qi} : AQb qs = true ↔ AQ qs := by unfold AQb; exact @decide_eq_true_iff _ (Classical.propDecidable _)
/-- what Check answers -/
noncomputable def chk (p : Pi) : Nat := if p.qs.length ≤ 32 ∧ fitI (tmsI p) = true then (if oneI false p.main = true ∧ AQb p.qs = true then 0 else 170) else 200
def prd (t : Ti) : Nat := if fitI [t] = true then (if oneI true t = true then 0 else 170) else 200
/-- Ops of eight bits, in a policy -/
structure Wp (p : Pi) : Prop where
  m : Wi p.main
  q : ∀ q ∈ p.qs, Wi q.pd
set_option maxHeartbeats 12800000 in
theorem check8_any (p : Pi) (cs : Array Value) (w : World) (hp : PiV (fun b => b < w.heap.size) w p cs) (hwp : Wp p) (hT : TabP w) (hz : 3 ≤ w.heap.size) : Calls Tryd.prog 12 #[.agg cs] w fun e w' => e = .returned (.int .i64 ((chk p : Nat) : Int)) ∧ Below w.heap.size w w' := by
  have HPV := hid hp
  obtain ⟨x0, x1, x2, x3, ao, cap, xs, rfl, h1, h2, h3⟩ := hp.five
  clear hp
  have hB1 : Below w.heap.size w (w.alloc (.cells #[x0, x1, x2, x3, .slice ao p.qs.length cap] 29)) := (Below.refl _ _).alloc (Nat.le_refl _) _
  have hN1 : (w.alloc (.cells #[x0, x1, x2, x3, .slice ao p.qs.length cap] 29)).heap[w.heap.size]? = some (.cells #[x0, x1, x2, x3, .slice ao p.qs.length cap] 29 (0, 0)) := heap_alloc_new _ _
  have c4 : (w.alloc (.cells #[x0, x1, x2, x3, .slice ao p.qs.length cap] 29)).cell? ⟨w.heap.size, 4, none⟩ = some (.slice ao p.qs.length cap) := (cell_of_row _ _ _ _ _ _ hN1).trans rfl
  have hsz : (w.alloc (.cells #[x0, x1, x2, x3, .slice ao p.qs.length cap] 29)).heap.size = w.heap.size + 1 := by simp
  obtain ⟨r, hr⟩ : ∃ r, r = chk p := ⟨_, rfl⟩
  rw [← hr]
  have HR := hid hr
  clear hr
  have HE : Hid (∀ W : World, True) := fun _ => trivial
  clear HE
  go_enter Tryd.func12, Tryd.ntmps12
  go_upto_region 1 with fail
  generalize w.alloc (.cells #[x0, x1, x2, x3, .slice ao p.qs.length cap] 29) = W1 at hB1 hN1 c4 hsz ⊢
  have HB1 := hid hB1
  have HN1 := hid hN1
  have HSZ := hid hsz
  clear hsz
  by_cases hl : 32 < p.qs.length
  · have g1 : decide ((32 : Int) < (p.qs.length : Int)) = true := decide_eq_true (by omega)
    have g1n : decide (32 < p.qs.length) = true := decide_eq_true hl
    obtain rfl : r = 200 := by rw [HR.out]; unfold chk; rw [if_neg (fun h => by omega)]
    clear HR hB1 hN1 hl
    go_wp2
    go_ret
    exact ⟨rfl, HB1.out⟩
  have g1 : decide ((32 : Int) < (p.qs.length : Int)) = false := decide_eq_false (by omega)
  have g1n : decide (32 < p.qs.length) = false := decide_eq_false hl
  have hpv1 : PiV (fun b => b < W1.heap.size) W1 p #[x0, x1, x2, x3, .slice ao p.qs.length cap] := HPV.out.carry fun b hb hS => ⟨by have := HSZ.out; omega, hB1.block b hb⟩
  have HTf := hid (terms8_any p _ W1 hpv1 (by omega))
  have HTg := hid (fun (v : Value) (W : World) (hW : TlS (fun _ => True) W1 (tmsI p) v W) => (by
    obtain ⟨zs, q1, q2⟩ := hW.rx
    exact big8_any (tmsI p) v zs W (by unfold tmsI; simp; omega) q1 q2 : Calls Tryd.prog 36 #[v] W fun e w' => e = .returned (.bool (!fitI (tmsI p))) ∧ Below W.heap.size W w'))
  have HI5 := hid sizePO
  cases hf : fitI (tmsI p) with
  | false =>
    obtain rfl : r = 200 := by rw [HR.out]; unfold chk; rw [if_neg (fun h => by rw [hf] at h; cases h.2)]
    rw [hf] at HTg
    clear HR hB1 hN1 hl hpv1
    go_wp2_with (first
      | (refine ldRow 29 (.tmp 1) rfl rfl w.heap.size rfl 29 #[x0, x1, x2, x3, .slice ao p.qs.length cap] _ Tryd.underlying29 rfl HI5.out HN1.out ?_)
      | (go_at_call 36; refine (HTg2.out).mono ?_; rintro e w4 ⟨rfl, hw⟩; have HB4 := hid (HB3.out.trans (hw.mono HB3.out.size)); clear hw)
      | (go_at_call 37; refine (HTf.out).mono ?_; rintro e w3 ⟨v, rfl, hw⟩; have HTg2 := hid (HTg.out v w3 hw); have HB3 := hid (HB1.out.trans (hw.low.mono HB1.out.size)); clear hw HTf HTg))
    go_ret
    exact ⟨rfl, HB4.out⟩
  | true =>
  rw [hf] at HTg
  have HOn : Hid (∀ W, Below W1.heap.size W1 W → Calls Tryd.prog 38 #[.agg #[x0, x1, x2, x3], .int .i8 1] W fun e w' => e = .returned (.bool (oneI false p.main)) ∧ Below W.heap.size W w') := fun W hb =>
    isOne8_any _ p.main #[x0, x1, x2, x3] false W (Nat.le_refl _) hwp.m (ti_on h1 fun b hl2 hS => ⟨by have := hb.size; have := HSZ.out; omega, (hb.block b (by have := HSZ.out; omega)).trans (HB1.out.block b hS)⟩) (hT.on (HB1.out.trans (hb.mono HB1.out.size)) hz) (by have := hb.size; have := HSZ.out; omega)
  have HAq : Hid (∀ W, Below W1.heap.size W1 W → Calls Tryd.prog 39 #[.slice ao p.qs.length cap] W fun e w' => e = .returned (.bool (AQb p.qs)) ∧ Below W.heap.size W w') := fun W hb => by
    have hc : ∀ b, b < w.heap.size → b < w.heap.size → b < W.heap.size ∧ W.heap[b]? = w.heap[b]? := fun b _ hS => ⟨by have := hb.size; have := HSZ.out; omega, (hb.block b (by have := HSZ.out; omega)).trans (HB1.out.block b hS)⟩
    exact areQ8_any p.qs _ xs W (by omega) (h2.carry hc) (QiL.carry hc _ _ h3) (hT.on (HB1.out.trans (hb.mono HB1.out.size)) hz) (by have := hb.size; have := HSZ.out; omega) hwp.q _ AQb_iff
  have HRg := hid (five_rng hN1)
  have HRt : Hid (r = if oneI false p.main = true ∧ AQb p.qs = true then 0 else 170) := by show _ = _; rw [HR.out]; unfold chk; rw [if_pos ⟨by omega, hf⟩]
  clear HR hf hwp hT h1 h2 h3 hpv1 HPV hl
  cases ho : oneI false p.main with
  | false =>
    obtain rfl : r = 170 := by rw [HRt.out, if_neg (fun h => by rw [ho] at h; cases h.1)]
    rw [ho] at HOn
    clear HRt HAq ho hB1 hN1
    go_wp2_with (first
      | (refine ldRow 29 (.tmp 1) rfl rfl w.heap.size rfl 29 #[x0, x1, x2, x3, .slice ao p.qs.length cap] _ Tryd.underlying29 rfl HI5.out HN1.out ?_)
      | (refine ldMid 26 (.tmp 12) rfl rfl w.heap.size 0 rfl #[x0, x1, x2, x3] _ Tryd.underlying26 rfl sizeTM HRg4.out ?_)
      | (go_at_call 38; refine (HOn4.out).mono ?_; rintro e w5 ⟨rfl, hw⟩; have HB5 := hid (HB4.out.trans (hw.mono HB4.out.size)); clear hw)
      | (go_at_call 36; refine (HTg2.out).mono ?_; rintro e w4 ⟨rfl, hw⟩; have HB4 := hid (HB3.out.trans (hw.mono HB3.out.size)); have HOn4 := hid (HOn.out w4 (HC3.out.trans (hw.mono HC3.out.size))); have HRg4 : Hid (w4.rangeAt w.heap.size 0 (#[x0, x1, x2, x3] : Array Value).toList) := (fun i v hi => (cell_same ((HC3.out.trans (hw.mono HC3.out.size)).block _ (by have := HSZ.out; omega))).trans (HRg.out i v hi)); clear hw HTg2)
      | (go_at_call 37; refine (HTf.out).mono ?_; rintro e w3 ⟨v, rfl, hw⟩; have HTg2 := hid (HTg.out v w3 hw); have HB3 := hid (HB1.out.trans (hw.low.mono HB1.out.size)); have HC3 := hid hw.low; clear hw HTf HTg))
    go_ret
    exact ⟨rfl, HB5.out⟩
  | true =>
  rw [ho] at HOn
  have HRu : Hid (r = if AQb p.qs = true then 0 else 170) := by show _ = _; rw [HRt.out, ho]; simp
  clear HRt ho
  obtain ⟨q, hq⟩ : ∃ q, q = AQb p.qs := ⟨_, rfl⟩
  rw [← hq] at HAq HRu
  clear hq hB1 hN1
  cases q with
  | false =>
    obtain rfl : r = 170 := HRu.out
    clear HRu
    go_wp2_with (first
      | (refine ldRow 29 (.tmp 1) rfl rfl w.heap.size rfl 29 #[x0, x1, x2, x3, .slice ao p.qs.length cap] _ Tryd.underlying29 rfl HI5.out HN1.out ?_)
      | (refine ldMid 26 (.tmp 12) rfl rfl w.heap.size 0 rfl #[x0, x1, x2, x3] _ Tryd.underlying26 rfl sizeTM HRg4.out ?_)
      | (go_at_call 39; refine (HAq5.out).mono ?_; rintro e w6 ⟨rfl, hw⟩; have HB6 := hid (HB5.out.trans (hw.mono HB5.out.size)); clear hw)
      | (go_at_call 38; refine (HOn4.out).mono ?_; rintro e w5 ⟨rfl, hw⟩; have HB5 := hid (HB4.out.trans (hw.mono HB4.out.size)); have HAq5 := hid (HAq.out w5 (HC4.out.trans (hw.mono HC4.out.size))); have c5 : w5.cell? ⟨w.heap.size, 4, none⟩ = some (.slice ao p.qs.length cap) := (cell_of_row _ _ _ _ _ _ (((HC4.out.trans (hw.mono HC4.out.size)).block _ (by have := HSZ.out; omega)).trans HN1.out)).trans rfl; clear hw HOn4)
      | (go_at_call 36; refine (HTg2.out).mono ?_; rintro e w4 ⟨rfl, hw⟩; have HB4 := hid (HB3.out.trans (hw.mono HB3.out.size)); have HC4 := hid (HC3.out.trans (hw.mono HC3.out.size)); have HOn4 := hid (HOn.out w4 HC4.out); have HRg4 : Hid (w4.rangeAt w.heap.size 0 (#[x0, x1, x2, x3] : Array Value).toList) := (fun i v hi => (cell_same (HC4.out.block _ (by have := HSZ.out; omega))).trans (HRg.out i v hi)); clear hw HTg2)
      | (go_at_call 37; refine (HTf.out).mono ?_; rintro e w3 ⟨v, rfl, hw⟩; have HTg2 := hid (HTg.out v w3 hw); have HB3 := hid (HB1.out.trans (hw.low.mono HB1.out.size)); have HC3 := hid hw.low; clear hw HTf HTg))
    go_ret
    exact ⟨rfl, HB6.out⟩
  | true =>
    obtain rfl : r = 0 := HRu.out
    clear HRu
    go_wp2_with (first
      | (refine ldRow 29 (.tmp 1) rfl rfl w.heap.size rfl 29 #[x0, x1, x2, x3, .slice ao p.qs.length cap] _ Tryd.underlying29 rfl HI5.out HN1.out ?_)
      | (refine ldMid 26 (.tmp 12) rfl rfl w.heap.size 0 rfl #[x0, x1, x2, x3] _ Tryd.underlying26 rfl sizeTM HRg4.out ?_)
      | (go_at_call 39; refine (HAq5.out).mono ?_; rintro e w6 ⟨rfl, hw⟩; have HB6 := hid (HB5.out.trans (hw.mono HB5.out.size)); clear hw)
      | (go_at_call 38; refine (HOn4.out).mono ?_; rintro e w5 ⟨rfl, hw⟩; have HB5 := hid (HB4.out.trans (hw.mono HB4.out.size)); have HAq5 := hid (HAq.out w5 (HC4.out.trans (hw.mono HC4.out.size))); have c5 : w5.cell? ⟨w.heap.size, 4, none⟩ = some (.slice ao p.qs.length cap) := (cell_of_row _ _ _ _ _ _ (((HC4.out.trans (hw.mono HC4.out.size)).block _ (by have := HSZ.out; omega)).trans HN1.out)).trans rfl; clear hw HOn4)
      | (go_at_call 36; refine (HTg2.out).mono ?_; rintro e w4 ⟨rfl, hw⟩; have HB4 := hid (HB3.out.trans (hw.mono HB3.out.size)); have HC4 := hid (HC3.out.trans (hw.mono HC3.out.size)); have HOn4 := hid (HOn.out w4 HC4.out); have HRg4 : Hid (w4.rangeAt w.heap.size 0 (#[x0, x1, x2, x3] : Array Value).toList) := (fun i v hi => (cell_same (HC4.out.block _ (by have := HSZ.out; omega))).trans (HRg.out i v hi)); clear hw HTg2)
      | (go_at_call 37; refine (HTf.out).mono ?_; rintro e w3 ⟨v, rfl, hw⟩; have HTg2 := hid (HTg.out v w3 hw); have HB3 := hid (HB1.out.trans (hw.low.mono HB1.out.size)); have HC3 := hid hw.low; clear hw HTf HTg))
    go_ret
    exact ⟨rfl, HB6.out⟩
end Go.Proofs.YtjallmncajhamaaDoor
