/-
  Proved here: the body of PolicyParts says true. Conditions: the tables; the policy and the path lie in old memory, its Ops are of eight bits.
-/
import Derived.Test.YtjallmncajhamaaDoorVB
namespace Go.Proofs.YtjallmncajhamaaDoor
open Go.RowKit
set_option maxRecDepth 100000

/-- what Check answers of the policy with a part replaced -/
theorem chk_rep {P : Po} (h : OkW P) (l : List Int) : chk ⟨ti (repT l P.main), (pi P).qs⟩ = 0 ∨ chk ⟨ti (repT l P.main), (pi P).qs⟩ = 200 := by
  unfold chk
  split
  · rw [if_pos ⟨(one_same false _).trans (one_rep l false P.main h.m), AQb_iff.2 h.a⟩]
    exact Or.inl rfl
  · exact Or.inr rfl
set_option maxHeartbeats 12800000 in
theorem parts_no (p : Pi) (cs : Array Value) (po : Option Addr) (pl pc : Nat) (w : World) (hp : PiV (fun b => b < w.heap.size) w p cs) (hwp : Wp p) (hno : chk p ≠ 0 ∨ 200 < pl) (hT : TabP w) (hz : 3 ≤ w.heap.size) :
    Calls Tryd.prog 6 #[.agg cs, .slice po pl pc] w fun e w' => e = .returned (.bool true) ∧ Below w.heap.size w w' := by
  have HPV := hid hp
  have HTw := hid hT
  obtain ⟨x0, x1, x2, x3, ao, cap, xs, rfl, -, -, -⟩ := hp.five
  have hB1 : Below w.heap.size w (w.alloc (.cells #[x0, x1, x2, x3, .slice ao p.qs.length cap] 29)) := (Below.refl _ _).alloc (Nat.le_refl _) _
  have HN1 : Hid ((w.alloc (.cells #[x0, x1, x2, x3, .slice ao p.qs.length cap] 29)).heap[w.heap.size]? = some (.cells #[x0, x1, x2, x3, .slice ao p.qs.length cap] 29 (0, 0))) := heap_alloc_new _ _
  have HC := hid (check8_any p _ (w.alloc (.cells #[x0, x1, x2, x3, .slice ao p.qs.length cap] 29)) (HPV.out.carry fun b hb hS => ⟨by have := hB1.size; omega, hB1.block b hb⟩) hwp (hT.on hB1 hz) (by have := hB1.size; omega))
  have HB1 := hid hB1
  have HWk : Hid (∀ W, Below w.heap.size w W → Calls Tryd.prog 16 #[] W fun e w' => e = .returned (.bool true) ∧ Below W.heap.size W w') := fun W hb => wakes8_any W (HTw.out.on hb hz) (by have := hb.size; omega)
  clear hp hB1 hT hwp HPV
  go_enter Tryd.func6, Tryd.ntmps6
  go_upto_region 1 with fail
  generalize w.alloc (.cells #[x0, x1, x2, x3, .slice ao p.qs.length cap] 29) = W1 at HN1 HB1 HC ⊢
  by_cases hc0 : chk p = 0
  · have hpl : 200 < pl := hno.resolve_left (fun h => h hc0)
    rw [hc0] at HC
    have d1 : decide (200 < pl) = true := decide_eq_true hpl
    have d1' : decide ((200 : Int) < ((pl : Nat) : Int)) = true := decide_eq_true (by omega)
    clear hno hc0
    go_wp2_with (first
      | (refine ldRow 29 (.tmp 2) rfl rfl w.heap.size rfl 29 #[x0, x1, x2, x3, .slice ao p.qs.length cap] _ Tryd.underlying29 rfl sizePO HN1.out ?_)
      | (go_at_call 12; refine (HC.out).mono ?_; rintro e w2 ⟨rfl, hw⟩; have HB2 := hid (HB1.out.trans (hw.mono HB1.out.size)); have HW2 := hid (HWk.out w2 HB2.out); clear hw HC)
      | (go_at_call 16; refine (HW2.out).mono ?_; rintro e w3 ⟨rfl, hw⟩; have HB3 := hid (HB2.out.trans (hw.mono HB2.out.size)); clear hw))
    go_ret
    exact ⟨rfl, HB3.out⟩
  · have gc : (((chk p : Nat) : Int) != 0) = true := by simp; exact hc0
    generalize chk p = c at gc HC
    clear hc0 hno
    go_wp2_with (first
      | (refine ldRow 29 (.tmp 2) rfl rfl w.heap.size rfl 29 #[x0, x1, x2, x3, .slice ao p.qs.length cap] _ Tryd.underlying29 rfl sizePO HN1.out ?_)
      | (go_at_call 12; refine (HC.out).mono ?_; rintro e w2 ⟨rfl, hw⟩; have HB2 := hid (HB1.out.trans (hw.mono HB1.out.size)); have HW2 := hid (HWk.out w2 HB2.out); clear hw HC)
      | (go_at_call 16; refine (HW2.out).mono ?_; rintro e w3 ⟨rfl, hw⟩; have HB3 := hid (HB2.out.trans (hw.mono HB2.out.size)); clear hw))
    go_ret
    exact ⟨rfl, HB3.out⟩
set_option maxHeartbeats 12800000 in
theorem parts_ok (P : Po) (cs : Array Value) (pv : Value) (l : List Int) (w : World) (hp : PiV (fun b => b < w.heap.size) w (pi P) cs) (hok : OkW P) (hl : l.length ≤ 200) (hpv : Rx (fun b => b < w.heap.size) 1 w pv l.length (l.map (Value.int .i64))) (hT : TabP w) (hz : 3 ≤ w.heap.size) :
    Calls Tryd.prog 6 #[.agg cs, pv] w fun e w' => e = .returned (.bool true) ∧ Below w.heap.size w w' := by
  have HPV := hid hp
  have HTw := hid hT
  obtain ⟨x0, x1, x2, x3, ao, cap, xs, rfl, h1, h2, h3⟩ := hp.five
  obtain ⟨pa, pc, rfl⟩ := hpv.form
  have hB1 : Below w.heap.size w (w.alloc (.cells #[x0, x1, x2, x3, .slice ao (pi P).qs.length cap] 29)) := (Below.refl _ _).alloc (Nat.le_refl _) _
  have HN1 : Hid ((w.alloc (.cells #[x0, x1, x2, x3, .slice ao (pi P).qs.length cap] 29)).heap[w.heap.size]? = some (.cells #[x0, x1, x2, x3, .slice ao (pi P).qs.length cap] 29 (0, 0))) := heap_alloc_new _ _
  have HC : Hid (Calls Tryd.prog 12 #[.agg #[x0, x1, x2, x3, .slice ao (pi P).qs.length cap]] (w.alloc (.cells #[x0, x1, x2, x3, .slice ao (pi P).qs.length cap] 29)) fun e w' => e = .returned (.int .i64 0) ∧ Below (w.alloc (.cells #[x0, x1, x2, x3, .slice ao (pi P).qs.length cap] 29)).heap.size (w.alloc (.cells #[x0, x1, x2, x3, .slice ao (pi P).qs.length cap] 29)) w') := by
    have h := check8_any (pi P) _ (w.alloc (.cells #[x0, x1, x2, x3, .slice ao (pi P).qs.length cap] 29)) (hp.carry fun b hb hS => ⟨by have := hB1.size; omega, hB1.block b hb⟩) hok.wp (hT.on hB1 hz) (by have := hB1.size; omega)
    rw [okW_chk hok] at h
    exact h
  have HB1 := hid hB1
  have HWk : Hid (∀ W, Below w.heap.size w W → Calls Tryd.prog 16 #[] W fun e w' => e = .returned (.bool true) ∧ Below W.heap.size W w') := fun W hb => wakes8_any W (HTw.out.on hb hz) (by have := hb.size; omega)
  have HK := hid (And.intro h1 (And.intro h2 h3))
  have HPt := hid hpv
  have HOk := hid hok
  have HSz : Hid (sz P.main ≤ 4096) := by have := hok.s; show _ ≤ _; omega
  have HLl := hid hl
  have d1 : decide (200 < l.length) = false := decide_eq_false (by omega)
  have d1' : decide ((200 : Int) < ((l.length : Nat) : Int)) = false := decide_eq_false (by omega)
  clear hp hB1 hT hok h1 h2 h3 hpv hl
  go_enter Tryd.func6, Tryd.ntmps6
  go_upto_region 1 with fail
  generalize w.alloc (.cells #[x0, x1, x2, x3, .slice ao (pi P).qs.length cap] 29) = W1 at HN1 HB1 HC ⊢
  go_upto_region 3 with (first
      | (refine ldRow 29 (.tmp 2) rfl rfl w.heap.size rfl 29 #[x0, x1, x2, x3, .slice ao (pi P).qs.length cap] _ Tryd.underlying29 rfl sizePO HN1.out ?_)
      | (go_at_call 12; refine (HC.out).mono ?_; rintro e w2 ⟨rfl, hw⟩; have HB2 := hid (HB1.out.trans (hw.mono HB1.out.size)); have HN2 := hid ((hw.block _ (Array.getElem?_eq_some_iff.1 HN1.out).1).trans HN1.out); clear hw HC))
  have HRg2 := hid (five_rng HN2.out)
  clear HB1 HN1 d1 d1'
  have HRp := hid (rep_any l (fun b => b < w.heap.size) P.main #[x0, x1, x2, x3] (.slice pa l.length pc) w2 HSz.out HLl.out (um_on (show UmV (fun b => b < w.heap.size) w P.main #[x0, x1, x2, x3] from HK.out.1) fun b hb hS => ⟨hS, HB2.out.block b hb⟩) (HPt.out.carry fun b hb hS => ⟨by have := HB2.out.size; omega, HB2.out.block b hb⟩))
  have HZ2 : Hid (w.heap.size < w2.heap.size) := (Array.getElem?_eq_some_iff.1 HN2.out).1
  go_upto_region 4 with (first
    | (refine ldMid 26 (.tmp 16) rfl rfl w.heap.size 0 rfl #[x0, x1, x2, x3] _ Tryd.underlying26 rfl sizeTM HRg2.out ?_)
    | (go_at_call 23; refine (HRp.out).mono ?_; rintro e w3 ⟨ds, rfl, hw, hd⟩; have HW3 := hid hw; have HD3 := hid hd; clear hw hd HRp)
    | (refine stNew 26 (.tmp 5) (.tmp 19) rfl rfl w3 26 (tmc 0 0 0 nilS) ds rfl rfl rfl HD3.out.info (by rw [HD3.out.size]; rfl) HD3.out.one ?_))
  have hds := HD3.out.size
  obtain ⟨y0, y1, y2, y3, rfl⟩ := arr4 hds
  have hb4 : Below w3.heap.size w3 (w3.alloc (.cells #[y0, y1, y2, y3] 26)) := (Below.refl _ _).alloc (Nat.le_refl _) _
  have hb24 : Below w2.heap.size w2 (w3.alloc (.cells #[y0, y1, y2, y3] 26)) := HW3.out.trans (hb4.mono HW3.out.size)
  have HB4 := hid (HB2.out.trans (hb24.mono HB2.out.size))
  have HN4 := hid ((hb24.block _ HZ2.out).trans HN2.out)
  have HA4 : Hid ((w3.alloc (.cells #[y0, y1, y2, y3] 26)).heap[w3.heap.size]? = some (.cells #[y0, y1, y2, y3] 26 (0, 0))) := heap_alloc_new _ _
  have HD4 : Hid (UmV (fun b => b < (w3.alloc (.cells #[y0, y1, y2, y3] 26)).heap.size) (w3.alloc (.cells #[y0, y1, y2, y3] 26)) (repT l P.main) #[y0, y1, y2, y3]) := um_on HD3.out fun b hb _ => ⟨by simp; omega, heap_alloc_old _ _ hb⟩
  clear HB2 HN2 HZ2 HW3 HD3 hb4 hb24 HRg2
  generalize w3.alloc (.cells #[y0, y1, y2, y3] 26) = W4 at HB4 HN4 HA4 HD4 ⊢
  have c4 : W4.cell? ⟨w.heap.size, 4, none⟩ = some (.slice ao (pi P).qs.length cap) := (cell_of_row _ _ _ _ _ _ HN4.out).trans rfl
  have hcar : ∀ b, b < w.heap.size → b < w.heap.size → b < W4.heap.size ∧ W4.heap[b]? = w.heap[b]? := fun b hb _ => ⟨by have := HB4.out.size; omega, HB4.out.block b hb⟩
  have HC4 : Hid (Calls Tryd.prog 12 #[.agg #[y0, y1, y2, y3, .slice ao (pi P).qs.length cap]] W4 fun e w' => e = .returned (.int .i64 ((chk ⟨ti (repT l P.main), (pi P).qs⟩ : Nat) : Int)) ∧ Below W4.heap.size W4 w') :=
    check8_any ⟨ti (repT l P.main), (pi P).qs⟩ _ W4 ⟨#[y0, y1, y2, y3], _, xs, rfl, HD4.out, HK.out.2.1.carry hcar, QiL.carry hcar _ _ HK.out.2.2⟩ ⟨wi_ti _ (one_rep l false P.main HOk.out.m), HOk.out.wp.q⟩ (HTw.out.on HB4.out hz) (by have := HB4.out.size; omega)
  have HU := hid (chk_rep HOk.out l)
  generalize chk ⟨ti (repT l P.main), (pi P).qs⟩ = c at HC4 HU
  have hbp := fun W => run_bp01 y0 y1 y2 y3 ao (pi P).qs.length cap W
  clear hcar HK HPV HTw HPt HSz HD4
  rcases HU.out with hc | hc
  · subst hc
    go_wp2_with (first
      | (refine ldRow 26 (.tmp 5) rfl rfl w3.heap.size rfl 26 #[y0, y1, y2, y3] _ Tryd.underlying26 rfl sizeTM HA4.out ?_)
      | (go_at_call 12; refine (HC4.out).mono ?_; rintro e w5 ⟨rfl, hw⟩; have HB5 := hid (HB4.out.trans (hw.mono HB4.out.size)); have HW5 := hid (HWk.out w5 HB5.out); clear hw HC4)
      | (go_at_call 16; refine (HW5.out).mono ?_; rintro e w6 ⟨rfl, hw⟩; have HB6 := hid (HB5.out.trans (hw.mono HB5.out.size)); clear hw))
    go_ret
    exact ⟨rfl, HB6.out⟩
  · subst hc
    go_wp2_with (first
      | (refine ldRow 26 (.tmp 5) rfl rfl w3.heap.size rfl 26 #[y0, y1, y2, y3] _ Tryd.underlying26 rfl sizeTM HA4.out ?_)
      | (go_at_call 12; refine (HC4.out).mono ?_; rintro e w5 ⟨rfl, hw⟩; have HB5 := hid (HB4.out.trans (hw.mono HB4.out.size)); have HW5 := hid (HWk.out w5 HB5.out); clear hw HC4)
      | (go_at_call 16; refine (HW5.out).mono ?_; rintro e w6 ⟨rfl, hw⟩; have HB6 := hid (HB5.out.trans (hw.mono HB5.out.size)); clear hw))
    go_ret
    exact ⟨rfl, HB6.out⟩
theorem parts_any (p : Pi) (cs : Array Value) (pv : Value) (l : List Int) (w : World) (hp : PiV (fun b => b < w.heap.size) w p cs) (hwp : Wp p) (hpv : Rx (fun b => b < w.heap.size) 1 w pv l.length (l.map (Value.int .i64))) (hT : TabP w) (hz : 3 ≤ w.heap.size) :
    Calls Tryd.prog 6 #[.agg cs, pv] w fun e w' => e = .returned (.bool true) ∧ Below w.heap.size w w' := by
  by_cases hl : l.length ≤ 200
  · by_cases hc : chk p = 0
    · obtain ⟨P, rfl, hok⟩ := chk_ok hc
      exact parts_ok P cs pv l w hp hok hl hpv hT hz
    · obtain ⟨pa, pc, rfl⟩ := hpv.form
      exact parts_no p cs pa l.length pc w hp hwp (Or.inl hc) hT hz
  · obtain ⟨pa, pc, rfl⟩ := hpv.form
    exact parts_no p cs pa l.length pc w hp hwp (Or.inr (by omega)) hT hz
end Go.Proofs.YtjallmncajhamaaDoor
