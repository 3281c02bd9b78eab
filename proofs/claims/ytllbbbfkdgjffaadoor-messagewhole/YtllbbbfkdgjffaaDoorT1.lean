/-
  Proved here: what field makes of three functions: a part of three closures over them, at each of its seven types; no old memory turns. No condition.
-/
import Derived.Test.YtllbbbfkdgjffaaDoorWH
import Derived.Laws.EntriesVeiled
namespace Go.Proofs.YtllbbbfkdgjffaaDoor
open Go.RowKit

abbrev fnV (f : Nat) : Value := .func (.func f) #[] #[]
abbrev ptr (g : Nat) : Value := .pointer (some ⟨g, 0, none⟩)
/-- A part's three closures: f1 over the block g1, f2 over g2 and g1, f3 over g3 and g1. -/
abbrev ptc (f1 f2 f3 g1 g2 g3 : Nat) : Array Value := #[.func (.func f1) #[] #[ptr g1], .func (.func f2) #[] #[ptr g2, ptr g1], .func (.func f3) #[] #[ptr g3, ptr g1]]
/-- The blocks hold the three functions. -/
structure Pv (T : Nat → Prop) (w : World) (a b d g1 g2 g3 : Nat) : Prop where
  t1 : T g1
  t2 : T g2
  t3 : T g3
  c1 : w.cell? ⟨g1, 0, none⟩ = some (fnV a)
  c2 : w.cell? ⟨g2, 0, none⟩ = some (fnV b)
  c3 : w.cell? ⟨g3, 0, none⟩ = some (fnV d)
theorem Pv.carry {T T' : Nat → Prop} {w w' : World} {a b d g1 g2 g3 : Nat} (h : Pv T w a b d g1 g2 g3) (hc : ∀ b, b < w.heap.size → T b → T' b ∧ w'.heap[b]? = w.heap[b]?) : Pv T' w' a b d g1 g2 g3 := by
  have q1 := hc g1 (cell_lt h.c1) h.t1
  have q2 := hc g2 (cell_lt h.c2) h.t2
  have q3 := hc g3 (cell_lt h.c3) h.t3
  exact ⟨q1.1, q2.1, q3.1, by rw [cell_same q1.2]; exact h.c1, by rw [cell_same q2.2]; exact h.c2, by rw [cell_same q3.2]; exact h.c3⟩
theorem three_new (w : World) (x y z r : Obj) : ∃ W, Hid (W = (((w.alloc x).alloc y).alloc z).alloc r) ∧ Below w.heap.size w W ∧ W.heap.size = w.heap.size + 4 ∧ W.heap[w.heap.size]? = some x ∧ W.heap[w.heap.size + 1]? = some y ∧ W.heap[w.heap.size + 2]? = some z ∧ W.heap[w.heap.size + 3]? = some r := by
  refine ⟨_, rfl, ((((Below.refl _ _).alloc (Nat.le_refl _) _).alloc (by simp) _).alloc (by simp; try omega) _).alloc (by simp; try omega) _, by simp, ?_, ?_, ?_, ?_⟩
  · rw [heap_alloc_old _ _ (by simp; try omega), heap_alloc_old _ _ (by simp; try omega), heap_alloc_old _ _ (by simp)]; exact heap_alloc_new _ _
  · rw [heap_alloc_old _ _ (by simp; try omega), heap_alloc_old _ _ (by simp)]
    have := heap_alloc_new (w.alloc x) y
    simpa using this
  · rw [heap_alloc_old _ _ (by simp)]
    have := heap_alloc_new ((w.alloc x).alloc y) z
    simpa using this
  · have := heap_alloc_new (((w.alloc x).alloc y).alloc z) r
    simpa using this

set_option maxHeartbeats 800000 in
theorem fdU_any (a b d : Nat) (w : World) :
    Calls Tryd.prog 23 #[fnV a, fnV b, fnV d] w fun e w' => ∃ g1 g2 g3, e = .returned (.agg (ptc 57 58 59 g1 g2 g3)) ∧ Below w.heap.size w w' ∧ Pv (fun k => w.heap.size ≤ k ∧ k < w'.heap.size) w' a b d g1 g2 g3 := by
  have hmf : ∀ (fn : Fn) (first cap : Array Value) (w : World), (Instr.makeFunc fn first cap).run Tryd.prog w = .ok (.func fn first cap) w := fun _ _ _ _ => rfl
  obtain ⟨W, HW, hb, hs, h1, h2, h3, h4⟩ := three_new w (.cells #[fnV a] 77) (.cells #[fnV b] 78) (.cells #[fnV d] 80) (.cells (ptc 57 58 59 w.heap.size (w.heap.size + 1) (w.heap.size + 2)) 59)
  have HF : Hid (Below w.heap.size w W ∧ Pv (fun k => w.heap.size ≤ k ∧ k < W.heap.size) W a b d w.heap.size (w.heap.size + 1) (w.heap.size + 2)) := by
    refine And.intro hb ⟨by omega, by omega, by omega, ?_, ?_, ?_⟩
    · exact cell_of_one h1
    · exact cell_of_one h2
    · exact cell_of_one h3
  have H4 := hid h4
  clear hb hs h1 h2 h3 h4
  go_enter Tryd.func23, Tryd.ntmps23
  go_wp2
  have hfin := HF.out
  have h4 := H4.out
  rw [HW.out] at hfin h4
  refine bodyPost_ret (v := .agg (ptc 57 58 59 w.heap.size (w.heap.size + 1) (w.heap.size + 2))) ?_ rfl ⟨_, _, _, rfl, hfin⟩
  have hr := run_loadVar_row _ (w.heap.size + 3) 59 59 _ (0, 0) _ h4 Tryd.underlying59 rfl (by kernel_rfl)
  have e : w.heap.size + 3 = w.heap.size + 1 + 1 + 1 := rfl
  rw [e] at hr
  simp [results, Tryd.results23, asAddr, hr]

set_option maxHeartbeats 800000 in
theorem fdUs_any (a b d : Nat) (w : World) :
    Calls Tryd.prog 27 #[fnV a, fnV b, fnV d] w fun e w' => ∃ g1 g2 g3, e = .returned (.agg (ptc 60 61 62 g1 g2 g3)) ∧ Below w.heap.size w w' ∧ Pv (fun k => w.heap.size ≤ k ∧ k < w'.heap.size) w' a b d g1 g2 g3 := by
  have hmf : ∀ (fn : Fn) (first cap : Array Value) (w : World), (Instr.makeFunc fn first cap).run Tryd.prog w = .ok (.func fn first cap) w := fun _ _ _ _ => rfl
  obtain ⟨W, HW, hb, hs, h1, h2, h3, h4⟩ := three_new w (.cells #[fnV a] 84) (.cells #[fnV b] 85) (.cells #[fnV d] 87) (.cells (ptc 60 61 62 w.heap.size (w.heap.size + 1) (w.heap.size + 2)) 59)
  have HF : Hid (Below w.heap.size w W ∧ Pv (fun k => w.heap.size ≤ k ∧ k < W.heap.size) W a b d w.heap.size (w.heap.size + 1) (w.heap.size + 2)) := by
    refine And.intro hb ⟨by omega, by omega, by omega, ?_, ?_, ?_⟩
    · exact cell_of_one h1
    · exact cell_of_one h2
    · exact cell_of_one h3
  have H4 := hid h4
  clear hb hs h1 h2 h3 h4
  go_enter Tryd.func27, Tryd.ntmps27
  go_wp2
  have hfin := HF.out
  have h4 := H4.out
  rw [HW.out] at hfin h4
  refine bodyPost_ret (v := .agg (ptc 60 61 62 w.heap.size (w.heap.size + 1) (w.heap.size + 2))) ?_ rfl ⟨_, _, _, rfl, hfin⟩
  have hr := run_loadVar_row _ (w.heap.size + 3) 59 59 _ (0, 0) _ h4 Tryd.underlying59 rfl (by kernel_rfl)
  have e : w.heap.size + 3 = w.heap.size + 1 + 1 + 1 := rfl
  rw [e] at hr
  simp [results, Tryd.results27, asAddr, hr]

set_option maxHeartbeats 800000 in
theorem fdI_any (a b d : Nat) (w : World) :
    Calls Tryd.prog 32 #[fnV a, fnV b, fnV d] w fun e w' => ∃ g1 g2 g3, e = .returned (.agg (ptc 65 66 67 g1 g2 g3)) ∧ Below w.heap.size w w' ∧ Pv (fun k => w.heap.size ≤ k ∧ k < w'.heap.size) w' a b d g1 g2 g3 := by
  have hmf : ∀ (fn : Fn) (first cap : Array Value) (w : World), (Instr.makeFunc fn first cap).run Tryd.prog w = .ok (.func fn first cap) w := fun _ _ _ _ => rfl
  obtain ⟨W, HW, hb, hs, h1, h2, h3, h4⟩ := three_new w (.cells #[fnV a] 91) (.cells #[fnV b] 92) (.cells #[fnV d] 94) (.cells (ptc 65 66 67 w.heap.size (w.heap.size + 1) (w.heap.size + 2)) 59)
  have HF : Hid (Below w.heap.size w W ∧ Pv (fun k => w.heap.size ≤ k ∧ k < W.heap.size) W a b d w.heap.size (w.heap.size + 1) (w.heap.size + 2)) := by
    refine And.intro hb ⟨by omega, by omega, by omega, ?_, ?_, ?_⟩
    · exact cell_of_one h1
    · exact cell_of_one h2
    · exact cell_of_one h3
  have H4 := hid h4
  clear hb hs h1 h2 h3 h4
  go_enter Tryd.func32, Tryd.ntmps32
  go_wp2
  have hfin := HF.out
  have h4 := H4.out
  rw [HW.out] at hfin h4
  refine bodyPost_ret (v := .agg (ptc 65 66 67 w.heap.size (w.heap.size + 1) (w.heap.size + 2))) ?_ rfl ⟨_, _, _, rfl, hfin⟩
  have hr := run_loadVar_row _ (w.heap.size + 3) 59 59 _ (0, 0) _ h4 Tryd.underlying59 rfl (by kernel_rfl)
  have e : w.heap.size + 3 = w.heap.size + 1 + 1 + 1 := rfl
  rw [e] at hr
  simp [results, Tryd.results32, asAddr, hr]

set_option maxHeartbeats 800000 in
theorem fdR_any (a b d : Nat) (w : World) :
    Calls Tryd.prog 36 #[fnV a, fnV b, fnV d] w fun e w' => ∃ g1 g2 g3, e = .returned (.agg (ptc 69 70 71 g1 g2 g3)) ∧ Below w.heap.size w w' ∧ Pv (fun k => w.heap.size ≤ k ∧ k < w'.heap.size) w' a b d g1 g2 g3 := by
  have hmf : ∀ (fn : Fn) (first cap : Array Value) (w : World), (Instr.makeFunc fn first cap).run Tryd.prog w = .ok (.func fn first cap) w := fun _ _ _ _ => rfl
  obtain ⟨W, HW, hb, hs, h1, h2, h3, h4⟩ := three_new w (.cells #[fnV a] 97) (.cells #[fnV b] 98) (.cells #[fnV d] 100) (.cells (ptc 69 70 71 w.heap.size (w.heap.size + 1) (w.heap.size + 2)) 59)
  have HF : Hid (Below w.heap.size w W ∧ Pv (fun k => w.heap.size ≤ k ∧ k < W.heap.size) W a b d w.heap.size (w.heap.size + 1) (w.heap.size + 2)) := by
    refine And.intro hb ⟨by omega, by omega, by omega, ?_, ?_, ?_⟩
    · exact cell_of_one h1
    · exact cell_of_one h2
    · exact cell_of_one h3
  have H4 := hid h4
  clear hb hs h1 h2 h3 h4
  go_enter Tryd.func36, Tryd.ntmps36
  go_wp2
  have hfin := HF.out
  have h4 := H4.out
  rw [HW.out] at hfin h4
  refine bodyPost_ret (v := .agg (ptc 69 70 71 w.heap.size (w.heap.size + 1) (w.heap.size + 2))) ?_ rfl ⟨_, _, _, rfl, hfin⟩
  have hr := run_loadVar_row _ (w.heap.size + 3) 59 59 _ (0, 0) _ h4 Tryd.underlying59 rfl (by kernel_rfl)
  have e : w.heap.size + 3 = w.heap.size + 1 + 1 + 1 := rfl
  rw [e] at hr
  simp [results, Tryd.results36, asAddr, hr]

set_option maxHeartbeats 800000 in
theorem fdB_any (a b d : Nat) (w : World) :
    Calls Tryd.prog 44 #[fnV a, fnV b, fnV d] w fun e w' => ∃ g1 g2 g3, e = .returned (.agg (ptc 78 79 80 g1 g2 g3)) ∧ Below w.heap.size w w' ∧ Pv (fun k => w.heap.size ≤ k ∧ k < w'.heap.size) w' a b d g1 g2 g3 := by
  have hmf : ∀ (fn : Fn) (first cap : Array Value) (w : World), (Instr.makeFunc fn first cap).run Tryd.prog w = .ok (.func fn first cap) w := fun _ _ _ _ => rfl
  obtain ⟨W, HW, hb, hs, h1, h2, h3, h4⟩ := three_new w (.cells #[fnV a] 104) (.cells #[fnV b] 105) (.cells #[fnV d] 106) (.cells (ptc 78 79 80 w.heap.size (w.heap.size + 1) (w.heap.size + 2)) 59)
  have HF : Hid (Below w.heap.size w W ∧ Pv (fun k => w.heap.size ≤ k ∧ k < W.heap.size) W a b d w.heap.size (w.heap.size + 1) (w.heap.size + 2)) := by
    refine And.intro hb ⟨by omega, by omega, by omega, ?_, ?_, ?_⟩
    · exact cell_of_one h1
    · exact cell_of_one h2
    · exact cell_of_one h3
  have H4 := hid h4
  clear hb hs h1 h2 h3 h4
  go_enter Tryd.func44, Tryd.ntmps44
  go_wp2
  have hfin := HF.out
  have h4 := H4.out
  rw [HW.out] at hfin h4
  refine bodyPost_ret (v := .agg (ptc 78 79 80 w.heap.size (w.heap.size + 1) (w.heap.size + 2))) ?_ rfl ⟨_, _, _, rfl, hfin⟩
  have hr := run_loadVar_row _ (w.heap.size + 3) 59 59 _ (0, 0) _ h4 Tryd.underlying59 rfl (by kernel_rfl)
  have e : w.heap.size + 3 = w.heap.size + 1 + 1 + 1 := rfl
  rw [e] at hr
  simp [results, Tryd.results44, asAddr, hr]

set_option maxHeartbeats 800000 in
theorem fdH_any (a b d : Nat) (w : World) :
    Calls Tryd.prog 48 #[fnV a, fnV b, fnV d] w fun e w' => ∃ g1 g2 g3, e = .returned (.agg (ptc 82 83 84 g1 g2 g3)) ∧ Below w.heap.size w w' ∧ Pv (fun k => w.heap.size ≤ k ∧ k < w'.heap.size) w' a b d g1 g2 g3 := by
  have hmf : ∀ (fn : Fn) (first cap : Array Value) (w : World), (Instr.makeFunc fn first cap).run Tryd.prog w = .ok (.func fn first cap) w := fun _ _ _ _ => rfl
  obtain ⟨W, HW, hb, hs, h1, h2, h3, h4⟩ := three_new w (.cells #[fnV a] 110) (.cells #[fnV b] 111) (.cells #[fnV d] 113) (.cells (ptc 82 83 84 w.heap.size (w.heap.size + 1) (w.heap.size + 2)) 59)
  have HF : Hid (Below w.heap.size w W ∧ Pv (fun k => w.heap.size ≤ k ∧ k < W.heap.size) W a b d w.heap.size (w.heap.size + 1) (w.heap.size + 2)) := by
    refine And.intro hb ⟨by omega, by omega, by omega, ?_, ?_, ?_⟩
    · exact cell_of_one h1
    · exact cell_of_one h2
    · exact cell_of_one h3
  have H4 := hid h4
  clear hb hs h1 h2 h3 h4
  go_enter Tryd.func48, Tryd.ntmps48
  go_wp2
  have hfin := HF.out
  have h4 := H4.out
  rw [HW.out] at hfin h4
  refine bodyPost_ret (v := .agg (ptc 82 83 84 w.heap.size (w.heap.size + 1) (w.heap.size + 2))) ?_ rfl ⟨_, _, _, rfl, hfin⟩
  have hr := run_loadVar_row _ (w.heap.size + 3) 59 59 _ (0, 0) _ h4 Tryd.underlying59 rfl (by kernel_rfl)
  have e : w.heap.size + 3 = w.heap.size + 1 + 1 + 1 := rfl
  rw [e] at hr
  simp [results, Tryd.results48, asAddr, hr]

set_option maxHeartbeats 800000 in
theorem fdO_any (a b d : Nat) (w : World) :
    Calls Tryd.prog 52 #[fnV a, fnV b, fnV d] w fun e w' => ∃ g1 g2 g3, e = .returned (.agg (ptc 89 90 91 g1 g2 g3)) ∧ Below w.heap.size w w' ∧ Pv (fun k => w.heap.size ≤ k ∧ k < w'.heap.size) w' a b d g1 g2 g3 := by
  have hmf : ∀ (fn : Fn) (first cap : Array Value) (w : World), (Instr.makeFunc fn first cap).run Tryd.prog w = .ok (.func fn first cap) w := fun _ _ _ _ => rfl
  obtain ⟨W, HW, hb, hs, h1, h2, h3, h4⟩ := three_new w (.cells #[fnV a] 117) (.cells #[fnV b] 118) (.cells #[fnV d] 119) (.cells (ptc 89 90 91 w.heap.size (w.heap.size + 1) (w.heap.size + 2)) 59)
  have HF : Hid (Below w.heap.size w W ∧ Pv (fun k => w.heap.size ≤ k ∧ k < W.heap.size) W a b d w.heap.size (w.heap.size + 1) (w.heap.size + 2)) := by
    refine And.intro hb ⟨by omega, by omega, by omega, ?_, ?_, ?_⟩
    · exact cell_of_one h1
    · exact cell_of_one h2
    · exact cell_of_one h3
  have H4 := hid h4
  clear hb hs h1 h2 h3 h4
  go_enter Tryd.func52, Tryd.ntmps52
  go_wp2
  have hfin := HF.out
  have h4 := H4.out
  rw [HW.out] at hfin h4
  refine bodyPost_ret (v := .agg (ptc 89 90 91 w.heap.size (w.heap.size + 1) (w.heap.size + 2))) ?_ rfl ⟨_, _, _, rfl, hfin⟩
  have hr := run_loadVar_row _ (w.heap.size + 3) 59 59 _ (0, 0) _ h4 Tryd.underlying59 rfl (by kernel_rfl)
  have e : w.heap.size + 3 = w.heap.size + 1 + 1 + 1 := rfl
  rw [e] at hr
  simp [results, Tryd.results52, asAddr, hr]
end Go.Proofs.YtllbbbfkdgjffaaDoor
