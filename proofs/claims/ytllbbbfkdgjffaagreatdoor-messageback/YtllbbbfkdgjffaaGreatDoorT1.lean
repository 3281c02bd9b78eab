/-
  Proved here: what field makes of three functions: a part of three closures over them, at each of its seven types; no old memory turns. No condition.
-/
import Derived.Test.YtllbbbfkdgjffaaGreatDoorWH
import Derived.Laws.EntriesVeiled
namespace Go.Proofs.YtllbbbfkdgjffaaGreatDoor
open Go.RowKit

abbrev fnV (f : Nat) : Value := .func (.func f) #[] #[]
abbrev ptr (g : Nat) : Value := .pointer (some ⟨g, 0, none⟩)
/-- A part's three closures: f1 over the block g1, f2 over g2 and g1, f3 over g3 and g1. -/
abbrev ptc (f1 f2 f3 g1 g2 g3 : Nat) : Array Value := #[.func (.func f1) #[] #[ptr g1], .func (.func f2) #[] #[ptr g2, ptr g1], .func (.func f3) #[] #[ptr g3, ptr g1]]
/-- The blocks hold the three functions. -/
structure Pv (T : Nat → Prop) (w : World) (a b d g1 g2 g3 : Nat) : Prop where
  t1 : T g1
  t2 : T g2
  t3 : T g3
  c1 : w.cell? ⟨g1, 0, none⟩ = some (fnV a)
  c2 : w.cell? ⟨g2, 0, none⟩ = some (fnV b)
  c3 : w.cell? ⟨g3, 0, none⟩ = some (fnV d)
theorem Pv.carry {T T' : Nat → Prop} {w w' : World} {a b d g1 g2 g3 : Nat} (h : Pv T w a b d g1 g2 g3) (hc : ∀ b, b < w.heap.size → T b → T' b ∧ w'.heap[b]? = w.heap[b]?) : Pv T' w' a b d g1 g2 g3 := by
  have q1 := hc g1 (cell_lt h.c1) h.t1
  have q2 := hc g2 (cell_lt h.c2) h.t2
  have q3 := hc g3 (cell_lt h.c3) h.t3
  exact ⟨q1.1, q2.1, q3.1, by rw [cell_same q1.2]; exact h.c1, by rw [cell_same q2.2]; exact h.c2, by rw [cell_same q3.2]; exact h.c3⟩
theorem three_new (w : World) (x y z r : Obj) : ∃ W, Hid (W = (((w.alloc x).alloc y).alloc z).alloc r) ∧ Below w.heap.size w W ∧ W.heap.size = w.heap.size + 4 ∧ W.heap[w.heap.size]? = some x ∧ W.heap[w.heap.size + 1]? = some y ∧ W.heap[w.heap.size + 2]? = some z ∧ W.heap[w.heap.size + 3]? = some r := by
  refine ⟨_, rfl, ((((Below.refl _ _).alloc (Nat.le_refl _) _).alloc (by simp) _).alloc (by simp; try omega) _).alloc (by simp; try omega) _, by simp, ?_, ?_, ?_, ?_⟩
  · rw [heap_alloc_old _ _ (by simp; try omega), heap_alloc_old _ _ (by simp; try omega), heap_alloc_old _ _ (by simp)]; exact heap_alloc_new _ _
  · rw [heap_alloc_old _ _ (by simp; try omega), heap_alloc_old _ _ (by simp)]
    have := heap_alloc_new (w.alloc x) y
    simpa using this
  · rw [heap_alloc_old _ _ (by simp)]
    have := heap_alloc_new ((w.alloc x).alloc y) z
    simpa using this
  · have := heap_alloc_new (((w.alloc x).alloc y).alloc z) r
    simpa using this

set_option maxHeartbeats 800000 in
theorem fdU_any (a b d : Nat) (w : World) :
    Calls Tryz.prog 53 #[fnV a, fnV b, fnV d] w fun e w' => ∃ g1 g2 g3, e = .returned (.agg (ptc 87 88 89 g1 g2 g3)) ∧ Below w.heap.size w w' ∧ Pv (fun k => w.heap.size ≤ k ∧ k < w'.heap.size) w' a b d g1 g2 g3 := by
  have hmf : ∀ (fn : Fn) (first cap : Array Value) (w : World), (Instr.makeFunc fn first cap).run Tryz.prog w = .ok (.func fn first cap) w := fun _ _ _ _ => rfl
  obtain ⟨W, HW, hb, hs, h1, h2, h3, h4⟩ := three_new w (.cells #[fnV a] 106) (.cells #[fnV b] 107) (.cells #[fnV d] 109) (.cells (ptc 87 88 89 w.heap.size (w.heap.size + 1) (w.heap.size + 2)) 78)
  have HF : Hid (Below w.heap.size w W ∧ Pv (fun k => w.heap.size ≤ k ∧ k < W.heap.size) W a b d w.heap.size (w.heap.size + 1) (w.heap.size + 2)) := by
    refine And.intro hb ⟨by omega, by omega, by omega, ?_, ?_, ?_⟩
    · exact cell_of_one h1
    · exact cell_of_one h2
    · exact cell_of_one h3
  have H4 := hid h4
  clear hb hs h1 h2 h3 h4
  go_enter Tryz.func53, Tryz.ntmps53
  go_wp2
  have hfin := HF.out
  have h4 := H4.out
  rw [HW.out] at hfin h4
  refine bodyPost_ret (v := .agg (ptc 87 88 89 w.heap.size (w.heap.size + 1) (w.heap.size + 2))) ?_ rfl ⟨_, _, _, rfl, hfin⟩
  have hr := run_loadVar_row _ (w.heap.size + 3) 78 78 _ (0, 0) _ h4 Tryz.underlying78 rfl (by kernel_rfl)
  have e : w.heap.size + 3 = w.heap.size + 1 + 1 + 1 := rfl
  rw [e] at hr
  simp [results, Tryz.results53, asAddr, hr]

set_option maxHeartbeats 800000 in
theorem fdUs_any (a b d : Nat) (w : World) :
    Calls Tryz.prog 57 #[fnV a, fnV b, fnV d] w fun e w' => ∃ g1 g2 g3, e = .returned (.agg (ptc 90 91 92 g1 g2 g3)) ∧ Below w.heap.size w w' ∧ Pv (fun k => w.heap.size ≤ k ∧ k < w'.heap.size) w' a b d g1 g2 g3 := by
  have hmf : ∀ (fn : Fn) (first cap : Array Value) (w : World), (Instr.makeFunc fn first cap).run Tryz.prog w = .ok (.func fn first cap) w := fun _ _ _ _ => rfl
  obtain ⟨W, HW, hb, hs, h1, h2, h3, h4⟩ := three_new w (.cells #[fnV a] 113) (.cells #[fnV b] 114) (.cells #[fnV d] 116) (.cells (ptc 90 91 92 w.heap.size (w.heap.size + 1) (w.heap.size + 2)) 78)
  have HF : Hid (Below w.heap.size w W ∧ Pv (fun k => w.heap.size ≤ k ∧ k < W.heap.size) W a b d w.heap.size (w.heap.size + 1) (w.heap.size + 2)) := by
    refine And.intro hb ⟨by omega, by omega, by omega, ?_, ?_, ?_⟩
    · exact cell_of_one h1
    · exact cell_of_one h2
    · exact cell_of_one h3
  have H4 := hid h4
  clear hb hs h1 h2 h3 h4
  go_enter Tryz.func57, Tryz.ntmps57
  go_wp2
  have hfin := HF.out
  have h4 := H4.out
  rw [HW.out] at hfin h4
  refine bodyPost_ret (v := .agg (ptc 90 91 92 w.heap.size (w.heap.size + 1) (w.heap.size + 2))) ?_ rfl ⟨_, _, _, rfl, hfin⟩
  have hr := run_loadVar_row _ (w.heap.size + 3) 78 78 _ (0, 0) _ h4 Tryz.underlying78 rfl (by kernel_rfl)
  have e : w.heap.size + 3 = w.heap.size + 1 + 1 + 1 := rfl
  rw [e] at hr
  simp [results, Tryz.results57, asAddr, hr]

set_option maxHeartbeats 800000 in
theorem fdI_any (a b d : Nat) (w : World) :
    Calls Tryz.prog 62 #[fnV a, fnV b, fnV d] w fun e w' => ∃ g1 g2 g3, e = .returned (.agg (ptc 95 96 97 g1 g2 g3)) ∧ Below w.heap.size w w' ∧ Pv (fun k => w.heap.size ≤ k ∧ k < w'.heap.size) w' a b d g1 g2 g3 := by
  have hmf : ∀ (fn : Fn) (first cap : Array Value) (w : World), (Instr.makeFunc fn first cap).run Tryz.prog w = .ok (.func fn first cap) w := fun _ _ _ _ => rfl
  obtain ⟨W, HW, hb, hs, h1, h2, h3, h4⟩ := three_new w (.cells #[fnV a] 119) (.cells #[fnV b] 120) (.cells #[fnV d] 122) (.cells (ptc 95 96 97 w.heap.size (w.heap.size + 1) (w.heap.size + 2)) 78)
  have HF : Hid (Below w.heap.size w W ∧ Pv (fun k => w.heap.size ≤ k ∧ k < W.heap.size) W a b d w.heap.size (w.heap.size + 1) (w.heap.size + 2)) := by
    refine And.intro hb ⟨by omega, by omega, by omega, ?_, ?_, ?_⟩
    · exact cell_of_one h1
    · exact cell_of_one h2
    · exact cell_of_one h3
  have H4 := hid h4
  clear hb hs h1 h2 h3 h4
  go_enter Tryz.func62, Tryz.ntmps62
  go_wp2
  have hfin := HF.out
  have h4 := H4.out
  rw [HW.out] at hfin h4
  refine bodyPost_ret (v := .agg (ptc 95 96 97 w.heap.size (w.heap.size + 1) (w.heap.size + 2))) ?_ rfl ⟨_, _, _, rfl, hfin⟩
  have hr := run_loadVar_row _ (w.heap.size + 3) 78 78 _ (0, 0) _ h4 Tryz.underlying78 rfl (by kernel_rfl)
  have e : w.heap.size + 3 = w.heap.size + 1 + 1 + 1 := rfl
  rw [e] at hr
  simp [results, Tryz.results62, asAddr, hr]

set_option maxHeartbeats 800000 in
theorem fdR_any (a b d : Nat) (w : World) :
    Calls Tryz.prog 66 #[fnV a, fnV b, fnV d] w fun e w' => ∃ g1 g2 g3, e = .returned (.agg (ptc 99 100 101 g1 g2 g3)) ∧ Below w.heap.size w w' ∧ Pv (fun k => w.heap.size ≤ k ∧ k < w'.heap.size) w' a b d g1 g2 g3 := by
  have hmf : ∀ (fn : Fn) (first cap : Array Value) (w : World), (Instr.makeFunc fn first cap).run Tryz.prog w = .ok (.func fn first cap) w := fun _ _ _ _ => rfl
  obtain ⟨W, HW, hb, hs, h1, h2, h3, h4⟩ := three_new w (.cells #[fnV a] 125) (.cells #[fnV b] 126) (.cells #[fnV d] 128) (.cells (ptc 99 100 101 w.heap.size (w.heap.size + 1) (w.heap.size + 2)) 78)
  have HF : Hid (Below w.heap.size w W ∧ Pv (fun k => w.heap.size ≤ k ∧ k < W.heap.size) W a b d w.heap.size (w.heap.size + 1) (w.heap.size + 2)) := by
    refine And.intro hb ⟨by omega, by omega, by omega, ?_, ?_, ?_⟩
    · exact cell_of_one h1
    · exact cell_of_one h2
    · exact cell_of_one h3
  have H4 := hid h4
  clear hb hs h1 h2 h3 h4
  go_enter Tryz.func66, Tryz.ntmps66
  go_wp2
  have hfin := HF.out
  have h4 := H4.out
  rw [HW.out] at hfin h4
  refine bodyPost_ret (v := .agg (ptc 99 100 101 w.heap.size (w.heap.size + 1) (w.heap.size + 2))) ?_ rfl ⟨_, _, _, rfl, hfin⟩
  have hr := run_loadVar_row _ (w.heap.size + 3) 78 78 _ (0, 0) _ h4 Tryz.underlying78 rfl (by kernel_rfl)
  have e : w.heap.size + 3 = w.heap.size + 1 + 1 + 1 := rfl
  rw [e] at hr
  simp [results, Tryz.results66, asAddr, hr]

set_option maxHeartbeats 800000 in
theorem fdB_any (a b d : Nat) (w : World) :
    Calls Tryz.prog 74 #[fnV a, fnV b, fnV d] w fun e w' => ∃ g1 g2 g3, e = .returned (.agg (ptc 108 109 110 g1 g2 g3)) ∧ Below w.heap.size w w' ∧ Pv (fun k => w.heap.size ≤ k ∧ k < w'.heap.size) w' a b d g1 g2 g3 := by
  have hmf : ∀ (fn : Fn) (first cap : Array Value) (w : World), (Instr.makeFunc fn first cap).run Tryz.prog w = .ok (.func fn first cap) w := fun _ _ _ _ => rfl
  obtain ⟨W, HW, hb, hs, h1, h2, h3, h4⟩ := three_new w (.cells #[fnV a] 131) (.cells #[fnV b] 132) (.cells #[fnV d] 133) (.cells (ptc 108 109 110 w.heap.size (w.heap.size + 1) (w.heap.size + 2)) 78)
  have HF : Hid (Below w.heap.size w W ∧ Pv (fun k => w.heap.size ≤ k ∧ k < W.heap.size) W a b d w.heap.size (w.heap.size + 1) (w.heap.size + 2)) := by
    refine And.intro hb ⟨by omega, by omega, by omega, ?_, ?_, ?_⟩
    · exact cell_of_one h1
    · exact cell_of_one h2
    · exact cell_of_one h3
  have H4 := hid h4
  clear hb hs h1 h2 h3 h4
  go_enter Tryz.func74, Tryz.ntmps74
  go_wp2
  have hfin := HF.out
  have h4 := H4.out
  rw [HW.out] at hfin h4
  refine bodyPost_ret (v := .agg (ptc 108 109 110 w.heap.size (w.heap.size + 1) (w.heap.size + 2))) ?_ rfl ⟨_, _, _, rfl, hfin⟩
  have hr := run_loadVar_row _ (w.heap.size + 3) 78 78 _ (0, 0) _ h4 Tryz.underlying78 rfl (by kernel_rfl)
  have e : w.heap.size + 3 = w.heap.size + 1 + 1 + 1 := rfl
  rw [e] at hr
  simp [results, Tryz.results74, asAddr, hr]

set_option maxHeartbeats 800000 in
theorem fdH_any (a b d : Nat) (w : World) :
    Calls Tryz.prog 78 #[fnV a, fnV b, fnV d] w fun e w' => ∃ g1 g2 g3, e = .returned (.agg (ptc 112 113 114 g1 g2 g3)) ∧ Below w.heap.size w w' ∧ Pv (fun k => w.heap.size ≤ k ∧ k < w'.heap.size) w' a b d g1 g2 g3 := by
  have hmf : ∀ (fn : Fn) (first cap : Array Value) (w : World), (Instr.makeFunc fn first cap).run Tryz.prog w = .ok (.func fn first cap) w := fun _ _ _ _ => rfl
  obtain ⟨W, HW, hb, hs, h1, h2, h3, h4⟩ := three_new w (.cells #[fnV a] 137) (.cells #[fnV b] 138) (.cells #[fnV d] 140) (.cells (ptc 112 113 114 w.heap.size (w.heap.size + 1) (w.heap.size + 2)) 78)
  have HF : Hid (Below w.heap.size w W ∧ Pv (fun k => w.heap.size ≤ k ∧ k < W.heap.size) W a b d w.heap.size (w.heap.size + 1) (w.heap.size + 2)) := by
    refine And.intro hb ⟨by omega, by omega, by omega, ?_, ?_, ?_⟩
    · exact cell_of_one h1
    · exact cell_of_one h2
    · exact cell_of_one h3
  have H4 := hid h4
  clear hb hs h1 h2 h3 h4
  go_enter Tryz.func78, Tryz.ntmps78
  go_wp2
  have hfin := HF.out
  have h4 := H4.out
  rw [HW.out] at hfin h4
  refine bodyPost_ret (v := .agg (ptc 112 113 114 w.heap.size (w.heap.size + 1) (w.heap.size + 2))) ?_ rfl ⟨_, _, _, rfl, hfin⟩
  have hr := run_loadVar_row _ (w.heap.size + 3) 78 78 _ (0, 0) _ h4 Tryz.underlying78 rfl (by kernel_rfl)
  have e : w.heap.size + 3 = w.heap.size + 1 + 1 + 1 := rfl
  rw [e] at hr
  simp [results, Tryz.results78, asAddr, hr]

set_option maxHeartbeats 800000 in
theorem fdO_any (a b d : Nat) (w : World) :
    Calls Tryz.prog 82 #[fnV a, fnV b, fnV d] w fun e w' => ∃ g1 g2 g3, e = .returned (.agg (ptc 119 120 121 g1 g2 g3)) ∧ Below w.heap.size w w' ∧ Pv (fun k => w.heap.size ≤ k ∧ k < w'.heap.size) w' a b d g1 g2 g3 := by
  have hmf : ∀ (fn : Fn) (first cap : Array Value) (w : World), (Instr.makeFunc fn first cap).run Tryz.prog w = .ok (.func fn first cap) w := fun _ _ _ _ => rfl
  obtain ⟨W, HW, hb, hs, h1, h2, h3, h4⟩ := three_new w (.cells #[fnV a] 144) (.cells #[fnV b] 145) (.cells #[fnV d] 146) (.cells (ptc 119 120 121 w.heap.size (w.heap.size + 1) (w.heap.size + 2)) 78)
  have HF : Hid (Below w.heap.size w W ∧ Pv (fun k => w.heap.size ≤ k ∧ k < W.heap.size) W a b d w.heap.size (w.heap.size + 1) (w.heap.size + 2)) := by
    refine And.intro hb ⟨by omega, by omega, by omega, ?_, ?_, ?_⟩
    · exact cell_of_one h1
    · exact cell_of_one h2
    · exact cell_of_one h3
  have H4 := hid h4
  clear hb hs h1 h2 h3 h4
  go_enter Tryz.func82, Tryz.ntmps82
  go_wp2
  have hfin := HF.out
  have h4 := H4.out
  rw [HW.out] at hfin h4
  refine bodyPost_ret (v := .agg (ptc 119 120 121 w.heap.size (w.heap.size + 1) (w.heap.size + 2))) ?_ rfl ⟨_, _, _, rfl, hfin⟩
  have hr := run_loadVar_row _ (w.heap.size + 3) 78 78 _ (0, 0) _ h4 Tryz.underlying78 rfl (by kernel_rfl)
  have e : w.heap.size + 3 = w.heap.size + 1 + 1 + 1 := rfl
  rw [e] at hr
  simp [results, Tryz.results82, asAddr, hr]
end Go.Proofs.YtllbbbfkdgjffaaGreatDoor
