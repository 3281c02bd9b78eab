/-
  Proved here: a store of the document's in memory (RSt), all of it in blocks of D; its Get. No further condition.
-/
import Derived.Test.YtggbokghhohofaaDoorED
import Derived.Test.YtggbokghhohofaaDoorEF
namespace Go.Proofs.YtggbokghhohofaaDoor
open Go.RowKit Go.Maps
set_option maxRecDepth 100000

/-- A store of the document's in memory. -/
def RSt (D : Nat → Prop) (p : Nat) (w : World) (all : List Nd) : Prop := ∃ (va : Value) (d : List Nv), d.map (·.2) = all ∧ w.heap[p]? = some (.cells #[va] 30 (0, 0)) ∧ D p ∧ Rw D 5 41 w va d.length (fl flN d) ∧ va.ownBlock ≠ some p ∧ ∀ x ∈ d, Cps (fun b => D b ∧ b ≠ p ∧ va.ownBlock ≠ some b) w x.1 x.2.lf
theorem RSt.keep {D : Nat → Prop} {p : Nat} {w w' : World} {all : List Nd} (h : RSt D p w all) (hb : ∀ b, D b → w'.heap[b]? = w.heap[b]?) : RSt D p w' all := by
  obtain ⟨va, d, h1, h2, h3, h4, h5, h6⟩ := h
  exact ⟨va, d, h1, (hb p h3).trans h2, h3, h4.carry fun b _ hS => ⟨hS, hb b hS⟩, h5, fun x hx => (h6 x hx).carry fun b _ hS => ⟨hS, hb b hS.1⟩⟩
theorem rget_no {D : Nat → Prop} {p : Nat} {w : World} {all : List Nd} (h : RSt D p w all) (j : Int) (hj : inL all j = false) : Calls Tryd.prog 16 #[ptr p, .int .i64 j] w fun e w' => e = .returned (.tuple #[.agg (ndc (nilS, zNd)), .bool false]) ∧ Below w.heap.size w w' := by
  obtain ⟨va, d, h1, h2, h3, h4, h5, h6⟩ := h
  have hdl : d.length = all.length := by rw [← h1]; simp
  obtain ⟨ao, cap, rfl⟩ := h4.form
  have hB1 : Below w.heap.size w (w.alloc (.cells (ndc (nilS, zNd)) 41)) := (Below.refl _ _).alloc (Nat.le_refl _) _
  have c0 : (w.alloc (.cells (ndc (nilS, zNd)) 41)).cell? ⟨p, 0, none⟩ = some (.slice ao d.length cap) := cell_on hB1 ((cell_of_row _ _ _ _ _ _ h2).trans rfl)
  have HB := hid hB1
  have hb0 := fun W => run_b0 W
  by_cases hj0 : j < 0
  · have d1 : decide (j < 0) = true := decide_eq_true hj0
    clear h1 h2 h3 h4 h5 h6 hB1 hj hj0
    go_enter Tryd.func16, Tryd.ntmps16
    go_wp2_with (refine stNew 41 (.tmp 4) (.tmp 17) rfl rfl w 41 (ndc (nilS, zNd)) (ndc (nilS, zNd)) rfl rfl rfl (infoNODE _) rfl (ndc_one rfl _) ?_)
    refine bodyPost_ret (v := .tuple #[.agg (ndc (nilS, zNd)), .bool false]) (results_ctN Tryd.results16 _ _ w.heap.size (nilS, zNd) rfl (heap_alloc_new _ _)) rfl ?_
    exact ⟨rfl, HB.out⟩
  · have d1 : decide (j < 0) = false := decide_eq_false hj0
    have d2 : decide ((d.length : Int) ≤ j) = true := decide_eq_true (by
      simp only [inL, Bool.and_eq_false_iff, decide_eq_false_iff_not] at hj
      omega)
    clear h1 h2 h3 h4 h5 h6 hB1 hj hj0 hdl
    go_enter Tryd.func16, Tryd.ntmps16
    go_wp2_with (refine stNew 41 (.tmp 4) (.tmp 17) rfl rfl w 41 (ndc (nilS, zNd)) (ndc (nilS, zNd)) rfl rfl rfl (infoNODE _) rfl (ndc_one rfl _) ?_)
    refine bodyPost_ret (v := .tuple #[.agg (ndc (nilS, zNd)), .bool false]) (results_ctN Tryd.results16 _ _ w.heap.size (nilS, zNd) rfl (heap_alloc_new _ _)) rfl ?_
    exact ⟨rfl, HB.out⟩
theorem rget_ok {D : Nat → Prop} {p : Nat} {w : World} {all : List Nd} (h : RSt D p w all) (i : Nat) (hi : i < all.length) : Calls Tryd.prog 16 #[ptr p, .int .i64 ((i : Nat) : Int)] w fun e w' => ∃ u, e = .returned (.tuple #[.agg (ndc (u, all[i])), .bool true]) ∧ Below w.heap.size w w' ∧ Cps D w u all[i].lf := by
  obtain ⟨va, d, h1, h2, h3, h4, h5, h6⟩ := h
  have hdl : d.length = all.length := by rw [← h1]; simp
  have hid1 : i < d.length := by omega
  obtain ⟨ao, cap, rfl⟩ := h4.form
  have hB1 : Below w.heap.size w (w.alloc (.cells (ndc (nilS, zNd)) 41)) := (Below.refl _ _).alloc (Nat.le_refl _) _
  have c0 : (w.alloc (.cells (ndc (nilS, zNd)) 41)).cell? ⟨p, 0, none⟩ = some (.slice ao d.length cap) := cell_on hB1 ((cell_of_row _ _ _ _ _ _ h2).trans rfl)
  have h41 := h4.carry (T := D) (w' := w.alloc (.cells (ndc (nilS, zNd)) 41)) fun b hb hS => ⟨hS, hB1.block b hb⟩
  obtain ⟨g, o, rfl, -, hcap, hgl, hra⟩ := h41.rg flN5 rfl i hid1
  have hlf := h6 _ (List.getElem_mem hid1)
  have e1 : d[i].2 = all[i] := by subst h1; simp
  rw [e1] at hlf
  have hra : (w.alloc (.cells (ndc (nilS, zNd)) 41)).rangeAt g (o + i * 5) (ndc (d[i].1, all[i])).toList := by rw [← e1]; exact hra
  generalize d[i].1 = u0 at hlf hra
  generalize all[i] = x at hlf hra e1 ⊢
  obtain ⟨a0, k0, rfl, -⟩ := hlf.form
  have hic : i < cap := by omega
  have HRA := hid hra
  have HLF := hid hlf
  have HB := hid hB1
  have d1 : decide (((i : Nat) : Int) < 0) = false := decide_eq_false (by omega)
  have d2 : decide ((d.length : Int) ≤ ((i : Nat) : Int)) = false := decide_eq_false (by omega)
  clear h1 h2 h3 h4 h5 h6 h41 hra hlf e1 hB1 hgl
  go_enter Tryd.func16, Tryd.ntmps16
  go_wp2_with (first
    | (refine ldMid 41 (.tmp 23) rfl rfl g (o + i * 5) rfl (ndc (.slice a0 x.lf.length k0, x)) _ Tryd.underlying41 rfl (infoNODE _) HRA.out ?_)
    | (refine stNew 41 (.tmp 4) (.tmp 24) rfl rfl w 41 (ndc (nilS, zNd)) (ndc (.slice a0 x.lf.length k0, x)) rfl rfl rfl (infoNODE _) rfl (ndc_one rfl _) ?_))
  refine bodyPost_ret (v := .tuple #[.agg (ndc (.slice a0 x.lf.length k0, x)), .bool true]) (results_ctN Tryd.results16 _ _ w.heap.size (.slice a0 x.lf.length k0, x) rfl (heap_alloc_new _ _)) rfl ?_
  exact ⟨_, rfl, (Below.refl _ _).alloc (Nat.le_refl _) _, HLF.out.carry fun b _ hS => ⟨hS.1, rfl⟩⟩
end Go.Proofs.YtggbokghhohofaaDoor
