/-
  Proved here: NodesNil answers true; no old memory turns. Condition: the tables hold their numbers.
-/
import Derived.Test.YtggbokghhohofaaDoorWB
namespace Go.Proofs.YtggbokghhohofaaDoor
open Go.RowKit Go.Maps
set_option maxRecDepth 100000

theorem leaf_nil (v : Value) (w : World) : Calls Tryd.prog 11 #[.pointer none, v] w fun e w' => e = .returned (.tuple #[.int .i64 0, .int .i64 1]) ∧ w' = w := by
  go_enter Tryd.func11, Tryd.ntmps11
  go_wp2
  exact bodyPost_ret (results_tmp2 rfl _ _ _) rfl ⟨rfl, rfl⟩
theorem test_nil (a b c d : Value) (w : World) : Calls Tryd.prog 13 #[.pointer none, a, b, c, d] w fun e w' => e = .returned (.tuple #[.int .i64 0, .int .i64 1]) ∧ w' = w := by
  go_enter Tryd.func13, Tryd.ntmps13
  go_wp2
  exact bodyPost_ret (results_tmp2 rfl _ _ _) rfl ⟨rfl, rfl⟩
theorem len_nil (w : World) : Calls Tryd.prog 18 #[.pointer none] w fun e w' => e = .returned (.int .i64 0) ∧ w' = w := by
  go_enter Tryd.func18, Tryd.ntmps18
  go_wp2
  go_ret
  exact ⟨rfl, rfl⟩
theorem has_nil (i : Int) (w : World) : Calls Tryd.prog 28 #[.pointer none, .int .i64 i] w fun e w' => e = .returned (.bool false) ∧ w' = w := by
  by_cases h0 : 0 ≤ i
  · have d1 : decide ((0 : Int) ≤ i) = true := decide_eq_true h0
    have d2 : decide (i < 0) = false := decide_eq_false (by omega)
    clear h0
    go_enter Tryd.func28, Tryd.ntmps28
    go_wp2_with (go_at_call 18; refine (len_nil _).mono ?_; rintro e w' ⟨rfl, rfl⟩)
    go_ret
    exact ⟨rfl, rfl⟩
  · have d1 : decide ((0 : Int) ≤ i) = false := decide_eq_false h0
    clear h0
    go_enter Tryd.func28, Tryd.ntmps28
    go_wp2
    go_ret
    exact ⟨rfl, rfl⟩
theorem get_nil (i : Int) (w : World) : Calls Tryd.prog 15 #[.pointer none, .int .i64 i] w fun e w' => e = .returned (.tuple #[.agg (ndc (nilS, zNd)), .bool false]) ∧ Below w.heap.size w w' := by
  have hb0 := fun W => run_b0 W
  have HB : Hid (Below w.heap.size w (w.alloc (.cells (ndc (nilS, zNd)) 41))) := (Below.refl _ _).alloc (Nat.le_refl _) _
  go_enter Tryd.func15, Tryd.ntmps15
  go_wp2_with (first
    | (go_at_call 28; refine (has_nil _ _).mono ?_; rintro e w' ⟨rfl, rfl⟩)
    | (refine stNew 41 (.tmp 4) (.tmp 11) rfl rfl w 41 (ndc (nilS, zNd)) (ndc (nilS, zNd)) rfl rfl rfl (infoNODE _) rfl (ndc_one rfl _) ?_))
  refine bodyPost_ret (v := .tuple #[.agg (ndc (nilS, zNd)), .bool false]) (results_ctN Tryd.results15 _ _ w.heap.size (nilS, zNd) rfl (heap_alloc_new _ _)) rfl ?_
  exact ⟨rfl, HB.out⟩
theorem alike_same {T T' : Nat → Prop} (w : World) (u v : Value) (a : Nd) (ha : Cps T w u a.lf) (hb : Cps T' w v a.lf) : Calls Tryd.prog 17 #[.agg (ndc (u, a)), .agg (ndc (v, a))] w fun e w' => e = .returned (.bool true) ∧ Below w.heap.size w w' :=
  (alike_any w u v a a ha hb).mono fun e w' ⟨r, h1, h2, h3⟩ => ⟨by rw [h1, h2.2 rfl], h3⟩
theorem Tabs.here {B : Nat} {w w' : World} (h : Tabs B w) (hb : Below w.heap.size w w') (hB : B ≤ w.heap.size) : Tabs B w' := h.on (hb.mono hB)
set_option maxHeartbeats 6400000 in
theorem nodesNil_any (B : Nat) (v : Value) (fd n id : Int) (w : World) (hT : Tabs B w) (hB : B ≤ w.heap.size) : Calls Tryd.prog 4 #[v, .int .i8 fd, .int .u64 n, .int .i64 id] w fun e w' => e = .returned (.bool true) ∧ Below w.heap.size w w' := by
  have hb0 := fun W => run_b0 W
  have HT := hid hT
  clear hT
  go_enter Tryd.func4, Tryd.ntmps4
  go_upto_region 4 with (first
    | (go_at_call 11; refine (leaf_nil _ _).mono ?_; rintro e w' ⟨rfl, rfl⟩)
    | (go_at_call 13; refine (test_nil _ _ _ _ _).mono ?_; rintro e w' ⟨rfl, rfl⟩))
  go_upto_region 5 with (first
    | (go_at_call 15; refine (get_nil _ _).mono ?_; rintro e W1 ⟨rfl, hb⟩; have hal : Below W1.heap.size W1 (W1.alloc (.cells (ndc (nilS, zNd)) 41)) := (Below.refl _ _).alloc (Nat.le_refl _) _; have HB := hid (hb.trans (hal.mono hb.size)); have HN : Hid ((W1.alloc (.cells (ndc (nilS, zNd)) 41)).heap[W1.heap.size]? = some (.cells (ndc (nilS, zNd)) 41 (0, 0))) := heap_alloc_new _ _; clear hb hal)
    | (refine stNew 41 (.tmp 14) (.tmp 35) rfl rfl _ 41 (ndc (nilS, zNd)) (ndc (nilS, zNd)) rfl rfl rfl (infoNODE _) rfl (ndc_one rfl _) ?_))
  generalize W1.alloc (.cells (ndc (nilS, zNd)) 41) = W2 at HB HN ⊢
  have HA := hid (alike_same (T := fun _ => False) (T' := fun _ => False) W2 nilS nilS zNd (Lst.nil _ _ _ _) (Lst.nil _ _ _ _))
  go_wp2_with (first
    | (refine ldRow 41 (.tmp 14) rfl rfl W1.heap.size rfl 41 (ndc (nilS, zNd)) _ Tryd.underlying41 rfl (infoNODE _) HN.out ?_)
    | (go_at_call 17; refine (HA.out).mono ?_; rintro e W3 ⟨rfl, hb⟩; have HB3 := hid (HB.out.trans (hb.mono HB.out.size)); have HWk := hid (wakes_any B W3 (HT.out.on (HB3.out.mono hB)) (Nat.le_trans hB HB3.out.size)); clear hb HA)
    | (go_at_call 18; refine (len_nil _).mono ?_; rintro e W3 ⟨rfl, rfl⟩)
    | (go_at_call 9; refine (HWk.out).mono ?_; rintro e W4 ⟨rfl, hb⟩; have HB4 := hid (HB3.out.trans (hb.mono HB3.out.size)); clear hb HWk))
  go_ret
  exact ⟨rfl, HB4.out⟩
end Go.Proofs.YtggbokghhohofaaDoor
