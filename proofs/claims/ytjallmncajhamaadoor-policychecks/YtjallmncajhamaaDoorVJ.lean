/-
  Proved here: the body of PolicyChecks says true. Conditions: the tables; the policy lies in old memory, its Ops are of eight bits.
-/
import Derived.Test.YtjallmncajhamaaDoorVI
namespace Go.Proofs.YtjallmncajhamaaDoor
open Go.RowKit
set_option maxRecDepth 100000

/-- what PolicyChecks reads -/
structure Pc1 (A : Nat) (x0 x1 x2 x3 xq : Value) (W : World) : Prop where
  n : W.heap[A]? = some (.cells #[x0, x1, x2, x3, xq] 29 (0, 0))
theorem Pc1.on {A : Nat} {x0 x1 x2 x3 xq : Value} {W W' : World} (h : Pc1 A x0 x1 x2 x3 xq W) (hb : Below W.heap.size W W') : Pc1 A x0 x1 x2 x3 xq W' := ⟨(hb.block _ (Array.getElem?_eq_some_iff.1 h.n).1).trans h.n⟩
set_option maxHeartbeats 12800000 in
theorem checks_any (p : Pi) (cs : Array Value) (w : World) (hp : PiV (fun b => b < w.heap.size) w p cs) (hwp : Wp p) (hT : TabP w) (hz : 3 ≤ w.heap.size) :
    Calls Tryd.prog 3 #[.agg cs] w fun e w' => e = .returned (.bool true) ∧ Below w.heap.size w w' := by
  have HPV := hid hp
  obtain ⟨x0, x1, x2, x3, ao, cap, xs, rfl, h1, -, -⟩ := hp.five
  have hcar : ∀ W, Below w.heap.size w W → ∀ b, b < w.heap.size → b < w.heap.size → b < W.heap.size ∧ W.heap[b]? = w.heap[b]? := fun W hb b hl _ => ⟨by have := hb.size; omega, hb.block b hl⟩
  obtain ⟨c, hc⟩ : ∃ c, c = chk p := ⟨_, rfl⟩
  obtain ⟨d, hd⟩ : ∃ d, d = prd p.main := ⟨_, rfl⟩
  have HC1 : Hid (∀ W, Below w.heap.size w W → Calls Tryd.prog 12 #[.agg #[x0, x1, x2, x3, .slice ao p.qs.length cap]] W fun e w' => e = .returned (.int .i64 ((c : Nat) : Int)) ∧ Below W.heap.size W w') := fun W hb => by rw [hc]; exact check8_any p _ W (hp.carry (hcar W hb)) hwp (hT.on hb hz) (by have := hb.size; omega)
  have HC2 : Hid (∀ W, Below w.heap.size w W → Calls Tryd.prog 13 #[.agg #[x0, x1, x2, x3, .slice ao p.qs.length cap]] W fun e w' => e = .returned (.int .i64 ((c : Nat) : Int)) ∧ Below W.heap.size W w') := fun W hb => by rw [hc]; exact rcheck8_any p _ W (hp.carry (hcar W hb))
  have HC3 : Hid (∀ W, Below w.heap.size w W → Calls Tryd.prog 14 #[.agg #[x0, x1, x2, x3]] W fun e w' => e = .returned (.int .i64 ((d : Nat) : Int)) ∧ Below W.heap.size W w') := fun W hb => by rw [hd]; exact pred8_any p.main _ W (ti_on h1 (hcar W hb)) hwp.m (hT.on hb hz) (by have := hb.size; omega)
  have HC4 : Hid (∀ W, Below w.heap.size w W → Calls Tryd.prog 15 #[.agg #[x0, x1, x2, x3]] W fun e w' => e = .returned (.int .i64 ((d : Nat) : Int)) ∧ Below W.heap.size W w') := fun W hb => by rw [hd]; exact rpred8_any p.main _ W (ti_on h1 (hcar W hb))
  have HWk : Hid (∀ W, Below w.heap.size w W → Calls Tryd.prog 16 #[] W fun e w' => e = .returned (.bool true) ∧ Below W.heap.size W w') := fun W hb => wakes8_any W (hT.on hb hz) (by have := hb.size; omega)
  have HB1 : Hid (Below w.heap.size w (w.alloc (.cells #[x0, x1, x2, x3, .slice ao p.qs.length cap] 29)).drew) := bel_drew ((Below.refl _ _).alloc (Nat.le_refl _) _)
  have HR1 : Hid (Pc1 w.heap.size x0 x1 x2 x3 (.slice ao p.qs.length cap) (w.alloc (.cells #[x0, x1, x2, x3, .slice ao p.qs.length cap] 29)).drew) := ⟨heap_alloc_new _ _⟩
  clear hc hd hcar hp h1 hT hwp
  go_enter Tryd.func3, Tryd.ntmps3
  go_upto_region 1 with fail
  refine wp_region_held_drew (S := Pc1 w.heap.size x0 x1 x2 x3 (.slice ao p.qs.length cap)) (by kernel_rfl) HR1.out (fun hHeld => ?_)
  generalize (w.alloc (.cells #[x0, x1, x2, x3, .slice ao p.qs.length cap] 29)).drew = W1 at HB1 HR1 hHeld ⊢
  refine wpAnyH_take (i := 0) (v := .agg #[x0, x1, x2, x3, .slice ao p.qs.length cap]) rfl (by kernel_rfl) (by kernel_rfl) (by kernel_rfl) (fun _ _ _ h => h) (Or.inl ⟨by rfl, ?_⟩) hHeld ?_
  · intro w' hSw
    exact runLd 29 (.tmp 1) rfl w.heap.size 0 rfl #[x0, x1, x2, x3, .slice ao p.qs.length cap] _ (row4_rng hSw.n) Tryd.underlying29 rfl sizePO
  simp only [Act.put, List.getElem_toArray, List.getElem_cons_zero, List.setIfInBounds_toArray, List.set_cons_zero, List.set_cons_succ]
  refine wpAnyH_take (i := 2) (v := .agg #[x0, x1, x2, x3, .slice ao p.qs.length cap]) rfl (by kernel_rfl) (by kernel_rfl) (by kernel_rfl) (fun _ _ _ h => h) (Or.inl ⟨by rfl, ?_⟩) hHeld ?_
  · intro w' hSw
    exact runLd 29 (.tmp 1) rfl w.heap.size 0 rfl #[x0, x1, x2, x3, .slice ao p.qs.length cap] _ (row4_rng hSw.n) Tryd.underlying29 rfl sizePO
  simp only [Act.put, List.getElem_toArray, List.getElem_cons_succ, List.getElem_cons_zero, List.setIfInBounds_toArray, List.set_cons_zero, List.set_cons_succ]
  refine ready_one 1 _ (by kernel_rfl) rfl (stepFnW 12 (.func 12) [.tmp 3] _ [.agg #[x0, x1, x2, x3, .slice ao p.qs.length cap]] rfl rfl rfl rfl (fun _ => rfl) _ (HC1.out _ HB1.out) ?_)
  rintro e w2 ⟨rfl, hw⟩
  refine Or.inl ⟨_, rfl, ?_⟩
  have HB2 := hid (HB1.out.trans (hw.mono HB1.out.size))
  have HR2 := hid (HR1.out.on hw)
  clear hw HB1 HR1 hHeld HC1
  refine ⟨HR2.out, ?_⟩
  simp only [Act.put, List.getElem_toArray, List.getElem_cons_succ, List.getElem_cons_zero, List.setIfInBounds_toArray, List.set_cons_zero, List.set_cons_succ]
  refine ready_one 3 _ (by kernel_rfl) rfl (stepFnW 13 (.func 13) [.tmp 5] _ [.agg #[x0, x1, x2, x3, .slice ao p.qs.length cap]] rfl rfl rfl rfl (fun _ => rfl) _ (HC2.out _ HB2.out) ?_)
  rintro e w3 ⟨rfl, hw⟩
  refine Or.inl ⟨_, rfl, ?_⟩
  have HB3 := hid (HB2.out.trans (hw.mono HB2.out.size))
  have HR3 := hid (HR2.out.on hw)
  clear hw HB2 HR2 HC2
  refine ⟨HR3.out, ?_⟩
  simp only [Act.put, List.getElem_toArray, List.getElem_cons_succ, List.getElem_cons_zero, List.setIfInBounds_toArray, List.set_cons_zero, List.set_cons_succ]
  have hHeld := HR3.out
  refine wpAnyH_take (i := 4) (v := (.bool true)) rfl (by kernel_rfl) (by kernel_rfl) (by kernel_rfl) (fun _ _ _ h => h) (Or.inl ⟨by rfl, ?_⟩) hHeld ?_
  · intro w' hSw
    clear hSw
    go_simp
    first | done | with_reducible rfl
  simp only [Act.put, List.getElem_toArray, List.getElem_cons_succ, List.getElem_cons_zero, List.setIfInBounds_toArray, List.set_cons_zero, List.set_cons_succ]
  refine wpAnyH_take (i := 5) (v := ?_) rfl (by kernel_rfl) (by kernel_rfl) (by kernel_rfl) (fun _ _ _ h => h) (Or.inl ⟨by rfl, ?_⟩) hHeld ?_
  rotate_left
  · intro w' hSw
    clear hSw
    go_simp
    first | done | with_reducible rfl
  simp only [Act.put, List.getElem_toArray, List.getElem_cons_succ, List.getElem_cons_zero, List.setIfInBounds_toArray, List.set_cons_zero, List.set_cons_succ]
  refine wpAnyH_take (i := 6) (v := ?_) rfl (by kernel_rfl) (by kernel_rfl) (by kernel_rfl) (fun _ _ _ h => h) (Or.inl ⟨by rfl, ?_⟩) hHeld ?_
  rotate_left
  · intro w' hSw
    clear hSw
    go_simp
    first | done | with_reducible rfl
  simp only [Act.put, List.getElem_toArray, List.getElem_cons_succ, List.getElem_cons_zero, List.setIfInBounds_toArray, List.set_cons_zero, List.set_cons_succ]
  refine wpAnyH_take (i := 7) (v := .agg #[x0, x1, x2, x3]) rfl (by kernel_rfl) (by kernel_rfl) (by kernel_rfl) (fun _ _ _ h => h) (Or.inl ⟨by rfl, ?_⟩) hHeld ?_
  · intro w' hSw
    exact runLd 26 (.tmp 9) rfl w.heap.size 0 rfl #[x0, x1, x2, x3] _ (five_rng hSw.n) Tryd.underlying26 rfl sizeTM
  simp only [Act.put, List.getElem_toArray, List.getElem_cons_succ, List.getElem_cons_zero, List.setIfInBounds_toArray, List.set_cons_zero, List.set_cons_succ]
  refine wpAnyH_take (i := 9) (v := ?_) rfl (by kernel_rfl) (by kernel_rfl) (by kernel_rfl) (fun _ _ _ h => h) (Or.inl ⟨by rfl, ?_⟩) hHeld ?_
  rotate_left
  · intro w' hSw
    clear hSw
    go_simp
    first | done | with_reducible rfl
  simp only [Act.put, List.getElem_toArray, List.getElem_cons_succ, List.getElem_cons_zero, List.setIfInBounds_toArray, List.set_cons_zero, List.set_cons_succ]
  refine wpAnyH_take (i := 10) (v := .agg #[x0, x1, x2, x3]) rfl (by kernel_rfl) (by kernel_rfl) (by kernel_rfl) (fun _ _ _ h => h) (Or.inl ⟨by rfl, ?_⟩) hHeld ?_
  · intro w' hSw
    exact runLd 26 (.tmp 12) rfl w.heap.size 0 rfl #[x0, x1, x2, x3] _ (five_rng hSw.n) Tryd.underlying26 rfl sizeTM
  simp only [Act.put, List.getElem_toArray, List.getElem_cons_succ, List.getElem_cons_zero, List.setIfInBounds_toArray, List.set_cons_zero, List.set_cons_succ]
  refine ready_one 8 _ (by kernel_rfl) rfl (stepFnW 14 (.func 14) [.tmp 10] _ [.agg #[x0, x1, x2, x3]] rfl rfl rfl rfl (fun _ => rfl) _ (HC3.out _ HB3.out) ?_)
  rintro e w4 ⟨rfl, hw⟩
  refine Or.inl ⟨_, rfl, ?_⟩
  have HB4 := hid (HB3.out.trans (hw.mono HB3.out.size))
  have HR4 := hid (HR3.out.on hw)
  clear hw HB3 HR3 hHeld HC3
  refine ⟨HR4.out, ?_⟩
  simp only [Act.put, List.getElem_toArray, List.getElem_cons_succ, List.getElem_cons_zero, List.setIfInBounds_toArray, List.set_cons_zero, List.set_cons_succ]
  refine ready_one 11 _ (by kernel_rfl) rfl (stepFnW 15 (.func 15) [.tmp 13] _ [.agg #[x0, x1, x2, x3]] rfl rfl rfl rfl (fun _ => rfl) _ (HC4.out _ HB4.out) ?_)
  rintro e w5 ⟨rfl, hw⟩
  refine Or.inl ⟨_, rfl, ?_⟩
  have HB5 := hid (HB4.out.trans (hw.mono HB4.out.size))
  have HR5 := hid (HR4.out.on hw)
  clear hw HB4 HR4 HC4
  refine ⟨HR5.out, ?_⟩
  simp only [Act.put, List.getElem_toArray, List.getElem_cons_succ, List.getElem_cons_zero, List.setIfInBounds_toArray, List.set_cons_zero, List.set_cons_succ]
  have hHeld := HR5.out
  refine wpAnyH_take (i := 12) (v := (.bool true)) rfl (by kernel_rfl) (by kernel_rfl) (by kernel_rfl) (fun _ _ _ h => h) (Or.inl ⟨by rfl, ?_⟩) hHeld ?_
  · intro w' hSw
    clear hSw
    go_simp
    first | done | with_reducible rfl
  simp only [Act.put, List.getElem_toArray, List.getElem_cons_succ, List.getElem_cons_zero, List.setIfInBounds_toArray, List.set_cons_zero, List.set_cons_succ]
  refine wpAnyH_take (i := 13) (v := ?_) rfl (by kernel_rfl) (by kernel_rfl) (by kernel_rfl) (fun _ _ _ h => h) (Or.inl ⟨by rfl, ?_⟩) hHeld ?_
  rotate_left
  · intro w' hSw
    clear hSw
    go_simp
    first | done | with_reducible rfl
  simp only [Act.put, List.getElem_toArray, List.getElem_cons_succ, List.getElem_cons_zero, List.setIfInBounds_toArray, List.set_cons_zero, List.set_cons_succ]
  refine wpAnyH_take (i := 14) (v := ?_) rfl (by kernel_rfl) (by kernel_rfl) (by kernel_rfl) (fun _ _ _ h => h) (Or.inl ⟨by rfl, ?_⟩) hHeld ?_
  rotate_left
  · intro w' hSw
    clear hSw
    go_simp
    first | done | with_reducible rfl
  simp only [Act.put, List.getElem_toArray, List.getElem_cons_succ, List.getElem_cons_zero, List.setIfInBounds_toArray, List.set_cons_zero, List.set_cons_succ]
  refine ready_one 15 _ (by kernel_rfl) rfl (stepFnW 16 (.func 16) [] _ [] rfl rfl rfl rfl (fun _ => rfl) _ (HWk.out _ HB5.out) ?_)
  rintro e w6 ⟨rfl, hw⟩
  refine Or.inl ⟨_, rfl, ?_⟩
  have HB6 := hid (HB5.out.trans (hw.mono HB5.out.size))
  have HR6 := hid (HR5.out.on hw)
  clear hw HB5 HR5 hHeld HWk
  refine ⟨HR6.out, ?_⟩
  simp only [Act.put, List.getElem_toArray, List.getElem_cons_succ, List.getElem_cons_zero, List.setIfInBounds_toArray, List.set_cons_zero, List.set_cons_succ]
  have hHeld := HR6.out
  refine wpAnyH_take (i := 16) (v := ?_) rfl (by kernel_rfl) (by kernel_rfl) (by kernel_rfl) (fun _ _ _ h => h) (Or.inl ⟨by rfl, ?_⟩) hHeld ?_
  rotate_left
  · intro w' hSw
    clear hSw
    go_simp
    first | done | with_reducible rfl
  simp only [Act.put, List.getElem_toArray, List.getElem_cons_succ, List.getElem_cons_zero, List.setIfInBounds_toArray, List.set_cons_zero, List.set_cons_succ]
  refine wpAnyH_take (i := 17) (v := ?_) rfl (by kernel_rfl) (by kernel_rfl) (by kernel_rfl) (fun _ _ _ h => h) (Or.inl ⟨by rfl, ?_⟩) hHeld ?_
  rotate_left
  · intro w' hSw
    clear hSw
    go_simp
    first | done | with_reducible rfl
  simp only [Act.put, List.getElem_toArray, List.getElem_cons_succ, List.getElem_cons_zero, List.setIfInBounds_toArray, List.set_cons_zero, List.set_cons_succ]
  refine wpAnyH_done (by kernel_rfl) ?_ _
  clear hHeld
  go_wp2
  go_ret
  exact ⟨rfl, HB6.out⟩
end Go.Proofs.YtjallmncajhamaaDoor
