/-
  Proved here: HeaderLess's body returns true for every header and field number; no old memory turns. Condition: the three tables hold what they should.
-/
import Derived.Test.YthjgndkcijgfmaaDoorW9
namespace Go.Proofs.YthjgndkcijgfmaaDoor
open Go.RowKit

def upd (h : Nat → Int) (f : Nat) (x : Int) : Nat → Int := fun k => bif Nat.beq k f then x else h k
theorem upd_same (h : Nat → Int) (f : Nat) (x : Int) : upd h f x f = x := by simp [upd]
theorem upd_other (h : Nat → Int) (f : Nat) (x : Int) (k : Nat) (hk : k ≠ f) : upd h f x k = h k := by
  unfold upd
  cases hb : Nat.beq k f
  · rfl
  · exact absurd (Nat.eq_of_beq_eq_true hb) hk
theorem bar_upd (h : Nat → Int) (f : Nat) (x : Int) (h2 : f ≠ 2) (h6 : f ≠ 6) (k : Nat) : bar (upd h f x) k = bar h k := by
  have e2 := upd_other h f x 2 (by omega)
  have e6 := upd_other h f x 6 (by omega)
  unfold bar
  split <;> simp [b45, b6, b78, e2, e6]
theorem okUpto_all (h : Nat → Int) : ∀ n, okUpto h n = true → ∀ k, k < n → fldBad h k = false
  | 0, _, _, hk => absurd hk (by omega)
  | n + 1, ha, k, hk => by
    simp [okUpto] at ha
    by_cases e : k = n
    · subst e; exact ha.2
    · exact okUpto_all h n ha.1 k (by omega)
theorem okUpto_of (h : Nat → Int) : ∀ n, (∀ k, k < n → fldBad h k = false) → okUpto h n = true
  | 0, _ => rfl
  | n + 1, ha => by simp [okUpto, okUpto_of h n (fun k hk => ha k (by omega)), ha n (by omega)]
theorem less_ok (h : Nat → Int) (f : Nat) (h2 : f ≠ 2) (h6 : f ≠ 6) (hok : hOk h = true) : hOk (upd h f 0) = true := by
  simp only [hOk, Bool.and_eq_true] at hok ⊢
  refine ⟨by rw [upd_other h f 0 2 (by omega)]; exact hok.1, okUpto_of _ 11 fun k hk => ?_⟩
  have hb := okUpto_all h 11 hok.2 k hk
  by_cases e : k = f
  · subst e; simp [fldBad, upd_same]
  · unfold fldBad; rw [bar_upd h f 0 h2 h6, upd_other h f 0 k e]; exact hb

set_option maxHeartbeats 1600000 in
theorem less_none (h : Nat → Int) (f : Int) (hf0 : 0 ≤ f) (hf1 : f ≤ 255) (w : World) (hT : Tabs w) (hno : hOk h = false) :
    Calls Tryd.prog 5 #[hv h, .int .u8 f] w fun e w' => e = .returned (.bool true) ∧ Below w.heap.size w w' := by
  have hb0 : Below w.heap.size w (w.alloc (.cells (hcs h) 24)) := (Below.refl _ _).alloc (Nat.le_refl _) _
  have hT0 := hT.on hb0
  have c := check_any h (w.alloc (.cells (hcs h) 24)) hT0.wid
  rw [chk_bad hno] at c
  have C := Lib.hid c
  clear c
  go_enter Tryd.func5, Tryd.ntmps5
  go_wp2_with fail
  refine (C.out).mono ?_
  rintro e w1 ⟨rfl, hb1⟩
  have hl1 : Below w.heap.size w w1 := hb0.trans (hb1.mono (by simp))
  go_wp2_with fail
  go_fit (wakes_any w1 (hT0.on hb1))
  rintro e w2 ⟨rfl, hb2⟩
  go_wp2
  go_ret
  exact ⟨rfl, hl1.trans (hb2.mono hl1.size)⟩

set_option maxHeartbeats 1600000 in
theorem less_kept (h : Nat → Int) (f : Int) (hf0 : 0 ≤ f) (hf1 : f ≤ 255) (r : Int) (hr : f % 11 = r) (hr2 : r = 2 ∨ r = 6) (w : World) (hT : Tabs w) (hyes : hOk h = true) :
    Calls Tryd.prog 5 #[hv h, .int .u8 f] w fun e w' => e = .returned (.bool true) ∧ Below w.heap.size w w' := by
  have hb0 : Below w.heap.size w (w.alloc (.cells (hcs h) 24)) := (Below.refl _ _).alloc (Nat.le_refl _) _
  have hT0 := hT.on hb0
  have c := check_any h (w.alloc (.cells (hcs h) 24)) hT0.wid
  rw [chk_ok hyes] at c
  have C := Lib.hid c
  clear c
  rcases hr2 with rfl | rfl
  all_goals
    go_enter Tryd.func5, Tryd.ntmps5
    go_wp2_with fail
    refine (C.out).mono ?_
    rintro e w1 ⟨rfl, hb1⟩
    have hl1 : Below w.heap.size w w1 := hb0.trans (hb1.mono (by simp))
    go_wp2_with fail
    go_fit (wakes_any w1 (hT0.on hb1))
    rintro e w2 ⟨rfl, hb2⟩
    go_wp2
    go_ret
    exact ⟨rfl, hl1.trans (hb2.mono hl1.size)⟩

set_option maxHeartbeats 1600000 in
theorem less_m0 (h : Nat → Int) (f : Int) (hf0 : 0 ≤ f) (hf1 : f ≤ 255) (w : World) (hT : Tabs w) (hyes : hOk h = true) (hr : f % 11 = 0) :
    Calls Tryd.prog 5 #[hv h, .int .u8 f] w fun e w' => e = .returned (.bool true) ∧ Below w.heap.size w w' := by
  have hb0 : Below w.heap.size w (w.alloc (.cells (hcs h) 24)) := (Below.refl _ _).alloc (Nat.le_refl _) _
  have hT0 := hT.on hb0
  have c := check_any h (w.alloc (.cells (hcs h) 24)) hT0.wid
  rw [chk_ok hyes] at c
  have C := Lib.hid c
  clear c
  go_enter Tryd.func5, Tryd.ntmps5
  go_wp2_with fail
  refine (C.out).mono ?_
  rintro e w1 ⟨rfl, hb1⟩
  have hl1 : Below w.heap.size w w1 := hb0.trans (hb1.mono (by simp))
  have hh1 : w1.heap[w.heap.size]? = some (Obj.cells (hcs h) 24 (0, 0)) := by rw [hb1.block _ (by simp), heap_alloc_new]
  have hfr : ∀ o, w1.frozen? ⟨w.heap.size, o, none⟩ = false := fun o => by simp [World.frozen?, hh1]
  have hc := fun j hj => cell_h hh1 j hj
  have hl2 : Below w.heap.size w (w1.setCell ⟨w.heap.size, 0, none⟩ (.int .u64 0)) := hl1.setCell (p := ⟨w.heap.size, 0, none⟩) (Nat.le_refl _) _
  have hT2 := hT.on hl2
  clear hh1 hb1
  go_wp2_with fail
  go_fit (check_any (upd h 0 0) _ hT2.wid)
  rw [chk_ok (less_ok h 0 (by decide) (by decide) hyes)]
  rintro e w2 ⟨rfl, hb2⟩
  have hT3 := hT2.on hb2
  have hl3 : Below w.heap.size w w2 := hl2.trans (hb2.mono hl2.size)
  clear hb2 hT2 hl2 hc hfr hl1
  go_wp2_with fail
  go_fit (wakes_any w2 hT3)
  rintro e w3 ⟨rfl, hb3⟩
  go_wp2
  go_ret
  exact ⟨rfl, hl3.trans (hb3.mono hl3.size)⟩

set_option maxHeartbeats 1600000 in
theorem less_m1 (h : Nat → Int) (f : Int) (hf0 : 0 ≤ f) (hf1 : f ≤ 255) (w : World) (hT : Tabs w) (hyes : hOk h = true) (hr : f % 11 = 1) :
    Calls Tryd.prog 5 #[hv h, .int .u8 f] w fun e w' => e = .returned (.bool true) ∧ Below w.heap.size w w' := by
  have hb0 : Below w.heap.size w (w.alloc (.cells (hcs h) 24)) := (Below.refl _ _).alloc (Nat.le_refl _) _
  have hT0 := hT.on hb0
  have c := check_any h (w.alloc (.cells (hcs h) 24)) hT0.wid
  rw [chk_ok hyes] at c
  have C := Lib.hid c
  clear c
  go_enter Tryd.func5, Tryd.ntmps5
  go_wp2_with fail
  refine (C.out).mono ?_
  rintro e w1 ⟨rfl, hb1⟩
  have hl1 : Below w.heap.size w w1 := hb0.trans (hb1.mono (by simp))
  have hh1 : w1.heap[w.heap.size]? = some (Obj.cells (hcs h) 24 (0, 0)) := by rw [hb1.block _ (by simp), heap_alloc_new]
  have hfr : ∀ o, w1.frozen? ⟨w.heap.size, o, none⟩ = false := fun o => by simp [World.frozen?, hh1]
  have hc := fun j hj => cell_h hh1 j hj
  have hl2 : Below w.heap.size w (w1.setCell ⟨w.heap.size, 1, none⟩ (.int .u64 0)) := hl1.setCell (p := ⟨w.heap.size, 1, none⟩) (Nat.le_refl _) _
  have hT2 := hT.on hl2
  clear hh1 hb1
  go_wp2_with fail
  go_fit (check_any (upd h 1 0) _ hT2.wid)
  rw [chk_ok (less_ok h 1 (by decide) (by decide) hyes)]
  rintro e w2 ⟨rfl, hb2⟩
  have hT3 := hT2.on hb2
  have hl3 : Below w.heap.size w w2 := hl2.trans (hb2.mono hl2.size)
  clear hb2 hT2 hl2 hc hfr hl1
  go_wp2_with fail
  go_fit (wakes_any w2 hT3)
  rintro e w3 ⟨rfl, hb3⟩
  go_wp2
  go_ret
  exact ⟨rfl, hl3.trans (hb3.mono hl3.size)⟩

set_option maxHeartbeats 1600000 in
theorem less_m3 (h : Nat → Int) (f : Int) (hf0 : 0 ≤ f) (hf1 : f ≤ 255) (w : World) (hT : Tabs w) (hyes : hOk h = true) (hr : f % 11 = 3) :
    Calls Tryd.prog 5 #[hv h, .int .u8 f] w fun e w' => e = .returned (.bool true) ∧ Below w.heap.size w w' := by
  have hb0 : Below w.heap.size w (w.alloc (.cells (hcs h) 24)) := (Below.refl _ _).alloc (Nat.le_refl _) _
  have hT0 := hT.on hb0
  have c := check_any h (w.alloc (.cells (hcs h) 24)) hT0.wid
  rw [chk_ok hyes] at c
  have C := Lib.hid c
  clear c
  go_enter Tryd.func5, Tryd.ntmps5
  go_wp2_with fail
  refine (C.out).mono ?_
  rintro e w1 ⟨rfl, hb1⟩
  have hl1 : Below w.heap.size w w1 := hb0.trans (hb1.mono (by simp))
  have hh1 : w1.heap[w.heap.size]? = some (Obj.cells (hcs h) 24 (0, 0)) := by rw [hb1.block _ (by simp), heap_alloc_new]
  have hfr : ∀ o, w1.frozen? ⟨w.heap.size, o, none⟩ = false := fun o => by simp [World.frozen?, hh1]
  have hc := fun j hj => cell_h hh1 j hj
  have hl2 : Below w.heap.size w (w1.setCell ⟨w.heap.size, 3, none⟩ (.int .u64 0)) := hl1.setCell (p := ⟨w.heap.size, 3, none⟩) (Nat.le_refl _) _
  have hT2 := hT.on hl2
  clear hh1 hb1
  go_wp2_with fail
  go_fit (check_any (upd h 3 0) _ hT2.wid)
  rw [chk_ok (less_ok h 3 (by decide) (by decide) hyes)]
  rintro e w2 ⟨rfl, hb2⟩
  have hT3 := hT2.on hb2
  have hl3 : Below w.heap.size w w2 := hl2.trans (hb2.mono hl2.size)
  clear hb2 hT2 hl2 hc hfr hl1
  go_wp2_with fail
  go_fit (wakes_any w2 hT3)
  rintro e w3 ⟨rfl, hb3⟩
  go_wp2
  go_ret
  exact ⟨rfl, hl3.trans (hb3.mono hl3.size)⟩

set_option maxHeartbeats 1600000 in
theorem less_m4 (h : Nat → Int) (f : Int) (hf0 : 0 ≤ f) (hf1 : f ≤ 255) (w : World) (hT : Tabs w) (hyes : hOk h = true) (hr : f % 11 = 4) :
    Calls Tryd.prog 5 #[hv h, .int .u8 f] w fun e w' => e = .returned (.bool true) ∧ Below w.heap.size w w' := by
  have hb0 : Below w.heap.size w (w.alloc (.cells (hcs h) 24)) := (Below.refl _ _).alloc (Nat.le_refl _) _
  have hT0 := hT.on hb0
  have c := check_any h (w.alloc (.cells (hcs h) 24)) hT0.wid
  rw [chk_ok hyes] at c
  have C := Lib.hid c
  clear c
  go_enter Tryd.func5, Tryd.ntmps5
  go_wp2_with fail
  refine (C.out).mono ?_
  rintro e w1 ⟨rfl, hb1⟩
  have hl1 : Below w.heap.size w w1 := hb0.trans (hb1.mono (by simp))
  have hh1 : w1.heap[w.heap.size]? = some (Obj.cells (hcs h) 24 (0, 0)) := by rw [hb1.block _ (by simp), heap_alloc_new]
  have hfr : ∀ o, w1.frozen? ⟨w.heap.size, o, none⟩ = false := fun o => by simp [World.frozen?, hh1]
  have hc := fun j hj => cell_h hh1 j hj
  have hl2 : Below w.heap.size w (w1.setCell ⟨w.heap.size, 4, none⟩ (.int .u64 0)) := hl1.setCell (p := ⟨w.heap.size, 4, none⟩) (Nat.le_refl _) _
  have hT2 := hT.on hl2
  clear hh1 hb1
  go_wp2_with fail
  go_fit (check_any (upd h 4 0) _ hT2.wid)
  rw [chk_ok (less_ok h 4 (by decide) (by decide) hyes)]
  rintro e w2 ⟨rfl, hb2⟩
  have hT3 := hT2.on hb2
  have hl3 : Below w.heap.size w w2 := hl2.trans (hb2.mono hl2.size)
  clear hb2 hT2 hl2 hc hfr hl1
  go_wp2_with fail
  go_fit (wakes_any w2 hT3)
  rintro e w3 ⟨rfl, hb3⟩
  go_wp2
  go_ret
  exact ⟨rfl, hl3.trans (hb3.mono hl3.size)⟩

set_option maxHeartbeats 1600000 in
theorem less_m5 (h : Nat → Int) (f : Int) (hf0 : 0 ≤ f) (hf1 : f ≤ 255) (w : World) (hT : Tabs w) (hyes : hOk h = true) (hr : f % 11 = 5) :
    Calls Tryd.prog 5 #[hv h, .int .u8 f] w fun e w' => e = .returned (.bool true) ∧ Below w.heap.size w w' := by
  have hb0 : Below w.heap.size w (w.alloc (.cells (hcs h) 24)) := (Below.refl _ _).alloc (Nat.le_refl _) _
  have hT0 := hT.on hb0
  have c := check_any h (w.alloc (.cells (hcs h) 24)) hT0.wid
  rw [chk_ok hyes] at c
  have C := Lib.hid c
  clear c
  go_enter Tryd.func5, Tryd.ntmps5
  go_wp2_with fail
  refine (C.out).mono ?_
  rintro e w1 ⟨rfl, hb1⟩
  have hl1 : Below w.heap.size w w1 := hb0.trans (hb1.mono (by simp))
  have hh1 : w1.heap[w.heap.size]? = some (Obj.cells (hcs h) 24 (0, 0)) := by rw [hb1.block _ (by simp), heap_alloc_new]
  have hfr : ∀ o, w1.frozen? ⟨w.heap.size, o, none⟩ = false := fun o => by simp [World.frozen?, hh1]
  have hc := fun j hj => cell_h hh1 j hj
  have hl2 : Below w.heap.size w (w1.setCell ⟨w.heap.size, 5, none⟩ (.int .u64 0)) := hl1.setCell (p := ⟨w.heap.size, 5, none⟩) (Nat.le_refl _) _
  have hT2 := hT.on hl2
  clear hh1 hb1
  go_wp2_with fail
  go_fit (check_any (upd h 5 0) _ hT2.wid)
  rw [chk_ok (less_ok h 5 (by decide) (by decide) hyes)]
  rintro e w2 ⟨rfl, hb2⟩
  have hT3 := hT2.on hb2
  have hl3 : Below w.heap.size w w2 := hl2.trans (hb2.mono hl2.size)
  clear hb2 hT2 hl2 hc hfr hl1
  go_wp2_with fail
  go_fit (wakes_any w2 hT3)
  rintro e w3 ⟨rfl, hb3⟩
  go_wp2
  go_ret
  exact ⟨rfl, hl3.trans (hb3.mono hl3.size)⟩

set_option maxHeartbeats 1600000 in
theorem less_m7 (h : Nat → Int) (f : Int) (hf0 : 0 ≤ f) (hf1 : f ≤ 255) (w : World) (hT : Tabs w) (hyes : hOk h = true) (hr : f % 11 = 7) :
    Calls Tryd.prog 5 #[hv h, .int .u8 f] w fun e w' => e = .returned (.bool true) ∧ Below w.heap.size w w' := by
  have hb0 : Below w.heap.size w (w.alloc (.cells (hcs h) 24)) := (Below.refl _ _).alloc (Nat.le_refl _) _
  have hT0 := hT.on hb0
  have c := check_any h (w.alloc (.cells (hcs h) 24)) hT0.wid
  rw [chk_ok hyes] at c
  have C := Lib.hid c
  clear c
  go_enter Tryd.func5, Tryd.ntmps5
  go_wp2_with fail
  refine (C.out).mono ?_
  rintro e w1 ⟨rfl, hb1⟩
  have hl1 : Below w.heap.size w w1 := hb0.trans (hb1.mono (by simp))
  have hh1 : w1.heap[w.heap.size]? = some (Obj.cells (hcs h) 24 (0, 0)) := by rw [hb1.block _ (by simp), heap_alloc_new]
  have hfr : ∀ o, w1.frozen? ⟨w.heap.size, o, none⟩ = false := fun o => by simp [World.frozen?, hh1]
  have hc := fun j hj => cell_h hh1 j hj
  have hl2 : Below w.heap.size w (w1.setCell ⟨w.heap.size, 7, none⟩ (.int .u64 0)) := hl1.setCell (p := ⟨w.heap.size, 7, none⟩) (Nat.le_refl _) _
  have hT2 := hT.on hl2
  clear hh1 hb1
  go_wp2_with fail
  go_fit (check_any (upd h 7 0) _ hT2.wid)
  rw [chk_ok (less_ok h 7 (by decide) (by decide) hyes)]
  rintro e w2 ⟨rfl, hb2⟩
  have hT3 := hT2.on hb2
  have hl3 : Below w.heap.size w w2 := hl2.trans (hb2.mono hl2.size)
  clear hb2 hT2 hl2 hc hfr hl1
  go_wp2_with fail
  go_fit (wakes_any w2 hT3)
  rintro e w3 ⟨rfl, hb3⟩
  go_wp2
  go_ret
  exact ⟨rfl, hl3.trans (hb3.mono hl3.size)⟩

set_option maxHeartbeats 1600000 in
theorem less_m8 (h : Nat → Int) (f : Int) (hf0 : 0 ≤ f) (hf1 : f ≤ 255) (w : World) (hT : Tabs w) (hyes : hOk h = true) (hr : f % 11 = 8) :
    Calls Tryd.prog 5 #[hv h, .int .u8 f] w fun e w' => e = .returned (.bool true) ∧ Below w.heap.size w w' := by
  have hb0 : Below w.heap.size w (w.alloc (.cells (hcs h) 24)) := (Below.refl _ _).alloc (Nat.le_refl _) _
  have hT0 := hT.on hb0
  have c := check_any h (w.alloc (.cells (hcs h) 24)) hT0.wid
  rw [chk_ok hyes] at c
  have C := Lib.hid c
  clear c
  go_enter Tryd.func5, Tryd.ntmps5
  go_wp2_with fail
  refine (C.out).mono ?_
  rintro e w1 ⟨rfl, hb1⟩
  have hl1 : Below w.heap.size w w1 := hb0.trans (hb1.mono (by simp))
  have hh1 : w1.heap[w.heap.size]? = some (Obj.cells (hcs h) 24 (0, 0)) := by rw [hb1.block _ (by simp), heap_alloc_new]
  have hfr : ∀ o, w1.frozen? ⟨w.heap.size, o, none⟩ = false := fun o => by simp [World.frozen?, hh1]
  have hc := fun j hj => cell_h hh1 j hj
  have hl2 : Below w.heap.size w (w1.setCell ⟨w.heap.size, 8, none⟩ (.int .u64 0)) := hl1.setCell (p := ⟨w.heap.size, 8, none⟩) (Nat.le_refl _) _
  have hT2 := hT.on hl2
  clear hh1 hb1
  go_wp2_with fail
  go_fit (check_any (upd h 8 0) _ hT2.wid)
  rw [chk_ok (less_ok h 8 (by decide) (by decide) hyes)]
  rintro e w2 ⟨rfl, hb2⟩
  have hT3 := hT2.on hb2
  have hl3 : Below w.heap.size w w2 := hl2.trans (hb2.mono hl2.size)
  clear hb2 hT2 hl2 hc hfr hl1
  go_wp2_with fail
  go_fit (wakes_any w2 hT3)
  rintro e w3 ⟨rfl, hb3⟩
  go_wp2
  go_ret
  exact ⟨rfl, hl3.trans (hb3.mono hl3.size)⟩

set_option maxHeartbeats 1600000 in
theorem less_m9 (h : Nat → Int) (f : Int) (hf0 : 0 ≤ f) (hf1 : f ≤ 255) (w : World) (hT : Tabs w) (hyes : hOk h = true) (hr : f % 11 = 9) :
    Calls Tryd.prog 5 #[hv h, .int .u8 f] w fun e w' => e = .returned (.bool true) ∧ Below w.heap.size w w' := by
  have hb0 : Below w.heap.size w (w.alloc (.cells (hcs h) 24)) := (Below.refl _ _).alloc (Nat.le_refl _) _
  have hT0 := hT.on hb0
  have c := check_any h (w.alloc (.cells (hcs h) 24)) hT0.wid
  rw [chk_ok hyes] at c
  have C := Lib.hid c
  clear c
  go_enter Tryd.func5, Tryd.ntmps5
  go_wp2_with fail
  refine (C.out).mono ?_
  rintro e w1 ⟨rfl, hb1⟩
  have hl1 : Below w.heap.size w w1 := hb0.trans (hb1.mono (by simp))
  have hh1 : w1.heap[w.heap.size]? = some (Obj.cells (hcs h) 24 (0, 0)) := by rw [hb1.block _ (by simp), heap_alloc_new]
  have hfr : ∀ o, w1.frozen? ⟨w.heap.size, o, none⟩ = false := fun o => by simp [World.frozen?, hh1]
  have hc := fun j hj => cell_h hh1 j hj
  have hl2 : Below w.heap.size w (w1.setCell ⟨w.heap.size, 9, none⟩ (.int .u64 0)) := hl1.setCell (p := ⟨w.heap.size, 9, none⟩) (Nat.le_refl _) _
  have hT2 := hT.on hl2
  clear hh1 hb1
  go_wp2_with fail
  go_fit (check_any (upd h 9 0) _ hT2.wid)
  rw [chk_ok (less_ok h 9 (by decide) (by decide) hyes)]
  rintro e w2 ⟨rfl, hb2⟩
  have hT3 := hT2.on hb2
  have hl3 : Below w.heap.size w w2 := hl2.trans (hb2.mono hl2.size)
  clear hb2 hT2 hl2 hc hfr hl1
  go_wp2_with fail
  go_fit (wakes_any w2 hT3)
  rintro e w3 ⟨rfl, hb3⟩
  go_wp2
  go_ret
  exact ⟨rfl, hl3.trans (hb3.mono hl3.size)⟩

set_option maxHeartbeats 1600000 in
theorem less_m10 (h : Nat → Int) (f : Int) (hf0 : 0 ≤ f) (hf1 : f ≤ 255) (w : World) (hT : Tabs w) (hyes : hOk h = true) (hr : f % 11 = 10) :
    Calls Tryd.prog 5 #[hv h, .int .u8 f] w fun e w' => e = .returned (.bool true) ∧ Below w.heap.size w w' := by
  have hb0 : Below w.heap.size w (w.alloc (.cells (hcs h) 24)) := (Below.refl _ _).alloc (Nat.le_refl _) _
  have hT0 := hT.on hb0
  have c := check_any h (w.alloc (.cells (hcs h) 24)) hT0.wid
  rw [chk_ok hyes] at c
  have C := Lib.hid c
  clear c
  go_enter Tryd.func5, Tryd.ntmps5
  go_wp2_with fail
  refine (C.out).mono ?_
  rintro e w1 ⟨rfl, hb1⟩
  have hl1 : Below w.heap.size w w1 := hb0.trans (hb1.mono (by simp))
  have hh1 : w1.heap[w.heap.size]? = some (Obj.cells (hcs h) 24 (0, 0)) := by rw [hb1.block _ (by simp), heap_alloc_new]
  have hfr : ∀ o, w1.frozen? ⟨w.heap.size, o, none⟩ = false := fun o => by simp [World.frozen?, hh1]
  have hc := fun j hj => cell_h hh1 j hj
  have hl2 : Below w.heap.size w (w1.setCell ⟨w.heap.size, 10, none⟩ (.int .u64 0)) := hl1.setCell (p := ⟨w.heap.size, 10, none⟩) (Nat.le_refl _) _
  have hT2 := hT.on hl2
  clear hh1 hb1
  go_wp2_with fail
  go_fit (check_any (upd h 10 0) _ hT2.wid)
  rw [chk_ok (less_ok h 10 (by decide) (by decide) hyes)]
  rintro e w2 ⟨rfl, hb2⟩
  have hT3 := hT2.on hb2
  have hl3 : Below w.heap.size w w2 := hl2.trans (hb2.mono hl2.size)
  clear hb2 hT2 hl2 hc hfr hl1
  go_wp2_with fail
  go_fit (wakes_any w2 hT3)
  rintro e w3 ⟨rfl, hb3⟩
  go_wp2
  go_ret
  exact ⟨rfl, hl3.trans (hb3.mono hl3.size)⟩

/-- HeaderLess: whatever the header and the field. -/
theorem less_any (h : Nat → Int) (f : Int) (hf0 : 0 ≤ f) (hf1 : f ≤ 255) (w : World) (hT : Tabs w) :
    Calls Tryd.prog 5 #[hv h, .int .u8 f] w fun e w' => e = .returned (.bool true) ∧ Below w.heap.size w w' := by
  cases hk : hOk h
  · exact less_none h f hf0 hf1 w hT hk
  · have hr : f % 11 = 0 ∨ f % 11 = 1 ∨ f % 11 = 2 ∨ f % 11 = 3 ∨ f % 11 = 4 ∨ f % 11 = 5 ∨ f % 11 = 6 ∨ f % 11 = 7 ∨ f % 11 = 8 ∨ f % 11 = 9 ∨ f % 11 = 10 := by omega
    rcases hr with hr | hr | hr | hr | hr | hr | hr | hr | hr | hr | hr
    · exact less_m0 h f hf0 hf1 w hT hk hr
    · exact less_m1 h f hf0 hf1 w hT hk hr
    · exact less_kept h f hf0 hf1 2 hr (Or.inl rfl) w hT hk
    · exact less_m3 h f hf0 hf1 w hT hk hr
    · exact less_m4 h f hf0 hf1 w hT hk hr
    · exact less_m5 h f hf0 hf1 w hT hk hr
    · exact less_kept h f hf0 hf1 6 hr (Or.inr rfl) w hT hk
    · exact less_m7 h f hf0 hf1 w hT hk hr
    · exact less_m8 h f hf0 hf1 w hT hk hr
    · exact less_m9 h f hf0 hf1 w hT hk hr
    · exact less_m10 h f hf0 hf1 w hT hk hr
end Go.Proofs.YthjgndkcijgfmaaDoor
