/-
  Proved here: alike of layer 20's laws tells whether two nodes are one. Condition: their rows lie where they are said to.
-/
import Derived.Test.YtggbokghhohofaaDoorWA
namespace Go.Proofs.YtggbokghhohofaaDoor
open Go.RowKit Go.Maps
set_option maxRecDepth 100000

/-- What a comparison of two rows' lengths reads. -/
structure Hal (A B : Nat) (u v : Value) (b1 i1 b2 i2 : Nat) (x y : Value) (w : World) : Prop where
  c1 : w.cell? ⟨A, 4, none⟩ = some u
  c2 : w.cell? ⟨B, 4, none⟩ = some v
  r1 : w.cell? ⟨b1, i1, none⟩ = some x
  r2 : w.cell? ⟨b2, i2, none⟩ = some y
/-- What a comparison of two settings reads. -/
structure Ham (A B : Nat) (u v : Value) (b1 i1 b2 i2 : Nat) (x y : Value) (g1 j1 g2 j2 : Nat) (s t : Ac) (w : World) : Prop where
  c1 : w.cell? ⟨A, 4, none⟩ = some u
  c2 : w.cell? ⟨B, 4, none⟩ = some v
  r1 : w.cell? ⟨b1, i1, none⟩ = some x
  r2 : w.cell? ⟨b2, i2, none⟩ = some y
  s1 : w.rangeAt g1 j1 (acl s).toList
  s2 : w.rangeAt g2 j2 (acl t).toList
def eqA (x y : Ac) : Bool := x.dw == y.dw && (x.fd == y.fd && x.n == y.n)
theorem eqA_iff {x y : Ac} : eqA x y = true ↔ x = y := by
  obtain ⟨d, f, n⟩ := x
  obtain ⟨d', f', n'⟩ := y
  simp [eqA]
theorem neA (x y : Ac) (w : World) : (binOp .neq 54 (acv x) (acv y)).run Tryd.prog w = .ok (.bool (!eqA x y)) w := by
  obtain ⟨d, f, n⟩ := x
  obtain ⟨d', f', n'⟩ := y
  unfold eqA
  cases e1 : (d == d')
  · go_simp
  · cases e2 : (f == f')
    · go_simp
    · cases e3 : (n == n')
      · go_simp
      · go_simp
theorem runNeA {o : Oper} {a : Act} {w : World} (p q : Operand) (ho : o.op = .binOp .neq 54 p q 54) (x y : Ac) (hx : a.eval p = acv x) (hy : a.eval q = acv y) : (execOp a.eval o).run Tryd.prog w = .ok (.value (.bool (!eqA x y))) w := by
  have hg : Tryd.prog.eqGuardType Tryd.prog.depth 54 = false := by kernel_rfl
  unfold execOp
  simp only [ho, hx, hy, Sem.run_bind, Sem.run_pure, Result.andThen_ok, run_eqGuard_agg w _ _ _ _ _ _ hg, neA]
theorem take_ne {α : Type} {l m : List α} {i : Nat} (h1 : i < l.length) (h2 : i < m.length) (h : l[i] ≠ m[i]) : l ≠ m := fun e => by subst e; exact h rfl
/-- where the loops are -/
structure Alk (A B : Nat) (u v : Value) (T T' : Nat → Prop) (K L : List (List Ac)) (w wr : World) : Prop where
  low : Below w.heap.size w wr
  c1 : wr.cell? ⟨A, 4, none⟩ = some u
  c2 : wr.cell? ⟨B, 4, none⟩ = some v
  k : Cps T wr u K
  l : Cps T' wr v L
theorem Alk.on {A B : Nat} {u v : Value} {T T' : Nat → Prop} {K L : List (List Ac)} {w wr w' : World} (h : Alk A B u v T T' K L w wr) (hb : Below wr.heap.size wr w') : Alk A B u v T T' K L w w' :=
  ⟨h.low.trans (hb.mono h.low.size), cell_on hb h.c1, cell_on hb h.c2, h.k.on hb, h.l.on hb⟩
theorem Alk.drew {A B : Nat} {u v : Value} {T T' : Nat → Prop} {K L : List (List Ac)} {w wr : World} (h : Alk A B u v T T' K L w wr) : Alk A B u v T T' K L w wr.drew := h.on (Gro.refl _).drew.below
set_option maxHeartbeats 12800000 in
theorem alike_any {T T' : Nat → Prop} (w : World) (u v : Value) (a b : Nd) (ha : Cps T w u a.lf) (hb : Cps T' w v b.lf) : Calls Tryd.prog 17 #[.agg (ndc (u, a)), .agg (ndc (v, b))] w fun e w' => ∃ r : Bool, e = .returned (.bool r) ∧ (r = true ↔ a = b) ∧ Below w.heap.size w w' := by
  obtain ⟨a0, c0, rfl, hc0⟩ := ha.form
  obtain ⟨a1, c1, rfl, hc1⟩ := hb.form
  have hKl := ha.len
  have hLl := hb.len
  obtain ⟨fd, n, hi, lo, K⟩ := a
  obtain ⟨fd', n', hi', lo', L⟩ := b
  simp only at ha hb hKl hLl hc0 hc1 ⊢
  obtain ⟨W, hW⟩ : ∃ W, W = (w.alloc (.cells #[.int .i8 fd, .int .u64 n, .int .i64 hi, .int .i64 lo, .slice a0 K.length c0] 41)).alloc (.cells #[.int .i8 fd', .int .u64 n', .int .i64 hi', .int .i64 lo', .slice a1 L.length c1] 41) := ⟨_, rfl⟩
  have HW : Hid ((w.alloc (.cells #[.int .i8 fd, .int .u64 n, .int .i64 hi, .int .i64 lo, .slice a0 K.length c0] 41)).alloc (.cells #[.int .i8 fd', .int .u64 n', .int .i64 hi', .int .i64 lo', .slice a1 L.length c1] 41) = W) := hW.symm
  have hbW : Below w.heap.size w W := by rw [hW]; exact ((Gro.refl w).alloc _).alloc _ |>.below
  have e1 : W.heap[w.heap.size]? = some (.cells #[.int .i8 fd, .int .u64 n, .int .i64 hi, .int .i64 lo, .slice a0 K.length c0] 41 (0, 0)) := by rw [hW]; exact (heap_alloc_old _ _ (by simp)).trans (heap_alloc_new _ _)
  have e2 : W.heap[w.heap.size + 1]? = some (.cells #[.int .i8 fd', .int .u64 n', .int .i64 hi', .int .i64 lo', .slice a1 L.length c1] 41 (0, 0)) := by rw [hW]; have := heap_alloc_new (w.alloc (.cells #[.int .i8 fd, .int .u64 n, .int .i64 hi, .int .i64 lo, .slice a0 K.length c0] 41)) (.cells #[.int .i8 fd', .int .u64 n', .int .i64 hi', .int .i64 lo', .slice a1 L.length c1] 41); simpa using this
  have x0 : W.cell? ⟨w.heap.size, 0, none⟩ = some (.int .i8 fd) := (cell_of_row _ _ _ _ _ _ e1).trans rfl
  have x1 : W.cell? ⟨w.heap.size, 1, none⟩ = some (.int .u64 n) := (cell_of_row _ _ _ _ _ _ e1).trans rfl
  have x2 : W.cell? ⟨w.heap.size, 2, none⟩ = some (.int .i64 hi) := (cell_of_row _ _ _ _ _ _ e1).trans rfl
  have x3 : W.cell? ⟨w.heap.size, 3, none⟩ = some (.int .i64 lo) := (cell_of_row _ _ _ _ _ _ e1).trans rfl
  have x4 : W.cell? ⟨w.heap.size, 4, none⟩ = some (.slice a0 K.length c0) := (cell_of_row _ _ _ _ _ _ e1).trans rfl
  have y0 : W.cell? ⟨w.heap.size + 1, 0, none⟩ = some (.int .i8 fd') := (cell_of_row _ _ _ _ _ _ e2).trans rfl
  have y1 : W.cell? ⟨w.heap.size + 1, 1, none⟩ = some (.int .u64 n') := (cell_of_row _ _ _ _ _ _ e2).trans rfl
  have y2 : W.cell? ⟨w.heap.size + 1, 2, none⟩ = some (.int .i64 hi') := (cell_of_row _ _ _ _ _ _ e2).trans rfl
  have y3 : W.cell? ⟨w.heap.size + 1, 3, none⟩ = some (.int .i64 lo') := (cell_of_row _ _ _ _ _ _ e2).trans rfl
  have y4 : W.cell? ⟨w.heap.size + 1, 4, none⟩ = some (.slice a1 L.length c1) := (cell_of_row _ _ _ _ _ _ e2).trans rfl
  have HL : Hid (Alk w.heap.size (w.heap.size + 1) (.slice a0 K.length c0) (.slice a1 L.length c1) T T' K L w W) := ⟨hbW, x4, y4, ha.on hbW, hb.on hbW⟩
  clear hW e1 e2 ha hb hbW
  go_enter Tryd.func17, Tryd.ntmps17
  go_upto_region 1 with fail
  rw [show (w.alloc (.cells #[.int .i8 fd, .int .u64 n, .int .i64 hi, .int .i64 lo, .slice a0 K.length c0] 41)).alloc (.cells #[.int .i8 fd', .int .u64 n', .int .i64 hi', .int .i64 lo', .slice a1 L.length c1] 41) = W from HW.out]
  clear HW
  by_cases q0 : fd = fd'
  case neg =>
    have t0 : (fd != fd') = true := bne_iff_ne.2 q0
    have HQ := hid q0
    clear q0
    go_wp2
    go_ret
    exact ⟨false, rfl, by simpa using fun h => absurd h HQ.out, HL.out.low⟩
  by_cases q1 : n = n'
  case neg =>
    have t0 : (n != n') = true := bne_iff_ne.2 q1
    have HQ := hid q1
    clear q1
    subst q0
    go_wp2
    go_ret
    exact ⟨false, rfl, by simpa using fun h => absurd h HQ.out, HL.out.low⟩
  by_cases q2 : hi = hi'
  case neg =>
    have t0 : (hi != hi') = true := bne_iff_ne.2 q2
    have HQ := hid q2
    clear q2
    subst q0 q1
    go_wp2
    go_ret
    exact ⟨false, rfl, by simpa using fun h => absurd h HQ.out, HL.out.low⟩
  by_cases q3 : lo = lo'
  case neg =>
    have t0 : (lo != lo') = true := bne_iff_ne.2 q3
    have HQ := hid q3
    clear q3
    subst q0 q1 q2
    go_wp2
    go_ret
    exact ⟨false, rfl, by simpa using fun h => absurd h HQ.out, HL.out.low⟩
  subst q0 q1 q2 q3
  by_cases q4 : K.length = L.length
  case neg =>
    have t0 : ((K.length : Int) != (L.length : Int)) = true := bne_iff_ne.2 (by omega)
    have HQ := hid q4
    clear q4
    go_wp2
    go_ret
    exact ⟨false, rfl, by simpa using fun h => absurd (congrArg List.length h) HQ.out, HL.out.low⟩
  have t0 : ((K.length : Int) != (L.length : Int)) = false := by simp [q4]
  have HQ := hid q4
  clear q4
  go_upto_region 4 with fail
  clear x0 x1 x2 x3 x4 y0 y1 y2 y3 y4 t0
  go_loopw [5] (fun s5 wr => ∃ i : Nat, s5 = .int .i64 ((i : Nat) : Int) ∧ i ≤ K.length ∧ Hid (K.take i = L.take i) ∧ Hid (Alk w.heap.size (w.heap.size + 1) (.slice a0 K.length c0) (.slice a1 L.length c1) T T' K L w wr)) (fun s5 _ => K.length - (intOf s5).toNat)
  case atStart => exact ⟨0, rfl, Nat.zero_le _, by show _ = _; simp, HL.out⟩
  case round =>
    clear HL
    obtain ⟨i, rfl, hi1, HTk, HA⟩ := hrel
    have x4 := HA.out.c1
    by_cases hik : i < K.length
    · have hil : i < L.length := by have := HQ.out; omega
      obtain ⟨b1, o1, p1, rfl, -, hp1, hac1⟩ := HA.out.k.cell1 i hik
      obtain ⟨b2, o2, p2, rfl, -, hp2, hac2⟩ := HA.out.l.cell1 i hil
      have hd : decide ((i : Int) < (K.length : Int)) = true := by simp; omega
      have hiw : IntKind.i64.wrap ((i : Int) + 1) = (i : Int) + 1 := by rw [IntKind.wrap_i64]; omega
      have hi0 : i < c0 := by omega
      have hi2 : i < c1 := by omega
      have HKi : Hid (K.take (i + 1) = K.take i ++ [K[i]]) := by show _ = _; simp
      have HLi : Hid (L.take (i + 1) = L.take i ++ [L[i]]) := by show _ = _; simp
      have HNe := hid (take_ne hik hil)
      generalize K[i] = r at hac1 HKi HNe
      generalize L[i] = s at hac2 HLi HNe
      obtain ⟨ax, cx, rfl, hcx⟩ := hac1.form
      obtain ⟨ay, cy, rfl, hcy⟩ := hac2.form
      have hrl := hac1.len
      have HR1 := hid hp1
      have HR2 := hid hp2
      have HAC := hid (And.intro hac1 hac2)
      go_upto_region 6 with fail
      refine wp_region_held_drew (S := Hal w.heap.size (w.heap.size + 1) (.slice (some ⟨b1, o1, none⟩) K.length c0) (.slice (some ⟨b2, o2, none⟩) L.length c1) b1 (o1 + i) b2 (o2 + i) (.slice ax r.length cx) (.slice ay s.length cy)) (by kernel_rfl) ⟨HA.out.c1, HA.out.c2, HR1.out, HR2.out⟩ (fun hHeld => ?_)
      refine wpAnyH_take (i := 0) (v := ?_) rfl (by kernel_rfl) (by kernel_rfl) (by kernel_rfl) (fun _ _ _ h => h) (Or.inl ⟨by rfl, ?_⟩) hHeld ?_
      rotate_left
      · intro w' hSw
        clear hSw
        go_simp
        first | done | with_reducible rfl
      simp only [Act.put, List.getElem_toArray, List.getElem_cons_zero, List.setIfInBounds_toArray, List.set_cons_zero, List.set_cons_succ]
      refine wpAnyH_take (i := 1) (v := ?_) rfl (by kernel_rfl) (by kernel_rfl) (by kernel_rfl) (fun _ _ _ h => h) (Or.inl ⟨by rfl, ?_⟩) hHeld ?_
      rotate_left
      · intro w' hSw
        have c1 := hSw.c1
        clear hSw
        go_simp
        first | done | with_reducible rfl
      simp only [Act.put, List.getElem_toArray, List.getElem_cons_succ, List.getElem_cons_zero, List.setIfInBounds_toArray, List.set_cons_zero, List.set_cons_succ]
      refine wpAnyH_take (i := 2) (v := ?_) rfl (by kernel_rfl) (by kernel_rfl) (by kernel_rfl) (fun _ _ _ h => h) (Or.inl ⟨by rfl, ?_⟩) hHeld ?_
      rotate_left
      · intro w' hSw
        clear hSw
        go_simp
        first | done | with_reducible rfl
      simp only [Act.put, List.getElem_toArray, List.getElem_cons_succ, List.getElem_cons_zero, List.setIfInBounds_toArray, List.set_cons_zero, List.set_cons_succ]
      refine wpAnyH_take (i := 3) (v := ?_) rfl (by kernel_rfl) (by kernel_rfl) (by kernel_rfl) (fun _ _ _ h => h) (Or.inl ⟨by rfl, ?_⟩) hHeld ?_
      rotate_left
      · intro w' hSw
        clear hSw
        go_simp
        first | done | with_reducible rfl
      simp only [Act.put, List.getElem_toArray, List.getElem_cons_succ, List.getElem_cons_zero, List.setIfInBounds_toArray, List.set_cons_zero, List.set_cons_succ]
      refine wpAnyH_take (i := 4) (v := ?_) rfl (by kernel_rfl) (by kernel_rfl) (by kernel_rfl) (fun _ _ _ h => h) (Or.inl ⟨by rfl, ?_⟩) hHeld ?_
      rotate_left
      · intro w' hSw
        have r1 := hSw.r1
        clear hSw
        go_simp
        first | done | with_reducible rfl
      simp only [Act.put, List.getElem_toArray, List.getElem_cons_succ, List.getElem_cons_zero, List.setIfInBounds_toArray, List.set_cons_zero, List.set_cons_succ]
      refine wpAnyH_take (i := 5) (v := ?_) rfl (by kernel_rfl) (by kernel_rfl) (by kernel_rfl) (fun _ _ _ h => h) (Or.inl ⟨by rfl, ?_⟩) hHeld ?_
      rotate_left
      · intro w' hSw
        clear hSw
        go_simp
        first | done | with_reducible rfl
      simp only [Act.put, List.getElem_toArray, List.getElem_cons_succ, List.getElem_cons_zero, List.setIfInBounds_toArray, List.set_cons_zero, List.set_cons_succ]
      refine wpAnyH_take (i := 6) (v := ?_) rfl (by kernel_rfl) (by kernel_rfl) (by kernel_rfl) (fun _ _ _ h => h) (Or.inl ⟨by rfl, ?_⟩) hHeld ?_
      rotate_left
      · intro w' hSw
        clear hSw
        go_simp
        first | done | with_reducible rfl
      simp only [Act.put, List.getElem_toArray, List.getElem_cons_succ, List.getElem_cons_zero, List.setIfInBounds_toArray, List.set_cons_zero, List.set_cons_succ]
      refine wpAnyH_take (i := 7) (v := ?_) rfl (by kernel_rfl) (by kernel_rfl) (by kernel_rfl) (fun _ _ _ h => h) (Or.inl ⟨by rfl, ?_⟩) hHeld ?_
      rotate_left
      · intro w' hSw
        have c2 := hSw.c2
        clear hSw
        go_simp
        first | done | with_reducible rfl
      simp only [Act.put, List.getElem_toArray, List.getElem_cons_succ, List.getElem_cons_zero, List.setIfInBounds_toArray, List.set_cons_zero, List.set_cons_succ]
      refine wpAnyH_take (i := 8) (v := ?_) rfl (by kernel_rfl) (by kernel_rfl) (by kernel_rfl) (fun _ _ _ h => h) (Or.inl ⟨by rfl, ?_⟩) hHeld ?_
      rotate_left
      · intro w' hSw
        clear hSw
        go_simp
        first | done | with_reducible rfl
      simp only [Act.put, List.getElem_toArray, List.getElem_cons_succ, List.getElem_cons_zero, List.setIfInBounds_toArray, List.set_cons_zero, List.set_cons_succ]
      refine wpAnyH_take (i := 9) (v := ?_) rfl (by kernel_rfl) (by kernel_rfl) (by kernel_rfl) (fun _ _ _ h => h) (Or.inl ⟨by rfl, ?_⟩) hHeld ?_
      rotate_left
      · intro w' hSw
        clear hSw
        go_simp
        first | done | with_reducible rfl
      simp only [Act.put, List.getElem_toArray, List.getElem_cons_succ, List.getElem_cons_zero, List.setIfInBounds_toArray, List.set_cons_zero, List.set_cons_succ]
      refine wpAnyH_take (i := 10) (v := ?_) rfl (by kernel_rfl) (by kernel_rfl) (by kernel_rfl) (fun _ _ _ h => h) (Or.inl ⟨by rfl, ?_⟩) hHeld ?_
      rotate_left
      · intro w' hSw
        have r2 := hSw.r2
        clear hSw
        go_simp
        first | done | with_reducible rfl
      simp only [Act.put, List.getElem_toArray, List.getElem_cons_succ, List.getElem_cons_zero, List.setIfInBounds_toArray, List.set_cons_zero, List.set_cons_succ]
      refine wpAnyH_take (i := 11) (v := ?_) rfl (by kernel_rfl) (by kernel_rfl) (by kernel_rfl) (fun _ _ _ h => h) (Or.inl ⟨by rfl, ?_⟩) hHeld ?_
      rotate_left
      · intro w' hSw
        clear hSw
        go_simp
        first | done | with_reducible rfl
      simp only [Act.put, List.getElem_toArray, List.getElem_cons_succ, List.getElem_cons_zero, List.setIfInBounds_toArray, List.set_cons_zero, List.set_cons_succ]
      refine wpAnyH_take (i := 12) (v := ?_) rfl (by kernel_rfl) (by kernel_rfl) (by kernel_rfl) (fun _ _ _ h => h) (Or.inl ⟨by rfl, ?_⟩) hHeld ?_
      rotate_left
      · intro w' hSw
        clear hSw
        go_simp
        first | done | with_reducible rfl
      simp only [Act.put, List.getElem_toArray, List.getElem_cons_succ, List.getElem_cons_zero, List.setIfInBounds_toArray, List.set_cons_zero, List.set_cons_succ]
      refine wpAnyH_done (by kernel_rfl) ?_ _
      clear hHeld hp1 hp2 x4 hac1 hac2
      have HA2 := hid HA.out.drew
      by_cases hlen : r.length = s.length
      case neg =>
        have t1 : ((r.length : Int) != (s.length : Int)) = true := bne_iff_ne.2 (by omega)
        have HX := hid (HNe.out fun e => hlen (by rw [e]))
        clear hlen
        go_wp2
        go_ret
        exact ⟨false, rfl, by simpa using HX.out, HA2.out.low⟩
      have t1 : ((r.length : Int) != (s.length : Int)) = false := by simp [hlen]
      have HLE := hid hlen
      have hAC : Acs T wr.drew (.slice ax r.length cx) r ∧ Acs T' wr.drew (.slice ay s.length cy) s := ⟨HAC.out.1.on (Gro.refl _).drew.below, HAC.out.2.on (Gro.refl _).drew.below⟩
      have hRR : wr.drew.cell? ⟨b1, o1 + i, none⟩ = some (.slice ax r.length cx) ∧ wr.drew.cell? ⟨b2, o2 + i, none⟩ = some (.slice ay s.length cy) := ⟨HR1.out, HR2.out⟩
      have HAC2 := hid hAC
      have HRR := hid hRR
      clear hlen hAC hRR HAC HR1 HR2 HA
      generalize wr.drew = W5 at HA2 HAC2 HRR ⊢
      go_upto_region 9 with fail
      clear t1
      go_loopw [6] (fun s6 wr => ∃ k : Nat, s6 = .int .i64 ((k : Nat) : Int) ∧ k ≤ r.length ∧ Hid (r.take k = s.take k) ∧ Hid (Below W5.heap.size W5 wr)) (fun s6 _ => r.length - (intOf s6).toNat)
      case atStart => exact ⟨0, rfl, Nat.zero_le _, by show _ = _; simp, Below.refl _ _⟩
      case round =>
        obtain ⟨k, rfl, hk1, HSk, HB⟩ := hrel
        have HA3 := hid (HA2.out.on HB.out)
        have x4 := HA3.out.c1
        have x5 := cell_on HB.out HRR.out.1
        have hd2 : decide ((i : Int) < (K.length : Int)) = true := hd
        by_cases hkr : k < r.length
        · have hks : k < s.length := by have := HLE.out; omega
          have hdk : decide ((k : Int) < (r.length : Int)) = true := by simp; omega
          have hkw : IntKind.i64.wrap ((k : Int) + 1) = (k : Int) + 1 := by rw [IntKind.wrap_i64]; omega
          have hk2 : k < cx := by omega
          have hk3 : k < cy := by omega
          obtain ⟨g1, j1, rfl, -, hgl1, hra1, -⟩ := HAC2.out.1.at k hkr
          obtain ⟨g2, j2, rfl, -, hgl2, hra2, -⟩ := HAC2.out.2.at k hks
          have HM : Hid (Ham w.heap.size (w.heap.size + 1) (.slice (some ⟨b1, o1, none⟩) K.length c0) (.slice (some ⟨b2, o2, none⟩) L.length c1) b1 (o1 + i) b2 (o2 + i) (.slice (some ⟨g1, j1, none⟩) r.length cx) (.slice (some ⟨g2, j2, none⟩) s.length cy) g1 (j1 + k * 3) g2 (j2 + k * 3) r[k] s[k] wr) := ⟨HA3.out.c1, HA3.out.c2, cell_on HB.out HRR.out.1, cell_on HB.out HRR.out.2, fun q z hz => (cell_same (HB.out.block _ hgl1)).trans (hra1 q z hz), fun q z hz => (cell_same (HB.out.block _ hgl2)).trans (hra2 q z hz)⟩
          have HRk : Hid (r.take (k + 1) = r.take k ++ [r[k]]) := by show _ = _; simp
          have HSk2 : Hid (s.take (k + 1) = s.take k ++ [s[k]]) := by show _ = _; simp
          have HNk := hid (take_ne hkr hks)
          clear hra1 hra2
          generalize r[k] = x at HM HRk HNk
          generalize s[k] = y at HM HSk2 HNk
          go_upto_region 11 with fail
          clear x4 x5
          refine wp_region_held_drew (S := Ham w.heap.size (w.heap.size + 1) (.slice (some ⟨b1, o1, none⟩) K.length c0) (.slice (some ⟨b2, o2, none⟩) L.length c1) b1 (o1 + i) b2 (o2 + i) (.slice (some ⟨g1, j1, none⟩) r.length cx) (.slice (some ⟨g2, j2, none⟩) s.length cy) g1 (j1 + k * 3) g2 (j2 + k * 3) x y) (by kernel_rfl) ⟨HM.out.c1, HM.out.c2, HM.out.r1, HM.out.r2, HM.out.s1, HM.out.s2⟩ (fun hHeld => ?_)
          refine wpAnyH_take (i := 0) (v := ?_) rfl (by kernel_rfl) (by kernel_rfl) (by kernel_rfl) (fun _ _ _ h => h) (Or.inl ⟨by rfl, ?_⟩) hHeld ?_
          rotate_left
          · intro w' hSw
            clear hSw
            go_simp
            first | done | with_reducible rfl
          simp only [Act.put, List.getElem_toArray, List.getElem_cons_zero, List.setIfInBounds_toArray, List.set_cons_zero, List.set_cons_succ]
          refine wpAnyH_take (i := 1) (v := ?_) rfl (by kernel_rfl) (by kernel_rfl) (by kernel_rfl) (fun _ _ _ h => h) (Or.inl ⟨by rfl, ?_⟩) hHeld ?_
          rotate_left
          · intro w' hSw
            have c1 := hSw.c1
            clear hSw
            go_simp
            first | done | with_reducible rfl
          simp only [Act.put, List.getElem_toArray, List.getElem_cons_succ, List.getElem_cons_zero, List.setIfInBounds_toArray, List.set_cons_zero, List.set_cons_succ]
          refine wpAnyH_take (i := 2) (v := ?_) rfl (by kernel_rfl) (by kernel_rfl) (by kernel_rfl) (fun _ _ _ h => h) (Or.inl ⟨by rfl, ?_⟩) hHeld ?_
          rotate_left
          · intro w' hSw
            clear hSw
            go_simp
            first | done | with_reducible rfl
          simp only [Act.put, List.getElem_toArray, List.getElem_cons_succ, List.getElem_cons_zero, List.setIfInBounds_toArray, List.set_cons_zero, List.set_cons_succ]
          refine wpAnyH_take (i := 3) (v := ?_) rfl (by kernel_rfl) (by kernel_rfl) (by kernel_rfl) (fun _ _ _ h => h) (Or.inl ⟨by rfl, ?_⟩) hHeld ?_
          rotate_left
          · intro w' hSw
            clear hSw
            go_simp
            first | done | with_reducible rfl
          simp only [Act.put, List.getElem_toArray, List.getElem_cons_succ, List.getElem_cons_zero, List.setIfInBounds_toArray, List.set_cons_zero, List.set_cons_succ]
          refine wpAnyH_take (i := 4) (v := ?_) rfl (by kernel_rfl) (by kernel_rfl) (by kernel_rfl) (fun _ _ _ h => h) (Or.inl ⟨by rfl, ?_⟩) hHeld ?_
          rotate_left
          · intro w' hSw
            have r1 := hSw.r1
            clear hSw
            go_simp
            first | done | with_reducible rfl
          simp only [Act.put, List.getElem_toArray, List.getElem_cons_succ, List.getElem_cons_zero, List.setIfInBounds_toArray, List.set_cons_zero, List.set_cons_succ]
          refine wpAnyH_take (i := 5) (v := ?_) rfl (by kernel_rfl) (by kernel_rfl) (by kernel_rfl) (fun _ _ _ h => h) (Or.inl ⟨by rfl, ?_⟩) hHeld ?_
          rotate_left
          · intro w' hSw
            clear hSw
            go_simp
            first | done | with_reducible rfl
          simp only [Act.put, List.getElem_toArray, List.getElem_cons_succ, List.getElem_cons_zero, List.setIfInBounds_toArray, List.set_cons_zero, List.set_cons_succ]
          refine wpAnyH_take (i := 6) (v := ?_) rfl (by kernel_rfl) (by kernel_rfl) (by kernel_rfl) (fun _ _ _ h => h) (Or.inl ⟨by rfl, ?_⟩) hHeld ?_
          rotate_left
          · intro w' hSw
            clear hSw
            go_simp
            first | done | with_reducible rfl
          simp only [Act.put, List.getElem_toArray, List.getElem_cons_succ, List.getElem_cons_zero, List.setIfInBounds_toArray, List.set_cons_zero, List.set_cons_succ]
          refine wpAnyH_take (i := 7) (v := .agg (acl x)) rfl (by kernel_rfl) (by kernel_rfl) (by kernel_rfl) (fun _ _ _ h => h) (Or.inl ⟨by rfl, ?_⟩) hHeld ?_
          · intro w' hSw
            exact runLd 54 (.tmp 78) rfl g1 (j1 + k * 3) rfl (acl x) _ hSw.s1 Tryd.underlying54 rfl infoACT
          simp only [Act.put, List.getElem_toArray, List.getElem_cons_succ, List.getElem_cons_zero, List.setIfInBounds_toArray, List.set_cons_zero, List.set_cons_succ]
          refine wpAnyH_take (i := 8) (v := ?_) rfl (by kernel_rfl) (by kernel_rfl) (by kernel_rfl) (fun _ _ _ h => h) (Or.inl ⟨by rfl, ?_⟩) hHeld ?_
          rotate_left
          · intro w' hSw
            clear hSw
            go_simp
            first | done | with_reducible rfl
          simp only [Act.put, List.getElem_toArray, List.getElem_cons_succ, List.getElem_cons_zero, List.setIfInBounds_toArray, List.set_cons_zero, List.set_cons_succ]
          refine wpAnyH_take (i := 9) (v := ?_) rfl (by kernel_rfl) (by kernel_rfl) (by kernel_rfl) (fun _ _ _ h => h) (Or.inl ⟨by rfl, ?_⟩) hHeld ?_
          rotate_left
          · intro w' hSw
            have c2 := hSw.c2
            clear hSw
            go_simp
            first | done | with_reducible rfl
          simp only [Act.put, List.getElem_toArray, List.getElem_cons_succ, List.getElem_cons_zero, List.setIfInBounds_toArray, List.set_cons_zero, List.set_cons_succ]
          refine wpAnyH_take (i := 10) (v := ?_) rfl (by kernel_rfl) (by kernel_rfl) (by kernel_rfl) (fun _ _ _ h => h) (Or.inl ⟨by rfl, ?_⟩) hHeld ?_
          rotate_left
          · intro w' hSw
            clear hSw
            go_simp
            first | done | with_reducible rfl
          simp only [Act.put, List.getElem_toArray, List.getElem_cons_succ, List.getElem_cons_zero, List.setIfInBounds_toArray, List.set_cons_zero, List.set_cons_succ]
          refine wpAnyH_take (i := 11) (v := ?_) rfl (by kernel_rfl) (by kernel_rfl) (by kernel_rfl) (fun _ _ _ h => h) (Or.inl ⟨by rfl, ?_⟩) hHeld ?_
          rotate_left
          · intro w' hSw
            clear hSw
            go_simp
            first | done | with_reducible rfl
          simp only [Act.put, List.getElem_toArray, List.getElem_cons_succ, List.getElem_cons_zero, List.setIfInBounds_toArray, List.set_cons_zero, List.set_cons_succ]
          refine wpAnyH_take (i := 12) (v := ?_) rfl (by kernel_rfl) (by kernel_rfl) (by kernel_rfl) (fun _ _ _ h => h) (Or.inl ⟨by rfl, ?_⟩) hHeld ?_
          rotate_left
          · intro w' hSw
            have r2 := hSw.r2
            clear hSw
            go_simp
            first | done | with_reducible rfl
          simp only [Act.put, List.getElem_toArray, List.getElem_cons_succ, List.getElem_cons_zero, List.setIfInBounds_toArray, List.set_cons_zero, List.set_cons_succ]
          refine wpAnyH_take (i := 13) (v := ?_) rfl (by kernel_rfl) (by kernel_rfl) (by kernel_rfl) (fun _ _ _ h => h) (Or.inl ⟨by rfl, ?_⟩) hHeld ?_
          rotate_left
          · intro w' hSw
            clear hSw
            go_simp
            first | done | with_reducible rfl
          simp only [Act.put, List.getElem_toArray, List.getElem_cons_succ, List.getElem_cons_zero, List.setIfInBounds_toArray, List.set_cons_zero, List.set_cons_succ]
          refine wpAnyH_take (i := 14) (v := ?_) rfl (by kernel_rfl) (by kernel_rfl) (by kernel_rfl) (fun _ _ _ h => h) (Or.inl ⟨by rfl, ?_⟩) hHeld ?_
          rotate_left
          · intro w' hSw
            clear hSw
            go_simp
            first | done | with_reducible rfl
          simp only [Act.put, List.getElem_toArray, List.getElem_cons_succ, List.getElem_cons_zero, List.setIfInBounds_toArray, List.set_cons_zero, List.set_cons_succ]
          refine wpAnyH_take (i := 15) (v := .agg (acl y)) rfl (by kernel_rfl) (by kernel_rfl) (by kernel_rfl) (fun _ _ _ h => h) (Or.inl ⟨by rfl, ?_⟩) hHeld ?_
          · intro w' hSw
            exact runLd 54 (.tmp 86) rfl g2 (j2 + k * 3) rfl (acl y) _ hSw.s2 Tryd.underlying54 rfl infoACT
          simp only [Act.put, List.getElem_toArray, List.getElem_cons_succ, List.getElem_cons_zero, List.setIfInBounds_toArray, List.set_cons_zero, List.set_cons_succ]
          refine wpAnyH_take (i := 16) (v := .bool (!eqA x y)) rfl (by kernel_rfl) (by kernel_rfl) (by kernel_rfl) (fun _ _ _ h => h) (Or.inl ⟨by rfl, ?_⟩) hHeld ?_
          · intro w' hSw
            exact runNeA (.tmp 79) (.tmp 87) rfl x y rfl rfl
          simp only [Act.put, List.getElem_toArray, List.getElem_cons_succ, List.getElem_cons_zero, List.setIfInBounds_toArray, List.set_cons_zero, List.set_cons_succ]
          refine wpAnyH_done (by kernel_rfl) ?_ _
          clear hHeld
          have HB2 : Hid (Below W5.heap.size W5 wr.drew) := HB.out.trans ((Gro.refl _).drew.below.mono HB.out.size)
          cases hxy : eqA x y
          · have HX := hid (HNe.out (HNk.out fun e => by rw [eqA_iff.2 e] at hxy; cases hxy))
            go_wp2
            go_ret
            exact ⟨false, rfl, by simpa using HX.out, HA2.out.low.trans (HB2.out.mono HA2.out.low.size)⟩
          · have HSk3 : Hid (r.take (k + 1) = s.take (k + 1)) := by show _ = _; rw [HRk.out, HSk2.out, HSk.out, eqA_iff.1 hxy]
            go_wp2
            go_roundw
            case rel => exact ⟨k + 1, by rw [show (((k + 1 : Nat) : Nat) : Int) = (k : Int) + 1 by omega], hkr, HSk3, HB2⟩
            case measure => simp [intOf]; omega
        · have hdk : decide ((k : Int) < (r.length : Int)) = false := by simp; omega
          obtain rfl : k = r.length := by omega
          have hrs : r = s := by
            have := HSk.out
            rwa [List.take_length, show r.length = s.length from HLE.out, List.take_length] at this
          have HTk2 : Hid (K.take (i + 1) = L.take (i + 1)) := by show _ = _; rw [HKi.out, HLi.out, HTk.out, hrs]
          clear hrs
          go_wp2
          go_roundw
          case rel => exact ⟨i + 1, by rw [show (((i + 1 : Nat) : Nat) : Int) = (i : Int) + 1 by omega], hik, HTk2, HA3⟩
          case measure => simp [intOf]; omega
    · have hd : decide ((i : Int) < (K.length : Int)) = false := by simp; omega
      obtain rfl : i = K.length := by omega
      have HE : Hid (K = L) := by
        show _ = _
        have := HTk.out
        rwa [List.take_length, show K.length = L.length from HQ.out, List.take_length] at this
      go_wp2
      go_ret
      exact ⟨true, rfl, by simp [HE.out], HA.out.low⟩
end Go.Proofs.YtggbokghhohofaaDoor
