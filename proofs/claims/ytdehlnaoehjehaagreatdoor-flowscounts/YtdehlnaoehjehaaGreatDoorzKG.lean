/-
  Proved here: met and Find of package flows: the rule ahead of all that hit, which counts one packet more. Conditions: numbers are of their width; fewer than 2 to 31 were added; slices are no greater than slices may be.
-/
import Derived.Test.YtdehlnaoehjehaaGreatDoorzKF
namespace Go.Proofs.YtdehlnaoehjehaaGreatDoor
set_option maxRecDepth 100000
open Go.RowKit Go.Maps

/-- Which rule is met: none hits, or it hits and is ahead of all others that do. -/
def Met (es : List Fe) (h : Nat → Int) : Option Fe → Prop
  | none => ∀ x ∈ es, hit x.r.mt h = false
  | some x => x ∈ es ∧ hit x.r.mt h = true ∧ ∀ y ∈ es, hit y.r.mt h = true → y = x ∨ ltE x y = true
def mtV : Option Fe → Value
  | none => .pointer none
  | some x => pv x.p
def MtP (w : World) (es : List Fe) (h : Nat → Int) (e : Ending) (w' : World) : Prop := Below w.heap.size w w' ∧ ∃ f, Met es h f ∧ e = .returned (.tuple #[mtV f, .bool f.isSome])
structure Hme (g b br : Nat) (vm : Value) (h : Nat → Int) (w : World) : Prop where
  c0 : w.cell? ⟨g, 0, none⟩ = some vm
  c1 : w.cell? ⟨g, 1, none⟩ = some (.map (some br))
  rr : w.rangeAt b 0 (row 11 h).toList
theorem Hme.on {g b br : Nat} {vm : Value} {h : Nat → Int} {w w' : World} (H : Hme g b br vm h w) (hb : Below w.heap.size w w') : Hme g b br vm h w' := ⟨cell_on hb H.c0, cell_on hb H.c1, range_on H.rr hb⟩
set_option maxHeartbeats 1600000 in
set_option maxRecDepth 100000 in
theorem met_any {S : Nat → Prop} (w : World) (g : Nat) (room ad : Int) (es : List Fe) (gs : List Ge) (h : Fl S w g room ad es gs) (hd : Nat → Int) (hw : Wf hd) (had : ad < 2147483640) : Calls Tryz.prog 34 #[pv g, hv hd] w (MtP w es hd) := by
  obtain ⟨o, vm, br, bp, bg, Gr, Gp, Gg, h1, h2⟩ := h
  obtain ⟨W0, hW0⟩ : ∃ W0, W0 = w.alloc (.cells (row 11 hd) 30) := ⟨_, rfl⟩
  have hB0 : Below w.heap.size w W0 := by rw [hW0]; exact (Below.refl _ _).alloc (Nat.le_refl _) _
  have hX0 : W0.heap[w.heap.size]? = some (.cells (row 11 hd) 30 (0, 0)) := by rw [hW0]; exact heap_alloc_new _ _
  have hTb : Tbl (fun b => S b ∧ o b = .tup) W0.drew vm (es.map Fe.ru) ad := h1.tb.carry fun b hb hS => ⟨hS, hB0.block b hb⟩
  have HF := hid (tFind_any W0.drew vm (es.map Fe.ru) ad hd hTb hw had)
  have HH : Hid (Hme g w.heap.size br vm hd W0.drew) := ⟨cell_on hB0 h1.cells.1, cell_on hB0 h1.cells.2.1, row_range (w := W0.drew) hX0⟩
  have HZ : Hid (∀ w1 f, Below W0.drew.heap.size W0.drew w1 → Best (es.map Fe.ru) hd f → ∃ f', Met es hd f' ∧ f.isSome = f'.isSome ∧ Below w.heap.size w w1 ∧ (Instr.lookup 86 (.map (some br)) (.int .i64 (eD f).k) false).run Tryz.prog w1 = .ok (mtV f') w1) := fun w1 f hb hB => by
    have hb1 : Below w.heap.size w w1 := hB0.drew.trans (hb.mono hB0.size)
    have hM : Mp w1 3 br es.length Gr := h1.mr.carry (hb1.block br h1.mr.lt)
    cases f with
    | none =>
      refine ⟨none, fun x hx => hB.1 rfl x.ru (List.mem_map_of_mem hx), rfl, hb1, ?_⟩
      have hn : Gr (.int .i64 0) = none := by
        cases hG : Gr (.int .i64 0) with
        | none => rfl
        | some v =>
          obtain ⟨e, he, e1, -⟩ := (h2.gr _ _).1 hG
          have e2 : 0 = e.k := by simpa using e1
          have := h2.bd e he
          omega
      have := hM.look lawI Tryz.underlying86 (zeroPE w1) (key_i (n := 0) (wf64 (by unfold I64; omega)))
      rw [hn] at this
      exact this
    | some e =>
      obtain ⟨⟨u, hu, rfl, hh⟩, hall⟩ := hB.2 e rfl
      obtain ⟨x, hx, rfl⟩ := List.mem_map.1 hu
      have hbx := h2.bd x hx
      refine ⟨some x, ⟨hx, hh, fun y hy hyh => ?_⟩, rfl, hb1, ?_⟩
      · rcases hall y.ru (List.mem_map_of_mem hy) hyh with h5 | h5
        · refine Or.inl (uniq_k h2.num hy hx ?_)
          exact congrArg En.k h5
        · refine Or.inr ?_
          simp only [ahd, Fe.ru, Bool.or_eq_true, Bool.and_eq_true, beq_iff_eq] at h5
          rcases h5 with h5 | ⟨h5, h6⟩
          · exact ltE_iff.2 (Or.inl (of_decide_eq_true h5))
          · exact ltE_iff.2 (Or.inr ⟨h5, of_decide_eq_true h6⟩)
      · have hG : Gr (.int .i64 x.k) = some (pv x.p) := (h2.gr _ _).2 ⟨x, hx, rfl, rfl⟩
        have := hM.look lawI Tryz.underlying86 (zeroPE w1) (key_i (n := x.k) (wf64 (by unfold I64; omega)))
        rw [hG] at this
        exact this
  obtain ⟨av, hav⟩ : ∃ av, vm = pv av := h1.tb.form
  subst hav
  have HW0 := hid hW0
  clear h1 h2 hB0 hX0 hTb hW0
  go_enter Tryz.func34, Tryz.ntmps34
  go_upto_region 1 with fail
  rw [← HW0.out]
  clear HW0
  refine wp_region_held_drew (S := Hme g w.heap.size br (pv av) hd) (by kernel_rfl) HH.out (fun hHeld => ?_)
  refine wpAnyH_take (i := 0) (v := ?_) rfl (by kernel_rfl) (by kernel_rfl) (by kernel_rfl) (fun _ _ _ h => h) (Or.inl ⟨by rfl, ?_⟩) hHeld ?_
  rotate_left
  · intro w' hSw
    clear hSw
    go_simp
    first | done | with_reducible rfl
  simp only [Act.put, List.getElem_toArray, List.getElem_cons_zero, List.setIfInBounds_toArray, List.set_cons_zero, List.set_cons_succ]
  refine wpAnyH_take (i := 1) (v := ?_) rfl (by kernel_rfl) (by kernel_rfl) (by kernel_rfl) (fun _ _ _ h => h) (Or.inl ⟨by rfl, ?_⟩) hHeld ?_
  rotate_left
  · intro w' hSw
    clear hSw
    go_simp
    first | done | with_reducible rfl
  simp only [Act.put, List.getElem_toArray, List.getElem_cons_succ, List.getElem_cons_zero, List.setIfInBounds_toArray, List.set_cons_zero, List.set_cons_succ]
  refine wpAnyH_take (i := 2) (v := ?_) rfl (by kernel_rfl) (by kernel_rfl) (by kernel_rfl) (fun _ _ _ h => h) (Or.inl ⟨by rfl, ?_⟩) hHeld ?_
  rotate_left
  · intro w' hSw
    clear hSw
    go_simp
    first | done | with_reducible rfl
  simp only [Act.put, List.getElem_toArray, List.getElem_cons_succ, List.getElem_cons_zero, List.setIfInBounds_toArray, List.set_cons_zero, List.set_cons_succ]
  refine wpAnyH_take (i := 3) (v := ?_) rfl (by kernel_rfl) (by kernel_rfl) (by kernel_rfl) (fun _ _ _ h => h) (Or.inl ⟨by rfl, ?_⟩) hHeld ?_
  rotate_left
  · intro w' hSw
    have c0 := hSw.c0
    clear hSw
    go_simp
    first | done | with_reducible rfl
  simp only [Act.put, List.getElem_toArray, List.getElem_cons_succ, List.getElem_cons_zero, List.setIfInBounds_toArray, List.set_cons_zero, List.set_cons_succ]
  refine wpAnyH_take (i := 4) (v := hv hd) rfl (by kernel_rfl) (by kernel_rfl) (by kernel_rfl) (fun _ _ _ h => h) (Or.inl ⟨by rfl, ?_⟩) hHeld ?_
  · intro w' hSw
    exact runLd 30 (.tmp 3) rfl w.heap.size 0 rfl (row 11 hd) _ hSw.rr Tryz.underlying30 rfl (size24 hd)
  simp only [Act.put, List.getElem_toArray, List.getElem_cons_succ, List.getElem_cons_zero, List.setIfInBounds_toArray, List.set_cons_zero, List.set_cons_succ]
  refine wpAnyH_ready (rs := [5]) (by kernel_rfl) (by simp) ?_
  refine AllReadyH.cons rfl (fun K hK => ?_) AllReadyH.nil
  refine stepFnW 74 (.func 74) [.tmp 12, .tmp 13] _ [pv av, hv hd] rfl rfl rfl rfl (fun _ => rfl) _ HF.out ?_
  rintro e w1 ⟨f, hB, rfl, hb1⟩
  refine Or.inl ⟨_, rfl, ?_⟩
  have hH1 := HH.out.on hb1
  refine hK.out _ _ hH1 (fun hHeld => ?_)
  clear hK K
  simp only [Act.put, List.getElem_toArray, List.getElem_cons_succ, List.getElem_cons_zero, List.setIfInBounds_toArray, List.set_cons_zero, List.set_cons_succ]
  refine wpAnyH_take (i := 6) (v := ?_) rfl (by kernel_rfl) (by kernel_rfl) (by kernel_rfl) (fun _ _ _ h => h) (Or.inl ⟨by rfl, ?_⟩) hHeld ?_
  rotate_left
  · intro w' hSw
    clear hSw
    go_simp
    first | done | with_reducible rfl
  simp only [Act.put, List.getElem_toArray, List.getElem_cons_succ, List.getElem_cons_zero, List.setIfInBounds_toArray, List.set_cons_zero, List.set_cons_succ]
  refine wpAnyH_take (i := 7) (v := ?_) rfl (by kernel_rfl) (by kernel_rfl) (by kernel_rfl) (fun _ _ _ h => h) (Or.inl ⟨by rfl, ?_⟩) hHeld ?_
  rotate_left
  · intro w' hSw
    clear hSw
    go_simp
    first | done | with_reducible rfl
  simp only [Act.put, List.getElem_toArray, List.getElem_cons_succ, List.getElem_cons_zero, List.setIfInBounds_toArray, List.set_cons_zero, List.set_cons_succ]
  refine wpAnyH_take (i := 8) (v := ?_) rfl (by kernel_rfl) (by kernel_rfl) (by kernel_rfl) (fun _ _ _ h => h) (Or.inl ⟨by rfl, ?_⟩) hHeld ?_
  rotate_left
  · intro w' hSw
    clear hSw
    go_simp
    first | done | with_reducible rfl
  simp only [Act.put, List.getElem_toArray, List.getElem_cons_succ, List.getElem_cons_zero, List.setIfInBounds_toArray, List.set_cons_zero, List.set_cons_succ]
  refine wpAnyH_take (i := 9) (v := ?_) rfl (by kernel_rfl) (by kernel_rfl) (by kernel_rfl) (fun _ _ _ h => h) (Or.inl ⟨by rfl, ?_⟩) hHeld ?_
  rotate_left
  · intro w' hSw
    clear hSw
    go_simp
    first | done | with_reducible rfl
  simp only [Act.put, List.getElem_toArray, List.getElem_cons_succ, List.getElem_cons_zero, List.setIfInBounds_toArray, List.set_cons_zero, List.set_cons_succ]
  refine wpAnyH_take (i := 10) (v := ?_) rfl (by kernel_rfl) (by kernel_rfl) (by kernel_rfl) (fun _ _ _ h => h) (Or.inl ⟨by rfl, ?_⟩) hHeld ?_
  rotate_left
  · intro w' hSw
    clear hSw
    go_simp
    first | done | with_reducible rfl
  simp only [Act.put, List.getElem_toArray, List.getElem_cons_succ, List.getElem_cons_zero, List.setIfInBounds_toArray, List.set_cons_zero, List.set_cons_succ]
  refine wpAnyH_done (by kernel_rfl) ?_ _
  obtain ⟨f', z1, z2, z3, z4⟩ := HZ.out w1 f hb1 hB
  have c1 := hH1.c1
  have HZ1 := hid (And.intro z1 (And.intro z2 z3))
  obtain ⟨t, htt⟩ : ∃ t, t = f.isSome := ⟨_, rfl⟩
  rw [← htt]
  have HT := hid htt
  clear z1 z2 z3 hb1 hB hH1 HF HH HZ htt
  cases f' with
  | none =>
    go_wp2
    refine bodyPost_ret (results_tmp2 rfl _ _ _) rfl ?_
    exact ⟨HZ1.out.2.2, none, HZ1.out.1, by rw [← HZ1.out.2.1, ← HT.out]; rfl⟩
  | some x =>
    simp only [mtV] at z4
    go_wp2
    refine bodyPost_ret (results_tmp2 rfl _ _ _) rfl ?_
    exact ⟨HZ1.out.2.2, some x, HZ1.out.1, by rw [← HZ1.out.2.1, ← HT.out]; rfl⟩
theorem onePacket_any (w : World) (p : Nat) (cur : Array Value) (t : TypeId) (x y n : Int) (h : w.heap[p]? = some (.cells cur t (0, 0))) (h0 : cur[0]? = some (.int .u64 x)) (h1 : cur[1]? = some (.int .u64 y)) (hx : InB x) (hy : InB y) (hn : I64 n) :
    Calls Tryz.prog 35 #[.func (.func 36) #[pv p] #[], .int .i64 n] w (YaP w p cur t x y 1 (max n 0)) := by
  obtain ⟨n0, n1⟩ := hn
  have hm : InB (max n 0) := by unfold InB; omega
  have hwr : IntKind.u64.wrap (max n 0) = max n 0 := by simp [IntKind.wrap, IntKind.bits, IntKind.signed]; omega
  have HY := hid (yadd_any w p cur t x y 1 (max n 0) h h0 h1 hx hy (by unfold InB; omega) hm)
  clear h h0 h1 hm
  go_enter Tryz.func35, Tryz.ntmps35
  go_wp2_with (first
    | (refine callBd 36 (.tmp 4) [.tmp 8] _ [pv p] [.agg #[.int .u64 1, .int .u64 (max n 0)]] rfl rfl rfl rfl entY _ HY.out ?_; rintro e w2 ⟨rfl, q1, q2⟩; refine Or.inl ⟨_, rfl, ?_⟩; have HQ := hid (And.intro q1 q2); clear q1 q2 HY)
    | (go_at_fn 36; refine (HY.out).mono ?_; rintro e w2 ⟨rfl, q1, q2⟩; have HQ := hid (And.intro q1 q2); clear q1 q2 HY))
  first | go_end0 | refine bodyPost_ret (results_none rfl _ _ _) rfl ?_
  exact ⟨rfl, HQ.out.1, HQ.out.2⟩
end Go.Proofs.YtdehlnaoehjehaaGreatDoor
