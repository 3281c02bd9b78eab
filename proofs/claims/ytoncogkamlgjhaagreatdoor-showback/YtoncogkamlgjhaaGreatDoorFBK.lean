/-
  Proved here: fieldNames of package parse lays the fields' names; what the words of a text are like. No condition.
-/
/-
  Proved here: Policy's closure that recovers. Conditions: the reader stands at one of its words; the answer's two blocks are no others.
-/
import Derived.Test.YtoncogkamlgjhaaGreatDoorFBI
namespace Go.Proofs.YtoncogkamlgjhaaGreatDoor
set_option maxRecDepth 100000
open Go.RowKit
set_option maxRecDepth 100000

set_option maxHeartbeats 1600000 in
theorem names_any (w : World) : Calls Tryz.prog 12 #[] w fun e w' => e = .returned (.map (some w.heap.size)) ∧ Laid w w.heap.size fT w' := by
  have hmm := @run_makeMap Tryz.prog
  obtain ⟨W0, r0, L0⟩ := (Laid.new w).put (t := 47) Tryz.underlying47 Qsrc (.int .i8 0) (by decide) (by decide)
  obtain ⟨W1, r1, L1⟩ := L0.put (t := 47) Tryz.underlying47 Qdst (.int .i8 1) (by decide) (by decide)
  obtain ⟨W2, r2, L2⟩ := L1.put (t := 47) Tryz.underlying47 Qkind (.int .i8 2) (by decide) (by decide)
  obtain ⟨W3, r3, L3⟩ := L2.put (t := 47) Tryz.underlying47 Qvlan (.int .i8 3) (by decide) (by decide)
  obtain ⟨W4, r4, L4⟩ := L3.put (t := 47) Tryz.underlying47 Qfrom (.int .i8 4) (by decide) (by decide)
  obtain ⟨W5, r5, L5⟩ := L4.put (t := 47) Tryz.underlying47 Qto (.int .i8 5) (by decide) (by decide)
  obtain ⟨W6, r6, L6⟩ := L5.put (t := 47) Tryz.underlying47 Qproto (.int .i8 6) (by decide) (by decide)
  obtain ⟨W7, r7, L7⟩ := L6.put (t := 47) Tryz.underlying47 Qsport (.int .i8 7) (by decide) (by decide)
  obtain ⟨W8, r8, L8⟩ := L7.put (t := 47) Tryz.underlying47 Qdport (.int .i8 8) (by decide) (by decide)
  obtain ⟨W9, r9, L9⟩ := L8.put (t := 47) Tryz.underlying47 Qport (.int .i8 9) (by decide) (by decide)
  obtain ⟨WA, rA, LA⟩ := L9.put (t := 47) Tryz.underlying47 Qswitch (.int .i8 10) (by decide) (by decide)
  have HL : Hid (Laid w w.heap.size fT WA) := LA
  clear L0 L1 L2 L3 L4 L5 L6 L7 L8 L9 LA
  go_enter Tryz.func12, Tryz.ntmps12
  go_wp2
  go_ret
  exact ⟨rfl, HL.out⟩
theorem scF_words (s : ByteArray) : ∀ f a acc l, scF s f a acc = .ok l → ∃ ws : List Wd, l = acc ++ ws ++ [wEnd s] ∧ ws.length ≤ f ∧ ∀ x ∈ ws, x.t.size ≤ s.size
  | 0, a, acc, l, h => by
    rw [scF] at h; cases h
    exact ⟨[], by simp, by simp, by simp⟩
  | f + 1, a, acc, l, h => by
    rw [scF] at h
    split at h
    · split at h
      · obtain ⟨ws, h1, h2, h3⟩ := scF_words s f _ _ _ h
        exact ⟨ws, h1, by omega, h3⟩
      · split at h
        · obtain ⟨ws, h1, h2, h3⟩ := scF_words s f _ _ _ h
          exact ⟨ws, h1, by omega, h3⟩
        · split at h
          · obtain ⟨ws, h1, h2, h3⟩ := scF_words s f _ _ _ h
            refine ⟨wdOf s a (one s a) :: ws, by rw [h1]; simp, by simp; omega, fun x hx => ?_⟩
            rcases List.mem_cons.1 hx with rfl | hx
            · show (s.extract a (one s a).e).size ≤ s.size
              rw [ByteArray.size_extract]; omega
            · exact h3 x hx
          · cases h
    · cases h
      exact ⟨[], by simp, by simp, by simp⟩
/-- what words of a text are like -/
structure Wok (l : List Wd) : Prop where
  cl : Cl l
  len : l.length ≤ 100000
  ts : ∀ k, (wat l k).t.size ≤ 65536
theorem wat_mem {l : List Wd} {k : Nat} (h : k < l.length) : wat l k ∈ l := by
  unfold wat
  rw [List.getD_eq_getElem?_getD, List.getElem?_eq_getElem h]
  exact List.getElem_mem h
theorem wat_out {l : List Wd} {k : Nat} (h : ¬ k < l.length) : wat l k = wz := by
  unfold wat
  rw [List.getD_eq_getElem?_getD, List.getElem?_eq_none (by omega)]; rfl
theorem wat_app {a b : List Wd} {k : Nat} (h : k < a.length) : wat (a ++ b) k = wat a k := by
  unfold wat; rw [List.getD_eq_getElem?_getD, List.getD_eq_getElem?_getD, List.getElem?_append_left h]
theorem wat_snoc (a : List Wd) (x : Wd) (b : List Wd) : wat (a ++ x :: b) a.length = x := by
  unfold wat; rw [List.getD_eq_getElem?_getD, List.getElem?_append_right (Nat.le_refl _)]; simp
theorem Wok.of {ws : List Wd} {e : Wd} (he : e.t = ⟨#[]⟩) (hk : e.k = 0) (hl : ws.length < 100000) (ht : ∀ x ∈ ws, x.t.size ≤ 65536) : Wok (ws ++ [e]) := by
  have hlen : (ws ++ [e]).length - 1 = ws.length := by simp
  refine ⟨⟨by simp, by rw [hlen, wat_snoc]; exact he, by rw [hlen, wat_snoc]; exact hk⟩, by simp; omega, fun k => ?_⟩
  by_cases h : k < ws.length
  · rw [wat_app h]; exact ht _ (wat_mem h)
  · by_cases h2 : k = ws.length
    · subst h2; rw [wat_snoc, he]; decide
    · rw [wat_out (by simp; omega)]; decide
theorem all_wok {s : ByteArray} {l : List Wd} (h : all s = .ok l) : Wok l := by
  unfold all at h
  split at h
  · cases h
  · rename_i hs
    obtain ⟨ws, h1, h2, h3⟩ := scF_words s _ _ _ _ h
    rw [h1, List.nil_append]
    exact Wok.of rfl rfl (by omega) fun x hx => by have := h3 x hx; omega
end Go.Proofs.YtoncogkamlgjhaaGreatDoor
namespace Go.Proofs.YtoncogkamlgjhaaGreatDoor
set_option maxRecDepth 100000
open Go.RowKit
set_option maxRecDepth 100000

theorem run_bpz (W : World) : (Instr.build 29 #[]).run Tryz.prog W = .ok (.agg #[.int .i8 0, .int .i8 0, .int .u64 0, .slice none 0 0, .slice none 0 0]) W := by kernel_rfl
theorem run_bfl (c a : Int) (t : ByteArray) (W : World) : (Instr.build 56 #[(0, .int .i64 c), (1, .int .i64 a), (2, .string t)]).run Tryz.prog W = .ok (.agg #[.int .i64 c, .int .i64 a, .string t]) W := by kernel_rfl
theorem pz1 : pz.all (·.oneCell') = true := by simp [Value.oneCell']
/-- the answer's blocks -/
structure An (P : Nat) (cs : Array Value) (v : Value) (w : World) : Prop where
  p : w.heap[P]? = some (.cells cs 29 (0, 0))
  e : w.heap[P + 1]? = some (.cells #[v] 35 (0, 0))
theorem An.on {P : Nat} {cs : Array Value} {v : Value} {w w' : World} (h : An P cs v w) (h1 : w'.heap[P]? = w.heap[P]?) (h2 : w'.heap[P + 1]? = w.heap[P + 1]?) : An P cs v w' := ⟨h1.trans h.p, h2.trans h.e⟩
theorem An.bel {P : Nat} {cs : Array Value} {v : Value} {w w' : World} (h : An P cs v w) (hb : Below w.heap.size w w') : An P cs v w' := h.on (hb.block _ (Array.getElem?_eq_some_iff.1 h.p).1) (hb.block _ (Array.getElem?_eq_some_iff.1 h.e).1)
theorem An.setP {P : Nat} {cs : Array Value} {v : Value} {w : World} (h : An P cs v w) (ds : Array Value) : An P ds v (w.setRow P ds) := ⟨setRow_heap w P _ ds _ _ h.p, (setRow_other w P (P + 1) _ (by omega)).trans h.e⟩
theorem An.setE {P : Nat} {cs : Array Value} {v : Value} {w : World} (h : An P cs v w) (u : Value) : An P cs u (w.setRow (P + 1) #[u]) := ⟨(setRow_other w (P + 1) P _ (by omega)).trans h.p, setRow_heap w (P + 1) _ #[u] _ _ h.e⟩
/-- A value of one cell is stored into a block of one, as a step. -/
theorem Sp.st1 {ops : Array Oper} {Q : Exit → Act → World → Prop} {o : Oper} {a : Act} {w : World} {K : Act → World → Prop} (ty : TypeId) (x y : Operand) (hop : o.op = .store ty x y) (hg : o.guard = none) (g : Nat) (hx : a.eval x = .pointer (some ⟨g, 0, none⟩)) (v : Value) (hy : a.eval y = v) (h1 : v.oneCell' = true)
    (t : TypeId) (old : Value) (hgb : w.heap[g]? = some (.cells #[old] t (0, 0))) (hi : (Tryz.prog.info? ty).map (·.size) = some 1) (hk : K (a.put o.dst undef) (w.setRow g #[v])) : Sp ops Q o a w K := by
  subst hy
  refine ⟨by simp [Region.wanted, hg], ?_⟩
  unfold Oper.wp execOp
  simp only [hop, hx, Instr.storeAt, Instr.sureAddr, Sem.run_bind, Sem.run_pure, Result.andThen_ok, run_storeVar_one w g t ty old _ hgb hi h1]
  exact hk
theorem Sp.stP {ops : Array Oper} {Q : Exit → Act → World → Prop} {o : Oper} {a : Act} {w : World} {K : Act → World → Prop} (x y : Operand) (ho : o.op = .store 29 x y) (hg : o.guard = none) (P : Nat) (hx : a.eval x = ptr P) (hy : a.eval y = .agg pz) {zs : Array Value} (hz : zs.size = 5) (hp : w.heap[P]? = some (.cells zs 29 (0, 0))) (hk : K (a.put o.dst undef) (w.setRow P pz)) : Sp ops Q o a w K :=
  ⟨by simp [Region.wanted, hg], wp_store_row 29 x y ho P pz hx hy 29 _ hp sizePO hz pz1 hk⟩
theorem Sp.bx {ops : Array Oper} {Q : Exit → Act → World → Prop} {o : Oper} {a : Act} {w : World} {K : Act → World → Prop} (x : Operand) (ho : o.op = .box 56 x) (hg : o.guard = none) (c p : Nat) (t : ByteArray) (hx : a.eval x = .agg (flc c p t)) (hk : K (a.put o.dst (.pointer (some ⟨w.heap.size, 0, none⟩))) (w.alloc (.cells (flc c p t) 56))) : Sp ops Q o a w K :=
  ⟨by simp [Region.wanted, hg], bxF x ho c p t hx hk⟩
/-- The fault that a recovered panic is told as. -/
structure Wf (g : Nat) (x : Wd) (W : World) : Prop where
  c1 : W.cell? ⟨g, 1, none⟩ = some (.string x.t)
  c3 : W.cell? ⟨g, 3, none⟩ = some (.int .i64 ((x.at' : Nat) : Int))
theorem Wf.of {g : Nat} {x : Wd} {W : World} (h : W.heap[g]? = some (.cells (wdc x) 52 (0, 0))) : Wf g x W := ⟨(cell_of_row _ _ _ _ _ _ h).trans rfl, (cell_of_row _ _ _ _ _ _ h).trans rfl⟩
set_option maxHeartbeats 3200000 in
theorem pcatch {l : List Wd} {r m : Nat} {ws : Value} {i P : Nat} {W : World} (h : RdM l r m ws i W) (hi : i < l.length) (hb : l.length ≤ 100000) {cs : Array Value} {v : Value} (hcs : cs.size = 5) (hA : An P cs v W) (t : TypeId) (pw : Value) (older : List PanicEntry) :
    CallsD Tryz.prog 13 #[ptr r, ptr P, ptr (P + 1)] (.panicking ({ v := .iface t pw, recovered := false } :: older)) W fun e u' w' =>
      e = .returned (.tuple #[]) ∧ u' = .panicking ({ v := .iface t pw, recovered := true } :: older) ∧ ∃ N, An P pz (.iface 54 (ptr N)) w' ∧ W.heap.size ≤ N ∧ w'.heap[N]? = some (.cells (flc 160 (wat l i).at' (wat l i).t) 56 (0, 0)) ∧ Only (fun b => b = P ∨ b = P + 1 ∨ W.heap.size ≤ b) W w' := by
  have HWd := hid (word_at h hi (by omega))
  have hPl := (Array.getElem?_eq_some_iff.1 hA.e).1
  have HA := hid hA
  refine callsD_of_wpS Tryz.func13 rfl fun c₀ cs' hu => ?_
  apply wpS_seq
  apply wpS_region
  simp [wpOpsS, go_sem, recoverD, hu, Tryz.ntmps13, Exit.thenS]
  refine wpS_cond (t := true) (by simp [Act.eval, Array.replicate]) ?_
  simp only [if_true]
  refine wpS_of_wp ?_
  show Code.wp Tryz.prog _ _ { tmps := #[ptr r, ptr P, ptr (P + 1), undef, .iface t pw, .bool true, undef, undef, undef, undef, undef, undef, undef, undef, undef], defers := [] } W
  generalize wat l i = x at HWd ⊢
  clear h hA hi
  obtain ⟨xk, xt, xn, xa⟩ := x
  simp only at HWd ⊢
  go_upto_region 2 with (go_at_call 14; refine (HWd.out).mono ?_; rintro e w5 ⟨rfl, hw⟩; have HB5 := hid hw; clear hw)
  have hz5 := HB5.out.size
  have hbA : Below W.heap.size W (w5.alloc (.cells #[.int .i8 ((xk : Nat) : Int), .string xt, .int .u64 ((xn : Nat) : Int), .int .i64 ((xa : Nat) : Int)] 52)) := HB5.out.alloc hz5 _
  have hWf : Wf w5.heap.size ⟨xk, xt, xn, xa⟩ (w5.alloc (.cells #[.int .i8 ((xk : Nat) : Int), .string xt, .int .u64 ((xn : Nat) : Int), .int .i64 ((xa : Nat) : Int)] 52)) := Wf.of (heap_alloc_new _ _)
  have hAA := HA.out.bel hbA
  generalize w5.alloc (.cells #[.int .i8 ((xk : Nat) : Int), .string xt, .int .u64 ((xn : Nat) : Int), .int .i64 ((xa : Nat) : Int)] 52) = w6 at hbA hWf hAA ⊢
  generalize w5.heap.size = G at hWf hz5 ⊢
  have HBA := hid hbA
  have HAA : Hid (An P cs v w6.drew) := ⟨hAA.p, hAA.e⟩
  have HWf : Hid (Wf G ⟨xk, xt, xn, xa⟩ w6.drew) := ⟨hWf.c1, hWf.c3⟩
  clear hbA hWf hAA HA HWd HB5
  refine wp_region_held_drew (S := Wf G ⟨xk, xt, xn, xa⟩) (by kernel_rfl) HWf.out (fun hHeld => ?_)
  refine wpAnyH_take (i := 0) (v := .agg pz) rfl (by kernel_rfl) (by kernel_rfl) (by kernel_rfl) (fun _ _ _ h => h) (Or.inl ⟨by rfl, ?_⟩) hHeld ?_
  · intro w' hSw
    exact runBd (us := #[]) _ rfl (by kernel_rfl) (run_bpz _)
  simp only [Act.put, List.getElem_toArray, List.getElem_cons_zero, List.setIfInBounds_toArray, List.set_cons_zero, List.set_cons_succ]
  refine wpAnyH_take (i := 1) (v := ?_) rfl (by kernel_rfl) (by kernel_rfl) (by kernel_rfl) (fun _ _ _ h => h) (Or.inl ⟨by rfl, ?_⟩) hHeld ?_
  rotate_left
  · intro w' hSw
    have c1 := hSw.c1
    have c3 := hSw.c3
    clear hSw
    go_simp
    first | done | with_reducible rfl
  simp only [Act.put, List.getElem_toArray, List.getElem_cons_succ, List.getElem_cons_zero, List.setIfInBounds_toArray, List.set_cons_zero, List.set_cons_succ]
  refine wpAnyH_take (i := 2) (v := ?_) rfl (by kernel_rfl) (by kernel_rfl) (by kernel_rfl) (fun _ _ _ h => h) (Or.inl ⟨by rfl, ?_⟩) hHeld ?_
  rotate_left
  · intro w' hSw
    have c1 := hSw.c1
    have c3 := hSw.c3
    clear hSw
    go_simp
    first | done | with_reducible rfl
  simp only [Act.put, List.getElem_toArray, List.getElem_cons_succ, List.getElem_cons_zero, List.setIfInBounds_toArray, List.set_cons_zero, List.set_cons_succ]
  refine wpAnyH_take (i := 3) (v := ?_) rfl (by kernel_rfl) (by kernel_rfl) (by kernel_rfl) (fun _ _ _ h => h) (Or.inl ⟨by rfl, ?_⟩) hHeld ?_
  rotate_left
  · intro w' hSw
    have c1 := hSw.c1
    have c3 := hSw.c3
    clear hSw
    go_simp
    first | done | with_reducible rfl
  simp only [Act.put, List.getElem_toArray, List.getElem_cons_succ, List.getElem_cons_zero, List.setIfInBounds_toArray, List.set_cons_zero, List.set_cons_succ]
  refine wpAnyH_take (i := 4) (v := ?_) rfl (by kernel_rfl) (by kernel_rfl) (by kernel_rfl) (fun _ _ _ h => h) (Or.inl ⟨by rfl, ?_⟩) hHeld ?_
  rotate_left
  · intro w' hSw
    have c1 := hSw.c1
    have c3 := hSw.c3
    clear hSw
    go_simp
    first | done | with_reducible rfl
  simp only [Act.put, List.getElem_toArray, List.getElem_cons_succ, List.getElem_cons_zero, List.setIfInBounds_toArray, List.set_cons_zero, List.set_cons_succ]
  refine wpAnyH_take (i := 5) (v := .agg (flc 160 xa xt)) rfl (by kernel_rfl) (by kernel_rfl) (by kernel_rfl) (fun _ _ _ h => h) (Or.inl ⟨by rfl, ?_⟩) hHeld ?_
  · intro w' hSw
    exact runBd (us := #[(0, .int .i64 160), (1, .int .i64 ((xa : Nat) : Int)), (2, .string xt)]) _ rfl (by kernel_rfl) (run_bfl _ _ _ _)
  simp only [Act.put, List.getElem_toArray, List.getElem_cons_succ, List.getElem_cons_zero, List.setIfInBounds_toArray, List.set_cons_zero, List.set_cons_succ]
  have hGl : G < w6.heap.size := cell_lt HWf.out.c1
  have hz6 := HBA.out.size
  have HW : Hid (∀ w', (w'.heap[G]? = w6.heap[G]?) → Wf G ⟨xk, xt, xn, xa⟩ w') := fun w' hg => ⟨(cell_same hg).trans HWf.out.c1, (cell_same hg).trans HWf.out.c3⟩
  have hF1 : ∀ w', An P pz (.iface 54 (ptr w6.heap.size)) w' → w'.heap[w6.heap.size]? = some (.cells (flc 160 xa xt) 56 (0, 0)) → Only (fun b => b = P ∨ b = P + 1 ∨ w6.heap.size ≤ b) w6.drew w' → ∃ N, An P pz (.iface 54 (ptr N)) w' ∧ W.heap.size ≤ N ∧ w'.heap[N]? = some (.cells (flc 160 xa xt) 56 (0, 0)) ∧ Only (fun b => b = P ∨ b = P + 1 ∨ W.heap.size ≤ b) W w' := fun w' h1 h2 h3 =>
    ⟨_, h1, hz6, h2, (Only.of (bel_drew HBA.out) (S := fun b => b = P ∨ b = P + 1 ∨ W.heap.size ≤ b) fun k hk => Or.inr (Or.inr hk)).trans (h3.mono fun k hk => by rcases hk with e | e | e; exact Or.inl e; exact Or.inr (Or.inl e); exact Or.inr (Or.inr (by omega)))⟩
  have HF1 := hid hF1
  clear hF1
  refine an2 6 8 _ _ (by kernel_rfl) rfl rfl ?_ ?_
  · refine Sp.bx (.tmp 12) rfl rfl 160 xa xt rfl ?_
    obtain ⟨w7, hw7⟩ : ∃ w7, w7 = w6.drew.alloc (.cells (flc 160 xa xt) 56) := ⟨_, rfl⟩
    have hb7 : Below w6.drew.heap.size w6.drew w7 := by rw [hw7]; exact (Below.refl _ _).alloc (Nat.le_refl _) _
    have hN7 : w7.heap[w6.heap.size]? = some (.cells (flc 160 xa xt) 56 (0, 0)) := by rw [hw7]; exact heap_alloc_new _ _
    have hA7 := HAA.out.bel hb7
    have hG7 : w7.heap[G]? = w6.heap[G]? := hb7.block _ hGl
    have hHeld := HW.out w7 hG7
    have hA8 := hA7.setP pz
    have hG8 : (w7.setRow P pz).heap[G]? = w6.heap[G]? := (setRow_other w7 P G _ (by omega)).trans hG7
    have hA9 := hA8.setE (.iface 54 (ptr w6.heap.size))
    have hG9 : ((w7.setRow P pz).setRow (P + 1) #[.iface 54 (ptr w6.heap.size)]).heap[G]? = w6.heap[G]? := (setRow_other _ (P + 1) G _ (by omega)).trans hG8
    have hN9 : ((w7.setRow P pz).setRow (P + 1) #[.iface 54 (ptr w6.heap.size)]).heap[w6.heap.size]? = some (.cells (flc 160 xa xt) 56 (0, 0)) := (setRow_other _ (P + 1) _ _ (by omega)).trans ((setRow_other _ P _ _ (by omega)).trans hN7)
    have hO9 : Only (fun b => b = P ∨ b = P + 1 ∨ w6.heap.size ≤ b) w6.drew ((w7.setRow P pz).setRow (P + 1) #[.iface 54 (ptr w6.heap.size)]) := (Only.of hb7 (S := fun b => b = P ∨ b = P + 1 ∨ w6.heap.size ≤ b) fun k hk => Or.inr (Or.inr hk)).trans ⟨rfl, rfl, rfl, by simp [World.setRow], fun k hk => (setRow_other _ (P + 1) k _ (fun e => hk (Or.inr (Or.inl e)))).trans (setRow_other _ P k _ (fun e => hk (Or.inl e)))⟩
    rw [← hw7]
    refine ⟨hHeld, ?_⟩
    simp only [Act.put, List.getElem_toArray, List.getElem_cons_succ, List.getElem_cons_zero, List.setIfInBounds_toArray, List.set_cons_zero, List.set_cons_succ]
    refine wpAnyH_take (i := 7) (v := ?_) rfl (by kernel_rfl) (by kernel_rfl) (by kernel_rfl) (fun _ _ _ h => h) (Or.inl ⟨by rfl, ?_⟩) hHeld ?_
    rotate_left
    · intro w' hSw
      clear hSw
      go_simp
      first | done | with_reducible rfl
    simp only [Act.put, List.getElem_toArray, List.getElem_cons_succ, List.getElem_cons_zero, List.setIfInBounds_toArray, List.set_cons_zero, List.set_cons_succ]
    refine an1 8 _ (by kernel_rfl) rfl (Sp.stP (.tmp 1) (.tmp 7) rfl rfl P rfl rfl hcs hA7.p ?_)
    refine ⟨(HW.out _ hG8), ?_⟩
    simp only [Act.put, List.getElem_toArray, List.getElem_cons_succ, List.getElem_cons_zero]
    refine an1 9 _ (by kernel_rfl) rfl (Sp.st1 35 (.tmp 2) (.tmp 14) rfl rfl (P + 1) rfl (.iface 54 (ptr w6.heap.size)) rfl rfl 35 _ hA8.e (by kernel_rfl) ?_)
    refine ⟨(HW.out _ hG9), ?_⟩
    simp only [Act.put, List.getElem_toArray, List.getElem_cons_succ, List.getElem_cons_zero]
    refine wpAnyH_done (by kernel_rfl) ?_ _
    have hX := HF1.out _ hA9 hN9 hO9
    clear hA9 hN9 hO9 hG9 hG8 hA8 hHeld hA7 hN7 hb7 hw7
    go_wp2
    simp [bodyPostS, results, Tryz.results13]
    exact hX
  · refine Sp.stP (.tmp 1) (.tmp 7) rfl rfl P rfl rfl hcs HAA.out.p ?_
    have hA7 := HAA.out.setP pz
    have hG7 : (w6.drew.setRow P pz).heap[G]? = w6.heap[G]? := setRow_other _ P G _ (by omega)
    have hz7 : (w6.drew.setRow P pz).heap.size = w6.heap.size := by simp [World.setRow]
    have hO7 : Only (fun b => b = P ∨ b = P + 1 ∨ w6.heap.size ≤ b) w6.drew (w6.drew.setRow P pz) := ⟨rfl, rfl, rfl, by simp [World.setRow], fun k hk => setRow_other _ P k _ (fun e => hk (Or.inl e))⟩
    generalize w6.drew.setRow P pz = w7 at hA7 hG7 hz7 hO7 ⊢
    refine ⟨(HW.out _ hG7), ?_⟩
    simp only [Act.put, List.getElem_toArray, List.getElem_cons_succ, List.getElem_cons_zero]
    refine an1 6 _ (by kernel_rfl) rfl (Sp.bx (.tmp 12) rfl rfl 160 xa xt rfl ?_)
    obtain ⟨w8, hw8⟩ : ∃ w8, w8 = w7.alloc (.cells (flc 160 xa xt) 56) := ⟨_, rfl⟩
    have hb8 : Below w7.heap.size w7 w8 := by rw [hw8]; exact (Below.refl _ _).alloc (Nat.le_refl _) _
    have hN8 : w8.heap[w6.heap.size]? = some (.cells (flc 160 xa xt) 56 (0, 0)) := by rw [← hz7, hw8]; exact heap_alloc_new _ _
    have hA8 := hA7.bel hb8
    have hG8 : w8.heap[G]? = w6.heap[G]? := (hb8.block _ (by omega)).trans hG7
    have hA9 := hA8.setE (.iface 54 (ptr w6.heap.size))
    have hG9 : (w8.setRow (P + 1) #[.iface 54 (ptr w6.heap.size)]).heap[G]? = w6.heap[G]? := (setRow_other _ (P + 1) G _ (by omega)).trans hG8
    have hN9 : (w8.setRow (P + 1) #[.iface 54 (ptr w6.heap.size)]).heap[w6.heap.size]? = some (.cells (flc 160 xa xt) 56 (0, 0)) := (setRow_other _ (P + 1) _ _ (by omega)).trans hN8
    have hO9 : Only (fun b => b = P ∨ b = P + 1 ∨ w6.heap.size ≤ b) w6.drew (w8.setRow (P + 1) #[.iface 54 (ptr w6.heap.size)]) := (hO7.trans (Only.of hb8 (S := fun b => b = P ∨ b = P + 1 ∨ w6.heap.size ≤ b) fun k hk => Or.inr (Or.inr (by omega)))).trans ⟨rfl, rfl, rfl, by simp [World.setRow], fun k hk => setRow_other _ (P + 1) k _ (fun e => hk (Or.inr (Or.inl e)))⟩
    rw [← hw8]
    have hHeld := HW.out _ hG8
    refine ⟨hHeld, ?_⟩
    simp only [Act.put, List.getElem_toArray, List.getElem_cons_succ, List.getElem_cons_zero, List.setIfInBounds_toArray, List.set_cons_zero, List.set_cons_succ]
    rw [hz7]
    refine wpAnyH_take (i := 7) (v := ?_) rfl (by kernel_rfl) (by kernel_rfl) (by kernel_rfl) (fun _ _ _ h => h) (Or.inl ⟨by rfl, ?_⟩) hHeld ?_
    rotate_left
    · intro w' hSw
      clear hSw
      go_simp
      first | done | with_reducible rfl
    simp only [Act.put, List.getElem_toArray, List.getElem_cons_succ, List.getElem_cons_zero, List.setIfInBounds_toArray, List.set_cons_zero, List.set_cons_succ]
    refine an1 9 _ (by kernel_rfl) rfl (Sp.st1 35 (.tmp 2) (.tmp 14) rfl rfl (P + 1) rfl (.iface 54 (ptr w6.heap.size)) rfl rfl 35 _ hA8.e (by kernel_rfl) ?_)
    refine ⟨(HW.out _ hG9), ?_⟩
    simp only [Act.put, List.getElem_toArray, List.getElem_cons_succ, List.getElem_cons_zero]
    refine wpAnyH_done (by kernel_rfl) ?_ _
    have hX := HF1.out _ hA9 hN9 hO9
    clear hA9 hN9 hO9 hG9 hG8 hA8 hHeld hA7 hN8 hb8 hw8
    go_wp2
    simp [bodyPostS, results, Tryz.results13]
    exact hX
set_option maxHeartbeats 400000 in
theorem pcatch_idle (p q u : Addr) (w : World) :
    CallsD Tryz.prog 13 #[.pointer (some p), .pointer (some q), .pointer (some u)] .returning w fun e u' w' => e = .returned (.tuple #[]) ∧ u' = .returning ∧ w' = w := by
  refine callsD_of_wpS Tryz.func13 rfl fun c₀ cs hu => ?_
  apply wpS_seq
  apply wpS_region
  simp [wpOpsS, go_sem, recoverD, hu, Tryz.ntmps13, Exit.thenS]
  refine wpS_cond (t := false) (by simp [Act.eval, Array.replicate]) ?_
  simp only [Bool.false_eq_true, if_false]
  refine wpS_of_wp (wp_skip ?_)
  cases c₀
  simp_all [bodyPostS, results, Tryz.results13]
end Go.Proofs.YtoncogkamlgjhaaGreatDoor
