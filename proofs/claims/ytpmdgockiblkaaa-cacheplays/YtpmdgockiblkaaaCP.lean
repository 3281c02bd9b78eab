/-
  Proved here: Put and New of package cache. Conditions: fewer than 2 to 31 places; the hand is at one of them, if there are some.
-/
import Derived.Test.YtpmdgockiblkaaaCG
namespace Go.Proofs.Ytpmdgockiblkaaa
open Go.RowKit Go.Maps

theorem stepBox {ops : Array Oper} {o : Oper} {a : Act} {w : World} {Kt : Act → World → Prop} {Q : Exit → Act → World → Prop} {E : Prop} (ty : TypeId) (x : Operand) (hop : o.op = .box ty x) (hgd : o.guard = none) (cs : Array Value) (hx : a.eval x = .agg cs)
    (hk : Kt (a.put o.dst (pv w.heap.size)) (w.alloc (.cells cs ty))) : if Region.wanted o (yielded ops a.tmps) = true then Oper.wp Try.prog o a w Kt Q else E := by
  have hw : Region.wanted o (yielded ops a.tmps) = true := by simp [Region.wanted, hgd]
  rw [if_pos hw]
  unfold Oper.wp execOp
  have hrun : (Instr.box ty (.agg cs)).run Try.prog w = .ok (pv w.heap.size) (w.alloc (.cells cs ty)) := rfl
  simp only [hop, hx, Sem.run_bind, Sem.run_pure, Result.andThen_ok, hrun]
  exact hk
theorem runBld {o : Oper} {a : Act} {w : World} (x y z : Operand) (ho : o.op = .build 55 #[(0, x), (1, y), (2, z)]) (e : Et) (hm : e.mark = false) (hx : a.eval x = hv e.h.f) (hy : a.eval y = .int .i64 e.id) (hz : a.eval z = .int .i64 e.gen) : (execOp a.eval o).run Try.prog w = .ok (.value (.agg (ecs e))) w := by
  have he : ecs e = ecs { e with mark := false } := by rw [← hm]
  rw [he]
  obtain ⟨h, i, gn, m⟩ := e
  unfold execOp
  simp only [ho, hx, hy, hz, List.map_toArray, List.map_cons, List.map_nil, Sem.run_bind, Sem.run_pure]
  show _ = _
  kernel_rfl
theorem rmS_at {c : Cs} (hh : c.hand < c.es.length) : (rmS c).es.length = c.es.length ∧ (rmS c).es[rmI c]? = some none ∧ (rmS c).now = c.now ∧ rmI c < c.es.length := by
  unfold rmS rmI
  cases hi : c.es.findIdx? Option.isNone with
  | some i => exact ⟨rfl, (free_at hi).1, rfl, (List.getElem?_eq_some_iff.1 (free_at hi).1).1⟩
  | none =>
    have h1 := rn_len c.now _ c.es c.hand rfl
    refine ⟨by simp [h1.1], ?_, rfl, h1.2.1 hh⟩
    show ((rn c.now c.es c.hand).1.set (rn c.now c.es c.hand).2 none)[(rn c.now c.es c.hand).2]? = _
    rw [List.getElem?_set_self (by rw [h1.1]; exact h1.2.1 hh)]
theorem put_rm {c : Cs} {h : Hdr} (id : Int) (hc : c.es ≠ []) (hf : fnd c.es h = none) : putS c h id = { rmS c with es := (rmS c).es.set (rmI c) (some ⟨h, id, c.now, false⟩) } := by
  unfold rmS rmI
  cases hi : c.es.findIdx? Option.isNone with
  | some i => rw [put_free hf hi]
  | none => rw [put_full hc hf hi]; simp [List.set_set]
theorem unm_h {es : List (Option Et)} {h : Hdr} {k : Nat} (hn : ∀ (i : Nat) (e : Et), es[i]? = some (some e) → e.h ≠ h) : ∀ (i : Nat) (e : Et), (unm es k)[i]? = some (some e) → e.h ≠ h := by
  intro i e he
  unfold unm at he
  split at he
  · rename_i e' he'
    rcases set_at he with ⟨_, _, hy⟩ | ⟨_, hy⟩
    · cases hy; exact hn k e' he'
    · exact hn i e hy
  · exact hn i e he
theorem rn_h (now : Int) {h : Hdr} : ∀ (n : Nat) (es : List (Option Et)) (k : Nat), marks es = n → (∀ (i : Nat) (e : Et), es[i]? = some (some e) → e.h ≠ h) → ∀ (i : Nat) (e : Et), (rn now es k).1[i]? = some (some e) → e.h ≠ h
  | n, es, k, hm, hn => by
    cases hf : fr now es k with
    | false => rw [rn_stop hf]; exact hn
    | true =>
      have h1 := marks_unm hf
      match n, hm with
      | 0, hm => omega
      | n + 1, hm => rw [rn_go hf]; exact rn_h now n _ _ (by omega) (unm_h hn)
theorem rmS_h {c : Cs} {h : Hdr} (hn : ∀ (i : Nat) (e : Et), c.es[i]? = some (some e) → e.h ≠ h) : ∀ (i : Nat) (e : Et), (rmS c).es[i]? = some (some e) → e.h ≠ h := by
  unfold rmS
  cases hi : c.es.findIdx? Option.isNone with
  | some i => exact hn
  | none =>
    intro i e he
    rcases set_at he with ⟨_, _, hy⟩ | ⟨_, hy⟩
    · cases hy
    · exact rn_h c.now _ c.es c.hand rfl hn i e hy
/-- A new entry. -/
theorem CaM.new {S : Nat → Prop} {w w2 : World} {g : Nat} {c : Cs} {bm n : Nat} {G : Lit → Option Value} {bp : Nat} {cur : Array Value} {q : Nat → Nat} (h : CaM S w g c bm n G bp cur q) {i : Nat} (hi : c.es[i]? = some none) (x : Et) (hx : ∀ (j : Nat) (e : Et), c.es[j]? = some (some e) → e.h ≠ x.h) (hf : Fresh S w) (W : World) (hW : W = (w.alloc (.cells (ecs x) 55)).setCell ⟨bp, i, none⟩ (pv w.heap.size)) (hT : Tur W w2 bm) (hM : Mp w2 30 bm (if (G (kl x.h.f)).isSome then n else n + 1) (updL G (kl x.h.f) (some (.int .i64 (i : Int))))) :
    CaM S w2 g { c with es := c.es.set i (some x) } bm (n + 1) (updL G (kl x.h.f) (some (.int .i64 (i : Int)))) bp (cur.setIfInBounds i (pv w.heap.size)) (fun j => if j = i then w.heap.size else q j) := by
  obtain ⟨a1, a2, a3, a4, a5⟩ := h.apart
  have hil : i < c.es.length := (List.getElem?_eq_some_iff.1 hi).1
  have hbpl := (Array.getElem?_eq_some_iff.1 h.hp).1
  have hgl := (Array.getElem?_eq_some_iff.1 h.hg).1
  have oth : ∀ b, b < w.heap.size → b ≠ bp → b ≠ bm → w2.heap[b]? = w.heap[b]? := fun b hb h1 h2 => by
    rw [hT.block b h2, hW, heap_setCell_other _ ⟨bp, i, none⟩ b _ h1, heap_alloc_old _ _ hb]
  have hp1 : (w.alloc (.cells (ecs x) 55)).heap[bp]? = some (.cells cur 51 (0, 0)) := by rw [heap_alloc_old _ _ hbpl]; exact h.hp
  rw [h.m2 x.h hx] at hM
  refine ⟨h.sg, ?_, h.sm, hM, h.sp, ?_, by simpa using h.sz, fun k o hk => ?_, fun k y hk => ?_, fun k y hk => ?_, fun hh hn => ?_, ?_⟩
  · rw [oth g hgl a2 a1, h.hg]; simp [ccs]
  · rw [hT.block _ a3.symm, hW, heap_setCell_same _ bp i _ _ _ hp1]
  · rcases set_at hk with ⟨rfl, _, rfl⟩ | ⟨hne, hk⟩
    · rw [Array.getElem?_setIfInBounds, if_pos rfl, if_pos (by rw [h.sz]; exact hil)]
      simp [ptr]
    · rw [Array.getElem?_setIfInBounds, if_neg (fun e => hne e.symm), h.pl _ _ hk]
      cases o <;> simp [ptr, hne]
  · rcases set_at hk with ⟨rfl, _, hy⟩ | ⟨hne, hk⟩
    · cases hy
      rw [if_pos rfl]
      refine ⟨hf _ (Nat.le_refl _), ?_⟩
      have hb1 : w.heap.size ≠ bm := fun e => by have := h.mp.lt; omega
      rw [hT.block _ hb1, hW, heap_setCell_other _ ⟨bp, k, none⟩ _ _ (by show w.heap.size ≠ bp; omega)]
      exact heap_alloc_new _ _
    · rw [if_neg hne]
      have := h.en k y hk
      obtain ⟨b1, b2, b3⟩ := a4 k y hk
      exact ⟨this.1, (oth _ (Array.getElem?_eq_some_iff.1 this.2).1 b3 b2).trans this.2⟩
  · rcases set_at hk with ⟨rfl, _, hy⟩ | ⟨hne, hk⟩
    · cases hy; rw [updL_same]
    · rw [updL_other _ _ fun e' => hx k y hk (kl_eq e')]
      exact h.m1 k y hk
  · have hne : hh ≠ x.h := fun e' => hn i x (by rw [List.getElem?_set_self hil]) e'.symm
    rw [updL_other _ _ fun e' => hne (kl_eq e')]
    refine h.m2 hh fun k y hk => ?_
    have hki : k ≠ i := fun e' => by rw [e', hi] at hk; cases hk
    exact hn k y (by rw [List.getElem?_set_ne (fun h' => hki h'.symm)]; exact hk)
  · rw [h.cn]
    have := countP_set Option.isSome c.es i none (some x) hi
    simp only [Option.isSome_some, Option.isSome_none, if_true, Bool.false_eq_true, if_false] at this
    show c.es.countP Option.isSome + 1 = (c.es.set i (some x)).countP Option.isSome
    omega
def PuP (S : Nat → Prop) (w : World) (v : Value) (c : Cs) (h : Hdr) (id : Int) (r : Ending) (w' : World) : Prop := r = .returned (.tuple #[]) ∧ Only S w w' ∧ Ca S w' v (putS c h id)
/-- What Put reads last. -/
structure Hu (g : Nat) (now : Int) (bm bp L bx : Nat) (x : Nat → Int) (w : World) : Prop where
  c0 : w.cell? ⟨g, 0, none⟩ = some (.int .i64 now)
  c2 : w.cell? ⟨g, 2, none⟩ = some (.map (some bm))
  c3 : w.cell? ⟨g, 3, none⟩ = some (.slice (some ⟨bp, 0, none⟩) L L)
  rx : w.rangeAt bx 0 (row 11 x).toList
theorem Hu.on {g : Nat} {now : Int} {bm bp L bx : Nat} {x : Nat → Int} {w w' : World} (H : Hu g now bm bp L bx x w) (h1 : w'.heap[g]? = w.heap[g]?) (h2 : w'.heap[bx]? = w.heap[bx]?) : Hu g now bm bp L bx x w' :=
  ⟨(cell_same h1).trans H.c0, (cell_same h1).trans H.c2, (cell_same h1).trans H.c3, fun j v hj => (cell_same h2).trans (H.rx j v hj)⟩
set_option maxHeartbeats 1600000 in
set_option maxRecDepth 100000 in
theorem put_nilS {S : Nat → Prop} (w : World) (v : Value) (c : Cs) (h : Hdr) (id : Int) (hC : Ca S w v c) (hf : Fresh S w) (hc : c.es = []) : Calls Try.prog 13 #[v, hv h.f, .int .i64 id] w (PuP S w v c h id) := by
  have HCa := hid hC
  obtain ⟨g, bm, n, G, bp, cur, q, rfl, hM⟩ := hC
  obtain ⟨x, hx⟩ : ∃ z, z = h.f := ⟨_, rfl⟩
  obtain ⟨W0, hW0⟩ : ∃ W0, W0 = w.alloc (.cells (row 11 h.f) 30) := ⟨_, rfl⟩
  have hB0 : Below w.heap.size w W0 := by rw [hW0]; exact (Below.refl _ _).alloc (Nat.le_refl _) _
  have hM0 : CaM S W0 g c bm n G bp cur q := hM.carry fun b hb hS => ⟨hS, hB0.block b hb⟩
  obtain ⟨c0, -, c2, c3⟩ := hM0.cells
  rw [hc] at c3
  have HP : Hid (PuP S w (pv g) c h id (.returned (.tuple #[])) W0) := by
    unfold PuP
    rw [put_nil h id hc]
    exact ⟨rfl, Only.of hB0 hf, HCa.out.on hB0⟩
  have HW0 := hid hW0
  rw [← hx] at HW0
  rw [← hx]
  clear hM hM0 hc hW0 hB0 hx
  go_enter Try.func13, Try.ntmps13
  go_upto_region 1 with fail
  rw [← HW0.out]
  clear HW0
  go_wp2
  first | go_end0 | refine bodyPost_ret (results_none rfl _ _ _) rfl ?_
  exact HP.out
set_option maxHeartbeats 1600000 in
set_option maxRecDepth 100000 in
theorem put_there {S : Nat → Prop} (w : World) (v : Value) (c : Cs) (h : Hdr) (id : Int) (hC : Ca S w v c) (hf : Fresh S w) (i : Nat) (hfd : fnd c.es h = some i) : Calls Try.prog 13 #[v, hv h.f, .int .i64 id] w (PuP S w v c h id) := by
  have HCa := hid hC
  obtain ⟨g, bm, n, G, bp, cur, q, rfl, hM⟩ := hC
  obtain ⟨x, hx⟩ : ∃ z, z = h.f := ⟨_, rfl⟩
  have hwx : Wf x := by rw [hx]; exact h.wf
  obtain ⟨W0, hW0⟩ : ∃ W0, W0 = w.alloc (.cells (row 11 h.f) 30) := ⟨_, rfl⟩
  have hB0 : Below w.heap.size w W0 := by rw [hW0]; exact (Below.refl _ _).alloc (Nat.le_refl _) _
  have hG0 : W0.heap[w.heap.size]? = some (.cells (row 11 h.f) 30 (0, 0)) := by rw [hW0]; exact heap_alloc_new _ _
  have hM0 : CaM S W0 g c bm n G bp cur q := hM.carry fun b hb hS => ⟨hS, hB0.block b hb⟩
  obtain ⟨c0, -, c2, c3⟩ := hM0.cells
  have HH : Hid (Hg g bm n G w.heap.size x W0.drew) := ⟨c2, hM0.mp.carry rfl, range_of fun i hi => by
    rw [row_size] at hi
    rw [Nat.zero_add]
    refine (cell_of_row W0 _ _ _ _ _ hG0).trans ?_
    rw [hx]⟩
  have hO0 : Only S w W0 := Only.of hB0 hf
  obtain ⟨e, he, heh⟩ := fnd_some hfd
  have hGn : G (kl x) = some (.int .i64 (i : Nat)) := by rw [hx, ← heh]; exact hM.m1 i e he
  have hil : i < c.es.length := (List.getElem?_eq_some_iff.1 he).1
  obtain ⟨L, hL⟩ : ∃ z, z = c.es.length := ⟨_, rfl⟩
  obtain ⟨p, hp⟩ : ∃ z, z = q i := ⟨_, rfl⟩
  have hpl : W0.cell? ⟨bp, i, none⟩ = some (pv p) := by rw [hp]; exact hM0.place he
  obtain ⟨ei1, eg1, em1, -⟩ := hM0.ent he
  obtain ⟨eg, heg⟩ : ∃ z, z = e.gen := ⟨_, rfl⟩
  obtain ⟨ei, hei⟩ : ∃ z, z = e.id := ⟨_, rfl⟩
  obtain ⟨now, hnow⟩ : ∃ z, z = c.now := ⟨_, rfl⟩
  rw [← hp, ← heg] at eg1
  rw [← hp, ← hei] at ei1
  rw [← hnow] at c0
  rw [← hL] at c3 hil
  have hfz : W0.frozen? ⟨p, 11, none⟩ = false := by rw [hp]; exact (hM0.frz 11).2.2 i e he
  have hfz2 : W0.frozen? ⟨p, 12, none⟩ = false := by rw [hp]; exact (hM0.frz 12).2.2 i e he
  have HP : Hid (PuP S w (pv g) c h id (.returned (.tuple #[])) ((W0.setCell ⟨p, 11, none⟩ (.int .i64 id)).setCell ⟨p, 12, none⟩ (.int .i64 now)).drew) := by
    unfold PuP
    rw [put_in hfd he, hp, hnow]
    have h1 := hM0.setEnt he { e with id := id } rfl 11 _ (set_id e id)
    have h2 := h1.setEnt (i := i) (e := { e with id := id }) (by rw [List.getElem?_set_self (by rw [← hL]; exact hil)]) { e with id := id, gen := c.now } rfl 12 _ (set_gen { e with id := id } c.now)
    rw [List.set_set] at h2
    exact ⟨rfl, ((hO0.setCell (hM0.en i e he).1 _).setCell (hM0.en i e he).1 _).drew, g, bm, n, G, bp, cur, q, rfl, h2.carry fun b _ hS => ⟨hS, rfl⟩⟩
  have hLn : ((L : Int) == 0) = false := by simp; omega
  have HW0 := hid hW0
  rw [← hx] at HW0
  rw [← hx]
  clear hM hM0 hfd hG0 hW0 hB0 hO0 hx he heh hL hp heg hei hnow em1
  go_enter Try.func13, Try.ntmps13
  go_upto_region 1 with fail
  rw [← HW0.out]
  clear HW0
  go_upto_region 2 with fail
  refine wp_region_held_drew (S := Hg g bm n G w.heap.size x) (by kernel_rfl) HH.out (fun hHeld => ?_)
  refine wpAnyH_take (i := 0) (v := ?_) rfl (by kernel_rfl) (by kernel_rfl) (by kernel_rfl) (fun _ _ _ h => h) (Or.inl ⟨by rfl, ?_⟩) hHeld ?_
  rotate_left
  · intro w' hSw
    clear hSw
    go_simp
    first | done | with_reducible rfl
  simp only [Act.put, List.getElem_toArray, List.getElem_cons_zero, List.setIfInBounds_toArray, List.set_cons_zero, List.set_cons_succ]
  refine wpAnyH_take (i := 1) (v := ?_) rfl (by kernel_rfl) (by kernel_rfl) (by kernel_rfl) (fun _ _ _ h => h) (Or.inl ⟨by rfl, ?_⟩) hHeld ?_
  rotate_left
  · intro w' hSw
    clear hSw
    go_simp
    first | done | with_reducible rfl
  simp only [Act.put, List.getElem_toArray, List.getElem_cons_succ, List.getElem_cons_zero, List.setIfInBounds_toArray, List.set_cons_zero, List.set_cons_succ]
  refine wpAnyH_take (i := 2) (v := ?_) rfl (by kernel_rfl) (by kernel_rfl) (by kernel_rfl) (fun _ _ _ h => h) (Or.inl ⟨by rfl, ?_⟩) hHeld ?_
  rotate_left
  · intro w' hSw
    clear hSw
    go_simp
    first | done | with_reducible rfl
  simp only [Act.put, List.getElem_toArray, List.getElem_cons_succ, List.getElem_cons_zero, List.setIfInBounds_toArray, List.set_cons_zero, List.set_cons_succ]
  refine wpAnyH_take (i := 3) (v := ?_) rfl (by kernel_rfl) (by kernel_rfl) (by kernel_rfl) (fun _ _ _ h => h) (Or.inl ⟨by rfl, ?_⟩) hHeld ?_
  rotate_left
  · intro w' hSw
    have c2 := hSw.c2
    clear hSw
    go_simp
    first | done | with_reducible rfl
  simp only [Act.put, List.getElem_toArray, List.getElem_cons_succ, List.getElem_cons_zero, List.setIfInBounds_toArray, List.set_cons_zero, List.set_cons_succ]
  refine wpAnyH_take (i := 4) (v := (hv x)) rfl (by kernel_rfl) (by kernel_rfl) (by kernel_rfl) (fun _ _ _ h => h) (Or.inl ⟨by rfl, ?_⟩) hHeld ?_
  · intro w' hSw
    exact runLd 30 (.tmp 4) rfl w.heap.size 0 rfl (row 11 x) _ hSw.rx Try.underlying30 rfl (sizeH x)
  simp only [Act.put, List.getElem_toArray, List.getElem_cons_succ, List.getElem_cons_zero, List.setIfInBounds_toArray, List.set_cons_zero, List.set_cons_succ]
  refine wpAnyH_take (i := 5) (v := (.tuple #[.int .i64 (i : Int), .bool true])) rfl (by kernel_rfl) (by kernel_rfl) (by kernel_rfl) (fun _ _ _ h => h) (Or.inl ⟨by rfl, ?_⟩) hHeld ?_
  · intro w' hSw
    exact runLookS (.tmp 24) (.tmp 25) rfl rfl rfl hSw.mp hwx hGn
  simp only [Act.put, List.getElem_toArray, List.getElem_cons_succ, List.getElem_cons_zero, List.setIfInBounds_toArray, List.set_cons_zero, List.set_cons_succ]
  refine wpAnyH_take (i := 6) (v := ?_) rfl (by kernel_rfl) (by kernel_rfl) (by kernel_rfl) (fun _ _ _ h => h) (Or.inl ⟨by rfl, ?_⟩) hHeld ?_
  rotate_left
  · intro w' hSw
    clear hSw
    go_simp
    first | done | with_reducible rfl
  simp only [Act.put, List.getElem_toArray, List.getElem_cons_succ, List.getElem_cons_zero, List.setIfInBounds_toArray, List.set_cons_zero, List.set_cons_succ]
  refine wpAnyH_take (i := 7) (v := ?_) rfl (by kernel_rfl) (by kernel_rfl) (by kernel_rfl) (fun _ _ _ h => h) (Or.inl ⟨by rfl, ?_⟩) hHeld ?_
  rotate_left
  · intro w' hSw
    clear hSw
    go_simp
    first | done | with_reducible rfl
  simp only [Act.put, List.getElem_toArray, List.getElem_cons_succ, List.getElem_cons_zero, List.setIfInBounds_toArray, List.set_cons_zero, List.set_cons_succ]
  refine wpAnyH_take (i := 8) (v := ?_) rfl (by kernel_rfl) (by kernel_rfl) (by kernel_rfl) (fun _ _ _ h => h) (Or.inl ⟨by rfl, ?_⟩) hHeld ?_
  rotate_left
  · intro w' hSw
    clear hSw
    go_simp
    first | done | with_reducible rfl
  simp only [Act.put, List.getElem_toArray, List.getElem_cons_succ, List.getElem_cons_zero, List.setIfInBounds_toArray, List.set_cons_zero, List.set_cons_succ]
  refine wpAnyH_take (i := 9) (v := ?_) rfl (by kernel_rfl) (by kernel_rfl) (by kernel_rfl) (fun _ _ _ h => h) (Or.inl ⟨by rfl, ?_⟩) hHeld ?_
  rotate_left
  · intro w' hSw
    clear hSw
    go_simp
    first | done | with_reducible rfl
  simp only [Act.put, List.getElem_toArray, List.getElem_cons_succ, List.getElem_cons_zero, List.setIfInBounds_toArray, List.set_cons_zero, List.set_cons_succ]
  refine wpAnyH_take (i := 10) (v := ?_) rfl (by kernel_rfl) (by kernel_rfl) (by kernel_rfl) (fun _ _ _ h => h) (Or.inl ⟨by rfl, ?_⟩) hHeld ?_
  rotate_left
  · intro w' hSw
    clear hSw
    go_simp
    first | done | with_reducible rfl
  simp only [Act.put, List.getElem_toArray, List.getElem_cons_succ, List.getElem_cons_zero, List.setIfInBounds_toArray, List.set_cons_zero, List.set_cons_succ]
  refine wpAnyH_done (by kernel_rfl) ?_ _
  go_wp2
  first | go_end0 | refine bodyPost_ret (results_none rfl _ _ _) rfl ?_
  exact HP.out
end Go.Proofs.Ytpmdgockiblkaaa
