/-
  Proved here: a table of package flows by its rules and what is gone (Fl); size, ofPlace; a tally's add. Conditions: the widths' table holds its numbers; numbers are of their width.
-/
import Derived.Test.YtdehlnaoehjehaaGreatDoorzFW
namespace Go.Proofs.YtdehlnaoehjehaaGreatDoor
set_option maxRecDepth 100000
open Go.RowKit Go.Maps

/-- A table: its room, how many were added, its rules, what is gone. -/
abbrev FlO (S : Nat → Prop) (o : Nat → Fg) (w : World) (g : Nat) (room ad : Int) (es : List Fe) (gs : List Ge) : Prop := ∃ vm br bp bg Gr Gp Gg, FlM S o w g vm br bp bg Gr Gp Gg room es gs ad ∧ FInv Gr Gp Gg room es gs ad
def Fl (S : Nat → Prop) (w : World) (g : Nat) (room ad : Int) (es : List Fe) (gs : List Ge) : Prop := ∃ o, FlO S o w g room ad es gs
theorem Fl.carry {S T : Nat → Prop} {w w' : World} {g : Nat} {room ad : Int} {es : List Fe} {gs : List Ge} (h : Fl S w g room ad es gs) (hc : ∀ b, b < w.heap.size → S b → T b ∧ w'.heap[b]? = w.heap[b]?) : Fl T w' g room ad es gs := by
  obtain ⟨o, vm, br, bp, bg, Gr, Gp, Gg, h1, h2⟩ := h
  exact ⟨o, vm, br, bp, bg, Gr, Gp, Gg, h1.carry fun b hb hS => ⟨(hc b hb hS).1, rfl, (hc b hb hS).2⟩, h2⟩
theorem Fl.on {S : Nat → Prop} {w w' : World} {g : Nat} {room ad : Int} {es : List Fe} {gs : List Ge} (h : Fl S w g room ad es gs) (hb : Below w.heap.size w w') : Fl S w' g room ad es gs := h.carry fun b hb1 hS => ⟨hS, hb.block b hb1⟩
theorem size_rl (r : Rl) (u : Value) : (Tryz.prog.info? 35).map (·.size) = some (rlc r u).size := by rw [rc_size]; kernel_rfl
theorem ssize_any {S : Nat → Prop} (w : World) (g : Nat) (room ad : Int) (es : List Fe) (gs : List Ge) (h : Fl S w g room ad es gs) : Calls Tryz.prog 79 #[pv g] w fun e w' => e = .returned (.int .i64 (es.length : Nat)) ∧ w' = w := by
  obtain ⟨o, vm, br, bp, bg, Gr, Gp, Gg, h1, h2⟩ := h
  obtain ⟨-, c1, -, -, -⟩ := h1.cells
  have hl := fun ty => h1.mr.len Tryz.underlying86 ty
  clear h1 h2
  go_enter Tryz.func79, Tryz.ntmps79
  go_wp2
  go_ret
  exact ⟨rfl, rfl⟩
/-- What ofPlace reads. -/
structure Hop (g bp b : Nat) (r : Rl) (u : Value) (w : World) : Prop where
  c : w.cell? ⟨g, 2, none⟩ = some (.map (some bp))
  rr : w.rangeAt b 0 (rlc r u).toList
theorem Hop.on {g bp b : Nat} {r : Rl} {u : Value} {w w' : World} (h : Hop g bp b r u w) (hb : Below w.heap.size w w') : Hop g bp b r u w' := ⟨cell_on hb h.c, range_on h.rr hb⟩
theorem row_range {w : World} {b t : Nat} {cs : Array Value} (h : w.heap[b]? = some (.cells cs t (0, 0))) : w.rangeAt b 0 cs.toList := range_of fun i _ => by rw [Nat.zero_add, cell_of_row _ _ _ _ _ _ h]
/-- What ofPlace hands back: the rule of the place. -/
def OpP (w : World) (es : List Fe) (r : Rl) (e : Ending) (w' : World) : Prop := ∃ v, e = .returned v ∧ Below w.heap.size w w' ∧ Rw (fun b => w.heap.size ≤ b) 1 96 w' v (es.filter fun x => eqP x.r r).length (eps (es.filter fun x => eqP x.r r))
set_option maxRecDepth 100000 in
theorem FInv.place {Gr Gp Gg : Lit → Option Value} {room : Int} {es : List Fe} {gs : List Ge} {ad : Int} (h : FInv Gr Gp Gg room es gs ad) {r : Rl} (hr : r.Fit) : (Gp (kp r.rk r.mt) = none ∧ es.filter (fun x => eqP x.r r) = []) ∨ ∃ e ∈ es, eqP e.r r = true ∧ Gp (kp r.rk r.mt) = some (pv e.p) ∧ es.filter (fun x => eqP x.r r) = [e] := by
  cases hG : Gp (kp r.rk r.mt) with
  | none =>
    refine Or.inl ⟨rfl, List.filter_eq_nil_iff.2 fun x hx hp => ?_⟩
    have := (h.gp (kp r.rk r.mt) (pv x.p)).2 ⟨x, hx, ((eqP_kp (h.fit x hx).1 hr).1 hp).symm, rfl⟩
    rw [hG] at this; cases this
  | some v =>
    obtain ⟨e, he, e1, rfl⟩ := (h.gp _ _).1 hG
    have hp : eqP e.r r = true := (eqP_kp (h.fit e he).1 hr).2 e1.symm
    refine Or.inr ⟨e, he, hp, rfl, ?_⟩
    have key : ∀ l : List Fe, (∀ x ∈ l, x ∈ es) → (l.Pairwise fun a b => eqP a.r b.r = false) → e ∈ l → l.filter (fun x => eqP x.r r) = [e] := fun l => by
      induction l with
      | nil => intro _ _ h; cases h
      | cons a l ih =>
        intro hm hpw hel
        rw [List.pairwise_cons] at hpw
        have two : ∀ x ∈ es, ∀ y ∈ es, eqP x.r r = true → eqP y.r r = true → eqP x.r y.r = true := fun x hx y hy h1 h2 => by
          have a1 := eqP_iff.1 h1
          have a2 := eqP_iff.1 h2
          exact eqP_iff.2 ⟨a1.1.trans a2.1.symm, fun k hk => (a1.2 k hk).trans (a2.2 k hk).symm⟩
        rcases List.mem_cons.1 hel with rfl | hel'
        · rw [List.filter_cons, if_pos hp]
          have : l.filter (fun x => eqP x.r r) = [] := List.filter_eq_nil_iff.2 fun x hx h5 => by
            have := two e he x (hm x (List.mem_cons_of_mem _ hx)) hp h5
            rw [hpw.1 x hx] at this; cases this
          rw [this]
        · have h6 : eqP a.r r = false := by
            cases h7 : eqP a.r r with
            | false => rfl
            | true =>
              have := two a (hm a List.mem_cons_self) e he h7 hp
              rw [hpw.1 e hel'] at this; cases this
          rw [List.filter_cons, if_neg (by rw [h6]; simp)]
          exact ih (fun x hx => hm x (List.mem_cons_of_mem _ hx)) hpw.2 hel'
    exact key es (fun _ h => h) h.apart he
theorem zeroPE' (w : World) : (zeroValue 96).run Tryz.prog w = .ok (.pointer none) w := zeroPE w
set_option maxHeartbeats 1600000 in
set_option maxRecDepth 100000 in
theorem ofPlace_any {S : Nat → Prop} (w : World) (g : Nat) (room ad : Int) (es : List Fe) (gs : List Ge) (h : Fl S w g room ad es gs) (r : Rl) (u : Value) (hr : r.Fit) : Calls Tryz.prog 46 #[pv g, .agg (rlc r u)] w (OpP w es r) := by
  obtain ⟨o, vm, br, bp, bg, Gr, Gp, Gg, h1, h2⟩ := h
  obtain ⟨W0, hW0⟩ : ∃ W0, W0 = w.alloc (.cells (rlc r u) 35) := ⟨_, rfl⟩
  have hB0 : Below w.heap.size w W0 := by rw [hW0]; exact (Below.refl _ _).alloc (Nat.le_refl _) _
  have hX0 : W0.heap[w.heap.size]? = some (.cells (rlc r u) 35 (0, 0)) := by rw [hW0]; exact heap_alloc_new _ _
  have hH0 : Hop g bp w.heap.size r u W0.drew := ⟨cell_on hB0 h1.cells.2.2.1, row_range (w := W0.drew) hX0⟩
  have HP := hid (placeOf_any W0.drew r u)
  have HM : Hid (∀ w1, Below W0.drew.heap.size W0.drew w1 → Mp w1 174 bp es.length Gp) := fun w1 hb => h1.mp.carry (by rw [hb.block bp (Nat.lt_of_lt_of_le h1.mp.lt hB0.size)]; exact hB0.block bp h1.mp.lt)
  have HK := hid (h2.place hr)
  have HH := hid hH0
  have HB0 := hid hB0
  have HW0 := hid hW0
  have hrk := hr.rk
  have hmt := hr.mt
  clear h1 h2 hr hB0 hX0 hW0 hH0
  go_enter Tryz.func46, Tryz.ntmps46
  go_upto_region 1 with fail
  rw [← HW0.out]
  clear HW0
  refine wp_region_held_drew (S := Hop g bp w.heap.size r u) (by kernel_rfl) HH.out (fun hHeld => ?_)
  refine wpAnyH_take (i := 0) (v := ?_) rfl (by kernel_rfl) (by kernel_rfl) (by kernel_rfl) (fun _ _ _ h => h) (Or.inl ⟨by rfl, ?_⟩) hHeld ?_
  rotate_left
  · intro w' hSw
    clear hSw
    go_simp
    first | done | with_reducible rfl
  simp only [Act.put, List.getElem_toArray, List.getElem_cons_zero, List.setIfInBounds_toArray, List.set_cons_zero, List.set_cons_succ]
  refine wpAnyH_take (i := 1) (v := ?_) rfl (by kernel_rfl) (by kernel_rfl) (by kernel_rfl) (fun _ _ _ h => h) (Or.inl ⟨by rfl, ?_⟩) hHeld ?_
  rotate_left
  · intro w' hSw
    clear hSw
    go_simp
    first | done | with_reducible rfl
  simp only [Act.put, List.getElem_toArray, List.getElem_cons_succ, List.getElem_cons_zero, List.setIfInBounds_toArray, List.set_cons_zero, List.set_cons_succ]
  refine wpAnyH_take (i := 2) (v := ?_) rfl (by kernel_rfl) (by kernel_rfl) (by kernel_rfl) (fun _ _ _ h => h) (Or.inl ⟨by rfl, ?_⟩) hHeld ?_
  rotate_left
  · intro w' hSw
    clear hSw
    go_simp
    first | done | with_reducible rfl
  simp only [Act.put, List.getElem_toArray, List.getElem_cons_succ, List.getElem_cons_zero, List.setIfInBounds_toArray, List.set_cons_zero, List.set_cons_succ]
  refine wpAnyH_take (i := 3) (v := ?_) rfl (by kernel_rfl) (by kernel_rfl) (by kernel_rfl) (fun _ _ _ h => h) (Or.inl ⟨by rfl, ?_⟩) hHeld ?_
  rotate_left
  · intro w' hSw
    have c := hSw.c
    clear hSw
    go_simp
    first | done | with_reducible rfl
  simp only [Act.put, List.getElem_toArray, List.getElem_cons_succ, List.getElem_cons_zero, List.setIfInBounds_toArray, List.set_cons_zero, List.set_cons_succ]
  refine wpAnyH_take (i := 4) (v := .agg (rlc r u)) rfl (by kernel_rfl) (by kernel_rfl) (by kernel_rfl) (fun _ _ _ h => h) (Or.inl ⟨by rfl, ?_⟩) hHeld ?_
  · intro w' hSw
    exact runLd 35 (.tmp 3) rfl w.heap.size 0 rfl (rlc r u) _ hSw.rr Tryz.underlying35 rfl (size_rl r u)
  simp only [Act.put, List.getElem_toArray, List.getElem_cons_succ, List.getElem_cons_zero, List.setIfInBounds_toArray, List.set_cons_zero, List.set_cons_succ]
  refine wpAnyH_ready (rs := [5]) (by kernel_rfl) (by simp) ?_
  refine AllReadyH.cons rfl (fun K hK => ?_) AllReadyH.nil
  refine stepFnW 86 (.func 86) [.tmp 12] _ [.agg (rlc r u)] rfl rfl rfl rfl (fun _ => rfl) _ HP.out ?_
  rintro e w1 ⟨rfl, hb1⟩
  refine Or.inl ⟨_, rfl, ?_⟩
  have HB1 := hid hb1
  refine hK.out _ _ (HH.out.on HB1.out) (fun hHeld => ?_)
  clear hK K
  simp only [Act.put, List.getElem_toArray, List.getElem_cons_succ, List.getElem_cons_zero, List.setIfInBounds_toArray, List.set_cons_zero, List.set_cons_succ]
  clear hb1
  refine wpAnyH_ready (rs := [6]) (by kernel_rfl) (by simp) ?_
  refine AllReadyH.cons rfl (fun K hK => ?_) AllReadyH.nil
  refine stepLookOk (.tmp 11) (.tmp 13) 87 rfl rfl rfl rfl (HM.out w1 HB1.out) lawP Tryz.underlying87 (zeroPE' w1) (key_p hrk hmt) ?_
  refine hK.out _ _ (HH.out.on HB1.out) (fun hHeld => ?_)
  clear hK K
  simp only [Act.put, List.getElem_toArray, List.getElem_cons_succ, List.getElem_cons_zero, List.setIfInBounds_toArray, List.set_cons_zero, List.set_cons_succ]
  rcases HK.out with ⟨e1, e2⟩ | ⟨x, hx, -, e1, e2⟩
  · rw [e1]
    show wpAnyH _ _ _ _ _ _ _ { tmps := _, defers := _ } _
    simp only [Option.getD_none, Option.isSome_none]
    refine wpAnyH_take (i := 7) (v := ?_) rfl (by kernel_rfl) (by kernel_rfl) (by kernel_rfl) (fun _ _ _ h => h) (Or.inl ⟨by rfl, ?_⟩) hHeld ?_
    rotate_left
    · intro w' hSw
      clear hSw
      go_simp
      first | done | with_reducible rfl
    simp only [Act.put, List.getElem_toArray, List.getElem_cons_succ, List.getElem_cons_zero, List.setIfInBounds_toArray, List.set_cons_zero, List.set_cons_succ]
    refine wpAnyH_take (i := 8) (v := ?_) rfl (by kernel_rfl) (by kernel_rfl) (by kernel_rfl) (fun _ _ _ h => h) (Or.inl ⟨by rfl, ?_⟩) hHeld ?_
    rotate_left
    · intro w' hSw
      clear hSw
      go_simp
      first | done | with_reducible rfl
    simp only [Act.put, List.getElem_toArray, List.getElem_cons_succ, List.getElem_cons_zero, List.setIfInBounds_toArray, List.set_cons_zero, List.set_cons_succ]
    refine wpAnyH_take (i := 9) (v := ?_) rfl (by kernel_rfl) (by kernel_rfl) (by kernel_rfl) (fun _ _ _ h => h) (Or.inl ⟨by rfl, ?_⟩) hHeld ?_
    rotate_left
    · intro w' hSw
      clear hSw
      go_simp
      first | done | with_reducible rfl
    simp only [Act.put, List.getElem_toArray, List.getElem_cons_succ, List.getElem_cons_zero, List.setIfInBounds_toArray, List.set_cons_zero, List.set_cons_succ]
    refine wpAnyH_take (i := 10) (v := ?_) rfl (by kernel_rfl) (by kernel_rfl) (by kernel_rfl) (fun _ _ _ h => h) (Or.inl ⟨by rfl, ?_⟩) hHeld ?_
    rotate_left
    · intro w' hSw
      clear hSw
      go_simp
      first | done | with_reducible rfl
    simp only [Act.put, List.getElem_toArray, List.getElem_cons_succ, List.getElem_cons_zero, List.setIfInBounds_toArray, List.set_cons_zero, List.set_cons_succ]
    refine wpAnyH_take (i := 11) (v := ?_) rfl (by kernel_rfl) (by kernel_rfl) (by kernel_rfl) (fun _ _ _ h => h) (Or.inl ⟨by rfl, ?_⟩) hHeld ?_
    rotate_left
    · intro w' hSw
      clear hSw
      go_simp
      first | done | with_reducible rfl
    simp only [Act.put, List.getElem_toArray, List.getElem_cons_succ, List.getElem_cons_zero, List.setIfInBounds_toArray, List.set_cons_zero, List.set_cons_succ]
    refine wpAnyH_done (by kernel_rfl) ?_ _
    have HE : Hid (OpP w es r (.returned nilS) w1) := by
      refine ⟨_, rfl, HB0.out.drew.trans (HB1.out.mono HB0.out.size), ?_⟩
      rw [e2]; exact Rw.nil _ _ _ _
    clear e1 e2 HK HM HH HP
    go_wp2
    go_ret
    exact HE.out
  · rw [e1]
    simp only [Option.getD_some, Option.isSome_some]
    refine wpAnyH_take (i := 7) (v := ?_) rfl (by kernel_rfl) (by kernel_rfl) (by kernel_rfl) (fun _ _ _ h => h) (Or.inl ⟨by rfl, ?_⟩) hHeld ?_
    rotate_left
    · intro w' hSw
      clear hSw
      go_simp
      first | done | with_reducible rfl
    simp only [Act.put, List.getElem_toArray, List.getElem_cons_succ, List.getElem_cons_zero, List.setIfInBounds_toArray, List.set_cons_zero, List.set_cons_succ]
    refine wpAnyH_take (i := 8) (v := ?_) rfl (by kernel_rfl) (by kernel_rfl) (by kernel_rfl) (fun _ _ _ h => h) (Or.inl ⟨by rfl, ?_⟩) hHeld ?_
    rotate_left
    · intro w' hSw
      clear hSw
      go_simp
      first | done | with_reducible rfl
    simp only [Act.put, List.getElem_toArray, List.getElem_cons_succ, List.getElem_cons_zero, List.setIfInBounds_toArray, List.set_cons_zero, List.set_cons_succ]
    refine wpAnyH_take (i := 9) (v := ?_) rfl (by kernel_rfl) (by kernel_rfl) (by kernel_rfl) (fun _ _ _ h => h) (Or.inl ⟨by rfl, ?_⟩) hHeld ?_
    rotate_left
    · intro w' hSw
      clear hSw
      go_simp
      first | done | with_reducible rfl
    simp only [Act.put, List.getElem_toArray, List.getElem_cons_succ, List.getElem_cons_zero, List.setIfInBounds_toArray, List.set_cons_zero, List.set_cons_succ]
    refine wpAnyH_take (i := 10) (v := ?_) rfl (by kernel_rfl) (by kernel_rfl) (by kernel_rfl) (fun _ _ _ h => h) (Or.inl ⟨by rfl, ?_⟩) hHeld ?_
    rotate_left
    · intro w' hSw
      clear hSw
      go_simp
      first | done | with_reducible rfl
    simp only [Act.put, List.getElem_toArray, List.getElem_cons_succ, List.getElem_cons_zero, List.setIfInBounds_toArray, List.set_cons_zero, List.set_cons_succ]
    refine wpAnyH_take (i := 11) (v := ?_) rfl (by kernel_rfl) (by kernel_rfl) (by kernel_rfl) (fun _ _ _ h => h) (Or.inl ⟨by rfl, ?_⟩) hHeld ?_
    rotate_left
    · intro w' hSw
      clear hSw
      go_simp
      first | done | with_reducible rfl
    simp only [Act.put, List.getElem_toArray, List.getElem_cons_succ, List.getElem_cons_zero, List.setIfInBounds_toArray, List.set_cons_zero, List.set_cons_succ]
    refine wpAnyH_done (by kernel_rfl) ?_ _
    have HE : Hid (OpP w es r (.returned (.slice (some ⟨w1.heap.size, 0, none⟩) 1 1)) (w1.alloc (.cells #[pv x.p] 96))) := by
      have hb2 : Below w.heap.size w w1 := HB0.out.drew.trans (HB1.out.mono HB0.out.size)
      refine ⟨_, rfl, hb2.alloc hb2.size _, ?_⟩
      rw [e2]
      exact ⟨by simp, Or.inr ⟨w1.heap.size, 0, 1, #[pv x.p], rfl, hb2.size, heap_alloc_new _ _, by simp, by simp, by simp⟩⟩
    clear e1 e2 HK HM HH HP
    go_wp2
    go_ret
    exact HE.out
end Go.Proofs.YtdehlnaoehjehaaGreatDoor
