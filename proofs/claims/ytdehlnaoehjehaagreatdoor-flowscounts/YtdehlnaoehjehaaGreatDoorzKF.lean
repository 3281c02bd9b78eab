/-
  Proved here: add of package flows: a rule of its place is gone, and it is there as one that was added last; none and full: refused. Conditions: the widths' table holds its numbers; fewer than 2 to 31 were added, and Cookies gone.
-/
import Derived.Test.YtdehlnaoehjehaaGreatDoorzKE
namespace Go.Proofs.YtdehlnaoehjehaaGreatDoor
set_option maxRecDepth 100000
open Go.RowKit Go.Maps

/-- What add leaves. -/
def AfP (S : Nat → Prop) (w : World) (g : Nat) (room ad : Int) (es : List Fe) (gs : List Ge) (r : Rl) (e : Ending) (w' : World) : Prop :=
  Only S w w' ∧ ((es.filter (fun x => eqP x.r r) = [] ∧ room ≤ es.length ∧ e = .returned (.tuple #[.int .i64 0, .int .i64 4]) ∧ Fl S w' g room ad es gs) ∨
    (¬ (es.filter (fun x => eqP x.r r) = [] ∧ room ≤ es.length) ∧ e = .returned (.tuple #[.int .i64 1, .int .i64 0]) ∧ ∃ p u' gs', Fl S w' g room (ad + 1) (rmL es (es.filter fun x => eqP x.r r) ++ [⟨p, ad + 1, r, u', 0, 0⟩]) gs' ∧ gfn gs' = loL (gfn gs) (es.filter fun x => eqP x.r r) ∧ gs'.length ≤ gs.length + (es.filter fun x => eqP x.r r).length))
/-- What add reads of its rule; of the table. -/
structure Hra (b : Nat) (r : Rl) (u : Value) (w : World) : Prop where
  rr : w.rangeAt b 0 (rlc r u).toList
structure Hrm (g : Nat) (room : Int) (w : World) : Prop where
  c3 : w.cell? ⟨g, 3, none⟩ = some (.int .i64 room)
theorem Fl.room {S : Nat → Prop} {w : World} {g : Nat} {room ad : Int} {es : List Fe} {gs : List Ge} (h : Fl S w g room ad es gs) : w.cell? ⟨g, 3, none⟩ = some (.int .i64 room) := by
  obtain ⟨o, vm, br, bp, bg, Gr, Gp, Gg, h1, -⟩ := h
  exact h1.cells.2.2.2.1
theorem Fl.inv {S : Nat → Prop} {w : World} {g : Nat} {room ad : Int} {es : List Fe} {gs : List Ge} (h : Fl S w g room ad es gs) : (es.Pairwise fun a b => a.k < b.k) ∧ (es.Pairwise fun a b => eqP a.r b.r = false) ∧ (0 ≤ room ∧ room ≤ 1024) ∧ (es.length : Int) ≤ room ∧ (∀ e ∈ es, e.r.Fit ∧ mOk e.r.mt = true ∧ InB e.pk ∧ InB e.bt) ∧ 0 ≤ ad := by
  obtain ⟨o, vm, br, bp, bg, Gr, Gp, Gg, -, h2⟩ := h
  exact ⟨h2.num, h2.apart, h2.rm, h2.len, h2.fit, h2.ad0⟩
theorem rmE_le (es : List Fe) (k : Int) : (rmE es k).length ≤ es.length := List.length_filter_le _ _
theorem rmL_le : ∀ (l es : List Fe), (rmL es l).length ≤ es.length
  | [], _es => Nat.le_refl _
  | a :: l, es => Nat.le_trans (rmL_le l (rmE es a.k)) (rmE_le es a.k)
theorem Fl.at_most {S : Nat → Prop} {w : World} {g : Nat} {room ad : Int} {es : List Fe} {gs : List Ge} (h : Fl S w g room ad es gs) {r : Rl} (hr : r.Fit) : es.filter (fun x => eqP x.r r) = [] ∨ ∃ e ∈ es, es.filter (fun x => eqP x.r r) = [e] := by
  obtain ⟨o, vm, br, bp, bg, Gr, Gp, Gg, -, h2⟩ := h
  rcases h2.place hr with ⟨-, h5⟩ | ⟨e, he, -, -, h5⟩
  · exact Or.inl h5
  · exact Or.inr ⟨e, he, h5⟩
set_option maxHeartbeats 3200000 in
set_option maxRecDepth 100000 in
theorem fadd_any {S T : Nat → Prop} (w : World) (g : Nat) (room ad : Int) (es : List Fe) (gs : List Ge) (h : Fl S w g room ad es gs) (hf : Fresh S w) (ht : Tab w) (h0S : ¬ S 0) (r : Rl) (u : Value) (hr : r.Fit) (hm : mOk r.mt = true) (had : ad < 2147483640) (hgl : gs.length < 2147483000) (hu : Cps T w u r.cp) (hT : ∀ b, T b → b < w.heap.size ∧ ¬ S b) :
    Calls Tryz.prog 42 #[pv g, .agg (rlc r u)] w (AfP S w g room ad es gs r) := by
  obtain ⟨W0, hW0⟩ : ∃ W0, W0 = w.alloc (.cells (rlc r u) 35) := ⟨_, rfl⟩
  have hB0 : Below w.heap.size w W0 := by rw [hW0]; exact (Below.refl _ _).alloc (Nat.le_refl _) _
  have hs0 : W0.heap.size = w.heap.size + 1 := by rw [hW0]; simp
  have hX0 : W0.heap[w.heap.size]? = some (.cells (rlc r u) 35 (0, 0)) := by rw [hW0]; exact heap_alloc_new _ _
  have HOp := hid (ofPlace_any W0.drew g room ad es gs (h.on hB0.drew) r u hr)
  obtain ⟨hnum, hapart, hrm, hlenr, hfit, had0⟩ := h.inv
  obtain ⟨l, hl⟩ : ∃ l, l = es.filter (fun x => eqP x.r r) := ⟨_, rfl⟩
  have hl1 : l.length ≤ 1 := by
    rcases h.at_most hr with h5 | ⟨e, -, h5⟩
    · rw [hl, h5]; simp
    · rw [hl, h5]; simp
  have hlm : ∀ x ∈ l, x ∈ es := fun x hx => by rw [hl] at hx; exact (List.mem_filter.1 hx).1
  have hld : l.Pairwise fun a b => a.k ≠ b.k := by rw [hl]; exact (hnum.imp fun h => by omega).filter _
  have hnew : ∀ e ∈ rmL es l, eqP e.r r = false := fun e he => by
    cases hq : eqP e.r r with
    | false => rfl
    | true =>
      have h5 := rmL_mem.1 he
      exact absurd rfl (h5.2 e (by rw [hl]; exact List.mem_filter.2 ⟨h5.1, hq⟩))
  -- behind ofPlace
  have H1 : Hid (∀ w1, Below W0.drew.heap.size W0.drew w1 → Fl S w1 g room ad es gs ∧ Hra w.heap.size r u w1 ∧ Hrm g room w1.drew ∧ Below w.heap.size w w1) := fun w1 hb => by
    have hB1 : Below w.heap.size w w1 := hB0.drew.trans (hb.mono hB0.size)
    have hF1 := h.on hB1
    exact ⟨hF1, ⟨row_range ((hb.block _ (by show w.heap.size < W0.heap.size; omega)).trans hX0)⟩, ⟨hF1.room⟩, hB1⟩
  have HFull : Hid (l = [] → room ≤ es.length → ∀ w1, Below W0.drew.heap.size W0.drew w1 → AfP S w g room ad es gs r (.returned (.tuple #[.int .i64 0, .int .i64 4])) w1.drew) := fun h5 h6 w1 hb => by
    obtain ⟨q1, -, -, q4⟩ := H1.out w1 hb
    exact ⟨(Only.of q4 hf).drew, Or.inl ⟨by rw [← hl]; exact h5, h6, rfl, q1.carry fun b _ hS => ⟨hS, rfl⟩⟩⟩
  have HRm : Hid (¬ (l = [] ∧ room ≤ es.length) → ∀ w1 v, Below W0.drew.heap.size W0.drew w1 → Rw (fun b => W0.drew.heap.size ≤ b) 1 96 w1 v l.length (eps l) →
      Calls Tryz.prog 44 #[pv g, v] w1.drew fun e w2 => (∃ n : Nat, e = .returned (.int .i64 n)) ∧ Hra w.heap.size r u w2.drew ∧ Calls Tryz.prog 80 #[pv g, .agg (rlc r u)] w2.drew fun e w3 => e = .returned (.tuple #[]) ∧ Hra w.heap.size r u w3 ∧ AfP S w g room ad es gs r (.returned (.tuple #[.int .i64 1, .int .i64 0])) w3) := fun hnf w1 v hb hR => by
    obtain ⟨q1, q2, -, q4⟩ := H1.out w1 hb
    have hsb : W0.heap.size ≤ w1.heap.size := hb.size
    obtain ⟨S1, hS1⟩ : ∃ S1 : Nat → Prop, ∀ b, S1 b ↔ S b ∧ ¬ (w.heap.size ≤ b ∧ b < w1.heap.size) := ⟨fun b => S b ∧ ¬ (w.heap.size ≤ b ∧ b < w1.heap.size), fun _ => Iff.rfl⟩
    have hF1 : Fl S1 w1.drew g room ad es gs := h.carry fun b hb' hS => ⟨(hS1 b).2 ⟨hS, by omega⟩, q4.block b hb'⟩
    have hfr : Fresh S1 w1.drew := fun k hk => (hS1 k).2 ⟨hf k (by have := q4.size; have : w1.heap.size ≤ k := hk; omega), by have : w1.heap.size ≤ k := hk; omega⟩
    have hR1 : Rw (fun b => W0.heap.size ≤ b ∧ b < w1.heap.size) 1 96 w1.drew v l.length (eps l) := hR.carry fun b hb' hS => ⟨⟨hS, hb'⟩, rfl⟩
    refine (remove_any w1.drew g room ad es gs hF1 hfr l v hR1 (fun b hb' hS => ((hS1 b).1 hS).2 ⟨by omega, hb'.2⟩) hlm hld had (by omega)).mono ?_
    rintro e w2 ⟨rfl, hO2, gs2, f1, f2, f3⟩
    rw [List.take_length] at f1 f2
    have hO2S : Only S w1.drew w2 := hO2.mono fun k hk => ((hS1 k).1 hk).1
    have hxb : w2.heap[w.heap.size]? = some (.cells (rlc r u) 35 (0, 0)) := by
      rw [hO2.block w.heap.size (fun hS => ((hS1 _).1 hS).2 ⟨Nat.le_refl _, by omega⟩)]
      exact (hb.block _ (by show w.heap.size < W0.heap.size; omega)).trans hX0
    have hOw : Only S w w2 := (Only.of q4 hf).drew.trans hO2S
    have hF2 : Fl S1 w2.drew g room ad (rmL es l) gs2 := f1.carry fun b _ hS => ⟨hS, rfl⟩
    have hf2 : Fresh S1 w2.drew := hfr.on hO2.size
    refine ⟨⟨_, rfl⟩, ⟨row_range (w := w2.drew) hxb⟩, ?_⟩
    have hlen2 : ((rmL es l).length : Int) < room := by
      by_cases h5 : l = []
      · have : ¬ room ≤ es.length := fun h6 => hnf ⟨h5, h6⟩
        rw [h5]; show ((es.length : Nat) : Int) < room; omega
      · obtain ⟨x, hx⟩ : ∃ x, l = [x] := by
          rcases h.at_most hr with h6 | ⟨x, -, h6⟩
          · exact absurd (hl.trans h6) h5
          · exact ⟨x, hl.trans h6⟩
        rw [hx]
        have := rmE_len hnum (hlm x (by rw [hx]; simp))
        show ((rmE es x.k).length : Int) < room
        omega
    refine (put_any w2.drew g room ad (rmL es l) gs2 hF2 hf2 (tab_same (w := w) (hOw.block 0 h0S) ht) r u hr hm hnew hlen2 had (Cps.carry (w := w) (fun b hb' hS => ⟨hS, hOw.block b (hT b hS).2⟩) hu) (fun b hb' => ⟨Nat.lt_of_lt_of_le (hT b hb').1 hOw.size, fun hS => (hT b hb').2 ((hS1 b).1 hS).1⟩)).mono ?_
    rintro e w3 ⟨rfl, hO3, p, u', hF3⟩
    have hx3 : w3.heap[w.heap.size]? = some (.cells (rlc r u) 35 (0, 0)) := (hO3.block _ (fun hS => ((hS1 _).1 hS).2 ⟨Nat.le_refl _, by omega⟩)).trans hxb
    have hO3S : Only S w2.drew w3 := hO3.mono fun k hk => ((hS1 k).1 hk).1
    refine ⟨rfl, ⟨row_range hx3⟩, hOw.drew.trans hO3S, Or.inr ⟨by rw [← hl]; exact hnf, rfl, p, u', gs2, by rw [← hl]; exact hF3.carry fun b _ hS => ⟨((hS1 b).1 hS).1, rfl⟩, by rw [← hl]; exact f2, by rw [← hl]; omega⟩⟩
  have HSz : Hid (∀ w1, Below W0.drew.heap.size W0.drew w1 → Calls Tryz.prog 79 #[pv g] w1.drew fun e w' => e = .returned (.int .i64 (es.length : Nat)) ∧ w' = w1.drew) := fun w1 hb => ssize_any w1.drew g room ad es gs ((H1.out w1 hb).1.carry fun b _ hS => ⟨hS, rfl⟩)
  have HR0 : Hid (Hra w.heap.size r u W0.drew) := ⟨row_range (w := W0.drew) hX0⟩
  have HW0 := hid hW0
  have HLL := hid (And.intro hl hl1)
  have hlen : (l.length : Int) ≤ 1 := by omega
  clear h hf ht h0S hr hm hu hT hB0 hs0 hX0 hW0 hnum hapart hrm hlenr hfit had0 hlm hld hnew hl hl1
  go_enter Tryz.func42, Tryz.ntmps42
  go_upto_region 1 with fail
  rw [← HW0.out]
  clear HW0
  refine wp_region_held_drew (S := Hra w.heap.size r u) (by kernel_rfl) HR0.out (fun hHeld => ?_)
  refine wpAnyH_take (i := 0) (v := ?_) rfl (by kernel_rfl) (by kernel_rfl) (by kernel_rfl) (fun _ _ _ h => h) (Or.inl ⟨by rfl, ?_⟩) hHeld ?_
  rotate_left
  · intro w' hSw
    clear hSw
    go_simp
    first | done | with_reducible rfl
  simp only [Act.put, List.getElem_toArray, List.getElem_cons_zero, List.setIfInBounds_toArray, List.set_cons_zero, List.set_cons_succ]
  refine wpAnyH_take (i := 1) (v := ?_) rfl (by kernel_rfl) (by kernel_rfl) (by kernel_rfl) (fun _ _ _ h => h) (Or.inl ⟨by rfl, ?_⟩) hHeld ?_
  rotate_left
  · intro w' hSw
    clear hSw
    go_simp
    first | done | with_reducible rfl
  simp only [Act.put, List.getElem_toArray, List.getElem_cons_succ, List.getElem_cons_zero, List.setIfInBounds_toArray, List.set_cons_zero, List.set_cons_succ]
  refine wpAnyH_take (i := 2) (v := ?_) rfl (by kernel_rfl) (by kernel_rfl) (by kernel_rfl) (fun _ _ _ h => h) (Or.inl ⟨by rfl, ?_⟩) hHeld ?_
  rotate_left
  · intro w' hSw
    clear hSw
    go_simp
    first | done | with_reducible rfl
  simp only [Act.put, List.getElem_toArray, List.getElem_cons_succ, List.getElem_cons_zero, List.setIfInBounds_toArray, List.set_cons_zero, List.set_cons_succ]
  refine wpAnyH_take (i := 3) (v := .agg (rlc r u)) rfl (by kernel_rfl) (by kernel_rfl) (by kernel_rfl) (fun _ _ _ h => h) (Or.inl ⟨by rfl, ?_⟩) hHeld ?_
  · intro w' hSw
    exact runLd 35 (.tmp 3) rfl w.heap.size 0 rfl (rlc r u) _ hSw.rr Tryz.underlying35 rfl (size_rl r u)
  simp only [Act.put, List.getElem_toArray, List.getElem_cons_succ, List.getElem_cons_zero, List.setIfInBounds_toArray, List.set_cons_zero, List.set_cons_succ]
  refine wpAnyH_ready (rs := [4]) (by kernel_rfl) (by simp) ?_
  refine AllReadyH.cons rfl (fun K hK => ?_) AllReadyH.nil
  refine stepFnW 46 (.func 46) [.tmp 9, .tmp 10] _ [pv g, .agg (rlc r u)] rfl rfl rfl rfl (fun _ => rfl) _ HOp.out ?_
  rintro e w1 ⟨v, rfl, hb1, hRw⟩
  refine Or.inl ⟨_, rfl, ?_⟩
  rw [← HLL.out.1] at hRw
  obtain ⟨ao, cap, rfl⟩ := hRw.form
  obtain ⟨q1, q2, q3, q4⟩ := H1.out w1 hb1
  refine hK.out _ _ q2 (fun hHeld => ?_)
  clear hK K
  simp only [Act.put, List.getElem_toArray, List.getElem_cons_succ, List.getElem_cons_zero, List.setIfInBounds_toArray, List.set_cons_zero, List.set_cons_succ]
  refine wpAnyH_take (i := 5) (v := ?_) rfl (by kernel_rfl) (by kernel_rfl) (by kernel_rfl) (fun _ _ _ h => h) (Or.inl ⟨by rfl, ?_⟩) hHeld ?_
  rotate_left
  · intro w' hSw
    clear hSw
    go_simp
    first | done | with_reducible rfl
  simp only [Act.put, List.getElem_toArray, List.getElem_cons_succ, List.getElem_cons_zero, List.setIfInBounds_toArray, List.set_cons_zero, List.set_cons_succ]
  refine wpAnyH_done (by kernel_rfl) ?_ _
  have HB1 := hid hb1
  have HRw := hid hRw
  have HQ3 := hid q3
  clear q1 q2 q3 q4 hb1 hRw HOp HR0
  go_upto_region 2 with fail
  refine wp_region_held_drew (S := Hrm g room) (by kernel_rfl) HQ3.out (fun hHeld => ?_)
  by_cases hl0 : l = []
  · subst hl0
    simp only [List.length_nil]
    refine wpAnyH_take (i := 0) (v := ?_) rfl (by kernel_rfl) (by kernel_rfl) (by kernel_rfl) (fun _ _ _ h => h) (Or.inl ⟨by rfl, ?_⟩) hHeld ?_
    rotate_left
    · intro w' hSw
      clear hSw
      go_simp
      first | done | with_reducible rfl
    simp only [Act.put, List.getElem_toArray, List.getElem_cons_zero, List.setIfInBounds_toArray, List.set_cons_zero, List.set_cons_succ]
    refine wpAnyH_take (i := 1) (v := ?_) rfl (by kernel_rfl) (by kernel_rfl) (by kernel_rfl) (fun _ _ _ h => h) (Or.inl ⟨by rfl, ?_⟩) hHeld ?_
    rotate_left
    · intro w' hSw
      clear hSw
      go_simp
      first | done | with_reducible rfl
    simp only [Act.put, List.getElem_toArray, List.getElem_cons_succ, List.getElem_cons_zero, List.setIfInBounds_toArray, List.set_cons_zero, List.set_cons_succ]
    refine wpAnyH_take (i := 2) (v := ?_) rfl (by kernel_rfl) (by kernel_rfl) (by kernel_rfl) (fun _ _ _ h => h) (Or.inl ⟨by rfl, ?_⟩) hHeld ?_
    rotate_left
    · intro w' hSw
      clear hSw
      go_simp
      first | done | with_reducible rfl
    simp only [Act.put, List.getElem_toArray, List.getElem_cons_succ, List.getElem_cons_zero, List.setIfInBounds_toArray, List.set_cons_zero, List.set_cons_succ]
    refine wpAnyH_take (i := 3) (v := ?_) rfl (by kernel_rfl) (by kernel_rfl) (by kernel_rfl) (fun _ _ _ h => h) (Or.inl ⟨by rfl, ?_⟩) hHeld ?_
    rotate_left
    · intro w' hSw
      clear hSw
      go_simp
      first | done | with_reducible rfl
    simp only [Act.put, List.getElem_toArray, List.getElem_cons_succ, List.getElem_cons_zero, List.setIfInBounds_toArray, List.set_cons_zero, List.set_cons_succ]
    refine wpAnyH_take (i := 4) (v := ?_) rfl (by kernel_rfl) (by kernel_rfl) (by kernel_rfl) (fun _ _ _ h => h) (Or.inl ⟨by rfl, ?_⟩) hHeld ?_
    rotate_left
    · intro w' hSw
      clear hSw
      go_simp
      first | done | with_reducible rfl
    simp only [Act.put, List.getElem_toArray, List.getElem_cons_succ, List.getElem_cons_zero, List.setIfInBounds_toArray, List.set_cons_zero, List.set_cons_succ]
    refine wpAnyH_take (i := 5) (v := ?_) rfl (by kernel_rfl) (by kernel_rfl) (by kernel_rfl) (fun _ _ _ h => h) (Or.inl ⟨by rfl, ?_⟩) hHeld ?_
    rotate_left
    · intro w' hSw
      clear hSw
      go_simp
      first | done | with_reducible rfl
    simp only [Act.put, List.getElem_toArray, List.getElem_cons_succ, List.getElem_cons_zero, List.setIfInBounds_toArray, List.set_cons_zero, List.set_cons_succ]
    refine wpAnyH_take (i := 6) (v := ?_) rfl (by kernel_rfl) (by kernel_rfl) (by kernel_rfl) (fun _ _ _ h => h) (Or.inl ⟨by rfl, ?_⟩) hHeld ?_
    rotate_left
    · intro w' hSw
      clear hSw
      go_simp
      first | done | with_reducible rfl
    simp only [Act.put, List.getElem_toArray, List.getElem_cons_succ, List.getElem_cons_zero, List.setIfInBounds_toArray, List.set_cons_zero, List.set_cons_succ]
    refine wpAnyH_take (i := 8) (v := ?_) rfl (by kernel_rfl) (by kernel_rfl) (by kernel_rfl) (fun _ _ _ h => h) (Or.inl ⟨by rfl, ?_⟩) hHeld ?_
    rotate_left
    · intro w' hSw
      clear hSw
      go_simp
      first | done | with_reducible rfl
    simp only [Act.put, List.getElem_toArray, List.getElem_cons_succ, List.getElem_cons_zero, List.setIfInBounds_toArray, List.set_cons_zero, List.set_cons_succ]
    refine wpAnyH_take (i := 9) (v := ?_) rfl (by kernel_rfl) (by kernel_rfl) (by kernel_rfl) (fun _ _ _ h => h) (Or.inl ⟨by rfl, ?_⟩) hHeld ?_
    rotate_left
    · intro w' hSw
      clear hSw
      go_simp
      first | done | with_reducible rfl
    simp only [Act.put, List.getElem_toArray, List.getElem_cons_succ, List.getElem_cons_zero, List.setIfInBounds_toArray, List.set_cons_zero, List.set_cons_succ]
    refine wpAnyH_take (i := 10) (v := ?_) rfl (by kernel_rfl) (by kernel_rfl) (by kernel_rfl) (fun _ _ _ h => h) (Or.inl ⟨by rfl, ?_⟩) hHeld ?_
    rotate_left
    · intro w' hSw
      clear hSw
      go_simp
      first | done | with_reducible rfl
    simp only [Act.put, List.getElem_toArray, List.getElem_cons_succ, List.getElem_cons_zero, List.setIfInBounds_toArray, List.set_cons_zero, List.set_cons_succ]
    refine wpAnyH_take (i := 11) (v := ?_) rfl (by kernel_rfl) (by kernel_rfl) (by kernel_rfl) (fun _ _ _ h => h) (Or.inl ⟨by rfl, ?_⟩) hHeld ?_
    rotate_left
    · intro w' hSw
      have c3 := hSw.c3
      clear hSw
      go_simp
      first | done | with_reducible rfl
    simp only [Act.put, List.getElem_toArray, List.getElem_cons_succ, List.getElem_cons_zero, List.setIfInBounds_toArray, List.set_cons_zero, List.set_cons_succ]
    refine wpAnyH_ready (rs := [7]) (by kernel_rfl) (by simp) ?_
    refine AllReadyH.cons rfl (fun K hK => ?_) AllReadyH.nil
    refine stepFnW 79 (.func 79) [.tmp 18] _ [pv g] rfl rfl rfl rfl (fun _ => rfl) _ (HSz.out w1 HB1.out) ?_
    rintro e w5 ⟨rfl, hw5⟩
    refine Or.inl ⟨_, rfl, ?_⟩
    rw [hw5]
    refine hK.out _ _ hHeld (fun hHeld => ?_)
    clear hK K
    simp only [Act.put, List.getElem_toArray, List.getElem_cons_succ, List.getElem_cons_zero, List.setIfInBounds_toArray, List.set_cons_zero, List.set_cons_succ]
    clear hw5
    by_cases hfull : room ≤ es.length
    · have hd : decide (room ≤ (es.length : Int)) = true := decide_eq_true hfull
      refine wpAnyH_take (i := 12) (v := ?_) rfl (by kernel_rfl) (by kernel_rfl) (by kernel_rfl) (fun _ _ _ h => h) (Or.inl ⟨by rfl, ?_⟩) hHeld ?_
      rotate_left
      · intro w' hSw
        clear hSw
        go_simp
        first | done | with_reducible rfl
      simp only [Act.put, List.getElem_toArray, List.getElem_cons_succ, List.getElem_cons_zero, List.setIfInBounds_toArray, List.set_cons_zero, List.set_cons_succ]
      refine wpAnyH_take (i := 13) (v := ?_) rfl (by kernel_rfl) (by kernel_rfl) (by kernel_rfl) (fun _ _ _ h => h) (Or.inl ⟨by rfl, ?_⟩) hHeld ?_
      rotate_left
      · intro w' hSw
        clear hSw
        go_simp
        first | done | with_reducible rfl
      simp only [Act.put, List.getElem_toArray, List.getElem_cons_succ, List.getElem_cons_zero, List.setIfInBounds_toArray, List.set_cons_zero, List.set_cons_succ]
      refine wpAnyH_done (by kernel_rfl) ?_ _
      have HE := hid (HFull.out rfl hfull w1 HB1.out)
      clear HFull HRm hfull HSz HQ3 HLL HRw
      go_wp2
      refine bodyPost_ret (results_tmp2 rfl _ _ _) rfl ?_
      exact HE.out
    · have hd : decide (room ≤ (es.length : Int)) = false := decide_eq_false hfull
      have hnf : ¬ (([] : List Fe) = [] ∧ room ≤ es.length) := fun h => hfull h.2
      refine wpAnyH_take (i := 12) (v := ?_) rfl (by kernel_rfl) (by kernel_rfl) (by kernel_rfl) (fun _ _ _ h => h) (Or.inl ⟨by rfl, ?_⟩) hHeld ?_
      rotate_left
      · intro w' hSw
        clear hSw
        go_simp
        first | done | with_reducible rfl
      simp only [Act.put, List.getElem_toArray, List.getElem_cons_succ, List.getElem_cons_zero, List.setIfInBounds_toArray, List.set_cons_zero, List.set_cons_succ]
      refine wpAnyH_take (i := 13) (v := ?_) rfl (by kernel_rfl) (by kernel_rfl) (by kernel_rfl) (fun _ _ _ h => h) (Or.inl ⟨by rfl, ?_⟩) hHeld ?_
      rotate_left
      · intro w' hSw
        clear hSw
        go_simp
        first | done | with_reducible rfl
      simp only [Act.put, List.getElem_toArray, List.getElem_cons_succ, List.getElem_cons_zero, List.setIfInBounds_toArray, List.set_cons_zero, List.set_cons_succ]
      refine wpAnyH_done (by kernel_rfl) ?_ _
      clear HFull hfull HSz HQ3 HLL
      go_upto_region 5 with (go_at_call 44; refine (HRm.out hnf w1 _ HB1.out HRw.out).mono ?_; rintro e w2 ⟨⟨n2, rfl⟩, y1, y2⟩; have HY1 := hid y1; have HY2 := hid y2; clear y1 y2 HRm)
      refine wp_region_held_drew (S := Hra w.heap.size r u) (by kernel_rfl) HY1.out (fun hHeld => ?_)
      refine wpAnyH_take (i := 0) (v := ?_) rfl (by kernel_rfl) (by kernel_rfl) (by kernel_rfl) (fun _ _ _ h => h) (Or.inl ⟨by rfl, ?_⟩) hHeld ?_
      rotate_left
      · intro w' hSw
        clear hSw
        go_simp
        first | done | with_reducible rfl
      simp only [Act.put, List.getElem_toArray, List.getElem_cons_zero, List.setIfInBounds_toArray, List.set_cons_zero, List.set_cons_succ]
      refine wpAnyH_take (i := 1) (v := ?_) rfl (by kernel_rfl) (by kernel_rfl) (by kernel_rfl) (fun _ _ _ h => h) (Or.inl ⟨by rfl, ?_⟩) hHeld ?_
      rotate_left
      · intro w' hSw
        clear hSw
        go_simp
        first | done | with_reducible rfl
      simp only [Act.put, List.getElem_toArray, List.getElem_cons_succ, List.getElem_cons_zero, List.setIfInBounds_toArray, List.set_cons_zero, List.set_cons_succ]
      refine wpAnyH_take (i := 2) (v := ?_) rfl (by kernel_rfl) (by kernel_rfl) (by kernel_rfl) (fun _ _ _ h => h) (Or.inl ⟨by rfl, ?_⟩) hHeld ?_
      rotate_left
      · intro w' hSw
        clear hSw
        go_simp
        first | done | with_reducible rfl
      simp only [Act.put, List.getElem_toArray, List.getElem_cons_succ, List.getElem_cons_zero, List.setIfInBounds_toArray, List.set_cons_zero, List.set_cons_succ]
      refine wpAnyH_take (i := 3) (v := .agg (rlc r u)) rfl (by kernel_rfl) (by kernel_rfl) (by kernel_rfl) (fun _ _ _ h => h) (Or.inl ⟨by rfl, ?_⟩) hHeld ?_
      · intro w' hSw
        exact runLd 35 (.tmp 3) rfl w.heap.size 0 rfl (rlc r u) _ hSw.rr Tryz.underlying35 rfl (size_rl r u)
      simp only [Act.put, List.getElem_toArray, List.getElem_cons_succ, List.getElem_cons_zero, List.setIfInBounds_toArray, List.set_cons_zero, List.set_cons_succ]
      refine wpAnyH_ready (rs := [4]) (by kernel_rfl) (by simp) ?_
      refine AllReadyH.cons rfl (fun K hK => ?_) AllReadyH.nil
      refine stepFnW 80 (.func 80) [.tmp 31, .tmp 32] _ [pv g, .agg (rlc r u)] rfl rfl rfl rfl (fun _ => rfl) _ HY2.out ?_
      rintro e w3 ⟨rfl, v1, v2⟩
      refine Or.inl ⟨_, rfl, ?_⟩
      refine hK.out _ _ v1 (fun hHeld => ?_)
      clear hK K
      simp only [Act.put, List.getElem_toArray, List.getElem_cons_succ, List.getElem_cons_zero, List.setIfInBounds_toArray, List.set_cons_zero, List.set_cons_succ]
      refine wpAnyH_done (by kernel_rfl) ?_ _
      have HV := hid v2
      clear v1 v2 HY1 HY2
      go_wp2
      refine bodyPost_ret (results_tmp2 rfl _ _ _) rfl ?_
      exact HV.out
  · obtain ⟨x, hx⟩ : ∃ x, l = [x] := by
      cases l with
      | nil => exact absurd rfl hl0
      | cons x l => cases l with
        | nil => exact ⟨x, rfl⟩
        | cons y l => simp at hlen; omega
    have hnf : ¬ (l = [] ∧ room ≤ es.length) := fun h => hl0 h.1
    subst hx
    simp only [List.length_cons, List.length_nil]
    refine wpAnyH_take (i := 0) (v := ?_) rfl (by kernel_rfl) (by kernel_rfl) (by kernel_rfl) (fun _ _ _ h => h) (Or.inl ⟨by rfl, ?_⟩) hHeld ?_
    rotate_left
    · intro w' hSw
      clear hSw
      go_simp
      first | done | with_reducible rfl
    simp only [Act.put, List.getElem_toArray, List.getElem_cons_zero, List.setIfInBounds_toArray, List.set_cons_zero, List.set_cons_succ]
    refine wpAnyH_take (i := 1) (v := ?_) rfl (by kernel_rfl) (by kernel_rfl) (by kernel_rfl) (fun _ _ _ h => h) (Or.inl ⟨by rfl, ?_⟩) hHeld ?_
    rotate_left
    · intro w' hSw
      clear hSw
      go_simp
      first | done | with_reducible rfl
    simp only [Act.put, List.getElem_toArray, List.getElem_cons_succ, List.getElem_cons_zero, List.setIfInBounds_toArray, List.set_cons_zero, List.set_cons_succ]
    refine wpAnyH_take (i := 2) (v := ?_) rfl (by kernel_rfl) (by kernel_rfl) (by kernel_rfl) (fun _ _ _ h => h) (Or.inl ⟨by rfl, ?_⟩) hHeld ?_
    rotate_left
    · intro w' hSw
      clear hSw
      go_simp
      first | done | with_reducible rfl
    simp only [Act.put, List.getElem_toArray, List.getElem_cons_succ, List.getElem_cons_zero, List.setIfInBounds_toArray, List.set_cons_zero, List.set_cons_succ]
    refine wpAnyH_take (i := 3) (v := ?_) rfl (by kernel_rfl) (by kernel_rfl) (by kernel_rfl) (fun _ _ _ h => h) (Or.inl ⟨by rfl, ?_⟩) hHeld ?_
    rotate_left
    · intro w' hSw
      clear hSw
      go_simp
      first | done | with_reducible rfl
    simp only [Act.put, List.getElem_toArray, List.getElem_cons_succ, List.getElem_cons_zero, List.setIfInBounds_toArray, List.set_cons_zero, List.set_cons_succ]
    refine wpAnyH_take (i := 4) (v := undef) rfl (by kernel_rfl) (by kernel_rfl) (by kernel_rfl) (fun _ _ _ h => h) (Or.inr ⟨by rfl, rfl⟩) hHeld ?_
    simp only [Act.put, List.getElem_toArray, List.getElem_cons_succ, List.getElem_cons_zero, List.setIfInBounds_toArray, List.set_cons_zero, List.set_cons_succ]
    refine wpAnyH_take (i := 5) (v := undef) rfl (by kernel_rfl) (by kernel_rfl) (by kernel_rfl) (fun _ _ _ h => h) (Or.inr ⟨by rfl, rfl⟩) hHeld ?_
    simp only [Act.put, List.getElem_toArray, List.getElem_cons_succ, List.getElem_cons_zero, List.setIfInBounds_toArray, List.set_cons_zero, List.set_cons_succ]
    refine wpAnyH_take (i := 6) (v := undef) rfl (by kernel_rfl) (by kernel_rfl) (by kernel_rfl) (fun _ _ _ h => h) (Or.inr ⟨by rfl, rfl⟩) hHeld ?_
    simp only [Act.put, List.getElem_toArray, List.getElem_cons_succ, List.getElem_cons_zero, List.setIfInBounds_toArray, List.set_cons_zero, List.set_cons_succ]
    refine wpAnyH_take (i := 7) (v := undef) rfl (by kernel_rfl) (by kernel_rfl) (by kernel_rfl) (fun _ _ _ h => h) (Or.inr ⟨by rfl, rfl⟩) hHeld ?_
    simp only [Act.put, List.getElem_toArray, List.getElem_cons_succ, List.getElem_cons_zero, List.setIfInBounds_toArray, List.set_cons_zero, List.set_cons_succ]
    refine wpAnyH_take (i := 8) (v := undef) rfl (by kernel_rfl) (by kernel_rfl) (by kernel_rfl) (fun _ _ _ h => h) (Or.inr ⟨by rfl, rfl⟩) hHeld ?_
    simp only [Act.put, List.getElem_toArray, List.getElem_cons_succ, List.getElem_cons_zero, List.setIfInBounds_toArray, List.set_cons_zero, List.set_cons_succ]
    refine wpAnyH_take (i := 9) (v := undef) rfl (by kernel_rfl) (by kernel_rfl) (by kernel_rfl) (fun _ _ _ h => h) (Or.inr ⟨by rfl, rfl⟩) hHeld ?_
    simp only [Act.put, List.getElem_toArray, List.getElem_cons_succ, List.getElem_cons_zero, List.setIfInBounds_toArray, List.set_cons_zero, List.set_cons_succ]
    refine wpAnyH_take (i := 10) (v := undef) rfl (by kernel_rfl) (by kernel_rfl) (by kernel_rfl) (fun _ _ _ h => h) (Or.inr ⟨by rfl, rfl⟩) hHeld ?_
    simp only [Act.put, List.getElem_toArray, List.getElem_cons_succ, List.getElem_cons_zero, List.setIfInBounds_toArray, List.set_cons_zero, List.set_cons_succ]
    refine wpAnyH_take (i := 11) (v := undef) rfl (by kernel_rfl) (by kernel_rfl) (by kernel_rfl) (fun _ _ _ h => h) (Or.inr ⟨by rfl, rfl⟩) hHeld ?_
    simp only [Act.put, List.getElem_toArray, List.getElem_cons_succ, List.getElem_cons_zero, List.setIfInBounds_toArray, List.set_cons_zero, List.set_cons_succ]
    refine wpAnyH_take (i := 12) (v := undef) rfl (by kernel_rfl) (by kernel_rfl) (by kernel_rfl) (fun _ _ _ h => h) (Or.inr ⟨by rfl, rfl⟩) hHeld ?_
    simp only [Act.put, List.getElem_toArray, List.getElem_cons_succ, List.getElem_cons_zero, List.setIfInBounds_toArray, List.set_cons_zero, List.set_cons_succ]
    refine wpAnyH_take (i := 13) (v := ?_) rfl (by kernel_rfl) (by kernel_rfl) (by kernel_rfl) (fun _ _ _ h => h) (Or.inl ⟨by rfl, ?_⟩) hHeld ?_
    rotate_left
    · intro w' hSw
      clear hSw
      go_simp
      first | done | with_reducible rfl
    simp only [Act.put, List.getElem_toArray, List.getElem_cons_succ, List.getElem_cons_zero, List.setIfInBounds_toArray, List.set_cons_zero, List.set_cons_succ]
    refine wpAnyH_done (by kernel_rfl) ?_ _
    clear HFull HSz HQ3 HLL
    go_upto_region 5 with (go_at_call 44; refine (HRm.out hnf w1 _ HB1.out HRw.out).mono ?_; rintro e w2 ⟨⟨n2, rfl⟩, y1, y2⟩; have HY1 := hid y1; have HY2 := hid y2; clear y1 y2 HRm)
    refine wp_region_held_drew (S := Hra w.heap.size r u) (by kernel_rfl) HY1.out (fun hHeld => ?_)
    refine wpAnyH_take (i := 0) (v := ?_) rfl (by kernel_rfl) (by kernel_rfl) (by kernel_rfl) (fun _ _ _ h => h) (Or.inl ⟨by rfl, ?_⟩) hHeld ?_
    rotate_left
    · intro w' hSw
      clear hSw
      go_simp
      first | done | with_reducible rfl
    simp only [Act.put, List.getElem_toArray, List.getElem_cons_zero, List.setIfInBounds_toArray, List.set_cons_zero, List.set_cons_succ]
    refine wpAnyH_take (i := 1) (v := ?_) rfl (by kernel_rfl) (by kernel_rfl) (by kernel_rfl) (fun _ _ _ h => h) (Or.inl ⟨by rfl, ?_⟩) hHeld ?_
    rotate_left
    · intro w' hSw
      clear hSw
      go_simp
      first | done | with_reducible rfl
    simp only [Act.put, List.getElem_toArray, List.getElem_cons_succ, List.getElem_cons_zero, List.setIfInBounds_toArray, List.set_cons_zero, List.set_cons_succ]
    refine wpAnyH_take (i := 2) (v := ?_) rfl (by kernel_rfl) (by kernel_rfl) (by kernel_rfl) (fun _ _ _ h => h) (Or.inl ⟨by rfl, ?_⟩) hHeld ?_
    rotate_left
    · intro w' hSw
      clear hSw
      go_simp
      first | done | with_reducible rfl
    simp only [Act.put, List.getElem_toArray, List.getElem_cons_succ, List.getElem_cons_zero, List.setIfInBounds_toArray, List.set_cons_zero, List.set_cons_succ]
    refine wpAnyH_take (i := 3) (v := .agg (rlc r u)) rfl (by kernel_rfl) (by kernel_rfl) (by kernel_rfl) (fun _ _ _ h => h) (Or.inl ⟨by rfl, ?_⟩) hHeld ?_
    · intro w' hSw
      exact runLd 35 (.tmp 3) rfl w.heap.size 0 rfl (rlc r u) _ hSw.rr Tryz.underlying35 rfl (size_rl r u)
    simp only [Act.put, List.getElem_toArray, List.getElem_cons_succ, List.getElem_cons_zero, List.setIfInBounds_toArray, List.set_cons_zero, List.set_cons_succ]
    refine wpAnyH_ready (rs := [4]) (by kernel_rfl) (by simp) ?_
    refine AllReadyH.cons rfl (fun K hK => ?_) AllReadyH.nil
    refine stepFnW 80 (.func 80) [.tmp 31, .tmp 32] _ [pv g, .agg (rlc r u)] rfl rfl rfl rfl (fun _ => rfl) _ HY2.out ?_
    rintro e w3 ⟨rfl, v1, v2⟩
    refine Or.inl ⟨_, rfl, ?_⟩
    refine hK.out _ _ v1 (fun hHeld => ?_)
    clear hK K
    simp only [Act.put, List.getElem_toArray, List.getElem_cons_succ, List.getElem_cons_zero, List.setIfInBounds_toArray, List.set_cons_zero, List.set_cons_succ]
    refine wpAnyH_done (by kernel_rfl) ?_ _
    have HV := hid v2
    clear v1 v2 HY1 HY2
    go_wp2
    refine bodyPost_ret (results_tmp2 rfl _ _ _) rfl ?_
    exact HV.out
end Go.Proofs.YtdehlnaoehjehaaGreatDoor
