/-
  Proved here: room and Get of package cache. Conditions: fewer than 2 to 31 places; the hand is at one of them, if there are some.
-/
import Derived.Test.YtpmdgockiblkaaaCR
namespace Go.Proofs.Ytpmdgockiblkaaa
open Go.RowKit Go.Maps

theorem Ca.on {S : Nat → Prop} {w w' : World} {v : Value} {c : Cs} (h : Ca S w v c) (hb : Below w.heap.size w w') : Ca S w' v c := h.carry fun b hb' hS => ⟨hS, hb.block b hb'⟩
theorem rn_len (now : Int) : ∀ (n : Nat) (es : List (Option Et)) (k : Nat), marks es = n → (rn now es k).1.length = es.length ∧ ((k < es.length → (rn now es k).2 < es.length) ∧ ((∀ i, i < es.length → ∃ e, es[i]? = some (some e)) → ∀ i, i < es.length → ∃ e, (rn now es k).1[i]? = some (some e)))
  | n, es, k, hn => by
    cases hf : fr now es k with
    | false =>
      rw [rn_stop hf]
      exact ⟨rfl, id, id⟩
    | true =>
      have hm := marks_unm hf
      match n, hn with
      | 0, hn => omega
      | n + 1, hn =>
        rw [rn_go hf]
        obtain ⟨e, he, -, -⟩ := fr_some hf
        have := rn_len now n (unm es k) ((k + 1) % es.length) (by omega)
        rw [unm_len] at this
        have hk : k < es.length := (List.getElem?_eq_some_iff.1 he).1
        refine ⟨this.1, fun _ => this.2.1 (Nat.mod_lt _ (by omega)), fun hall => this.2.2 fun i hi => ?_⟩
        rw [unm_at he, List.getElem?_set]
        split
        · first | exact ⟨_, rfl⟩ | (rw [if_pos hk]; exact ⟨_, rfl⟩)
        · exact hall i hi
/-- What room answers. -/
noncomputable def rmI (c : Cs) : Nat := match c.es.findIdx? Option.isNone with | some i => i | none => (rn c.now c.es c.hand).2
noncomputable def rmS (c : Cs) : Cs := match c.es.findIdx? Option.isNone with | some _ => c | none => { c with es := (rn c.now c.es c.hand).1.set (rn c.now c.es c.hand).2 none, hand := ((rn c.now c.es c.hand).2 + 1) % c.es.length }
def RmP (S : Nat → Prop) (w : World) (v : Value) (c : Cs) (r : Ending) (w' : World) : Prop := r = .returned (.int .i64 (rmI c : Nat)) ∧ Only S w w' ∧ Ca S w' v (rmS c)
set_option maxHeartbeats 1600000 in
set_option maxRecDepth 100000 in
theorem room_any {S : Nat → Prop} (w : World) (v : Value) (c : Cs) (h : Ca S w v c) (hf : Fresh S w) (hn : c.es.length < 2147483640) (hh : c.hand < c.es.length) : Calls Try.prog 23 #[v] w (RmP S w v c) := by
  have HCa := hid h
  obtain ⟨g, bm, n, G, bp, cur, q, rfl, hM⟩ := h
  obtain ⟨-, -, c2, c3⟩ := hM.cells
  have hl1 : ∀ ty, (Builtin.len_ #[44] ty #[.map (some bm)]).run Try.prog w = .ok (.int .i64 (n : Nat)) w := fun ty => hM.mp.len Try.underlying44 ty
  have hl2 : ∀ ty, (Builtin.len_ #[44] ty #[.map (some bm)]).run Try.prog w.drew = .ok (.int .i64 (n : Nat)) w.drew := fun ty => (hM.mp.carry (w' := w.drew) rfl).len Try.underlying44 ty
  have hfi := free_iff c.es
  rw [← hM.cn] at hfi
  obtain ⟨L, hL⟩ : ∃ z, z = c.es.length := ⟨_, rfl⟩
  have HF := hid hf
  have hgl := cell_lt c3
  cases hi : c.es.findIdx? Option.isNone with
  | some i =>
    have hlt : n < L := by rw [hL]; exact hfi.2 (by rw [hi]; rfl)
    have hd : decide ((n : Int) < (L : Int)) = true := decide_eq_true (by omega)
    have HC : Hid (Calls Try.prog 24 #[.slice (some ⟨bp, 0, none⟩) L L, .pointer none] w.drew fun r w' => r = .returned (.int .i64 (i : Nat)) ∧ Below w.heap.size w w') := by
      show Calls _ _ _ _ _
      rw [hL]
      exact (index_any w.drew g c bm n G bp cur q (hM.carry fun b _ hS => ⟨hS, rfl⟩) hn i hi).mono fun r w' ⟨h1, h2⟩ => ⟨h1, by rw [h2]; exact (Below.refl _ _).drew⟩
    have HP : Hid (∀ w', Below w.heap.size w w' → RmP S w (pv g) c (.returned (.int .i64 (i : Nat))) w') := fun w' hb => by
      unfold RmP rmI rmS
      rw [hi]
      exact ⟨rfl, Only.of hb HF.out, HCa.out.on hb⟩
    rw [← hL] at c3
    clear hM hfi hi hL hn hh
    go_enter Try.func23, Try.ntmps23
    go_wp2
    go_region
    go_wp2_with (go_at_call 24; refine (HC.out).mono ?_; rintro r w5 ⟨rfl, hb5⟩; have HB5 := hid hb5; clear hb5 HC)
    go_ret
    exact HP.out w5 HB5.out
  | none =>
    have hlt : ¬ n < L := by rw [hL]; intro h1; have := hfi.1 h1; rw [hi] at this; cases this
    have hd : decide ((n : Int) < (L : Int)) = false := decide_eq_false (by omega)
    have hfu := full_at hi
    obtain ⟨k, hk⟩ : ∃ z, z = (rn c.now c.es c.hand).2 := ⟨_, rfl⟩
    have hrl := rn_len c.now _ c.es c.hand rfl
    have HC : Hid (Calls Try.prog 25 #[pv g] w.drew fun r w' => r = .returned (.int .i64 (k : Nat)) ∧ Only S w w' ∧ Ca S w' (pv g) (rdC c)) := by
      show Calls _ _ _ _ _
      exact (goRound_any w.drew g c (HCa.out.carry fun b _ hS => ⟨hS, rfl⟩) (fun b hb => HF.out b hb) hn hh hfu).mono fun r w' ⟨h1, h2, h3⟩ => ⟨by rw [hk]; exact h1, ⟨h2.os, h2.tape, h2.output, h2.size, h2.block⟩, h3⟩
    have HE : Hid (∀ w5, Only S w w5 → Ca S w5 (pv g) (rdC c) → Calls Try.prog 21 #[pv g, .int .i64 (k : Nat)] w5 fun r w' => r = .returned (.tuple #[]) ∧ RmP S w (pv g) c (.returned (.int .i64 (k : Nat))) w') := fun w5 hO5 hC5 => by
      obtain ⟨e, he⟩ := hrl.2.2 hfu k (by rw [hk]; exact hrl.2.1 hh)
      refine (empty_any w5 (pv g) (rdC c) hC5 k e he).mono ?_
      rintro r w' ⟨rfl, hO, hC⟩
      unfold RmP rmI rmS
      rw [hi]
      refine ⟨rfl, by rw [hk], hO5.trans hO, ?_⟩
      rw [hk] at hC
      exact hC
    rw [← hL] at c3
    clear hM hfi hi hL hn hh hk hrl
    go_enter Try.func23, Try.ntmps23
    go_wp2
    go_region
    go_wp2_with (first
      | (go_at_call 25; refine (HC.out).mono ?_; rintro r w5 ⟨rfl, hO5, hC5⟩; have HE5 := hid (HE.out w5 hO5 hC5); clear hO5 hC5 HC HE)
      | (go_at_call 21; refine (HE5.out).mono ?_; rintro r w6 ⟨rfl, hP6⟩; have HP6 := hid hP6; clear hP6 HE5))
    go_ret
    exact HP6.out
/-- What Get and Put read first. -/
structure Hg (g bm n : Nat) (G : Lit → Option Value) (bx : Nat) (x : Nat → Int) (w : World) : Prop where
  c2 : w.cell? ⟨g, 2, none⟩ = some (.map (some bm))
  mp : Mp w 30 bm n G
  rx : w.rangeAt bx 0 (row 11 x).toList
theorem zeroI (w : World) : (zeroValue 3).run Try.prog w = .ok (.int .i64 0) w := by simp [go_sem]
theorem runLook {o : Oper} {a : Act} {w : World} (m x : Operand) (hop : o.op = .lookup 44 m x true) {bm n : Nat} {G : Lit → Option Value} {h : Nat → Int} (hm : a.eval m = .map (some bm)) (hx : a.eval x = hv h) (hM : Mp w 30 bm n G) (hw : Wf h) :
    (execOp a.eval o).run Try.prog w = .ok (.value (.tuple #[(G (kl h)).getD (.int .i64 0), .bool (G (kl h)).isSome])) w := by
  unfold execOp
  simp only [hop, hm, hx, Sem.run_bind, Sem.run_pure, Result.andThen_ok, hM.look_ok lawH Try.underlying44 (zeroI w) (key_h hw)]
theorem runLookN {o : Oper} {a : Act} {w : World} (m x : Operand) (hop : o.op = .lookup 44 m x true) {bm n : Nat} {G : Lit → Option Value} {h : Nat → Int} (hm : a.eval m = .map (some bm)) (hx : a.eval x = hv h) (hM : Mp w 30 bm n G) (hw : Wf h) (hG : G (kl h) = none) :
    (execOp a.eval o).run Try.prog w = .ok (.value (.tuple #[.int .i64 0, .bool false])) w := by
  have := runLook m x hop hm hx hM hw
  rw [hG] at this; exact this
theorem runLookS {o : Oper} {a : Act} {w : World} (m x : Operand) (hop : o.op = .lookup 44 m x true) {bm n : Nat} {G : Lit → Option Value} {h : Nat → Int} (hm : a.eval m = .map (some bm)) (hx : a.eval x = hv h) (hM : Mp w 30 bm n G) (hw : Wf h) {u : Value} (hG : G (kl h) = some u) :
    (execOp a.eval o).run Try.prog w = .ok (.value (.tuple #[u, .bool true])) w := by
  have := runLook m x hop hm hx hM hw
  rw [hG] at this; exact this
def GeP (S : Nat → Prop) (w : World) (v : Value) (c : Cs) (h : Hdr) (r : Ending) (w' : World) : Prop := r = .returned (.tuple #[.int .i64 (getI c h), .bool (getB c h)]) ∧ Only S w w' ∧ Ca S w' v (getS c h)
set_option maxHeartbeats 1600000 in
set_option maxRecDepth 100000 in
theorem get_any {S : Nat → Prop} (w : World) (v : Value) (c : Cs) (h : Hdr) (hC : Ca S w v c) (hf : Fresh S w) : Calls Try.prog 11 #[v, hv h.f] w (GeP S w v c h) := by
  have HCa := hid hC
  obtain ⟨g, bm, n, G, bp, cur, q, rfl, hM⟩ := hC
  obtain ⟨x, hx⟩ : ∃ z, z = h.f := ⟨_, rfl⟩
  have hwx : Wf x := by rw [hx]; exact h.wf
  obtain ⟨W0, hW0⟩ : ∃ W0, W0 = w.alloc (.cells (row 11 h.f) 30) := ⟨_, rfl⟩
  have hB0 : Below w.heap.size w W0 := by rw [hW0]; exact (Below.refl _ _).alloc (Nat.le_refl _) _
  have hG0 : W0.heap[w.heap.size]? = some (.cells (row 11 h.f) 30 (0, 0)) := by rw [hW0]; exact heap_alloc_new _ _
  have hM0 : CaM S W0 g c bm n G bp cur q := hM.carry fun b hb hS => ⟨hS, hB0.block b hb⟩
  obtain ⟨c0, -, c2, c3⟩ := hM0.cells
  have HH : Hid (Hg g bm n G w.heap.size x W0.drew) := ⟨c2, hM0.mp.carry rfl, range_of fun i hi => by
    rw [row_size] at hi
    rw [Nat.zero_add]
    refine (cell_of_row W0 _ _ _ _ _ hG0).trans ?_
    rw [hx]⟩
  have hO0 : Only S w W0 := Only.of hB0 hf
  have HF := hid hf
  have HO0 := hid hO0
  rw [← hx]
  cases hfd : fnd c.es h with
  | none =>
    have hGn : G (kl x) = none := by rw [hx]; exact hM.m2 h (fnd_none hfd)
    obtain ⟨g1, g2, g3⟩ := get_none hfd
    have HP : Hid (GeP S w (pv g) c h (.returned (.tuple #[.int .i64 0, .bool false])) W0.drew) := by
      unfold GeP
      rw [g1, g2, g3]
      exact ⟨rfl, hO0.drew, (HCa.out.on hB0).carry fun b _ hS => ⟨hS, rfl⟩⟩
    have HW0 := hid hW0
    rw [← hx] at HW0
    clear hM hM0 hfd g1 g2 g3 hG0 hW0 hB0 hO0 hx
    go_enter Try.func11, Try.ntmps11
    go_upto_region 1 with fail
    rw [← HW0.out]
    clear HW0
    go_upto_region 3 with fail
    refine wp_region_held_drew (S := Hg g bm n G w.heap.size x) (by kernel_rfl) HH.out (fun hHeld => ?_)
    refine wpAnyH_take (i := 0) (v := ?_) rfl (by kernel_rfl) (by kernel_rfl) (by kernel_rfl) (fun _ _ _ h => h) (Or.inl ⟨by rfl, ?_⟩) hHeld ?_
    rotate_left
    · intro w' hSw
      clear hSw
      go_simp
      first | done | with_reducible rfl
    simp only [Act.put, List.getElem_toArray, List.getElem_cons_zero, List.setIfInBounds_toArray, List.set_cons_zero, List.set_cons_succ]
    refine wpAnyH_take (i := 1) (v := ?_) rfl (by kernel_rfl) (by kernel_rfl) (by kernel_rfl) (fun _ _ _ h => h) (Or.inl ⟨by rfl, ?_⟩) hHeld ?_
    rotate_left
    · intro w' hSw
      clear hSw
      go_simp
      first | done | with_reducible rfl
    simp only [Act.put, List.getElem_toArray, List.getElem_cons_succ, List.getElem_cons_zero, List.setIfInBounds_toArray, List.set_cons_zero, List.set_cons_succ]
    refine wpAnyH_take (i := 2) (v := ?_) rfl (by kernel_rfl) (by kernel_rfl) (by kernel_rfl) (fun _ _ _ h => h) (Or.inl ⟨by rfl, ?_⟩) hHeld ?_
    rotate_left
    · intro w' hSw
      clear hSw
      go_simp
      first | done | with_reducible rfl
    simp only [Act.put, List.getElem_toArray, List.getElem_cons_succ, List.getElem_cons_zero, List.setIfInBounds_toArray, List.set_cons_zero, List.set_cons_succ]
    refine wpAnyH_take (i := 3) (v := ?_) rfl (by kernel_rfl) (by kernel_rfl) (by kernel_rfl) (fun _ _ _ h => h) (Or.inl ⟨by rfl, ?_⟩) hHeld ?_
    rotate_left
    · intro w' hSw
      have c2 := hSw.c2
      clear hSw
      go_simp
      first | done | with_reducible rfl
    simp only [Act.put, List.getElem_toArray, List.getElem_cons_succ, List.getElem_cons_zero, List.setIfInBounds_toArray, List.set_cons_zero, List.set_cons_succ]
    refine wpAnyH_take (i := 4) (v := (hv x)) rfl (by kernel_rfl) (by kernel_rfl) (by kernel_rfl) (fun _ _ _ h => h) (Or.inl ⟨by rfl, ?_⟩) hHeld ?_
    · intro w' hSw
      exact runLd 30 (.tmp 3) rfl w.heap.size 0 rfl (row 11 x) _ hSw.rx Try.underlying30 rfl (sizeH x)
    simp only [Act.put, List.getElem_toArray, List.getElem_cons_succ, List.getElem_cons_zero, List.setIfInBounds_toArray, List.set_cons_zero, List.set_cons_succ]
    refine wpAnyH_take (i := 5) (v := (.tuple #[.int .i64 0, .bool false])) rfl (by kernel_rfl) (by kernel_rfl) (by kernel_rfl) (fun _ _ _ h => h) (Or.inl ⟨by rfl, ?_⟩) hHeld ?_
    · intro w' hSw
      exact runLookN (.tmp 15) (.tmp 16) rfl rfl rfl hSw.mp hwx hGn
    simp only [Act.put, List.getElem_toArray, List.getElem_cons_succ, List.getElem_cons_zero, List.setIfInBounds_toArray, List.set_cons_zero, List.set_cons_succ]
    refine wpAnyH_take (i := 6) (v := ?_) rfl (by kernel_rfl) (by kernel_rfl) (by kernel_rfl) (fun _ _ _ h => h) (Or.inl ⟨by rfl, ?_⟩) hHeld ?_
    rotate_left
    · intro w' hSw
      clear hSw
      go_simp
      first | done | with_reducible rfl
    simp only [Act.put, List.getElem_toArray, List.getElem_cons_succ, List.getElem_cons_zero, List.setIfInBounds_toArray, List.set_cons_zero, List.set_cons_succ]
    refine wpAnyH_take (i := 7) (v := ?_) rfl (by kernel_rfl) (by kernel_rfl) (by kernel_rfl) (fun _ _ _ h => h) (Or.inl ⟨by rfl, ?_⟩) hHeld ?_
    rotate_left
    · intro w' hSw
      clear hSw
      go_simp
      first | done | with_reducible rfl
    simp only [Act.put, List.getElem_toArray, List.getElem_cons_succ, List.getElem_cons_zero, List.setIfInBounds_toArray, List.set_cons_zero, List.set_cons_succ]
    refine wpAnyH_take (i := 8) (v := ?_) rfl (by kernel_rfl) (by kernel_rfl) (by kernel_rfl) (fun _ _ _ h => h) (Or.inl ⟨by rfl, ?_⟩) hHeld ?_
    rotate_left
    · intro w' hSw
      clear hSw
      go_simp
      first | done | with_reducible rfl
    simp only [Act.put, List.getElem_toArray, List.getElem_cons_succ, List.getElem_cons_zero, List.setIfInBounds_toArray, List.set_cons_zero, List.set_cons_succ]
    refine wpAnyH_take (i := 9) (v := ?_) rfl (by kernel_rfl) (by kernel_rfl) (by kernel_rfl) (fun _ _ _ h => h) (Or.inl ⟨by rfl, ?_⟩) hHeld ?_
    rotate_left
    · intro w' hSw
      clear hSw
      go_simp
      first | done | with_reducible rfl
    simp only [Act.put, List.getElem_toArray, List.getElem_cons_succ, List.getElem_cons_zero, List.setIfInBounds_toArray, List.set_cons_zero, List.set_cons_succ]
    refine wpAnyH_take (i := 10) (v := ?_) rfl (by kernel_rfl) (by kernel_rfl) (by kernel_rfl) (fun _ _ _ h => h) (Or.inl ⟨by rfl, ?_⟩) hHeld ?_
    rotate_left
    · intro w' hSw
      clear hSw
      go_simp
      first | done | with_reducible rfl
    simp only [Act.put, List.getElem_toArray, List.getElem_cons_succ, List.getElem_cons_zero, List.setIfInBounds_toArray, List.set_cons_zero, List.set_cons_succ]
    refine wpAnyH_done (by kernel_rfl) ?_ _
    go_wp2
    refine bodyPost_ret (results_tmp2 rfl _ _ _) rfl ?_
    exact HP.out
  | some i =>
    obtain ⟨e, he, heh⟩ := fnd_some hfd
    have hGn : G (kl x) = some (.int .i64 (i : Nat)) := by rw [hx, ← heh]; exact hM.m1 i e he
    have hil : i < c.es.length := (List.getElem?_eq_some_iff.1 he).1
    obtain ⟨L, hL⟩ : ∃ z, z = c.es.length := ⟨_, rfl⟩
    obtain ⟨p, hp⟩ : ∃ z, z = q i := ⟨_, rfl⟩
    obtain ⟨eg, heg⟩ : ∃ z, z = e.gen := ⟨_, rfl⟩
    obtain ⟨ei, hei⟩ : ∃ z, z = e.id := ⟨_, rfl⟩
    obtain ⟨now, hnow⟩ : ∃ z, z = c.now := ⟨_, rfl⟩
    have hpl : W0.cell? ⟨bp, i, none⟩ = some (pv p) := by rw [hp]; exact hM0.place he
    obtain ⟨ei1, eg1, em1, -⟩ := hM0.ent he
    rw [← hp, ← heg] at eg1
    rw [← hp, ← hei] at ei1
    rw [← hp] at em1
    rw [← hnow] at c0
    rw [← hL] at c3 hil
    have hfz : W0.frozen? ⟨p, 13, none⟩ = false := by rw [hp]; exact (hM0.frz 13).2.2 i e he
    obtain ⟨b, hb⟩ : ∃ b, b = (eg != now) := ⟨_, rfl⟩
    have HC : Hid (Calls Try.prog 20 #[pv g, pv p] W0.drew fun r w' => r = .returned (.bool b) ∧ Below W0.heap.size W0 w') := (old_any W0.drew g p now eg c0 eg1).mono fun r w' ⟨h1, h2⟩ => ⟨by rw [hb]; exact h1, ⟨h2.os, h2.tape, h2.output, h2.size, h2.block⟩⟩
    have HW0 := hid hW0
    rw [← hx] at HW0
    cases b with
    | true =>
      have hne : e.gen ≠ c.now := by rw [← heg, ← hnow]; intro e'; rw [e'] at hb; simp [bne] at hb
      obtain ⟨g1, g2, g3⟩ := get_old hfd he hne
      have HE : Hid (∀ w5, Below W0.heap.size W0 w5 → Calls Try.prog 21 #[pv g, .int .i64 (i : Nat)] w5 fun r w' => r = .returned (.tuple #[]) ∧ GeP S w (pv g) c h (.returned (.tuple #[.int .i64 0, .bool false])) w') := fun w5 hb5 => by
        refine (empty_any w5 (pv g) c ((HCa.out.on hB0).on hb5) i e he).mono ?_
        rintro r w' ⟨rfl, hO, hC⟩
        unfold GeP
        rw [g1, g2, g3]
        exact ⟨rfl, rfl, (HO0.out.trans (Only.of hb5 (HF.out.on HO0.out.size))).trans hO, hC⟩
      clear hM hM0 hfd g1 g2 g3 hG0 hW0 hB0 hO0 hx he heh hL hp heg hei hnow hb hne ei1 eg1 em1 hfz c0
      go_enter Try.func11, Try.ntmps11
      go_upto_region 1 with fail
      rw [← HW0.out]
      clear HW0
      go_upto_region 3 with fail
      refine wp_region_held_drew (S := Hg g bm n G w.heap.size x) (by kernel_rfl) HH.out (fun hHeld => ?_)
      refine wpAnyH_take (i := 0) (v := ?_) rfl (by kernel_rfl) (by kernel_rfl) (by kernel_rfl) (fun _ _ _ h => h) (Or.inl ⟨by rfl, ?_⟩) hHeld ?_
      rotate_left
      · intro w' hSw
        clear hSw
        go_simp
        first | done | with_reducible rfl
      simp only [Act.put, List.getElem_toArray, List.getElem_cons_zero, List.setIfInBounds_toArray, List.set_cons_zero, List.set_cons_succ]
      refine wpAnyH_take (i := 1) (v := ?_) rfl (by kernel_rfl) (by kernel_rfl) (by kernel_rfl) (fun _ _ _ h => h) (Or.inl ⟨by rfl, ?_⟩) hHeld ?_
      rotate_left
      · intro w' hSw
        clear hSw
        go_simp
        first | done | with_reducible rfl
      simp only [Act.put, List.getElem_toArray, List.getElem_cons_succ, List.getElem_cons_zero, List.setIfInBounds_toArray, List.set_cons_zero, List.set_cons_succ]
      refine wpAnyH_take (i := 2) (v := ?_) rfl (by kernel_rfl) (by kernel_rfl) (by kernel_rfl) (fun _ _ _ h => h) (Or.inl ⟨by rfl, ?_⟩) hHeld ?_
      rotate_left
      · intro w' hSw
        clear hSw
        go_simp
        first | done | with_reducible rfl
      simp only [Act.put, List.getElem_toArray, List.getElem_cons_succ, List.getElem_cons_zero, List.setIfInBounds_toArray, List.set_cons_zero, List.set_cons_succ]
      refine wpAnyH_take (i := 3) (v := ?_) rfl (by kernel_rfl) (by kernel_rfl) (by kernel_rfl) (fun _ _ _ h => h) (Or.inl ⟨by rfl, ?_⟩) hHeld ?_
      rotate_left
      · intro w' hSw
        have c2 := hSw.c2
        clear hSw
        go_simp
        first | done | with_reducible rfl
      simp only [Act.put, List.getElem_toArray, List.getElem_cons_succ, List.getElem_cons_zero, List.setIfInBounds_toArray, List.set_cons_zero, List.set_cons_succ]
      refine wpAnyH_take (i := 4) (v := (hv x)) rfl (by kernel_rfl) (by kernel_rfl) (by kernel_rfl) (fun _ _ _ h => h) (Or.inl ⟨by rfl, ?_⟩) hHeld ?_
      · intro w' hSw
        exact runLd 30 (.tmp 3) rfl w.heap.size 0 rfl (row 11 x) _ hSw.rx Try.underlying30 rfl (sizeH x)
      simp only [Act.put, List.getElem_toArray, List.getElem_cons_succ, List.getElem_cons_zero, List.setIfInBounds_toArray, List.set_cons_zero, List.set_cons_succ]
      refine wpAnyH_take (i := 5) (v := (.tuple #[.int .i64 (i : Int), .bool true])) rfl (by kernel_rfl) (by kernel_rfl) (by kernel_rfl) (fun _ _ _ h => h) (Or.inl ⟨by rfl, ?_⟩) hHeld ?_
      · intro w' hSw
        exact runLookS (.tmp 15) (.tmp 16) rfl rfl rfl hSw.mp hwx hGn
      simp only [Act.put, List.getElem_toArray, List.getElem_cons_succ, List.getElem_cons_zero, List.setIfInBounds_toArray, List.set_cons_zero, List.set_cons_succ]
      refine wpAnyH_take (i := 6) (v := ?_) rfl (by kernel_rfl) (by kernel_rfl) (by kernel_rfl) (fun _ _ _ h => h) (Or.inl ⟨by rfl, ?_⟩) hHeld ?_
      rotate_left
      · intro w' hSw
        clear hSw
        go_simp
        first | done | with_reducible rfl
      simp only [Act.put, List.getElem_toArray, List.getElem_cons_succ, List.getElem_cons_zero, List.setIfInBounds_toArray, List.set_cons_zero, List.set_cons_succ]
      refine wpAnyH_take (i := 7) (v := ?_) rfl (by kernel_rfl) (by kernel_rfl) (by kernel_rfl) (fun _ _ _ h => h) (Or.inl ⟨by rfl, ?_⟩) hHeld ?_
      rotate_left
      · intro w' hSw
        clear hSw
        go_simp
        first | done | with_reducible rfl
      simp only [Act.put, List.getElem_toArray, List.getElem_cons_succ, List.getElem_cons_zero, List.setIfInBounds_toArray, List.set_cons_zero, List.set_cons_succ]
      refine wpAnyH_take (i := 8) (v := ?_) rfl (by kernel_rfl) (by kernel_rfl) (by kernel_rfl) (fun _ _ _ h => h) (Or.inl ⟨by rfl, ?_⟩) hHeld ?_
      rotate_left
      · intro w' hSw
        clear hSw
        go_simp
        first | done | with_reducible rfl
      simp only [Act.put, List.getElem_toArray, List.getElem_cons_succ, List.getElem_cons_zero, List.setIfInBounds_toArray, List.set_cons_zero, List.set_cons_succ]
      refine wpAnyH_take (i := 9) (v := ?_) rfl (by kernel_rfl) (by kernel_rfl) (by kernel_rfl) (fun _ _ _ h => h) (Or.inl ⟨by rfl, ?_⟩) hHeld ?_
      rotate_left
      · intro w' hSw
        clear hSw
        go_simp
        first | done | with_reducible rfl
      simp only [Act.put, List.getElem_toArray, List.getElem_cons_succ, List.getElem_cons_zero, List.setIfInBounds_toArray, List.set_cons_zero, List.set_cons_succ]
      refine wpAnyH_take (i := 10) (v := ?_) rfl (by kernel_rfl) (by kernel_rfl) (by kernel_rfl) (fun _ _ _ h => h) (Or.inl ⟨by rfl, ?_⟩) hHeld ?_
      rotate_left
      · intro w' hSw
        clear hSw
        go_simp
        first | done | with_reducible rfl
      simp only [Act.put, List.getElem_toArray, List.getElem_cons_succ, List.getElem_cons_zero, List.setIfInBounds_toArray, List.set_cons_zero, List.set_cons_succ]
      refine wpAnyH_done (by kernel_rfl) ?_ _
      go_wp2_with (first
        | (go_at_call 20; refine (HC.out).mono ?_; rintro r w5 ⟨rfl, hb5⟩; have HE5 := hid (HE.out w5 hb5); clear hb5 HC HE)
        | (go_at_call 21; refine (HE5.out).mono ?_; rintro r w6 ⟨rfl, hP6⟩; have HP6 := hid hP6; clear hP6 HE5))
      refine bodyPost_ret (results_tmp2 rfl _ _ _) rfl ?_
      exact HP6.out
    | false =>
      have heq : e.gen = c.now := by rw [← heg, ← hnow]; simpa [bne] using hb
      obtain ⟨g1, g2, g3⟩ := get_hit hfd he heq
      have HP : Hid (∀ w5, Below W0.heap.size W0 w5 → GeP S w (pv g) c h (.returned (.tuple #[.int .i64 ei, .bool true])) (w5.setCell ⟨p, 13, none⟩ (.bool true))) := fun w5 hb5 => by
        unfold GeP
        rw [g1, g2, g3, hei, hp]
        have hM5 : CaM S w5 g c bm n G bp cur q := hM0.carry fun b hb' hS => ⟨hS, hb5.block b hb'⟩
        exact ⟨rfl, (HO0.out.trans (Only.of hb5 (HF.out.on HO0.out.size))).setCell (hM5.en i e he).1 _, g, bm, n, G, bp, cur, q, rfl, hM5.setEnt he { e with mark := true } rfl 13 _ (set_mark e true)⟩
      obtain ⟨em, hem⟩ : ∃ z, z = e.mark := ⟨_, rfl⟩
      rw [← hem] at em1
      have hpl0 := cell_lt em1
      have HK : Hid (∀ w5, Below W0.heap.size W0 w5 → w5.cell? ⟨p, 13, none⟩ = some (.bool em) ∧ w5.frozen? ⟨p, 13, none⟩ = false ∧ w5.cell? ⟨p, 11, none⟩ = some (.int .i64 ei)) := fun w5 hb5 => ⟨(cell_same (hb5.block _ hpl0)).trans em1, (frz_same (hb5.block _ hpl0)).trans hfz, (cell_same (hb5.block _ hpl0)).trans ei1⟩
      clear hM hM0 hfd g1 g2 g3 hG0 hW0 hB0 hO0 hx he heh hL hp heg hei hnow hb heq ei1 eg1 em1 hfz c0 hpl0 hem
      go_enter Try.func11, Try.ntmps11
      go_upto_region 1 with fail
      rw [← HW0.out]
      clear HW0
      go_upto_region 3 with fail
      refine wp_region_held_drew (S := Hg g bm n G w.heap.size x) (by kernel_rfl) HH.out (fun hHeld => ?_)
      refine wpAnyH_take (i := 0) (v := ?_) rfl (by kernel_rfl) (by kernel_rfl) (by kernel_rfl) (fun _ _ _ h => h) (Or.inl ⟨by rfl, ?_⟩) hHeld ?_
      rotate_left
      · intro w' hSw
        clear hSw
        go_simp
        first | done | with_reducible rfl
      simp only [Act.put, List.getElem_toArray, List.getElem_cons_zero, List.setIfInBounds_toArray, List.set_cons_zero, List.set_cons_succ]
      refine wpAnyH_take (i := 1) (v := ?_) rfl (by kernel_rfl) (by kernel_rfl) (by kernel_rfl) (fun _ _ _ h => h) (Or.inl ⟨by rfl, ?_⟩) hHeld ?_
      rotate_left
      · intro w' hSw
        clear hSw
        go_simp
        first | done | with_reducible rfl
      simp only [Act.put, List.getElem_toArray, List.getElem_cons_succ, List.getElem_cons_zero, List.setIfInBounds_toArray, List.set_cons_zero, List.set_cons_succ]
      refine wpAnyH_take (i := 2) (v := ?_) rfl (by kernel_rfl) (by kernel_rfl) (by kernel_rfl) (fun _ _ _ h => h) (Or.inl ⟨by rfl, ?_⟩) hHeld ?_
      rotate_left
      · intro w' hSw
        clear hSw
        go_simp
        first | done | with_reducible rfl
      simp only [Act.put, List.getElem_toArray, List.getElem_cons_succ, List.getElem_cons_zero, List.setIfInBounds_toArray, List.set_cons_zero, List.set_cons_succ]
      refine wpAnyH_take (i := 3) (v := ?_) rfl (by kernel_rfl) (by kernel_rfl) (by kernel_rfl) (fun _ _ _ h => h) (Or.inl ⟨by rfl, ?_⟩) hHeld ?_
      rotate_left
      · intro w' hSw
        have c2 := hSw.c2
        clear hSw
        go_simp
        first | done | with_reducible rfl
      simp only [Act.put, List.getElem_toArray, List.getElem_cons_succ, List.getElem_cons_zero, List.setIfInBounds_toArray, List.set_cons_zero, List.set_cons_succ]
      refine wpAnyH_take (i := 4) (v := (hv x)) rfl (by kernel_rfl) (by kernel_rfl) (by kernel_rfl) (fun _ _ _ h => h) (Or.inl ⟨by rfl, ?_⟩) hHeld ?_
      · intro w' hSw
        exact runLd 30 (.tmp 3) rfl w.heap.size 0 rfl (row 11 x) _ hSw.rx Try.underlying30 rfl (sizeH x)
      simp only [Act.put, List.getElem_toArray, List.getElem_cons_succ, List.getElem_cons_zero, List.setIfInBounds_toArray, List.set_cons_zero, List.set_cons_succ]
      refine wpAnyH_take (i := 5) (v := (.tuple #[.int .i64 (i : Int), .bool true])) rfl (by kernel_rfl) (by kernel_rfl) (by kernel_rfl) (fun _ _ _ h => h) (Or.inl ⟨by rfl, ?_⟩) hHeld ?_
      · intro w' hSw
        exact runLookS (.tmp 15) (.tmp 16) rfl rfl rfl hSw.mp hwx hGn
      simp only [Act.put, List.getElem_toArray, List.getElem_cons_succ, List.getElem_cons_zero, List.setIfInBounds_toArray, List.set_cons_zero, List.set_cons_succ]
      refine wpAnyH_take (i := 6) (v := ?_) rfl (by kernel_rfl) (by kernel_rfl) (by kernel_rfl) (fun _ _ _ h => h) (Or.inl ⟨by rfl, ?_⟩) hHeld ?_
      rotate_left
      · intro w' hSw
        clear hSw
        go_simp
        first | done | with_reducible rfl
      simp only [Act.put, List.getElem_toArray, List.getElem_cons_succ, List.getElem_cons_zero, List.setIfInBounds_toArray, List.set_cons_zero, List.set_cons_succ]
      refine wpAnyH_take (i := 7) (v := ?_) rfl (by kernel_rfl) (by kernel_rfl) (by kernel_rfl) (fun _ _ _ h => h) (Or.inl ⟨by rfl, ?_⟩) hHeld ?_
      rotate_left
      · intro w' hSw
        clear hSw
        go_simp
        first | done | with_reducible rfl
      simp only [Act.put, List.getElem_toArray, List.getElem_cons_succ, List.getElem_cons_zero, List.setIfInBounds_toArray, List.set_cons_zero, List.set_cons_succ]
      refine wpAnyH_take (i := 8) (v := ?_) rfl (by kernel_rfl) (by kernel_rfl) (by kernel_rfl) (fun _ _ _ h => h) (Or.inl ⟨by rfl, ?_⟩) hHeld ?_
      rotate_left
      · intro w' hSw
        clear hSw
        go_simp
        first | done | with_reducible rfl
      simp only [Act.put, List.getElem_toArray, List.getElem_cons_succ, List.getElem_cons_zero, List.setIfInBounds_toArray, List.set_cons_zero, List.set_cons_succ]
      refine wpAnyH_take (i := 9) (v := ?_) rfl (by kernel_rfl) (by kernel_rfl) (by kernel_rfl) (fun _ _ _ h => h) (Or.inl ⟨by rfl, ?_⟩) hHeld ?_
      rotate_left
      · intro w' hSw
        clear hSw
        go_simp
        first | done | with_reducible rfl
      simp only [Act.put, List.getElem_toArray, List.getElem_cons_succ, List.getElem_cons_zero, List.setIfInBounds_toArray, List.set_cons_zero, List.set_cons_succ]
      refine wpAnyH_take (i := 10) (v := ?_) rfl (by kernel_rfl) (by kernel_rfl) (by kernel_rfl) (fun _ _ _ h => h) (Or.inl ⟨by rfl, ?_⟩) hHeld ?_
      rotate_left
      · intro w' hSw
        clear hSw
        go_simp
        first | done | with_reducible rfl
      simp only [Act.put, List.getElem_toArray, List.getElem_cons_succ, List.getElem_cons_zero, List.setIfInBounds_toArray, List.set_cons_zero, List.set_cons_succ]
      refine wpAnyH_done (by kernel_rfl) ?_ _
      go_wp2_with (go_at_call 20; refine (HC.out).mono ?_; rintro r w5 ⟨rfl, hb5⟩; have HP5 := hid (HP.out w5 hb5); obtain ⟨z1, z2, z3⟩ := HK.out w5 hb5; clear hb5 HC HP HK)
      refine bodyPost_ret (results_tmp2 rfl _ _ _) rfl ?_
      exact HP5.out
end Go.Proofs.Ytpmdgockiblkaaa
