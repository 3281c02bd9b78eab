/-
  Proved here: empty of package cache. Condition: there is an entry at the place.
-/
import Derived.Test.YtpmdgockiblkaaaCH
import Derived.Test.YtpmdgockiblkaaaST
namespace Go.Proofs.Ytpmdgockiblkaaa
open Go.RowKit Go.Maps

theorem Tur.only {S : Nat → Prop} {w w' : World} {b : Nat} (h : Tur w w' b) (hb : S b) : Only S w w' := ⟨h.os, h.tape, h.output, Nat.le_of_eq h.size.symm, fun k hk => h.block k fun e => hk (e ▸ hb)⟩
/-- An entry goes. -/
theorem CaM.del {S : Nat → Prop} {w w' : World} {g : Nat} {c : Cs} {bm n : Nat} {G : Lit → Option Value} {bp : Nat} {cur : Array Value} {q : Nat → Nat} (h : CaM S w g c bm n G bp cur q) {i : Nat} {e : Et} (he : c.es[i]? = some (some e)) (hT : Tur w w' bm) (hM : Mp w' 30 bm (if (G (kl e.h.f)).isSome then n - 1 else n) (updL G (kl e.h.f) none)) :
    CaM S (w'.setCell ⟨bp, i, none⟩ (.pointer none)) g { c with es := c.es.set i none } bm (n - 1) (updL G (kl e.h.f) none) bp (cur.setIfInBounds i (.pointer none)) q := by
  obtain ⟨a1, a2, a3, a4, a5⟩ := h.apart
  have oth : ∀ b, b ≠ bp → (w'.setCell ⟨bp, i, none⟩ (.pointer none)).heap[b]? = w'.heap[b]? := fun b hb => heap_setCell_other w' ⟨bp, i, none⟩ b _ hb
  have hil : i < c.es.length := (List.getElem?_eq_some_iff.1 he).1
  rw [h.m1 i e he] at hM
  refine ⟨h.sg, ?_, h.sm, hM.carry (oth _ a3), h.sp, ?_, by simpa using h.sz, fun k o hk => ?_, fun k y hk => ?_, fun k y hk => ?_, fun hh hn => ?_, ?_⟩
  · rw [oth _ a2, hT.block _ a1, h.hg]; simp [ccs]
  · have hp' : w'.heap[bp]? = some (.cells cur 51 (0, 0)) := (hT.block _ a3.symm).trans h.hp
    rw [heap_setCell_same w' bp i _ _ _ hp']
  · rcases set_at hk with ⟨rfl, _, rfl⟩ | ⟨hne, hk⟩
    · rw [Array.getElem?_setIfInBounds, if_pos rfl, if_pos (by rw [h.sz]; exact hil)]; rfl
    · rw [Array.getElem?_setIfInBounds, if_neg (fun e => hne e.symm)]; exact h.pl _ _ hk
  · rcases set_at hk with ⟨_, _, hy⟩ | ⟨hne, hk⟩
    · cases hy
    · have := h.en k y hk
      obtain ⟨b1, b2, b3⟩ := a4 k y hk
      exact ⟨this.1, (oth _ b3).trans ((hT.block _ b2).trans this.2)⟩
  · rcases set_at hk with ⟨_, _, hy⟩ | ⟨hne, hk⟩
    · cases hy
    · rw [updL_other _ _ fun e' => hne (h.dis k i y e hk he (kl_eq e'))]
      exact h.m1 k y hk
  · by_cases e' : hh = e.h
    · rw [e', updL_same]
    · rw [updL_other _ _ fun e'' => e' (kl_eq e'')]
      refine h.m2 hh fun k y hk => ?_
      by_cases e'' : k = i
      · subst e''
        rw [he] at hk; cases hk
        exact fun h' => e' h'.symm
      · exact hn k y (by rw [List.getElem?_set_ne (fun h' => e'' h'.symm)]; exact hk)
  · rw [h.cn]
    have := countP_set Option.isSome c.es i (some e) none he
    simp only [Option.isSome_some, Option.isSome_none, if_true, Bool.false_eq_true, if_false] at this
    show c.es.countP Option.isSome - 1 = (c.es.set i none).countP Option.isSome
    omega
/-- What empty reads. -/
structure Hm (g bm bp L i p : Nat) (h : Nat → Int) (w : World) : Prop where
  c2 : w.cell? ⟨g, 2, none⟩ = some (.map (some bm))
  c3 : w.cell? ⟨g, 3, none⟩ = some (.slice (some ⟨bp, 0, none⟩) L L)
  cp : w.cell? ⟨bp, i, none⟩ = some (pv p)
  rh : w.rangeAt p 0 (row 11 h).toList
theorem Hm.on {g bm bp L i p : Nat} {h : Nat → Int} {w w' : World} (H : Hm g bm bp L i p h w) (h1 : w'.heap[g]? = w.heap[g]?) (h2 : w'.heap[bp]? = w.heap[bp]?) (h3 : w'.heap[p]? = w.heap[p]?) : Hm g bm bp L i p h w' :=
  ⟨(cell_same h1).trans H.c2, (cell_same h1).trans H.c3, (cell_same h2).trans H.cp, fun j v hj => (cell_same h3).trans (H.rh j v hj)⟩
set_option maxHeartbeats 1600000 in
set_option maxRecDepth 100000 in
theorem empty_any {S : Nat → Prop} (w : World) (v : Value) (c : Cs) (h : Ca S w v c) (i : Nat) (e : Et) (he : c.es[i]? = some (some e)) :
    Calls Try.prog 21 #[v, .int .i64 (i : Nat)] w fun r w' => r = .returned (.tuple #[]) ∧ Only S w w' ∧ Ca S w' v { c with es := c.es.set i none } := by
  obtain ⟨g, bm, n, G, bp, cur, q, rfl, hM⟩ := h
  obtain ⟨-, -, c2, c3⟩ := hM.cells
  obtain ⟨a1, a2, a3, a4, a5⟩ := hM.apart
  obtain ⟨b1, b2, b3⟩ := a4 i e he
  have hil : i < c.es.length := (List.getElem?_eq_some_iff.1 he).1
  have hH : Hm g bm bp c.es.length i (q i) e.h.f w := ⟨c2, c3, hM.place he, (hM.ent he).2.2.2⟩
  obtain ⟨L, hL⟩ : ∃ z, z = c.es.length := ⟨_, rfl⟩
  obtain ⟨p, hp⟩ : ∃ z, z = q i := ⟨_, rfl⟩
  obtain ⟨x, hx⟩ : ∃ z, z = e.h.f := ⟨_, rfl⟩
  have hwx : Wf x := by rw [hx]; exact e.h.wf
  rw [← hL] at hH hil
  rw [← hp] at hH b1 b2 b3
  rw [← hx] at hH
  have HH : Hid (Hm g bm bp L i p x w.drew) := hH.on rfl rfl rfl
  have HHn : Hid (∀ w6, Tur w.drew w6 bm → Hm g bm bp L i p x w6) := fun w6 hT => hH.on (hT.block _ a1) (hT.block _ a3.symm) (hT.block _ b2)
  have HMp : Hid (Mp w.drew 30 bm n G) := hM.mp
  have HM := hid hM
  have HE := hid he
  have HX := hid hx
  clear hM c2 c3 hH he hL hp hx a1 a2 a3 a4 a5 b1 b2 b3
  go_enter Try.func21, Try.ntmps21
  go_upto_region 0 with fail
  refine wp_region_held_drew (S := Hm g bm bp L i p x) (by kernel_rfl) HH.out (fun hHeld => ?_)
  refine wpAnyH_take (i := 0) (v := ?_) rfl (by kernel_rfl) (by kernel_rfl) (by kernel_rfl) (fun _ _ _ h => h) (Or.inl ⟨by rfl, ?_⟩) hHeld ?_
  rotate_left
  · intro w' hSw
    clear hSw
    go_simp
    first | done | with_reducible rfl
  simp only [Act.put, List.getElem_toArray, List.getElem_cons_zero, List.setIfInBounds_toArray, List.set_cons_zero, List.set_cons_succ]
  refine wpAnyH_take (i := 1) (v := ?_) rfl (by kernel_rfl) (by kernel_rfl) (by kernel_rfl) (fun _ _ _ h => h) (Or.inl ⟨by rfl, ?_⟩) hHeld ?_
  rotate_left
  · intro w' hSw
    clear hSw
    go_simp
    first | done | with_reducible rfl
  simp only [Act.put, List.getElem_toArray, List.getElem_cons_succ, List.getElem_cons_zero, List.setIfInBounds_toArray, List.set_cons_zero, List.set_cons_succ]
  refine wpAnyH_take (i := 2) (v := ?_) rfl (by kernel_rfl) (by kernel_rfl) (by kernel_rfl) (fun _ _ _ h => h) (Or.inl ⟨by rfl, ?_⟩) hHeld ?_
  rotate_left
  · intro w' hSw
    clear hSw
    go_simp
    first | done | with_reducible rfl
  simp only [Act.put, List.getElem_toArray, List.getElem_cons_succ, List.getElem_cons_zero, List.setIfInBounds_toArray, List.set_cons_zero, List.set_cons_succ]
  refine wpAnyH_take (i := 3) (v := ?_) rfl (by kernel_rfl) (by kernel_rfl) (by kernel_rfl) (fun _ _ _ h => h) (Or.inl ⟨by rfl, ?_⟩) hHeld ?_
  rotate_left
  · intro w' hSw
    have c2 := hSw.c2
    clear hSw
    go_simp
    first | done | with_reducible rfl
  simp only [Act.put, List.getElem_toArray, List.getElem_cons_succ, List.getElem_cons_zero, List.setIfInBounds_toArray, List.set_cons_zero, List.set_cons_succ]
  refine wpAnyH_take (i := 4) (v := ?_) rfl (by kernel_rfl) (by kernel_rfl) (by kernel_rfl) (fun _ _ _ h => h) (Or.inl ⟨by rfl, ?_⟩) hHeld ?_
  rotate_left
  · intro w' hSw
    clear hSw
    go_simp
    first | done | with_reducible rfl
  simp only [Act.put, List.getElem_toArray, List.getElem_cons_succ, List.getElem_cons_zero, List.setIfInBounds_toArray, List.set_cons_zero, List.set_cons_succ]
  refine wpAnyH_take (i := 5) (v := ?_) rfl (by kernel_rfl) (by kernel_rfl) (by kernel_rfl) (fun _ _ _ h => h) (Or.inl ⟨by rfl, ?_⟩) hHeld ?_
  rotate_left
  · intro w' hSw
    clear hSw
    go_simp
    first | done | with_reducible rfl
  simp only [Act.put, List.getElem_toArray, List.getElem_cons_succ, List.getElem_cons_zero, List.setIfInBounds_toArray, List.set_cons_zero, List.set_cons_succ]
  refine wpAnyH_take (i := 6) (v := ?_) rfl (by kernel_rfl) (by kernel_rfl) (by kernel_rfl) (fun _ _ _ h => h) (Or.inl ⟨by rfl, ?_⟩) hHeld ?_
  rotate_left
  · intro w' hSw
    clear hSw
    go_simp
    first | done | with_reducible rfl
  simp only [Act.put, List.getElem_toArray, List.getElem_cons_succ, List.getElem_cons_zero, List.setIfInBounds_toArray, List.set_cons_zero, List.set_cons_succ]
  refine wpAnyH_take (i := 7) (v := ?_) rfl (by kernel_rfl) (by kernel_rfl) (by kernel_rfl) (fun _ _ _ h => h) (Or.inl ⟨by rfl, ?_⟩) hHeld ?_
  rotate_left
  · intro w' hSw
    have c3 := hSw.c3
    clear hSw
    go_simp
    first | done | with_reducible rfl
  simp only [Act.put, List.getElem_toArray, List.getElem_cons_succ, List.getElem_cons_zero, List.setIfInBounds_toArray, List.set_cons_zero, List.set_cons_succ]
  refine wpAnyH_take (i := 8) (v := ?_) rfl (by kernel_rfl) (by kernel_rfl) (by kernel_rfl) (fun _ _ _ h => h) (Or.inl ⟨by rfl, ?_⟩) hHeld ?_
  rotate_left
  · intro w' hSw
    clear hSw
    go_simp
    first | done | with_reducible rfl
  simp only [Act.put, List.getElem_toArray, List.getElem_cons_succ, List.getElem_cons_zero, List.setIfInBounds_toArray, List.set_cons_zero, List.set_cons_succ]
  refine wpAnyH_take (i := 9) (v := ?_) rfl (by kernel_rfl) (by kernel_rfl) (by kernel_rfl) (fun _ _ _ h => h) (Or.inl ⟨by rfl, ?_⟩) hHeld ?_
  rotate_left
  · intro w' hSw
    clear hSw
    go_simp
    first | done | with_reducible rfl
  simp only [Act.put, List.getElem_toArray, List.getElem_cons_succ, List.getElem_cons_zero, List.setIfInBounds_toArray, List.set_cons_zero, List.set_cons_succ]
  refine wpAnyH_take (i := 10) (v := ?_) rfl (by kernel_rfl) (by kernel_rfl) (by kernel_rfl) (fun _ _ _ h => h) (Or.inl ⟨by rfl, ?_⟩) hHeld ?_
  rotate_left
  · intro w' hSw
    have cp := hSw.cp
    clear hSw
    go_simp
    first | done | with_reducible rfl
  simp only [Act.put, List.getElem_toArray, List.getElem_cons_succ, List.getElem_cons_zero, List.setIfInBounds_toArray, List.set_cons_zero, List.set_cons_succ]
  refine wpAnyH_take (i := 11) (v := ?_) rfl (by kernel_rfl) (by kernel_rfl) (by kernel_rfl) (fun _ _ _ h => h) (Or.inl ⟨by rfl, ?_⟩) hHeld ?_
  rotate_left
  · intro w' hSw
    clear hSw
    go_simp
    first | done | with_reducible rfl
  simp only [Act.put, List.getElem_toArray, List.getElem_cons_succ, List.getElem_cons_zero, List.setIfInBounds_toArray, List.set_cons_zero, List.set_cons_succ]
  refine wpAnyH_take (i := 12) (v := ?_) rfl (by kernel_rfl) (by kernel_rfl) (by kernel_rfl) (fun _ _ _ h => h) (Or.inl ⟨by rfl, ?_⟩) hHeld ?_
  rotate_left
  · intro w' hSw
    clear hSw
    go_simp
    first | done | with_reducible rfl
  simp only [Act.put, List.getElem_toArray, List.getElem_cons_succ, List.getElem_cons_zero, List.setIfInBounds_toArray, List.set_cons_zero, List.set_cons_succ]
  refine wpAnyH_take (i := 13) (v := (hv x)) rfl (by kernel_rfl) (by kernel_rfl) (by kernel_rfl) (fun _ _ _ h => h) (Or.inl ⟨by rfl, ?_⟩) hHeld ?_
  · intro w' hSw
    exact runLd 30 (.tmp 16) rfl p 0 rfl (row 11 x) _ hSw.rh Try.underlying30 rfl (sizeH x)
  simp only [Act.put, List.getElem_toArray, List.getElem_cons_succ, List.getElem_cons_zero, List.setIfInBounds_toArray, List.set_cons_zero, List.set_cons_succ]
  refine wpAnyH_ready (rs := [14]) (by kernel_rfl) (by simp) ?_
  refine AllReadyH.cons rfl (fun K hK => ?_) AllReadyH.nil
  refine stepDel (.tmp 7) (.tmp 17) 44 rfl rfl rfl rfl HMp.out lawH Try.underlying44 (key_h hwx) ?_
  intro w6 hM6 hT6
  have HM6 := hid hM6
  have HT6 := hid hT6
  refine hK.out _ _ (HHn.out w6 hT6) (fun hHeld => ?_)
  clear hK K
  simp only [Act.put, List.getElem_toArray, List.getElem_cons_succ, List.getElem_cons_zero]
  clear hM6 hT6
  refine wpAnyH_done (by kernel_rfl) ?_ _
  have k3 := (HHn.out w6 HT6.out).c3
  have kp := (HHn.out w6 HT6.out).cp
  have kz : w6.frozen? ⟨bp, i, none⟩ = false := by
    have a3 := HM.out.apart.2.2.1
    have : w6.heap[bp]? = some (.cells cur 51 (0, 0)) := (HT6.out.block _ a3.symm).trans HM.out.hp
    simp [World.frozen?, this]
  clear HHn HH
  go_wp2
  first | go_end0 | refine bodyPost_ret (results_none rfl _ _ _) rfl ?_
  have hT : Tur w w6 bm := ⟨HT6.out.os, HT6.out.tape, HT6.out.output, HT6.out.size, HT6.out.block⟩
  refine ⟨rfl, (hT.only HM.out.sm).setCell HM.out.sp _, g, bm, n - 1, updL G (kl e.h.f) none, bp, _, q, rfl, HM.out.del HE.out hT (by rw [← HX.out]; exact HM6.out)⟩
end Go.Proofs.Ytpmdgockiblkaaa
