/-
  Proved here: what the closures do that read one field of a message: they read it and lay it where it lies, at Rule. Conditions: the message's block and the closures' are old, and none of the cursor's.
-/
/-
  Proved here: a part's closure read, of whichever field: the field is read and laid into the message's block, or the panic with ErrMessage. Conditions: the message's block and the closures' are old, and none of the cursor's.
-/
import Derived.Test.YtllbbbfkdgjffaaGreatDoorT7
namespace Go.Proofs.YtllbbbfkdgjffaaGreatDoor
open Go.RowKit

section
variable {T : Nat → Prop} {c : Nat}

set_option maxHeartbeats 1600000 in
set_option maxRecDepth 100000 in
theorem readR_any {w : World} (b off g1 g3 fo fr : Nat) (sp : Option (Rl × List Int)) (h : Hs3 g1 g3 fo fr w) (hV : w.there b off 25) (hbc : b ≠ c) (hg1c : g1 ≠ c) (hg3c : g3 ≠ c) (hb : b < w.heap.size) (hgb1 : g1 ≠ b) (hgb3 : g3 ≠ b) (eo : Ent fo) (er : Ent fr)
    (ho : ∀ w, Calls Tryz.prog fo #[ptr b] w fun e w' => e = .returned (.pointer (some ⟨b, off, none⟩)) ∧ w' = w)
    (hC : Calls Tryz.prog fr #[ptr c] w.drew (RdP T c sp VRl w.drew)) :
    Calls Tryz.prog 101 #[ptr c, ptr b, ptr g3, ptr g1] w (RcP T c b off sp VRl (stR b off) w) := by
  have hl1 := cell_lt h.c1
  have hl3 := cell_lt h.c3
  have HH := hid h
  have HO := hid ho
  have HC := hid hC
  have HV := hid hV
  clear h ho hC hV
  go_enter Tryz.func101, Tryz.ntmps101
  go_wp2
  refine wp_region_held_drew (S := Hs3 g1 g3 fo fr) (by kernel_rfl) (HH.out.on rfl rfl) (fun hHeld => ?_)
  refine wpAnyH_take (i := 0) (v := ?_) rfl (by kernel_rfl) (by kernel_rfl) (by kernel_rfl) (fun _ _ _ h => h) (Or.inl ⟨by rfl, ?_⟩) hHeld ?_
  rotate_left
  · intro w' hSw
    have c1 := hSw.c1
    clear hSw
    go_simp
    first | done | with_reducible rfl
  simp only [Act.put, List.getElem_toArray, List.getElem_cons_zero, List.setIfInBounds_toArray, List.set_cons_zero, List.set_cons_succ]
  refine wpAnyH_take (i := 1) (v := ?_) rfl (by kernel_rfl) (by kernel_rfl) (by kernel_rfl) (fun _ _ _ h => h) (Or.inl ⟨by rfl, ?_⟩) hHeld ?_
  rotate_left
  · intro w' hSw
    go_simp
    first | done | with_reducible rfl
  simp only [Act.put, List.getElem_toArray, List.getElem_cons_succ, List.getElem_cons_zero, List.setIfInBounds_toArray, List.set_cons_zero, List.set_cons_succ]
  refine wpAnyH_take (i := 3) (v := ?_) rfl (by kernel_rfl) (by kernel_rfl) (by kernel_rfl) (fun _ _ _ h => h) (Or.inl ⟨by rfl, ?_⟩) hHeld ?_
  rotate_left
  · intro w' hSw
    have c3 := hSw.c3
    clear hSw
    go_simp
    first | done | with_reducible rfl
  simp only [Act.put, List.getElem_toArray, List.getElem_cons_succ, List.getElem_cons_zero, List.setIfInBounds_toArray, List.set_cons_zero, List.set_cons_succ]
  refine wpAnyH_take (i := 4) (v := ?_) rfl (by kernel_rfl) (by kernel_rfl) (by kernel_rfl) (fun _ _ _ h => h) (Or.inl ⟨by rfl, ?_⟩) hHeld ?_
  rotate_left
  · intro w' hSw
    go_simp
    first | done | with_reducible rfl
  simp only [Act.put, List.getElem_toArray, List.getElem_cons_succ, List.getElem_cons_zero, List.setIfInBounds_toArray, List.set_cons_zero, List.set_cons_succ]
  refine wpAnyH_ready (rs := [2]) (by kernel_rfl) (by simp) ?_
  refine AllReadyH.cons rfl (fun K hK => ?_) AllReadyH.nil
  refine stepFn fo (.tmp 6) _ _ [ptr b] rfl rfl rfl rfl (eo _) _ (HO.out _) ?_
  rintro e w4 ⟨rfl, hw⟩
  refine Or.inl ⟨_, rfl, ?_⟩
  rw [hw]
  refine hK.out _ _ hHeld (fun hHeld => ?_)
  clear hK K hw w4
  simp only [Act.put, List.getElem_toArray, List.getElem_cons_succ, List.getElem_cons_zero, List.setIfInBounds_toArray, List.set_cons_zero, List.set_cons_succ]
  refine wpAnyH_ready (rs := [5]) (by kernel_rfl) (by simp) ?_
  refine AllReadyH.cons rfl (fun K hK => ?_) AllReadyH.nil
  refine stepFn fr (.tmp 9) _ _ [ptr c] rfl rfl rfl rfl (er _) _ HC.out ?_
  intro e w5 h9
  obtain ⟨h0, ⟨h2, rfl⟩ | ⟨x, r, v, h2, rfl, h3, h4⟩⟩ := h9
  · exact Or.inr ⟨_, rfl, rfl, Or.inl ⟨h2, rfl, (only_drew w).trans h0⟩⟩
  have h1 : Only (fun x => x = c ∨ w.heap.size ≤ x) w w5 := (only_drew w).trans h0
  refine Or.inl ⟨_, rfl, ?_⟩
  have hv5 : w5.heap[b]? = w.heap[b]? := h1.block b (by rintro (e | e); exact hbc e; have e' : w.heap.size ≤ b := e; omega)
  have hg15 : w5.heap[g1]? = w.heap[g1]? := h1.block g1 (by rintro (e | e); exact hg1c e; have e' : w.heap.size ≤ g1 := e; omega)
  have hg35 : w5.heap[g3]? = w.heap[g3]? := h1.block g3 (by rintro (e | e); exact hg3c e; have e' : w.heap.size ≤ g3 := e; omega)
  refine hK.out _ _ (HH.out.on hg15 hg35) (fun hHeld => ?_)
  clear hK K
  obtain ⟨u, rfl, hcp, -⟩ := id h4
  simp only [Act.put, List.getElem_toArray, List.getElem_cons_succ, List.getElem_cons_zero, List.setIfInBounds_toArray, List.set_cons_zero, List.set_cons_succ]
  refine wpAnyH_take (i := 6) (v := ?_) rfl (by kernel_rfl) (by kernel_rfl) (by kernel_rfl) (fun _ _ _ h => h) (Or.inl ⟨by rfl, ?_⟩) hHeld ?_
  rotate_left
  · intro w' hSw
    go_simp
    first | done | with_reducible rfl
  simp only [Act.put, List.getElem_toArray, List.getElem_cons_succ, List.getElem_cons_zero, List.setIfInBounds_toArray, List.set_cons_zero, List.set_cons_succ]
  refine wpAnyH_ready (rs := [7]) (by kernel_rfl) (by simp) ?_
  refine AllReadyH.cons rfl (fun K hK => ?_) AllReadyH.nil
  rw [if_pos (by rfl)]
  have h1c := rlc_one x u hcp.one
  have hsz := sizeRl x u
  have hA25 := rlc_size x u
  generalize rlc x u = A at *
  have hth : w5.there b off A.size := fun j hj => by
    rw [hA25] at hj
    have := HV.out j hj
    exact ⟨by rw [cell_same hv5]; exact this.1, by rw [frozen_same hv5]; exact this.2⟩
  refine wp_store_mid 31 (.tmp 12) (.tmp 11) rfl b off A rfl rfl hth hsz h1c ?_
  have hq := setCells_below b A.toList off w5
  refine hK.out _ _ (HH.out.on ((hq.2.2.2.2 g1 hgb1).trans hg15) ((hq.2.2.2.2 g3 hgb3).trans hg35)) (fun hHeld => ?_)
  clear hK K
  try simp only [Act.put, List.getElem_toArray, List.getElem_cons_succ, List.getElem_cons_zero]
  refine wpAnyH_done (by kernel_rfl) ?_ _
  go_wp2
  first | go_end0 | refine bodyPost_ret (results_none rfl _ _ _) rfl ?_
  exact Or.inr ⟨x, r, _, w5, h2, rfl, h4, h1, h3, (stR_agg b off w5 A).symm⟩
end
end Go.Proofs.YtllbbbfkdgjffaaGreatDoor
namespace Go.Proofs.YtllbbbfkdgjffaaGreatDoor
open Go.RowKit

theorem rdF_dw (m : Ms) (bs : List Int) : rdF true m bs .dw = (rdDo bs).map fun x => ({ m with dw := x.1 }, x.2) := by
  unfold rdF rdDo
  cases tk 1 bs with
  | none => rfl
  | some x => simp only [Option.bind_some]; cases okDo (i8 x.1) <;> rfl
theorem rdF_mo (m : Ms) (bs : List Int) : rdF true m bs .mo = (rdMo bs).map fun x => ({ m with po := x.1 }, x.2) := by
  unfold rdF rdMo
  cases tk 2 bs with
  | none => rfl
  | some x => simp only [Option.bind_some]; cases okMo x.1 <;> rfl
theorem rdF_up (m : Ms) (bs : List Int) : rdF true m bs .up = (rdUp bs).map fun x => ({ m with up := x.1 }, x.2) := by
  unfold rdF rdUp
  cases tk 1 bs with
  | none => rfl
  | some x =>
    simp only [Option.bind_some]
    by_cases h : x.1 ≤ 1
    · rw [if_pos h, if_pos h]; rfl
    · rw [if_neg h, if_neg h]; rfl
theorem rdMo_in {bs r : List Int} {x : Int} (hB : IsB bs) (h : rdMo bs = some (x, r)) : In16 x := by
  unfold rdMo at h
  simp only [Option.bind_eq_some_iff] at h
  obtain ⟨⟨y, r1⟩, h1, h2⟩ := h
  obtain ⟨_, he⟩ := kp_some h2
  simp only [Prod.mk.injEq] at he
  obtain ⟨rfl, rfl⟩ := he
  have := tk_bd hB h1
  rw [pw2] at this
  exact this
theorem setCells_only (b o : Nat) (vs : List Value) (W : World) : Only (fun y => y = b) W (W.setCells b o vs) := by
  have hqq := setCells_below b vs o W
  exact ⟨hqq.1, hqq.2.1, hqq.2.2.1, hqq.2.2.2.1, fun k hk => hqq.2.2.2.2 k hk⟩
/-- What the closure leaves of a message. -/
def RmP (T : Nat → Prop) (c b n : Nat) (sp : Option (Ms × List Int)) (w : World) (e : Ending) (w' : World) : Prop :=
  Only (fun x => x = c ∨ x = b ∨ w.heap.size ≤ x) w w' ∧ ((sp = none ∧ e = .panicked PC) ∨ ∃ m' s' r, sp = some (m', r) ∧ e = .returned (.tuple #[]) ∧ Rc T w' c r ∧ MB w' b m' s' ∧ Mss (fun x => n ≤ x ∧ x < w'.heap.size) w' m' s')
section
variable {T : Nat → Prop} {c b n : Nat} {m : Ms} {s : Sls} {bs : List Int} {w : World}
theorem rc_fin {α : Type} {sp : Option (α × List Int)} {V : Nat → World → Value → α → Prop} {off : Nat} {k : Fk} (up : α → Ms) (us : Value → Sls) (h : Rc T w c bs) (hM : MB w b m s) (hMs : Mss (fun x => n ≤ x ∧ x < w.heap.size) w m s) (hn : n ≤ w.heap.size) (hbn : b < n) (hcn : c < n) (hbc : b ≠ c) (hTb : ¬ T b) (hb2 : 2 ≤ b) (hsp : rdF true m bs k = sp.map fun x => (up x.1, x.2))
    (hset : ∀ v x, ∀ W, V w.heap.size W v x → (msc m s).setIfInBounds off v = msc (up x) (us v)) (hms : ∀ (W : World) v x, w.heap.size ≤ W.heap.size → V w.heap.size W v x → Mss (fun x => n ≤ x ∧ x < W.heap.size) W m s → Mss (fun x => n ≤ x ∧ x < W.heap.size) W (up x) (us v))
    {e : Ending} {w' : World} (hq : RcP T c b off sp V (fun W v => W.setCell ⟨b, off, none⟩ v) w e w') : RmP T c b n (rdF true m bs k) w e w' := by
  rcases hq with ⟨h1, h2, h3⟩ | ⟨x, r, v, W, h1, h2, h3, h4, h5, rfl⟩
  · exact ⟨h3.mono fun x hx => by rcases hx with e | e; exact Or.inl e; exact Or.inr (Or.inr e), Or.inl ⟨by rw [hsp, h1]; rfl, h2⟩⟩
  · show RmP T c b n (rdF true m bs k) w e (W.setCell ⟨b, off, none⟩ v)
    have hMW : MB W b m s := (h4.block b (by rintro (e | e); exact hbc e; omega)).trans hM
    have hsz := h4.size
    have hsz2 := setCell_size W ⟨b, off, none⟩ v
    have hMs2 := hms W v x hsz h3 (hMs.carry fun y hy hT => ⟨⟨hT.1, by omega⟩, h4.block y (by rintro (e | e) <;> omega)⟩)
    refine ⟨(h4.mono fun x hx => by rcases hx with e | e; exact Or.inl e; exact Or.inr (Or.inr e)).setCell (p := ⟨b, off, none⟩) (Or.inr (Or.inl rfl)) v, Or.inr ⟨up x, us v, r, by rw [hsp, h1]; rfl, h2, (h.on h4 h5).set hbc hTb hb2, mb_set hMW (hset v x W h3), hMs2.carry fun y hy hT => ⟨⟨hT.1, by omega⟩, heap_setCell_other W ⟨b, off, none⟩ y v (show y ≠ b by omega)⟩⟩⟩
/-- The end of the rule's reading. -/
theorem rl_fin {A : Array Value} {x : Rl} {r : List Int} {u : Value} {e : Ending} {W : World} (h : Rc T w c bs) (_hM : MB w b m s) (hMs : Mss (fun x => n ≤ x ∧ x < w.heap.size) w m s) (hn : n ≤ w.heap.size) (hbn : b < n) (hcn : c < n) (hbc : b ≠ c) (hTb : ¬ T b) (hb2 : 2 ≤ b)
    (h4 : Only (fun x => x = c ∨ w.heap.size ≤ x) w W) (h5 : Cur T W c r) (hcp : Cps (fun x => w.heap.size ≤ x ∧ x < W.heap.size) W u x.cp) (h1 : rdRl true bs = some (x, r)) (h2 : e = .returned (.tuple #[])) (hM2 : MB (W.setCells b 3 A.toList) b { m with r := x } { s with cp := u }) :
    RmP T c b n (rdF true m bs .rl) w e (W.setCells b 3 A.toList) := by
  have hsz := h4.size
  have hoq := setCells_only b 3 A.toList W
  generalize W.setCells b 3 A.toList = W2 at hoq hM2 ⊢
  have hR := h.on h4 h5
  have hMs1 : Mss (fun x => n ≤ x ∧ x < W.heap.size) W { m with r := x } { s with cp := u } := by
    have h0 : Mss (fun x => n ≤ x ∧ x < W.heap.size) W m s := hMs.carry fun y hy hT => ⟨⟨hT.1, by omega⟩, h4.block y (by rintro (e | e) <;> omega)⟩
    exact ⟨Cps.carry (fun y _ hy => ⟨⟨by omega, hy.2⟩, rfl⟩) hcp, h0.ps, h0.ed, h0.fr, h0.hs⟩
  have hsz2 := hoq.size
  refine ⟨(h4.mono fun x hx => by rcases hx with e | e; exact Or.inl e; exact Or.inr (Or.inr e)).trans (hoq.mono fun x hx => Or.inr (Or.inl hx)), Or.inr ⟨{ m with r := x }, { s with cp := u }, r, by simp only [rdF]; rw [h1]; rfl, h2, ?_, hM2, hMs1.carry fun y hy hT => ⟨⟨hT.1, by omega⟩, hoq.block y (show ¬ y = b by omega)⟩⟩⟩
  exact ⟨hR.cur.carry (hoq.block c fun e => hbc e.symm) fun k _ hk => ⟨hk, hoq.block k fun e => hTb (e ▸ hk)⟩, hR.out, hR.tab.of (hoq.block 0 (by omega)) (hoq.block 1 (by omega)), hR.two, fun y hy => Nat.lt_of_lt_of_le (hR.old y hy) hsz2⟩
set_option maxHeartbeats 1600000 in
/-- A FIELD IS READ. -/
theorem rd_any {T' : Nat → Prop} (k : Fk) (g1 g2 g3 : Nat) (h : Rc T w c bs) (hM : MB w b m s) (hMs : Mss (fun x => n ≤ x ∧ x < w.heap.size) w m s) (hn : n ≤ w.heap.size) (hbn : b < n) (hcn : c < n) (hbc : b ≠ c) (hTb : ¬ T b) (hb2 : 2 ≤ b) (hP : Pv T' w (fnO k) (fnW k) (fnR k) g1 g2 g3) (hT' : ∀ x, T' x → x ≠ c ∧ x ≠ b) :
    Calls Tryz.prog (fn3 k) #[ptr c, ptr b, ptr g3, ptr g1] w (RmP T c b n (rdF true m bs k) w) := by
  obtain ⟨c0, c1, c2, c28, c29, c30, c31, c32, c33, c34, c35⟩ := mb_cells hM
  have q1 := hT' g1 hP.t1
  have q3 := hT' g3 hP.t3
  have hbw : b < w.heap.size := (Array.getElem?_eq_some_iff.1 hM).1
  have hD : Rc T w.drew c bs := h.new (Below.refl _ _).drew
  have hs0 : Hs3 g1 g3 (fnO k) (fnR k) w := ⟨hP.c1, hP.c3⟩
  have mono : ∀ (W : World), w.heap.size ≤ W.heap.size → ∀ y, y < W.heap.size → (w.heap.size ≤ y ∧ y < W.heap.size) → (n ≤ y ∧ y < W.heap.size) ∧ W.heap[y]? = W.heap[y]? := fun W _ y _ hy => ⟨⟨by omega, hy.2⟩, rfl⟩
  cases k
  · exact (readU_any b 30 g1 g3 _ _ _ hs0 ⟨⟨_, c30⟩, mb_free hM _⟩ hbc q1.1 q3.1 hbw q1.2 q3.2 (entO .sw) (entR .sw) (fun w => of_any .sw b w) (cshort_el hD)).mono fun e w' hq => rc_fin (fun x => { m with sw := x }) (fun _ => s) h hM hMs hn hbn hcn hbc hTb hb2 rfl (fun v x W hv => by rw [hv.1]; exact set_sw m s x) (fun W v x _ _ hm => ⟨hm.cp, hm.ps, hm.ed, hm.fr, hm.hs⟩) hq
  · exact (readUs_any b 31 g1 g3 _ _ _ hs0 ⟨⟨_, c31⟩, mb_free hM _⟩ hbc q1.1 q3.1 hbw q1.2 q3.2 (entO .ps) (entR .ps) (fun w => of_any .ps b w) (cshorts_el hD)).mono fun e w' hq => rc_fin (fun x => { m with ps := x }) (fun v => { s with ps := v }) h hM hMs hn hbn hcn hbc hTb hb2 rfl (fun v x W hv => set_ps m s x v) (fun W v x hs hv hm => ⟨hm.cp, Shs.carry (mono W hs) hv, hm.ed, hm.fr, hm.hs⟩) hq
  · exact (readUs_any b 32 g1 g3 _ _ _ hs0 ⟨⟨_, c32⟩, mb_free hM _⟩ hbc q1.1 q3.1 hbw q1.2 q3.2 (entO .ed) (entR .ed) (fun w => of_any .ed b w) (cshorts_el hD)).mono fun e w' hq => rc_fin (fun x => { m with ed := x }) (fun v => { s with ed := v }) h hM hMs hn hbn hcn hbc hTb hb2 rfl (fun v x W hv => set_ed m s x v) (fun W v x hs hv hm => ⟨hm.cp, hm.ps, Shs.carry (mono W hs) hv, hm.fr, hm.hs⟩) hq
  · exact (readI_any b 2 g1 g3 _ _ _ hs0 ⟨⟨_, c2⟩, mb_free hM _⟩ hbc q1.1 q3.1 hbw q1.2 q3.2 (entO .dw) (entR .dw) (fun w => of_any .dw b w) (cdo_any hD)).mono fun e w' hq => rc_fin (fun x => { m with dw := x }) (fun _ => s) h hM hMs hn hbn hcn hbc hTb hb2 (rdF_dw m bs) (fun v x W hv => by rw [show v = .int .i8 x from hv]; exact set_dw m s x) (fun W v x _ _ hm => ⟨hm.cp, hm.ps, hm.ed, hm.fr, hm.hs⟩) hq
  · refine (readR_any b 3 g1 g3 _ _ _ hs0 (fun j hj => ⟨?_, mb_free hM _⟩) hbc q1.1 q3.1 hbw q1.2 q3.2 (entO .rl) (entR .rl) (fun w => of_any .rl b w) (crule_any hD)).mono fun e w' hq => ?_
    · rw [cell_of_row w b (3 + j) _ _ _ hM, msc_rl m s j hj, Array.getElem?_eq_getElem (by rw [rlc_size]; exact hj)]; rfl
    · rcases hq with ⟨h1, h2, h3⟩ | ⟨x, r, v, W, h1, h2, ⟨u, hv, hcp, _⟩, h4, h5, h6⟩
      · exact ⟨h3.mono fun x hx => by rcases hx with e | e; exact Or.inl e; exact Or.inr (Or.inr e), Or.inl ⟨by simp only [rdF]; rw [h1]; rfl, h2⟩⟩
      · rw [h6, hv, stR_agg]
        exact rl_fin h hM hMs hn hbn hcn hbc hTb hb2 h4 h5 hcp h1 h2 (set_rl m s x u W b ((h4.block b (by rintro (e | e); exact hbc e; omega)).trans hM))
  · exact (readU_any b 28 g1 g3 _ _ _ hs0 ⟨⟨_, c28⟩, mb_free hM _⟩ hbc q1.1 q3.1 hbw q1.2 q3.2 (entO .po) (entR .po) (fun w => of_any .po b w) (cshort_el hD)).mono fun e w' hq => rc_fin (fun x => { m with po := x }) (fun _ => s) h hM hMs hn hbn hcn hbc hTb hb2 rfl (fun v x W hv => by rw [hv.1]; exact set_po m s x) (fun W v x _ _ hm => ⟨hm.cp, hm.ps, hm.ed, hm.fr, hm.hs⟩) hq
  · exact (readU_any b 28 g1 g3 _ _ _ hs0 ⟨⟨_, c28⟩, mb_free hM _⟩ hbc q1.1 q3.1 hbw q1.2 q3.2 (entO .mo) (entR .mo) (fun w => of_any .mo b w) ((cmore_any hD).mono fun e w' hq => hq.mono fun v x r ho hv => ⟨hv, rdMo_in hD.cur.isB ho⟩)).mono fun e w' hq => rc_fin (fun x => { m with po := x }) (fun _ => s) h hM hMs hn hbn hcn hbc hTb hb2 (rdF_mo m bs) (fun v x W hv => by rw [hv.1]; exact set_po m s x) (fun W v x _ _ hm => ⟨hm.cp, hm.ps, hm.ed, hm.fr, hm.hs⟩) hq
  · exact (readB_any b 33 g1 g3 _ _ _ hs0 ⟨⟨_, c33⟩, mb_free hM _⟩ hbc q1.1 q3.1 hbw q1.2 q3.2 (entO .fr) (entR .fr) (fun w => of_any .fr b w) (cframe_any hD)).mono fun e w' hq => rc_fin (fun x => { m with fr := x }) (fun v => { s with fr := v }) h hM hMs hn hbn hcn hbc hTb hb2 rfl (fun v x W hv => set_fr m s x v) (fun W v x hs hv hm => ⟨hm.cp, hm.ps, hm.ed, SlC.carry hv (mono W hs), hm.hs⟩) hq
  · exact (readH_any b 34 g1 g3 _ _ _ hs0 ⟨⟨_, c34⟩, mb_free hM _⟩ hbc q1.1 q3.1 hbw q1.2 q3.2 (entO .hs) (entR .hs) (fun w => of_any .hs b w) (chelds_el hD)).mono fun e w' hq => rc_fin (fun x => { m with hs := x }) (fun v => { s with hs := v }) h hM hMs hn hbn hcn hbc hTb hb2 rfl (fun v x W hv => set_hs m s x v) (fun W v x hs hv hm => ⟨hm.cp, hm.ps, hm.ed, hm.fr, Hds.carry (mono W hs) hv⟩) hq
  · exact (readO_any b 29 g1 g3 _ _ _ hs0 ⟨⟨_, c29⟩, mb_free hM _⟩ hbc q1.1 q3.1 hbw q1.2 q3.2 (entO .up) (entR .up) (fun w => of_any .up b w) (cup_any hD)).mono fun e w' hq => rc_fin (fun x => { m with up := x }) (fun _ => s) h hM hMs hn hbn hcn hbc hTb hb2 (rdF_up m bs) (fun v x W hv => by rw [show v = .bool x from hv]; exact set_up m s x) (fun W v x _ _ hm => ⟨hm.cp, hm.ps, hm.ed, hm.fr, hm.hs⟩) hq
  · exact (readU_any b 35 g1 g3 _ _ _ hs0 ⟨⟨_, c35⟩, mb_free hM _⟩ hbc q1.1 q3.1 hbw q1.2 q3.2 (entO .co) (entR .co) (fun w => of_any .co b w) (cshort_el hD)).mono fun e w' hq => rc_fin (fun x => { m with co := x }) (fun _ => s) h hM hMs hn hbn hcn hbc hTb hb2 rfl (fun v x W hv => by rw [hv.1]; exact set_co m s x) (fun W v x _ _ hm => ⟨hm.cp, hm.ps, hm.ed, hm.fr, hm.hs⟩) hq
end
end Go.Proofs.YtllbbbfkdgjffaaGreatDoor
