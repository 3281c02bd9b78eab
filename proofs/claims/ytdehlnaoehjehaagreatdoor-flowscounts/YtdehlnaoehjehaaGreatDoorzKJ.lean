/-
  Proved here: modify of package flows. Conditions: the widths' table holds its numbers; numbers are of their width; fewer than 2 to 31 Cookies gone.
-/
import Derived.Test.YtdehlnaoehjehaaGreatDoorzKI
namespace Go.Proofs.YtdehlnaoehjehaaGreatDoor
set_option maxRecDepth 100000
open Go.RowKit Go.Maps

structure Hm2 (b : Nat) (m : Nat → Int) (w : World) : Prop where
  rm : w.rangeAt b 1 (row 22 m).toList
structure Hm6 (p b : Nat) (x y : Int) (w : World) : Prop where
  c1 : w.cell? ⟨p, 27, none⟩ = some (.int .u64 x)
  c2 : w.cell? ⟨b, 24, none⟩ = some (.int .u64 y)
structure Hm9 (b : Nat) (u : Value) (y : Int) (w : World) : Prop where
  c3 : w.cell? ⟨b, 23, none⟩ = some u
  c4 : w.cell? ⟨b, 24, none⟩ = some (.int .u64 y)
theorem Hm9.set {b p k : Nat} {u : Value} {y : Int} {w : World} (h : Hm9 b u y w) (v : Value) (hne : b ≠ p) : Hm9 b u y (w.setCell ⟨p, k, none⟩ v) := ⟨(cell_same (heap_setCell_other w ⟨p, k, none⟩ b v hne)).trans h.c3, (cell_same (heap_setCell_other w ⟨p, k, none⟩ b v hne)).trans h.c4⟩
theorem Hm9.of {b : Nat} {r : Rl} {u : Value} {w : World} (h : w.heap[b]? = some (.cells (rlc r u) 35 (0, 0))) : Hm9 b u r.ck w := ⟨by rw [cell_of_row _ _ _ _ _ _ h]; exact (rc_cp _ _ _ _).1, by rw [cell_of_row _ _ _ _ _ _ h]; exact (rc_cp _ _ _ _).2⟩
/-- Where modify is, i rules being done. -/
structure Mdf (S1 : Nat → Prop) (o1 : Nat → Fg) (w2 : World) (b g : Nat) (room ad : Int) (es : List Fe) (gs : List Ge) (l : List Fe) (r : Rl) (u : Value) (i : Nat) (wr : World) : Prop where
  only : Only S1 w2 wr
  st : ∃ o gs', (∀ k, k < w2.heap.size → o k = o1 k) ∧ FlO S1 o wr g room ad (mdL es (l.take i) r u) gs' ∧ gfn gs' = mgL r (gfn gs) (l.take i) ∧ gs'.length ≤ gs.length + i ∧ Cps (fun k => (S1 k ∧ o k = .cop) ∧ k < w2.heap.size) wr u r.cp
/-- What modify leaves. -/
def MoP (S : Nat → Prop) (w : World) (g : Nat) (room ad : Int) (es : List Fe) (gs : List Ge) (r : Rl) (e : Ending) (w' : World) : Prop :=
  ∃ (ds : List Fe) (u : Value) (gs' : List Ge), ds.Perm es ∧ (ds.Pairwise fun a b => ltE b a = false) ∧ e = .returned (.int .i64 ((ds.filter fun e => und e.r.mt r.mt).length : Nat)) ∧ Only S w w' ∧ Fl S w' g room ad (mdL es (ds.filter fun e => und e.r.mt r.mt) r u) gs' ∧ gfn gs' = mgL r (gfn gs) (ds.filter fun e => und e.r.mt r.mt) ∧ gs'.length ≤ gs.length + es.length
/-- One rule more is done: x0 is the rule ahead of it, its counts being right. -/
theorem Mdf.next {S1 : Nat → Prop} {o1 o : Nat → Fg} {w2 wa wb wf : World} {b g : Nat} {room ad : Int} {es esi : List Fe} {gs gs' : List Ge} {l : List Fe} {r : Rl} {u : Value} {i : Nat} (hi : i < l.length) (hO : Only S1 w2 wa) (ho : ∀ k, k < w2.heap.size → o k = o1 k) (hF : FlO S1 o wa g room ad esi gs') (hes : esi = mdL es (l.take i) r u) (hg : gfn gs' = mdG r (mgL r (gfn gs) (l.take i)) l[i]) (hl : gs'.length ≤ gs.length + (i + 1)) (hcp : Cps (fun k => (S1 k ∧ o k = .cop) ∧ k < w2.heap.size) wa u r.cp)
    (hx : l[i] ∈ esi) (hr : r.Fit) (hT : Tch wa l[i].p wb) (hc : wb.heap[l[i].p]? = some (.cells (fec { l[i] with pk := (mdE r u l[i]).pk, bt := (mdE r u l[i]).bt }) 104 (0, 0))) (hwf : wf = (wb.drew.setCell ⟨l[i].p, 26, none⟩ u).setCell ⟨l[i].p, 27, none⟩ (.int .u64 r.ck)) (hf : Fresh S1 wa) : Mdf S1 o1 w2 b g room ad es gs l r u (i + 1) wf := by
  have hF' := hF
  obtain ⟨vm, br, bp, bg, Gr, Gp, Gg, h1, h2⟩ := hF'
  have hxe := h1.ent _ hx
  obtain ⟨hfit, -, hpk, hbt⟩ := h2.fit _ hx
  have e1 := heap_setCell_same wb.drew l[i].p 26 _ _ u hc
  have e2 := heap_setCell_same _ l[i].p 27 _ _ (.int .u64 r.ck) e1
  rw [fec_md _ u r.cp r.ck] at e2
  have hT2 : Tch wa l[i].p wf := by
    refine ⟨by rw [hwf]; exact hT.os, by rw [hwf]; exact hT.tape, by rw [hwf]; exact hT.output, by rw [hwf]; simpa using hT.size, fun k hk hne => ?_⟩
    rw [hwf, heap_setCell_other _ ⟨l[i].p, 27, none⟩ k _ hne, heap_setCell_other _ ⟨l[i].p, 26, none⟩ k _ hne]
    exact hT.block k hk hne
  have hcell : wf.heap[l[i].p]? = some (.cells (fec (mdE r u l[i])) 104 (0, 0)) := by rw [hwf]; exact e2
  have hcp2 : Cps (fun k => (S1 k ∧ o k = .cop) ∧ k < w2.heap.size) wf u r.cp := Cps.carry (fun k hk hS => ⟨hS, hT2.block k hk fun e => by have h5 := hxe.t; rw [← e, hS.1.2] at h5; cases h5⟩) hcp
  refine ⟨hO.trans (hT2.only hf hxe.s), o, gs', ho, ?_, by rw [take_next hi, mgL_snoc]; exact hg, hl, hcp2⟩
  rw [take_next hi, mdL_snoc, ← hes]
  refine hF.upd hx rfl rfl rfl rfl ⟨⟨hfit.rk, hfit.mt, hr.ck, hr.sm⟩, ?_, ?_⟩ hT2 hcell (Cps.carry (fun k hk hS => ⟨hS.1, rfl⟩) hcp2)
  · show InB (if l[i].r.ck = r.ck then l[i].pk else 0)
    split
    · exact hpk
    · exact inB0
  · show InB (if l[i].r.ck = r.ck then l[i].bt else 0)
    split
    · exact hbt
    · exact inB0
set_option maxHeartbeats 6400000 in
set_option maxRecDepth 100000 in
theorem modify_any {S T : Nat → Prop} (w : World) (g : Nat) (room ad : Int) (es : List Fe) (gs : List Ge) (h : Fl S w g room ad es gs) (hf : Fresh S w) (ht : Tab w) (r : Rl) (u : Value) (hr : r.Fit) (hgl : gs.length < 2147480000) (hu : Cps T w u r.cp) (hT : ∀ b, T b → b < w.heap.size ∧ ¬ S b) :
    Calls Tryz.prog 43 #[pv g, .agg (rlc r u)] w (MoP S w g room ad es gs r) := by
  obtain ⟨o, h⟩ := h
  obtain ⟨W0, hW0⟩ : ∃ W0, W0 = w.alloc (.cells (rlc r u) 35) := ⟨_, rfl⟩
  have hB0 : Below w.heap.size w W0 := by rw [hW0]; exact (Below.refl _ _).alloc (Nat.le_refl _) _
  have hs0 : W0.heap.size = w.heap.size + 1 := by rw [hW0]; simp
  have hX0 : W0.heap[w.heap.size]? = some (.cells (rlc r u) 35 (0, 0)) := by rw [hW0]; exact heap_alloc_new _ _
  have HFr := hid (fresh_any W0 r u (Cps.carry (fun b hb hS => ⟨hS, hB0.block b hb⟩) hu) (fun b hb => by have := (hT b hb).1; omega) hr.sm)
  have HR0 := hid (row_range hX0)
  have HNum := hid (Fl.inv ⟨o, h⟩).1
  have hlen1 : es.length ≤ 1024 := by obtain ⟨-, -, hrm, hln, -⟩ := Fl.inv ⟨o, h⟩; omega
  -- behind fresh: the box holds the new copies
  have H1 : Hid (∀ w1 u', Below W0.heap.size W0 w1 → Cps (fun b => W0.heap.size ≤ b) w1 u' r.cp → w1.heap[w.heap.size]? = some (.cells (rlc r u) 35 (0, 0)) ∧ u'.oneCell' = true ∧
      ∃ W1, W1 = w1.setRow w.heap.size (rlc r u') ∧ Hm2 w.heap.size r.mt W1.drew ∧ Calls Tryz.prog 45 #[pv g, mv r.mt] W1.drew fun e w2 => (∃ v, e = .returned v) ∧ Hm2 w.heap.size r.mt w2 ∧ ∃ (v : Value) (ds : List Fe), e = .returned v ∧ ds.Perm es ∧ (ds.Pairwise fun a b => ltE b a = false) ∧ ∃ (S1 : Nat → Prop) (o1 : Nat → Fg), (∀ b, S1 b → S b) ∧ Fresh S1 w2 ∧ ¬ S1 w.heap.size ∧ Only S w w2 ∧ w2.heap[w.heap.size]? = some (.cells (rlc r u') 35 (0, 0)) ∧ (∃ R : Nat → Prop, (∀ b, R b → ¬ S1 b) ∧ Rw R 1 96 w2 v (ds.filter fun e => und e.r.mt r.mt).length (eps (ds.filter fun e => und e.r.mt r.mt))) ∧ Mdf S1 o1 w2 w.heap.size g room ad es gs (ds.filter fun e => und e.r.mt r.mt) r u' 0 w2) := fun w1 u' hb1 hC => by
    have hx1 : w1.heap[w.heap.size]? = some (.cells (rlc r u) 35 (0, 0)) := (hb1.block _ (by omega)).trans hX0
    obtain ⟨W1, hW1⟩ : ∃ W1, W1 = w1.setRow w.heap.size (rlc r u') := ⟨_, rfl⟩
    have hx2 : W1.heap[w.heap.size]? = some (.cells (rlc r u') 35 (0, 0)) := by rw [hW1]; exact setRow_heap w1 _ _ _ _ _ hx1
    have oth : ∀ b, b ≠ w.heap.size → W1.heap[b]? = w1.heap[b]? := fun b hb => by rw [hW1]; exact setRow_other w1 _ b _ hb
    have hB1 : Below w.heap.size w w1 := hB0.trans (hb1.mono hB0.size)
    have hBW : Below w.heap.size w W1 := by rw [hW1]; exact below_setRow hB1 (Nat.le_refl _) _
    have hsW : W1.heap.size = w1.heap.size := by rw [hW1]; simp [World.setRow]
    have hs1 := hb1.size
    have hrm : W1.rangeAt w.heap.size 1 (row 22 r.mt).toList := range_of fun i hi => by
      rw [row_size] at hi
      rw [cell_of_row _ _ _ _ _ _ hx2, row_at 22 _ _ hi]; exact rc_mat _ _ _ _ _ hi
    have hFW : Fl S W1.drew g room ad es gs := (Fl.on ⟨o, h⟩ hBW).carry fun b _ hS => ⟨hS, rfl⟩
    refine ⟨hx1, Lst.oneC hC, W1, hW1, ⟨hrm⟩, ?_⟩
    have hFW' := hFW
    obtain ⟨oW, vm, br, bp, bg, Gr, Gp, Gg, k1, k2⟩ := hFW'
    refine (sunder_any W1.drew g vm br bp bg Gr Gp Gg room es gs ad k1 k2 r.mt (ht.on hBW.drew)).mono ?_
    rintro e w2 ⟨v, ds, rfl, hp, hso, hb2, hR⟩
    have hb2' : Below W1.heap.size W1 w2 := ⟨hb2.os, hb2.tape, hb2.output, hb2.size, hb2.block⟩
    have hBw : Below w.heap.size w w2 := hBW.trans (hb2'.mono hBW.size)
    have hs2 : w1.heap.size ≤ w2.heap.size := by rw [← hsW]; exact hb2'.size
    obtain ⟨S1, hS1⟩ : ∃ S1 : Nat → Prop, ∀ b, S1 b ↔ S b ∧ b ≠ w.heap.size ∧ ¬ (w1.heap.size ≤ b ∧ b < w2.heap.size) := ⟨fun b => S b ∧ b ≠ w.heap.size ∧ ¬ (w1.heap.size ≤ b ∧ b < w2.heap.size), fun _ => Iff.rfl⟩
    obtain ⟨o1, ho1⟩ : ∃ o1 : Nat → Fg, ∀ b, o1 b = if b < w.heap.size then o b else .cop := ⟨fun b => if b < w.heap.size then o b else .cop, fun _ => rfl⟩
    have hxw2 : w2.heap[w.heap.size]? = some (.cells (rlc r u') 35 (0, 0)) := (hb2'.block _ (by omega)).trans hx2
    have hrm2 : w2.rangeAt w.heap.size 1 (row 22 r.mt).toList := range_on hrm hb2'
    refine ⟨⟨v, rfl⟩, ⟨hrm2⟩, v, ds, rfl, hp, hso, S1, o1, fun b hb => ((hS1 b).1 hb).1, fun k hk => (hS1 k).2 ⟨hf k (by have := hBw.size; omega), by have := hBw.size; omega, by omega⟩, fun hS => ((hS1 _).1 hS).2.1 rfl, Only.of hBw hf, hxw2, ⟨fun b => w1.heap.size ≤ b ∧ b < w2.heap.size, fun b hb hS => ((hS1 b).1 hS).2.2 hb, hR.carry fun b hb' hS => ⟨⟨by show w1.heap.size ≤ b; rw [← hsW]; exact hS, hb'⟩, rfl⟩⟩, Only.refl _ _, o1, gs, fun _ _ => rfl, ?_, by simp [mgL], by omega, ?_⟩
    · obtain ⟨vm, br, bp, bg, Gr, Gp, Gg, q1, q2⟩ := h
      exact ⟨vm, br, bp, bg, Gr, Gp, Gg, q1.carry fun b hb hS => ⟨(hS1 b).2 ⟨hS, by omega, by omega⟩, by rw [ho1, if_pos hb], hBw.block b hb⟩, q2⟩
    · refine Cps.carry (fun b hb hS => ⟨⟨⟨(hS1 b).2 ⟨hf b (by omega), by omega, by omega⟩, by rw [ho1, if_neg (by omega)]⟩, by omega⟩, ?_⟩) hC
      rw [hb2'.block b (by omega), oth b (by omega)]
  have HW0 := hid hW0
  have HRt := hid hr
  have HG := hid hgl
  clear h hf ht hr hu hT hB0 hs0 hX0 hW0 hgl
  go_enter Tryz.func43, Tryz.ntmps43
  go_upto_region 1 with fail
  rw [← HW0.out]
  clear HW0
  go_upto_region 2 with (first
    | (refine ldMid 35 (.tmp 3) rfl rfl w.heap.size 0 rfl (rlc r u) _ Tryz.underlying35 rfl (size_rl r u) HR0.out ?_)
    | (go_at_call 37; refine (HFr.out).mono ?_; rintro e w1 ⟨u', rfl, hb1, hC⟩; obtain ⟨z1, z2, W1, z3, z4, z5⟩ := H1.out w1 u' hb1 hC; have HZ1 := hid z1; have HZ2 := hid z2; have HZ3 := hid z3; have HZ4 := hid z4; have HZ5 := hid z5; clear z1 z2 z3 z4 z5 hb1 HFr H1)
    | (refine stRow 35 (.tmp 3) (.tmp 9) rfl rfl w.heap.size (rlc r u') rfl rfl 35 (rlc r u) HZ1.out (size_rl r u') (by rw [rc_size, rc_size]) (rc_one HZ2.out) ?_; rw [← HZ3.out]))
  refine wp_region_held_drew (S := Hm2 w.heap.size r.mt) (by kernel_rfl) HZ4.out (fun hHeld => ?_)
  refine wpAnyH_take (i := 0) (v := ?_) rfl (by kernel_rfl) (by kernel_rfl) (by kernel_rfl) (fun _ _ _ h => h) (Or.inl ⟨by rfl, ?_⟩) hHeld ?_
  rotate_left
  · intro w' hSw
    clear hSw
    go_simp
    first | done | with_reducible rfl
  simp only [Act.put, List.getElem_toArray, List.getElem_cons_zero, List.setIfInBounds_toArray, List.set_cons_zero, List.set_cons_succ]
  refine wpAnyH_take (i := 1) (v := ?_) rfl (by kernel_rfl) (by kernel_rfl) (by kernel_rfl) (fun _ _ _ h => h) (Or.inl ⟨by rfl, ?_⟩) hHeld ?_
  rotate_left
  · intro w' hSw
    clear hSw
    go_simp
    first | done | with_reducible rfl
  simp only [Act.put, List.getElem_toArray, List.getElem_cons_succ, List.getElem_cons_zero, List.setIfInBounds_toArray, List.set_cons_zero, List.set_cons_succ]
  refine wpAnyH_take (i := 2) (v := ?_) rfl (by kernel_rfl) (by kernel_rfl) (by kernel_rfl) (fun _ _ _ h => h) (Or.inl ⟨by rfl, ?_⟩) hHeld ?_
  rotate_left
  · intro w' hSw
    clear hSw
    go_simp
    first | done | with_reducible rfl
  simp only [Act.put, List.getElem_toArray, List.getElem_cons_succ, List.getElem_cons_zero, List.setIfInBounds_toArray, List.set_cons_zero, List.set_cons_succ]
  refine wpAnyH_take (i := 3) (v := ?_) rfl (by kernel_rfl) (by kernel_rfl) (by kernel_rfl) (fun _ _ _ h => h) (Or.inl ⟨by rfl, ?_⟩) hHeld ?_
  rotate_left
  · intro w' hSw
    clear hSw
    go_simp
    first | done | with_reducible rfl
  simp only [Act.put, List.getElem_toArray, List.getElem_cons_succ, List.getElem_cons_zero, List.setIfInBounds_toArray, List.set_cons_zero, List.set_cons_succ]
  refine wpAnyH_take (i := 4) (v := mv r.mt) rfl (by kernel_rfl) (by kernel_rfl) (by kernel_rfl) (fun _ _ _ h => h) (Or.inl ⟨by rfl, ?_⟩) hHeld ?_
  · intro w' hSw
    exact runLd 32 (.tmp 13) rfl w.heap.size 1 rfl (row 22 r.mt) _ hSw.rm Tryz.underlying32 rfl (size26 r.mt)
  simp only [Act.put, List.getElem_toArray, List.getElem_cons_succ, List.getElem_cons_zero, List.setIfInBounds_toArray, List.set_cons_zero, List.set_cons_succ]
  refine wpAnyH_ready (rs := [5]) (by kernel_rfl) (by simp) ?_
  refine AllReadyH.cons rfl (fun K hK => ?_) AllReadyH.nil
  refine stepFnW 45 (.func 45) [.tmp 12, .tmp 14] _ [pv g, mv r.mt] rfl rfl rfl rfl (fun _ => rfl) _ HZ5.out ?_
  rintro e w2 ⟨⟨v0, rfl⟩, y1, v, ds, hv, hp, hso, S1, o1, s1, s2, s3, s4, s5, ⟨R, s6, s7⟩, s8⟩
  obtain rfl : v0 = v := by simpa using hv
  refine Or.inl ⟨_, rfl, ?_⟩
  obtain ⟨ao, cap, rfl⟩ := s7.form
  refine hK.out _ _ y1 (fun hHeld => ?_)
  clear hK K
  simp only [Act.put, List.getElem_toArray, List.getElem_cons_succ, List.getElem_cons_zero, List.setIfInBounds_toArray, List.set_cons_zero, List.set_cons_succ]
  refine wpAnyH_take (i := 6) (v := ?_) rfl (by kernel_rfl) (by kernel_rfl) (by kernel_rfl) (fun _ _ _ h => h) (Or.inl ⟨by rfl, ?_⟩) hHeld ?_
  rotate_left
  · intro w' hSw
    clear hSw
    go_simp
    first | done | with_reducible rfl
  simp only [Act.put, List.getElem_toArray, List.getElem_cons_succ, List.getElem_cons_zero, List.setIfInBounds_toArray, List.set_cons_zero, List.set_cons_succ]
  refine wpAnyH_done (by kernel_rfl) ?_ _
  obtain ⟨l, hl⟩ : ∃ l, l = ds.filter fun e => und e.r.mt r.mt := ⟨_, rfl⟩
  rw [← hl] at s7 s8 ⊢
  have hld : l.Pairwise fun a b => a.k ≠ b.k := by
    rw [hl]
    refine List.Pairwise.filter _ ((hp.pairwise_iff (fun {a b} h => Ne.symm h)).2 (HNum.out.imp fun {a b} h e => ?_))
    rw [e] at h; omega
  have hlm : ∀ x ∈ l, x ∈ es := fun x hx => by rw [hl] at hx; exact hp.subset (List.mem_filter.1 hx).1
  have hll : l.length ≤ es.length := by rw [hl, ← hp.length_eq]; exact List.length_filter_le _ _
  have HS := hid (And.intro s1 (And.intro s2 (And.intro s3 (And.intro s4 (And.intro s5 (And.intro s6 (And.intro s7 (And.intro hld (And.intro hlm (And.intro hp (And.intro hso hl)))))))))))
  have HM0 := hid s8
  obtain ⟨au, cu, hau⟩ : ∃ au cu, u' = .slice au r.cp.length cu := by
    obtain ⟨_, gs0, _, _, _, _, hc0⟩ := s8.st
    obtain ⟨au, cu, e1, -⟩ := hc0.form
    exact ⟨au, cu, e1⟩
  subst hau
  have hlen : (l.length : Int) ≤ 1024 := by omega
  clear s1 s2 s3 s4 s5 s6 s7 s8 hld hlm hp hso y1 hv hl hC HZ5 HZ4 HZ3 HZ2 HZ1
  go_upto_region 4 with fail
  go_loopw [18] (fun i wr => ∃ k : Nat, k ≤ l.length ∧ i = .int .i64 k ∧ Mdf S1 o1 w2 w.heap.size g room ad es gs l r (.slice au r.cp.length cu) k wr) (fun i _ => l.length - (intOf i).toNat)
  case atStart => exact ⟨0, by omega, rfl, HM0.out⟩
  case round =>
    obtain ⟨k, hk, rfl, hrel⟩ := hrel
    generalize wr = wx at *
    have HV := hid hrel
    clear hrel HM0
    by_cases hlt : k < l.length
    · obtain ⟨s1, s2, s3, s4, s5, s6, s7, hld, hlm, hp, hso, hl⟩ := HS.out
      obtain ⟨ox, gsx, m1, m2, m3, m4, m5⟩ := HV.out.st
      have hO := HV.out.only
      obtain ⟨x, hx⟩ : ∃ x, x = l[k] := ⟨_, rfl⟩
      have hxl : x ∈ l := hx ▸ List.getElem_mem hlt
      rcases s7 with ⟨hxx, ⟨_, hz0⟩ | ⟨gl, oo, cap', cur, he, hb1, hb2, hb3, hb4, hb5⟩⟩
      · omega
      obtain ⟨rfl, rfl⟩ : ao = some ⟨gl, oo, none⟩ ∧ cap = cap' := by simpa using he
      have hgx : wx.heap[gl]? = some (.cells cur 96 (0, 0)) := (hO.block gl (s6 gl hb1)).trans hb2
      have d0 : wx.cell? ⟨gl, oo + k, none⟩ = some (pv x.p) := by
        rw [cell_of_row _ _ _ _ _ _ hgx]
        have := cells_at hb5 (j := k) (by omega)
        rw [eps_at l k hlt, ← hx] at this
        exact this
      have hbx : wx.heap[w.heap.size]? = some (.cells (rlc r (.slice au r.cp.length cu)) 35 (0, 0)) := (hO.block _ s3).trans s5
      have hxm : x ∈ mdL es (l.take k) r (.slice au r.cp.length cu) := mdL_mem (hlm x hxl) fun y hy e => by
        obtain ⟨j, hj, rfl⟩ := List.getElem_of_mem hy
        rw [List.length_take] at hj
        rw [List.getElem_take] at e
        have := List.pairwise_iff_getElem.1 hld j k (by omega) hlt (by omega)
        rw [← hx] at this
        exact this e
      have m2' := m2
      obtain ⟨vm, br, bp, bg, Gr, Gp, Gg, k1, k2⟩ := m2'
      have hxe := k1.ent x hxm
      have hxb : w.heap.size ≠ x.p := fun e => s3 (e ▸ hxe.s)
      have hfx : Fresh S1 wx := s2.on hO.size
      have HM6 : Hid (Hm6 x.p w.heap.size x.r.ck r.ck wx.drew) := ⟨by show wx.cell? _ = _; rw [cell_of_row _ _ _ _ _ _ hxe.h]; exact fec_ck x, (Hm9.of hbx).c4⟩
      have Hd0 := hid d0
      have HX := hid hx
      by_cases hck : x.r.ck = r.ck
      · have hne : (x.r.ck != r.ck) = false := by rw [hck]; simp
        have HM9 : Hid (Hm9 w.heap.size (.slice au r.cp.length cu) r.ck wx.drew.drew) := ⟨(Hm9.of hbx).c3, (Hm9.of hbx).c4⟩
        obtain ⟨c26, h26⟩ := fec_cell x 26 (by omega)
        have HC26 : Hid (wx.drew.drew.cell? ⟨x.p, 26, none⟩ = some c26 ∧ wx.drew.drew.frozen? ⟨x.p, 26, none⟩ = false) := ⟨by show wx.cell? _ = _; rw [cell_of_row _ _ _ _ _ _ hxe.h]; exact h26, by show wx.frozen? _ = _; simp [World.frozen?, hxe.h]⟩
        have e1 := heap_setCell_same wx.drew.drew x.p 26 _ _ (.slice au r.cp.length cu) hxe.h
        have HC27 : Hid ((wx.drew.drew.setCell ⟨x.p, 26, none⟩ (.slice au r.cp.length cu)).cell? ⟨x.p, 27, none⟩ = some (.int .u64 x.r.ck) ∧ (wx.drew.drew.setCell ⟨x.p, 26, none⟩ (.slice au r.cp.length cu)).frozen? ⟨x.p, 27, none⟩ = false) := ⟨by rw [cell_of_row _ _ _ _ _ _ e1, Array.getElem?_setIfInBounds, if_neg (by omega)]; exact fec_ck x, by simp [World.frozen?, e1]⟩
        have HN : Hid (Mdf S1 o1 w2 w.heap.size g room ad es gs l r (.slice au r.cp.length cu) (k + 1) ((wx.drew.drew.setCell ⟨x.p, 26, none⟩ (.slice au r.cp.length cu)).setCell ⟨x.p, 27, none⟩ (.int .u64 r.ck))) := by
          rw [hx] at hxm hck
          refine Mdf.next (wa := wx) (wb := wx.drew) hlt hO m1 m2 rfl (by unfold mdG; rw [if_pos hck]; exact m3) (by omega) m5 hxm HRt.out ⟨rfl, rfl, rfl, Nat.le_refl _, fun _ _ _ => rfl⟩ ?_ (by rw [hx]) hfx
          show wx.heap[l[k].p]? = some (.cells (fec { l[k] with pk := if l[k].r.ck = r.ck then l[k].pk else 0, bt := if l[k].r.ck = r.ck then l[k].bt else 0 }) 104 (0, 0))
          rw [if_pos hck, if_pos hck, ← hx]; exact hxe.h
        clear m1 m2 m3 m4 m5 hO k1 k2 hxe hfx hbx hgx hb1 hb2 hb3 hb4 hb5 hxx he s1 s2 s3 s4 s5 s6 hld hlm hp hso hl hxl hxm hx e1 h26 HV HX
        go_upto_region 6 with fail
        refine wp_region_held_drew (S := Hm6 x.p w.heap.size x.r.ck r.ck) (by kernel_rfl) HM6.out (fun hHeld => ?_)
        refine wpAnyH_take (i := 0) (v := ?_) rfl (by kernel_rfl) (by kernel_rfl) (by kernel_rfl) (fun _ _ _ h => h) (Or.inl ⟨by rfl, ?_⟩) hHeld ?_
        rotate_left
        · intro w' hSw
          clear hSw
          go_simp
          first | done | with_reducible rfl
        simp only [Act.put, List.getElem_toArray, List.getElem_cons_zero, List.setIfInBounds_toArray, List.set_cons_zero, List.set_cons_succ]
        refine wpAnyH_take (i := 1) (v := ?_) rfl (by kernel_rfl) (by kernel_rfl) (by kernel_rfl) (fun _ _ _ h => h) (Or.inl ⟨by rfl, ?_⟩) hHeld ?_
        rotate_left
        · intro w' hSw
          clear hSw
          go_simp
          first | done | with_reducible rfl
        simp only [Act.put, List.getElem_toArray, List.getElem_cons_succ, List.getElem_cons_zero, List.setIfInBounds_toArray, List.set_cons_zero, List.set_cons_succ]
        refine wpAnyH_take (i := 2) (v := ?_) rfl (by kernel_rfl) (by kernel_rfl) (by kernel_rfl) (fun _ _ _ h => h) (Or.inl ⟨by rfl, ?_⟩) hHeld ?_
        rotate_left
        · intro w' hSw
          clear hSw
          go_simp
          first | done | with_reducible rfl
        simp only [Act.put, List.getElem_toArray, List.getElem_cons_succ, List.getElem_cons_zero, List.setIfInBounds_toArray, List.set_cons_zero, List.set_cons_succ]
        refine wpAnyH_take (i := 3) (v := ?_) rfl (by kernel_rfl) (by kernel_rfl) (by kernel_rfl) (fun _ _ _ h => h) (Or.inl ⟨by rfl, ?_⟩) hHeld ?_
        rotate_left
        · intro w' hSw
          clear hSw
          go_simp
          first | done | with_reducible rfl
        simp only [Act.put, List.getElem_toArray, List.getElem_cons_succ, List.getElem_cons_zero, List.setIfInBounds_toArray, List.set_cons_zero, List.set_cons_succ]
        refine wpAnyH_take (i := 4) (v := ?_) rfl (by kernel_rfl) (by kernel_rfl) (by kernel_rfl) (fun _ _ _ h => h) (Or.inl ⟨by rfl, ?_⟩) hHeld ?_
        rotate_left
        · intro w' hSw
          have c1 := hSw.c1
          clear hSw
          go_simp
          first | done | with_reducible rfl
        simp only [Act.put, List.getElem_toArray, List.getElem_cons_succ, List.getElem_cons_zero, List.setIfInBounds_toArray, List.set_cons_zero, List.set_cons_succ]
        refine wpAnyH_take (i := 5) (v := ?_) rfl (by kernel_rfl) (by kernel_rfl) (by kernel_rfl) (fun _ _ _ h => h) (Or.inl ⟨by rfl, ?_⟩) hHeld ?_
        rotate_left
        · intro w' hSw
          clear hSw
          go_simp
          first | done | with_reducible rfl
        simp only [Act.put, List.getElem_toArray, List.getElem_cons_succ, List.getElem_cons_zero, List.setIfInBounds_toArray, List.set_cons_zero, List.set_cons_succ]
        refine wpAnyH_take (i := 6) (v := ?_) rfl (by kernel_rfl) (by kernel_rfl) (by kernel_rfl) (fun _ _ _ h => h) (Or.inl ⟨by rfl, ?_⟩) hHeld ?_
        rotate_left
        · intro w' hSw
          have c2 := hSw.c2
          clear hSw
          go_simp
          first | done | with_reducible rfl
        simp only [Act.put, List.getElem_toArray, List.getElem_cons_succ, List.getElem_cons_zero, List.setIfInBounds_toArray, List.set_cons_zero, List.set_cons_succ]
        refine wpAnyH_take (i := 7) (v := ?_) rfl (by kernel_rfl) (by kernel_rfl) (by kernel_rfl) (fun _ _ _ h => h) (Or.inl ⟨by rfl, ?_⟩) hHeld ?_
        rotate_left
        · intro w' hSw
          clear hSw
          go_simp
          first | done | with_reducible rfl
        simp only [Act.put, List.getElem_toArray, List.getElem_cons_succ, List.getElem_cons_zero, List.setIfInBounds_toArray, List.set_cons_zero, List.set_cons_succ]
        refine wpAnyH_done (by kernel_rfl) ?_ _
        go_upto_region 9 with fail
        refine wp_region_held_drew (S := Hm9 w.heap.size (.slice au r.cp.length cu) r.ck) (by kernel_rfl) HM9.out (fun hHeld => ?_)
        refine wpAnyH_take (i := 0) (v := ?_) rfl (by kernel_rfl) (by kernel_rfl) (by kernel_rfl) (fun _ _ _ h => h) (Or.inl ⟨by rfl, ?_⟩) hHeld ?_
        rotate_left
        · intro w' hSw
          clear hSw
          go_simp
          first | done | with_reducible rfl
        simp only [Act.put, List.getElem_toArray, List.getElem_cons_zero, List.setIfInBounds_toArray, List.set_cons_zero, List.set_cons_succ]
        refine wpAnyH_take (i := 1) (v := ?_) rfl (by kernel_rfl) (by kernel_rfl) (by kernel_rfl) (fun _ _ _ h => h) (Or.inl ⟨by rfl, ?_⟩) hHeld ?_
        rotate_left
        · intro w' hSw
          clear hSw
          go_simp
          first | done | with_reducible rfl
        simp only [Act.put, List.getElem_toArray, List.getElem_cons_succ, List.getElem_cons_zero, List.setIfInBounds_toArray, List.set_cons_zero, List.set_cons_succ]
        refine wpAnyH_take (i := 2) (v := ?_) rfl (by kernel_rfl) (by kernel_rfl) (by kernel_rfl) (fun _ _ _ h => h) (Or.inl ⟨by rfl, ?_⟩) hHeld ?_
        rotate_left
        · intro w' hSw
          clear hSw
          go_simp
          first | done | with_reducible rfl
        simp only [Act.put, List.getElem_toArray, List.getElem_cons_succ, List.getElem_cons_zero, List.setIfInBounds_toArray, List.set_cons_zero, List.set_cons_succ]
        refine wpAnyH_take (i := 3) (v := ?_) rfl (by kernel_rfl) (by kernel_rfl) (by kernel_rfl) (fun _ _ _ h => h) (Or.inl ⟨by rfl, ?_⟩) hHeld ?_
        rotate_left
        · intro w' hSw
          have c3 := hSw.c3
          clear hSw
          go_simp
          first | done | with_reducible rfl
        simp only [Act.put, List.getElem_toArray, List.getElem_cons_succ, List.getElem_cons_zero, List.setIfInBounds_toArray, List.set_cons_zero, List.set_cons_succ]
        refine wpAnyH_take (i := 4) (v := ?_) rfl (by kernel_rfl) (by kernel_rfl) (by kernel_rfl) (fun _ _ _ h => h) (Or.inl ⟨by rfl, ?_⟩) hHeld ?_
        rotate_left
        · intro w' hSw
          clear hSw
          go_simp
          first | done | with_reducible rfl
        simp only [Act.put, List.getElem_toArray, List.getElem_cons_succ, List.getElem_cons_zero, List.setIfInBounds_toArray, List.set_cons_zero, List.set_cons_succ]
        refine wpAnyH_take (i := 5) (v := ?_) rfl (by kernel_rfl) (by kernel_rfl) (by kernel_rfl) (fun _ _ _ h => h) (Or.inl ⟨by rfl, ?_⟩) hHeld ?_
        rotate_left
        · intro w' hSw
          have c4 := hSw.c4
          clear hSw
          go_simp
          first | done | with_reducible rfl
        simp only [Act.put, List.getElem_toArray, List.getElem_cons_succ, List.getElem_cons_zero, List.setIfInBounds_toArray, List.set_cons_zero, List.set_cons_succ]
        refine wpAnyH_take (i := 6) (v := ?_) rfl (by kernel_rfl) (by kernel_rfl) (by kernel_rfl) (fun _ _ _ h => h) (Or.inl ⟨by rfl, ?_⟩) hHeld ?_
        rotate_left
        · intro w' hSw
          clear hSw
          go_simp
          first | done | with_reducible rfl
        simp only [Act.put, List.getElem_toArray, List.getElem_cons_succ, List.getElem_cons_zero, List.setIfInBounds_toArray, List.set_cons_zero, List.set_cons_succ]
        refine wpAnyH_take (i := 7) (v := ?_) rfl (by kernel_rfl) (by kernel_rfl) (by kernel_rfl) (fun _ _ _ h => h) (Or.inl ⟨by rfl, ?_⟩) hHeld ?_
        rotate_left
        · intro w' hSw
          clear hSw
          go_simp
          first | done | with_reducible rfl
        simp only [Act.put, List.getElem_toArray, List.getElem_cons_succ, List.getElem_cons_zero, List.setIfInBounds_toArray, List.set_cons_zero, List.set_cons_succ]
        refine wpAnyH_take (i := 8) (v := ?_) rfl (by kernel_rfl) (by kernel_rfl) (by kernel_rfl) (fun _ _ _ h => h) (Or.inl ⟨by rfl, ?_⟩) hHeld ?_
        rotate_left
        · intro w' hSw
          clear hSw
          go_simp
          first | done | with_reducible rfl
        simp only [Act.put, List.getElem_toArray, List.getElem_cons_succ, List.getElem_cons_zero, List.setIfInBounds_toArray, List.set_cons_zero, List.set_cons_succ]
        refine wpAnyH_ready (rs := [9]) (by kernel_rfl) (by simp) ?_
        refine AllReadyH.cons rfl (fun K hK => ?_) AllReadyH.nil
        refine stepStC (.tmp 45) (.tmp 40) rfl rfl x.p 26 au r.cp.length cu _ rfl rfl HC26.out.1 HC26.out.2 ?_
        refine hK.out _ _ (HM9.out.set _ hxb) (fun hHeld => ?_)
        clear hK K
        simp only [Act.put, List.getElem_toArray, List.getElem_cons_succ, List.getElem_cons_zero]
        refine wpAnyH_take (i := 10) (v := ?_) rfl (by kernel_rfl) (by kernel_rfl) (by kernel_rfl) (fun _ _ _ h => h) (Or.inl ⟨by rfl, ?_⟩) hHeld ?_
        rotate_left
        · intro w' hSw
          clear hSw
          go_simp
          first | done | with_reducible rfl
        simp only [Act.put, List.getElem_toArray, List.getElem_cons_succ, List.getElem_cons_zero, List.setIfInBounds_toArray, List.set_cons_zero, List.set_cons_succ]
        refine wpAnyH_take (i := 11) (v := ?_) rfl (by kernel_rfl) (by kernel_rfl) (by kernel_rfl) (fun _ _ _ h => h) (Or.inl ⟨by rfl, ?_⟩) hHeld ?_
        rotate_left
        · intro w' hSw
          clear hSw
          go_simp
          first | done | with_reducible rfl
        simp only [Act.put, List.getElem_toArray, List.getElem_cons_succ, List.getElem_cons_zero, List.setIfInBounds_toArray, List.set_cons_zero, List.set_cons_succ]
        refine wpAnyH_take (i := 12) (v := ?_) rfl (by kernel_rfl) (by kernel_rfl) (by kernel_rfl) (fun _ _ _ h => h) (Or.inl ⟨by rfl, ?_⟩) hHeld ?_
        rotate_left
        · intro w' hSw
          clear hSw
          go_simp
          first | done | with_reducible rfl
        simp only [Act.put, List.getElem_toArray, List.getElem_cons_succ, List.getElem_cons_zero, List.setIfInBounds_toArray, List.set_cons_zero, List.set_cons_succ]
        refine wpAnyH_ready (rs := [13]) (by kernel_rfl) (by simp) ?_
        refine AllReadyH.cons rfl (fun K hK => ?_) AllReadyH.nil
        refine stepStU (.tmp 48) (.tmp 42) rfl rfl x.p 27 _ _ rfl rfl HC27.out.1 HC27.out.2 ?_
        refine hK.out _ _ ((HM9.out.set _ hxb).set _ hxb) (fun hHeld => ?_)
        clear hK K
        simp only [Act.put, List.getElem_toArray, List.getElem_cons_succ, List.getElem_cons_zero]
        refine wpAnyH_done (by kernel_rfl) ?_ _
        clear HM6 HM9 HC26 HC27
        go_wp2
        go_roundw
        case rel => exact ⟨k + 1, by omega, by go_num, HN.out⟩
        case measure => simp [intOf]; omega
      · have hne : (x.r.ck != r.ck) = true := by simpa using hck
        have HLo := hid (lose_tag (S := S1) (o := ox) wx.drew g room ad (mdL es (l.take k) r (.slice au r.cp.length cu)) gsx (by
          obtain ⟨vm, br, bp, bg, Gr, Gp, Gg, k1, k2⟩ := m2
          exact ⟨vm, br, bp, bg, Gr, Gp, Gg, k1.carry fun b _ hS => ⟨hS, rfl, rfl⟩, k2⟩) hfx x hxm (by have := HG.out; omega))
        have HN : Hid (∀ w4 o4 gs4, Only S1 wx.drew w4 → ((∀ b, b < wx.drew.heap.size → o4 b = ox b) ∧ ∀ b, b < wx.drew.heap.size → ox b = .cop → w4.heap[b]? = wx.drew.heap[b]?) → FlO S1 o4 w4 g room ad (mdL es (l.take k) r (.slice au r.cp.length cu)) gs4 → gfn gs4 = adG (gfn gsx) x.r.ck x.pk x.bt → gs4.length ≤ gsx.length + 1 →
            (w4.cell? ⟨x.p, 0, none⟩ = some (.int .u64 x.pk) ∧ w4.cell? ⟨x.p, 1, none⟩ = some (.int .u64 x.bt) ∧ ∀ i, w4.frozen? ⟨x.p, i, none⟩ = false) ∧ Hm9 w.heap.size (.slice au r.cp.length cu) r.ck (((w4.setCell ⟨x.p, 0, none⟩ (.int .u64 0)).setCell ⟨x.p, 1, none⟩ (.int .u64 0))).drew ∧ ∃ c26, ((((w4.setCell ⟨x.p, 0, none⟩ (.int .u64 0)).setCell ⟨x.p, 1, none⟩ (.int .u64 0))).drew.cell? ⟨x.p, 26, none⟩ = some c26 ∧ (((w4.setCell ⟨x.p, 0, none⟩ (.int .u64 0)).setCell ⟨x.p, 1, none⟩ (.int .u64 0))).drew.frozen? ⟨x.p, 26, none⟩ = false) ∧
              (((((w4.setCell ⟨x.p, 0, none⟩ (.int .u64 0)).setCell ⟨x.p, 1, none⟩ (.int .u64 0))).drew.setCell ⟨x.p, 26, none⟩ (.slice au r.cp.length cu)).cell? ⟨x.p, 27, none⟩ = some (.int .u64 x.r.ck) ∧ ((((w4.setCell ⟨x.p, 0, none⟩ (.int .u64 0)).setCell ⟨x.p, 1, none⟩ (.int .u64 0))).drew.setCell ⟨x.p, 26, none⟩ (.slice au r.cp.length cu)).frozen? ⟨x.p, 27, none⟩ = false) ∧
              Mdf S1 o1 w2 w.heap.size g room ad es gs l r (.slice au r.cp.length cu) (k + 1) (((((w4.setCell ⟨x.p, 0, none⟩ (.int .u64 0)).setCell ⟨x.p, 1, none⟩ (.int .u64 0))).drew.setCell ⟨x.p, 26, none⟩ (.slice au r.cp.length cu)).setCell ⟨x.p, 27, none⟩ (.int .u64 r.ck))) := fun w4 o4 gs4 q1 q2 q3 q4 q5 => by
          have q3' := q3
          obtain ⟨vm, br, bp, bg, Gr, Gp, Gg, k1, k2⟩ := q3'
          have hE := (k1.ent x hxm).h
          have e1 := heap_setCell_same w4 x.p 0 _ _ (.int .u64 0) hE
          have e2 := heap_setCell_same _ x.p 1 _ _ (.int .u64 0) e1
          rw [fec_two] at e2
          have e3 := heap_setCell_same (((w4.setCell ⟨x.p, 0, none⟩ (.int .u64 0)).setCell ⟨x.p, 1, none⟩ (.int .u64 0))).drew x.p 26 _ _ (.slice au r.cp.length cu) e2
          have oth : ∀ b, b ≠ x.p → (((w4.setCell ⟨x.p, 0, none⟩ (.int .u64 0)).setCell ⟨x.p, 1, none⟩ (.int .u64 0))).heap[b]? = w4.heap[b]? := fun b hb => by rw [heap_setCell_other _ ⟨x.p, 1, none⟩ b _ hb, heap_setCell_other _ ⟨x.p, 0, none⟩ b _ hb]
          have hT : Tch w4 x.p (((w4.setCell ⟨x.p, 0, none⟩ (.int .u64 0)).setCell ⟨x.p, 1, none⟩ (.int .u64 0))) := ⟨rfl, rfl, rfl, by simp, fun b _ hb => oth b hb⟩
          have hb4 : (((w4.setCell ⟨x.p, 0, none⟩ (.int .u64 0)).setCell ⟨x.p, 1, none⟩ (.int .u64 0))).heap[w.heap.size]? = some (.cells (rlc r (.slice au r.cp.length cu)) 35 (0, 0)) := by rw [oth _ hxb, q1.block _ s3]; exact hbx
          obtain ⟨c26, h26⟩ := fec_cell { x with pk := 0, bt := 0 } 26 (by omega)
          have hszw : w2.heap.size ≤ wx.heap.size := hO.size
          refine ⟨⟨by rw [cell_of_row _ _ _ _ _ _ hE]; exact (fec_at x).1, by rw [cell_of_row _ _ _ _ _ _ hE]; exact (fec_at x).2.1, fun i => by simp [World.frozen?, hE]⟩, ⟨(Hm9.of hb4).c3, (Hm9.of hb4).c4⟩, c26, ⟨by show (((w4.setCell ⟨x.p, 0, none⟩ (.int .u64 0)).setCell ⟨x.p, 1, none⟩ (.int .u64 0))).cell? _ = _; rw [cell_of_row _ _ _ _ _ _ e2]; exact h26, by show (((w4.setCell ⟨x.p, 0, none⟩ (.int .u64 0)).setCell ⟨x.p, 1, none⟩ (.int .u64 0))).frozen? _ = _; simp [World.frozen?, e2]⟩, ⟨by rw [cell_of_row _ _ _ _ _ _ e3, Array.getElem?_setIfInBounds, if_neg (by omega)]; exact fec_ck _, by simp [World.frozen?, e3]⟩, ?_⟩
          · rw [hx] at hxm hck q4
            refine Mdf.next (wa := w4) (wb := ((w4.setCell ⟨x.p, 0, none⟩ (.int .u64 0)).setCell ⟨x.p, 1, none⟩ (.int .u64 0))) hlt (hO.drew.trans q1) (fun j hj => (q2.1 j (by show j < wx.heap.size; omega)).trans (m1 j hj)) q3 rfl (by unfold mdG; rw [if_neg hck, q4, m3]) (by omega) (Cps.carry (fun b hb hS => ⟨⟨⟨hS.1.1, by rw [q2.1 b hb]; exact hS.1.2⟩, hS.2⟩, q2.2 b hb hS.1.2⟩) m5) hxm HRt.out (by rw [← hx]; exact hT) ?_ (by rw [hx]) (hfx.on q1.size)
            show (((w4.setCell ⟨x.p, 0, none⟩ (.int .u64 0)).setCell ⟨x.p, 1, none⟩ (.int .u64 0))).heap[l[k].p]? = some (.cells (fec { l[k] with pk := if l[k].r.ck = r.ck then l[k].pk else 0, bt := if l[k].r.ck = r.ck then l[k].bt else 0 }) 104 (0, 0))
            rw [if_neg hck, if_neg hck, ← hx]; exact e2
        clear m1 m2 m3 m4 m5 hO k1 k2 hxe hfx hbx hgx hb1 hb2 hb3 hb4 hb5 hxx he s1 s2 s3 s4 s5 s6 hld hlm hp hso hl hxl hxm hx HV HX
        go_upto_region 6 with fail
        refine wp_region_held_drew (S := Hm6 x.p w.heap.size x.r.ck r.ck) (by kernel_rfl) HM6.out (fun hHeld => ?_)
        refine wpAnyH_take (i := 0) (v := ?_) rfl (by kernel_rfl) (by kernel_rfl) (by kernel_rfl) (fun _ _ _ h => h) (Or.inl ⟨by rfl, ?_⟩) hHeld ?_
        rotate_left
        · intro w' hSw
          clear hSw
          go_simp
          first | done | with_reducible rfl
        simp only [Act.put, List.getElem_toArray, List.getElem_cons_zero, List.setIfInBounds_toArray, List.set_cons_zero, List.set_cons_succ]
        refine wpAnyH_take (i := 1) (v := ?_) rfl (by kernel_rfl) (by kernel_rfl) (by kernel_rfl) (fun _ _ _ h => h) (Or.inl ⟨by rfl, ?_⟩) hHeld ?_
        rotate_left
        · intro w' hSw
          clear hSw
          go_simp
          first | done | with_reducible rfl
        simp only [Act.put, List.getElem_toArray, List.getElem_cons_succ, List.getElem_cons_zero, List.setIfInBounds_toArray, List.set_cons_zero, List.set_cons_succ]
        refine wpAnyH_take (i := 2) (v := ?_) rfl (by kernel_rfl) (by kernel_rfl) (by kernel_rfl) (fun _ _ _ h => h) (Or.inl ⟨by rfl, ?_⟩) hHeld ?_
        rotate_left
        · intro w' hSw
          clear hSw
          go_simp
          first | done | with_reducible rfl
        simp only [Act.put, List.getElem_toArray, List.getElem_cons_succ, List.getElem_cons_zero, List.setIfInBounds_toArray, List.set_cons_zero, List.set_cons_succ]
        refine wpAnyH_take (i := 3) (v := ?_) rfl (by kernel_rfl) (by kernel_rfl) (by kernel_rfl) (fun _ _ _ h => h) (Or.inl ⟨by rfl, ?_⟩) hHeld ?_
        rotate_left
        · intro w' hSw
          clear hSw
          go_simp
          first | done | with_reducible rfl
        simp only [Act.put, List.getElem_toArray, List.getElem_cons_succ, List.getElem_cons_zero, List.setIfInBounds_toArray, List.set_cons_zero, List.set_cons_succ]
        refine wpAnyH_take (i := 4) (v := ?_) rfl (by kernel_rfl) (by kernel_rfl) (by kernel_rfl) (fun _ _ _ h => h) (Or.inl ⟨by rfl, ?_⟩) hHeld ?_
        rotate_left
        · intro w' hSw
          have c1 := hSw.c1
          clear hSw
          go_simp
          first | done | with_reducible rfl
        simp only [Act.put, List.getElem_toArray, List.getElem_cons_succ, List.getElem_cons_zero, List.setIfInBounds_toArray, List.set_cons_zero, List.set_cons_succ]
        refine wpAnyH_take (i := 5) (v := ?_) rfl (by kernel_rfl) (by kernel_rfl) (by kernel_rfl) (fun _ _ _ h => h) (Or.inl ⟨by rfl, ?_⟩) hHeld ?_
        rotate_left
        · intro w' hSw
          clear hSw
          go_simp
          first | done | with_reducible rfl
        simp only [Act.put, List.getElem_toArray, List.getElem_cons_succ, List.getElem_cons_zero, List.setIfInBounds_toArray, List.set_cons_zero, List.set_cons_succ]
        refine wpAnyH_take (i := 6) (v := ?_) rfl (by kernel_rfl) (by kernel_rfl) (by kernel_rfl) (fun _ _ _ h => h) (Or.inl ⟨by rfl, ?_⟩) hHeld ?_
        rotate_left
        · intro w' hSw
          have c2 := hSw.c2
          clear hSw
          go_simp
          first | done | with_reducible rfl
        simp only [Act.put, List.getElem_toArray, List.getElem_cons_succ, List.getElem_cons_zero, List.setIfInBounds_toArray, List.set_cons_zero, List.set_cons_succ]
        refine wpAnyH_take (i := 7) (v := ?_) rfl (by kernel_rfl) (by kernel_rfl) (by kernel_rfl) (fun _ _ _ h => h) (Or.inl ⟨by rfl, ?_⟩) hHeld ?_
        rotate_left
        · intro w' hSw
          clear hSw
          go_simp
          first | done | with_reducible rfl
        simp only [Act.put, List.getElem_toArray, List.getElem_cons_succ, List.getElem_cons_zero, List.setIfInBounds_toArray, List.set_cons_zero, List.set_cons_succ]
        refine wpAnyH_done (by kernel_rfl) ?_ _
        go_upto_region 9 with (first
          | (go_at_call 81; refine (HLo.out).mono ?_; rintro e w4 ⟨rfl, n1, o4, gs4, n2, n3, n4, n5⟩; obtain ⟨⟨j1a, j1b, j1c⟩, j2, c26, j3, j4, j5⟩ := HN.out w4 o4 gs4 n1 n2 n3 n4 n5; have HM9 := hid j2; have HC26 := hid j3; have HC27 := hid j4; have HNN := hid j5; clear n1 n2 n3 n4 n5 j2 j3 j4 j5 HLo HN))
        refine wp_region_held_drew (S := Hm9 w.heap.size (.slice au r.cp.length cu) r.ck) (by kernel_rfl) HM9.out (fun hHeld => ?_)
        refine wpAnyH_take (i := 0) (v := ?_) rfl (by kernel_rfl) (by kernel_rfl) (by kernel_rfl) (fun _ _ _ h => h) (Or.inl ⟨by rfl, ?_⟩) hHeld ?_
        rotate_left
        · intro w' hSw
          clear hSw
          go_simp
          first | done | with_reducible rfl
        simp only [Act.put, List.getElem_toArray, List.getElem_cons_zero, List.setIfInBounds_toArray, List.set_cons_zero, List.set_cons_succ]
        refine wpAnyH_take (i := 1) (v := ?_) rfl (by kernel_rfl) (by kernel_rfl) (by kernel_rfl) (fun _ _ _ h => h) (Or.inl ⟨by rfl, ?_⟩) hHeld ?_
        rotate_left
        · intro w' hSw
          clear hSw
          go_simp
          first | done | with_reducible rfl
        simp only [Act.put, List.getElem_toArray, List.getElem_cons_succ, List.getElem_cons_zero, List.setIfInBounds_toArray, List.set_cons_zero, List.set_cons_succ]
        refine wpAnyH_take (i := 2) (v := ?_) rfl (by kernel_rfl) (by kernel_rfl) (by kernel_rfl) (fun _ _ _ h => h) (Or.inl ⟨by rfl, ?_⟩) hHeld ?_
        rotate_left
        · intro w' hSw
          clear hSw
          go_simp
          first | done | with_reducible rfl
        simp only [Act.put, List.getElem_toArray, List.getElem_cons_succ, List.getElem_cons_zero, List.setIfInBounds_toArray, List.set_cons_zero, List.set_cons_succ]
        refine wpAnyH_take (i := 3) (v := ?_) rfl (by kernel_rfl) (by kernel_rfl) (by kernel_rfl) (fun _ _ _ h => h) (Or.inl ⟨by rfl, ?_⟩) hHeld ?_
        rotate_left
        · intro w' hSw
          have c3 := hSw.c3
          clear hSw
          go_simp
          first | done | with_reducible rfl
        simp only [Act.put, List.getElem_toArray, List.getElem_cons_succ, List.getElem_cons_zero, List.setIfInBounds_toArray, List.set_cons_zero, List.set_cons_succ]
        refine wpAnyH_take (i := 4) (v := ?_) rfl (by kernel_rfl) (by kernel_rfl) (by kernel_rfl) (fun _ _ _ h => h) (Or.inl ⟨by rfl, ?_⟩) hHeld ?_
        rotate_left
        · intro w' hSw
          clear hSw
          go_simp
          first | done | with_reducible rfl
        simp only [Act.put, List.getElem_toArray, List.getElem_cons_succ, List.getElem_cons_zero, List.setIfInBounds_toArray, List.set_cons_zero, List.set_cons_succ]
        refine wpAnyH_take (i := 5) (v := ?_) rfl (by kernel_rfl) (by kernel_rfl) (by kernel_rfl) (fun _ _ _ h => h) (Or.inl ⟨by rfl, ?_⟩) hHeld ?_
        rotate_left
        · intro w' hSw
          have c4 := hSw.c4
          clear hSw
          go_simp
          first | done | with_reducible rfl
        simp only [Act.put, List.getElem_toArray, List.getElem_cons_succ, List.getElem_cons_zero, List.setIfInBounds_toArray, List.set_cons_zero, List.set_cons_succ]
        refine wpAnyH_take (i := 6) (v := ?_) rfl (by kernel_rfl) (by kernel_rfl) (by kernel_rfl) (fun _ _ _ h => h) (Or.inl ⟨by rfl, ?_⟩) hHeld ?_
        rotate_left
        · intro w' hSw
          clear hSw
          go_simp
          first | done | with_reducible rfl
        simp only [Act.put, List.getElem_toArray, List.getElem_cons_succ, List.getElem_cons_zero, List.setIfInBounds_toArray, List.set_cons_zero, List.set_cons_succ]
        refine wpAnyH_take (i := 7) (v := ?_) rfl (by kernel_rfl) (by kernel_rfl) (by kernel_rfl) (fun _ _ _ h => h) (Or.inl ⟨by rfl, ?_⟩) hHeld ?_
        rotate_left
        · intro w' hSw
          clear hSw
          go_simp
          first | done | with_reducible rfl
        simp only [Act.put, List.getElem_toArray, List.getElem_cons_succ, List.getElem_cons_zero, List.setIfInBounds_toArray, List.set_cons_zero, List.set_cons_succ]
        refine wpAnyH_take (i := 8) (v := ?_) rfl (by kernel_rfl) (by kernel_rfl) (by kernel_rfl) (fun _ _ _ h => h) (Or.inl ⟨by rfl, ?_⟩) hHeld ?_
        rotate_left
        · intro w' hSw
          clear hSw
          go_simp
          first | done | with_reducible rfl
        simp only [Act.put, List.getElem_toArray, List.getElem_cons_succ, List.getElem_cons_zero, List.setIfInBounds_toArray, List.set_cons_zero, List.set_cons_succ]
        refine wpAnyH_ready (rs := [9]) (by kernel_rfl) (by simp) ?_
        refine AllReadyH.cons rfl (fun K hK => ?_) AllReadyH.nil
        refine stepStC (.tmp 45) (.tmp 40) rfl rfl x.p 26 au r.cp.length cu _ rfl rfl HC26.out.1 HC26.out.2 ?_
        refine hK.out _ _ (HM9.out.set _ hxb) (fun hHeld => ?_)
        clear hK K
        simp only [Act.put, List.getElem_toArray, List.getElem_cons_succ, List.getElem_cons_zero]
        refine wpAnyH_take (i := 10) (v := ?_) rfl (by kernel_rfl) (by kernel_rfl) (by kernel_rfl) (fun _ _ _ h => h) (Or.inl ⟨by rfl, ?_⟩) hHeld ?_
        rotate_left
        · intro w' hSw
          clear hSw
          go_simp
          first | done | with_reducible rfl
        simp only [Act.put, List.getElem_toArray, List.getElem_cons_succ, List.getElem_cons_zero, List.setIfInBounds_toArray, List.set_cons_zero, List.set_cons_succ]
        refine wpAnyH_take (i := 11) (v := ?_) rfl (by kernel_rfl) (by kernel_rfl) (by kernel_rfl) (fun _ _ _ h => h) (Or.inl ⟨by rfl, ?_⟩) hHeld ?_
        rotate_left
        · intro w' hSw
          clear hSw
          go_simp
          first | done | with_reducible rfl
        simp only [Act.put, List.getElem_toArray, List.getElem_cons_succ, List.getElem_cons_zero, List.setIfInBounds_toArray, List.set_cons_zero, List.set_cons_succ]
        refine wpAnyH_take (i := 12) (v := ?_) rfl (by kernel_rfl) (by kernel_rfl) (by kernel_rfl) (fun _ _ _ h => h) (Or.inl ⟨by rfl, ?_⟩) hHeld ?_
        rotate_left
        · intro w' hSw
          clear hSw
          go_simp
          first | done | with_reducible rfl
        simp only [Act.put, List.getElem_toArray, List.getElem_cons_succ, List.getElem_cons_zero, List.setIfInBounds_toArray, List.set_cons_zero, List.set_cons_succ]
        refine wpAnyH_ready (rs := [13]) (by kernel_rfl) (by simp) ?_
        refine AllReadyH.cons rfl (fun K hK => ?_) AllReadyH.nil
        refine stepStU (.tmp 48) (.tmp 42) rfl rfl x.p 27 _ _ rfl rfl HC27.out.1 HC27.out.2 ?_
        refine hK.out _ _ ((HM9.out.set _ hxb).set _ hxb) (fun hHeld => ?_)
        clear hK K
        simp only [Act.put, List.getElem_toArray, List.getElem_cons_succ, List.getElem_cons_zero]
        refine wpAnyH_done (by kernel_rfl) ?_ _
        clear HM6 HM9 HC26 HC27
        go_wp2
        go_roundw
        case rel => exact ⟨k + 1, by omega, by go_num, HNN.out⟩
        case measure => simp [intOf]; omega
    · obtain rfl : k = l.length := by omega
      obtain ⟨s1, s2, s3, s4, s5, s6, s7, hld, hlm, hp, hso, hl⟩ := HS.out
      have HE : Hid (MoP S w g room ad es gs r (.returned (.int .i64 (l.length : Nat))) wx) := by
        obtain ⟨ox, gsx, m1, m2, m3, m4, m5⟩ := HV.out.st
        rw [List.take_length] at m2 m3
        rw [hl] at m2 m3 m4 ⊢
        rw [← hl] at m4
        refine ⟨ds, (.slice au r.cp.length cu), gsx, hp, hso, rfl, s4.trans (HV.out.only.mono s1), (Fl.carry ⟨ox, m2⟩ fun b _ hS => ⟨s1 b hS, rfl⟩), m3, by omega⟩
      clear s1 s2 s3 s4 s5 s6 s7 hld hlm hp hso hl HV HS
      go_wp2
      go_ret
      exact HE.out
end Go.Proofs.YtdehlnaoehjehaaGreatDoor
