/-
  Proved here: Get, Held and New of the document's cache. Condition: fewer than 2 to 31 places.
-/
import Derived.Test.YtpmdgockiblkaaaRM
namespace Go.Proofs.Ytpmdgockiblkaaa
open Go.RowKit

theorem there_of {w : World} {b t n o : Nat} {cur : Array Value} (h : w.heap[b]? = some (.cells cur t (0, 0))) (hn : o + n ≤ cur.size) : w.there b o n := fun j hj => ⟨by rw [cell_of_row w b _ cur t (0, 0) h, Array.getElem?_eq_getElem (by omega)]; rfl, by simp [World.frozen?, h]⟩
theorem sizeRE (o : Option Et) : (Try.prog.info? 58).map (·.size) = some (rco o).size := by rw [rco_size]; kernel_rfl
theorem runBld0 {o : Oper} {a : Act} {w : World} (ho : o.op = .build 58 #[]) : (execOp a.eval o).run Try.prog w = .ok (.value (.agg (rco none))) w := by
  unfold execOp
  simp only [ho, List.map_toArray, List.map_nil, Sem.run_bind, Sem.run_pure]
  show _ = _
  kernel_rfl
theorem opBld0 {ops : Array Oper} {rest : List Oper} {o : Oper} {a : Act} {w : World} {Q : Exit → Act → World → Prop} (hw : Region.wanted o (yielded ops a.tmps) = true) (ho : o.op = .build 58 #[])
    (h : wpList Try.prog ops Q rest (a.put o.dst (.agg (rco none))) w) : wpList Try.prog ops Q (o :: rest) a w := by
  unfold wpList
  rw [if_pos hw]
  refine Or.inl ?_
  unfold Oper.wp
  rw [runBld0 ho]
  exact h
def RgP (S : Nat → Prop) (w : World) (v : Value) (c : Cs) (h : Hdr) (r : Ending) (w' : World) : Prop := r = .returned (.tuple #[.int .i64 (getI c h), .bool (getB c h)]) ∧ Only S w w' ∧ Rc S w' v (getS c h)
set_option maxHeartbeats 1600000 in
set_option maxRecDepth 100000 in
theorem rget_any {S : Nat → Prop} (w : World) (v : Value) (c : Cs) (h : Hdr) (hC : Rc S w v c) (hf : Fresh S w) (hn : c.es.length < 2147483640) : Calls Try.prog 12 #[v, hv h.f] w (RgP S w v c h) := by
  have HC := hid hC
  obtain ⟨g, bl, cur, rfl, hM⟩ := hC
  obtain ⟨x, hx⟩ : ∃ z, z = h.f := ⟨_, rfl⟩
  obtain ⟨W0, hW0⟩ : ∃ W0, W0 = w.alloc (.cells (row 11 h.f) 30) := ⟨_, rfl⟩
  have hB0 : Below w.heap.size w W0 := by rw [hW0]; exact (Below.refl _ _).alloc (Nat.le_refl _) _
  have hG0 : Blk W0 w.heap.size 11 30 x := by rw [hW0, hx]; exact Blk.new w 11 30 h.f
  have HF : Hid (Calls Try.prog 22 #[pv g, hv x] W0 fun r w' => r = .returned (.int .i64 (fdI c.es h)) ∧ Below w.heap.size w w') := by
    show Calls _ _ _ _ _
    rw [hx]
    exact (rfind_any W0 (pv g) c h (HC.out.on hB0) hn).mono fun r y ⟨a1, a2⟩ => ⟨a1, hB0.trans (a2.mono hB0.size)⟩
  have HW0 := hid hW0
  rw [← hx] at HW0
  rw [← hx]
  have HM := hid hM
  have HFr := hid hf
  clear hW0 hB0 hM hf
  cases hfd : fnd c.es h with
  | none =>
    have e0 : fdI c.es h = -1 := by unfold fdI; rw [hfd]
    rw [e0] at HF
    obtain ⟨g1, g2, g3⟩ := get_none hfd
    have HP : Hid (∀ y, Below w.heap.size w y → RgP S w (pv g) c h (.returned (.tuple #[.int .i64 0, .bool false])) y) := fun y hb => by
      unfold RgP
      rw [g1, g2, g3]
      exact ⟨rfl, Only.of hb HFr.out, HC.out.on hb⟩
    clear hfd e0 g1 g2 g3 hx
    go_enter Try.func12, Try.ntmps12
    go_upto_region 1 with fail
    rw [← HW0.out]
    clear HW0
    go_wp2_with (first
      | (refine ld24 (.tmp 3) rfl _ rfl rfl x hG0 ?_)
      | (go_at_call 22; refine (HF.out).mono ?_; rintro r y1 ⟨rfl, hb1⟩; have HB1 := hid hb1; clear hb1 HF))
    refine bodyPost_ret (results_tmp2 rfl _ _ _) rfl ?_
    exact HP.out y1 HB1.out
  | some i =>
    obtain ⟨e, he, heh⟩ := fnd_some hfd
    have e0 : fdI c.es h = (i : Int) := by unfold fdI; rw [hfd]
    rw [e0] at HF
    obtain ⟨L, hL⟩ : ∃ z, z = c.es.length := ⟨_, rfl⟩
    have hil : i < L := by rw [hL]; exact (List.getElem?_eq_some_iff.1 he).1
    have hneg : ¬ (i : Int) < 0 := by omega
    obtain ⟨eg, heg⟩ : ∃ z, z = e.gen := ⟨_, rfl⟩
    obtain ⟨ei, hei⟩ : ∃ z, z = e.id := ⟨_, rfl⟩
    obtain ⟨now, hnow⟩ : ∃ z, z = c.now := ⟨_, rfl⟩
    have HK : Hid (∀ y, Below w.heap.size w y → y.cell? ⟨g, 0, none⟩ = some (.slice (some ⟨bl, 0, none⟩) L L) ∧ y.cell? ⟨g, 1, none⟩ = some (.int .i64 now) ∧ y.cell? ⟨bl, i * 15 + 13, none⟩ = some (.int .i64 eg) ∧ y.cell? ⟨bl, i * 15 + 12, none⟩ = some (.int .i64 ei) ∧ y.there bl (i * 15) 15 ∧ (∃ m, y.cell? ⟨bl, i * 15 + 14, none⟩ = some (.bool m)) ∧ y.frozen? ⟨bl, i * 15 + 14, none⟩ = false) := fun y hb => by
      have hMy : RcM S y g c bl cur := HM.out.carry fun b hb' hS => ⟨hS, hb.block b hb'⟩
      obtain ⟨b0, b1, b2⟩ := hMy.cells
      obtain ⟨d1, d2, d3, d4, d5⟩ := hMy.at he
      refine ⟨by rw [hL]; exact b0, by rw [hnow]; exact b1, by rw [heg]; exact d4, by rw [hei]; exact d3, there_of hMy.hl (by rw [hMy.sz, ← hL]; omega), ⟨_, d5⟩, (hMy.frz _).2⟩
    cases hbn : (eg != now) with
    | true =>
      have hne : e.gen ≠ c.now := by rw [← heg, ← hnow]; intro e'; rw [e'] at hbn; simp [bne] at hbn
      obtain ⟨g1, g2, g3⟩ := get_old hfd he hne
      have HP : Hid (∀ y, Below w.heap.size w y → RgP S w (pv g) c h (.returned (.tuple #[.int .i64 0, .bool false])) (y.drew.setCells bl (i * 15) (rco none).toList)) := fun y hb => by
        unfold RgP
        rw [g1, g2, g3]
        have hMy : RcM S y.drew g c bl cur := HM.out.carry fun b hb' hS => ⟨hS, hb.block b hb'⟩
        obtain ⟨cur', a1, a2⟩ := hMy.setAll (i := i) (by rw [← hL]; exact hil) none
        exact ⟨rfl, (Only.of hb HFr.out).drew.trans a2, g, bl, cur', rfl, a1⟩
      clear hfd e0 g1 g2 g3 hx he heh hL heg hei hnow hne
      go_enter Try.func12, Try.ntmps12
      go_upto_region 1 with fail
      rw [← HW0.out]
      clear HW0
      go_upto_region 4 with (first
        | (refine ld24 (.tmp 3) rfl _ rfl rfl x hG0 ?_)
        | (go_at_call 22; refine (HF.out).mono ?_; rintro r y1 ⟨rfl, hb1⟩; obtain ⟨z0, z1, z2, z3, z4, ⟨zm, z5⟩, z6⟩ := HK.out y1 hb1; have HB1 := hid (And.intro hb1 z4); clear hb1 HF HK z4))
      go_region
      go_upto_region 5 with fail
      have HTh : Hid (y1.drew.there bl (i * 15) 15) := fun j hj => HB1.out.2 j hj
      go_wp2_with (first
        | (refine opBld0 rfl rfl ?_)
        | (refine stMid 58 (.tmp 31) (.tmp 30) rfl rfl bl (i * 15) (rco none) (by simp [Act.eval]) rfl (by rw [rco_size]; exact HTh.out) (sizeRE none) (rco_one none) ?_))
      refine bodyPost_ret (results_tmp2 rfl _ _ _) rfl ?_
      exact HP.out y1 HB1.out.1
    | false =>
      have heq : e.gen = c.now := by rw [← heg, ← hnow]; simpa [bne] using hbn
      obtain ⟨g1, g2, g3⟩ := get_hit hfd he heq
      have HP : Hid (∀ y, Below w.heap.size w y → RgP S w (pv g) c h (.returned (.tuple #[.int .i64 ei, .bool true])) (y.setCell ⟨bl, i * 15 + 14, none⟩ (.bool true)).drew) := fun y hb => by
        unfold RgP
        rw [g1, g2, g3, hei]
        have hMy : RcM S y g c bl cur := HM.out.carry fun b hb' hS => ⟨hS, hb.block b hb'⟩
        have a1 := hMy.setAt he (some { e with mark := true }) 14 (by omega) (.bool true) (by rw [show 14 = 12 + 2 from rfl, rco_t]; rfl) fun k hk hne => rco_same _ _ k hk (fun _ => rfl) rfl (fun _ => rfl) (fun _ => rfl) (fun h => absurd h hne)
        exact ⟨rfl, ((Only.of hb HFr.out).setCell (p := ⟨bl, i * 15 + 14, none⟩) hMy.sl _).drew, g, bl, _, rfl, a1.carry fun b _ hS => ⟨hS, rfl⟩⟩
      clear hfd e0 g1 g2 g3 hx he heh hL heg hei hnow heq
      go_enter Try.func12, Try.ntmps12
      go_upto_region 1 with fail
      rw [← HW0.out]
      clear HW0
      go_upto_region 4 with (first
        | (refine ld24 (.tmp 3) rfl _ rfl rfl x hG0 ?_)
        | (go_at_call 22; refine (HF.out).mono ?_; rintro r y1 ⟨rfl, hb1⟩; obtain ⟨z0, z1, z2, z3, z4, ⟨zm, z5⟩, z6⟩ := HK.out y1 hb1; have HB1 := hid (And.intro hb1 z4); clear hb1 HF HK z4))
      go_region
      go_wp2
      refine bodyPost_ret (results_tmp2 rfl _ _ _) rfl ?_
      exact HP.out y1 HB1.out.1
/-- What Held reads. -/
structure Hh (g bl L i : Nat) (t : Bool) (gn now : Int) (w : World) : Prop where
  c0 : w.cell? ⟨g, 0, none⟩ = some (.slice (some ⟨bl, 0, none⟩) L L)
  ct : w.cell? ⟨bl, i * 15, none⟩ = some (.bool t)
  cg : w.cell? ⟨bl, i * 15 + 13, none⟩ = some (.int .i64 gn)
  cn : w.cell? ⟨g, 1, none⟩ = some (.int .i64 now)
set_option maxHeartbeats 3200000 in
set_option maxRecDepth 100000 in
theorem rheld_any {S : Nat → Prop} (w : World) (v : Value) (c : Cs) (h : Rc S w v c) (hn : c.es.length < 2147483640) :
    Calls Try.prog 18 #[v] w fun r w' => r = .returned (.int .i64 (heldS c : Nat)) ∧ Below w.heap.size w w' := by
  obtain ⟨g, bl, cur, rfl, hM⟩ := h
  obtain ⟨c0, cn, -⟩ := hM.cells
  obtain ⟨now, hnow⟩ : ∃ z, z = c.now := ⟨_, rfl⟩
  obtain ⟨L, hL⟩ : ∃ z, z = c.es.length := ⟨_, rfl⟩
  rw [← hL] at c0 hn
  rw [← hnow] at cn
  have HM := hid hM
  have hgl := (Array.getElem?_eq_some_iff.1 hM.hg).1
  have hbl := (Array.getElem?_eq_some_iff.1 hM.hl).1
  have HE : Hid (heldS c = (c.es.take L).countP (hl1 now)) := by show _ = _; rw [hL, List.take_length, hnow]; rfl
  rw [HE.out]
  have HL := hid hL
  clear hM hL hnow
  go_enter Try.func18, Try.ntmps18
  go_upto_region 3 with fail
  go_loopw [3, 4] (fun u i wr => ∃ k : Nat, k ≤ L ∧ i = .int .i64 k ∧ u = .int .i64 ((c.es.take k).countP (hl1 now) : Nat) ∧ Below w.heap.size w wr) (fun _ i _ => L - (intOf i).toNat)
  case atStart => exact ⟨0, by omega, rfl, by simp, Below.refl _ _⟩
  case round =>
    obtain ⟨k, hk, rfl, rfl, hlow⟩ := hrel
    generalize wr = wx at *
    have HLo := hid hlow
    have k0 : wx.cell? ⟨g, 0, none⟩ = some (.slice (some ⟨bl, 0, none⟩) L L) := by rw [hlow.cell (p := ⟨g, 0, none⟩) hgl]; exact c0
    have k1 : wx.cell? ⟨g, 1, none⟩ = some (.int .i64 now) := by rw [hlow.cell (p := ⟨g, 1, none⟩) hgl]; exact cn
    clear hlow
    by_cases hlt : k < L
    · have hd : decide ((k : Int) < (L : Int)) = true := decide_eq_true (by omega)
      obtain ⟨o, ho⟩ : ∃ o, c.es[k]? = some o := ⟨_, List.getElem?_eq_getElem (by rw [← HL.out]; exact hlt)⟩
      obtain ⟨d1, -, -, d4, -⟩ := HM.out.at ho
      have HCt := hid (countP_take (hl1 now) ho)
      have hle : (c.es.take k).countP (hl1 now) ≤ k := Nat.le_trans List.countP_le_length (by simp; omega)
      obtain ⟨m, hm⟩ : ∃ m, m = (c.es.take k).countP (hl1 now) := ⟨_, rfl⟩
      rw [← hm] at HCt hle
      rw [← hm]
      have hw1 : IntKind.i64.wrap ((k : Int) + 1) = (k : Int) + 1 := by rw [IntKind.wrap_i64]; omega
      have hw2 : IntKind.i64.wrap ((m : Int) + 1) = (m : Int) + 1 := by rw [IntKind.wrap_i64]; omega
      obtain ⟨gn, hgn⟩ : ∃ z, z = og o := ⟨_, rfl⟩
      obtain ⟨t, ht⟩ : ∃ z, z = o.isSome := ⟨_, rfl⟩
      obtain ⟨be, hbe⟩ : ∃ z, z = (gn == now) := ⟨_, rfl⟩
      rw [← ht] at d1
      rw [← hgn] at d4
      have HU : Hid (Hh g bl L k t gn now wx.drew) := ⟨k0, (cell_same (w' := wx.drew) (HLo.out.block _ hbl)).trans d1, (cell_same (w' := wx.drew) (HLo.out.block _ hbl)).trans d4, k1⟩
      have hh1 : hl1 now o = (t && be) := by
        rw [ht, hbe, hgn]
        cases o with
        | none => rfl
        | some e => show decide (e.gen = now) = (true && (e.gen == now)); by_cases e1 : e.gen = now <;> simp [e1]
      rw [hh1] at HCt
      clear hm d1 d4 hgn ht hh1 ho
      cases t with
      | false =>
        have HCt' : Hid ((c.es.take (k + 1)).countP (hl1 now) = m) := HCt.out
        clear hbe HCt
        go_upto_region 5 with fail
        refine wp_region_held_drew (S := Hh g bl L k false gn now) (by kernel_rfl) HU.out (fun hHeld => ?_)
        refine wpAnyH_take (i := 0) (v := ?_) rfl (by kernel_rfl) (by kernel_rfl) (by kernel_rfl) (fun _ _ _ h => h) (Or.inl ⟨by rfl, ?_⟩) hHeld ?_
        rotate_left
        · intro w' hSw
          clear hSw
          go_simp
          first | done | with_reducible rfl
        simp only [Act.put, List.getElem_toArray, List.getElem_cons_zero, List.setIfInBounds_toArray, List.set_cons_zero, List.set_cons_succ]
        refine wpAnyH_take (i := 1) (v := ?_) rfl (by kernel_rfl) (by kernel_rfl) (by kernel_rfl) (fun _ _ _ h => h) (Or.inl ⟨by rfl, ?_⟩) hHeld ?_
        rotate_left
        · intro w' hSw
          clear hSw
          go_simp
          first | done | with_reducible rfl
        simp only [Act.put, List.getElem_toArray, List.getElem_cons_succ, List.getElem_cons_zero, List.setIfInBounds_toArray, List.set_cons_zero, List.set_cons_succ]
        refine wpAnyH_take (i := 2) (v := ?_) rfl (by kernel_rfl) (by kernel_rfl) (by kernel_rfl) (fun _ _ _ h => h) (Or.inl ⟨by rfl, ?_⟩) hHeld ?_
        rotate_left
        · intro w' hSw
          clear hSw
          go_simp
          first | done | with_reducible rfl
        simp only [Act.put, List.getElem_toArray, List.getElem_cons_succ, List.getElem_cons_zero, List.setIfInBounds_toArray, List.set_cons_zero, List.set_cons_succ]
        refine wpAnyH_take (i := 3) (v := ?_) rfl (by kernel_rfl) (by kernel_rfl) (by kernel_rfl) (fun _ _ _ h => h) (Or.inl ⟨by rfl, ?_⟩) hHeld ?_
        rotate_left
        · intro w' hSw
          have c0 := hSw.c0
          clear hSw
          go_simp
          first | done | with_reducible rfl
        simp only [Act.put, List.getElem_toArray, List.getElem_cons_succ, List.getElem_cons_zero, List.setIfInBounds_toArray, List.set_cons_zero, List.set_cons_succ]
        refine wpAnyH_take (i := 4) (v := ?_) rfl (by kernel_rfl) (by kernel_rfl) (by kernel_rfl) (fun _ _ _ h => h) (Or.inl ⟨by rfl, ?_⟩) hHeld ?_
        rotate_left
        · intro w' hSw
          clear hSw
          go_simp
          first | done | with_reducible rfl
        simp only [Act.put, List.getElem_toArray, List.getElem_cons_succ, List.getElem_cons_zero, List.setIfInBounds_toArray, List.set_cons_zero, List.set_cons_succ]
        refine wpAnyH_take (i := 5) (v := ?_) rfl (by kernel_rfl) (by kernel_rfl) (by kernel_rfl) (fun _ _ _ h => h) (Or.inl ⟨by rfl, ?_⟩) hHeld ?_
        rotate_left
        · intro w' hSw
          clear hSw
          go_simp
          first | done | with_reducible rfl
        simp only [Act.put, List.getElem_toArray, List.getElem_cons_succ, List.getElem_cons_zero, List.setIfInBounds_toArray, List.set_cons_zero, List.set_cons_succ]
        refine wpAnyH_take (i := 6) (v := ?_) rfl (by kernel_rfl) (by kernel_rfl) (by kernel_rfl) (fun _ _ _ h => h) (Or.inl ⟨by rfl, ?_⟩) hHeld ?_
        rotate_left
        · intro w' hSw
          clear hSw
          go_simp
          first | done | with_reducible rfl
        simp only [Act.put, List.getElem_toArray, List.getElem_cons_succ, List.getElem_cons_zero, List.setIfInBounds_toArray, List.set_cons_zero, List.set_cons_succ]
        refine wpAnyH_take (i := 7) (v := (.bool false)) rfl (by kernel_rfl) (by kernel_rfl) (by kernel_rfl) (fun _ _ _ h => h) (Or.inl ⟨by rfl, ?_⟩) hHeld ?_
        · intro w' hSw
          have ct := hSw.ct
          clear hSw
          go_simp
          first | done | with_reducible rfl
        simp only [Act.put, List.getElem_toArray, List.getElem_cons_succ, List.getElem_cons_zero, List.setIfInBounds_toArray, List.set_cons_zero, List.set_cons_succ]
        refine wpAnyH_take (i := 8) (v := (.bool false)) rfl (by kernel_rfl) (by kernel_rfl) (by kernel_rfl) (fun _ _ _ h => h) (Or.inl ⟨by rfl, ?_⟩) hHeld ?_
        · intro w' hSw
          clear hSw
          go_simp
          first | done | with_reducible rfl
        simp only [Act.put, List.getElem_toArray, List.getElem_cons_succ, List.getElem_cons_zero, List.setIfInBounds_toArray, List.set_cons_zero, List.set_cons_succ]
        refine wpAnyH_take (i := 9) (v := undef) rfl (by kernel_rfl) (by kernel_rfl) (by kernel_rfl) (fun _ _ _ h => h) (Or.inr ⟨by rfl, rfl⟩) hHeld ?_
        simp only [Act.put, List.getElem_toArray, List.getElem_cons_succ, List.getElem_cons_zero, List.setIfInBounds_toArray, List.set_cons_zero, List.set_cons_succ]
        refine wpAnyH_take (i := 10) (v := undef) rfl (by kernel_rfl) (by kernel_rfl) (by kernel_rfl) (fun _ _ _ h => h) (Or.inr ⟨by rfl, rfl⟩) hHeld ?_
        simp only [Act.put, List.getElem_toArray, List.getElem_cons_succ, List.getElem_cons_zero, List.setIfInBounds_toArray, List.set_cons_zero, List.set_cons_succ]
        refine wpAnyH_take (i := 11) (v := undef) rfl (by kernel_rfl) (by kernel_rfl) (by kernel_rfl) (fun _ _ _ h => h) (Or.inr ⟨by rfl, rfl⟩) hHeld ?_
        simp only [Act.put, List.getElem_toArray, List.getElem_cons_succ, List.getElem_cons_zero, List.setIfInBounds_toArray, List.set_cons_zero, List.set_cons_succ]
        refine wpAnyH_take (i := 12) (v := undef) rfl (by kernel_rfl) (by kernel_rfl) (by kernel_rfl) (fun _ _ _ h => h) (Or.inr ⟨by rfl, rfl⟩) hHeld ?_
        simp only [Act.put, List.getElem_toArray, List.getElem_cons_succ, List.getElem_cons_zero, List.setIfInBounds_toArray, List.set_cons_zero, List.set_cons_succ]
        refine wpAnyH_take (i := 13) (v := undef) rfl (by kernel_rfl) (by kernel_rfl) (by kernel_rfl) (fun _ _ _ h => h) (Or.inr ⟨by rfl, rfl⟩) hHeld ?_
        simp only [Act.put, List.getElem_toArray, List.getElem_cons_succ, List.getElem_cons_zero, List.setIfInBounds_toArray, List.set_cons_zero, List.set_cons_succ]
        refine wpAnyH_take (i := 14) (v := undef) rfl (by kernel_rfl) (by kernel_rfl) (by kernel_rfl) (fun _ _ _ h => h) (Or.inr ⟨by rfl, rfl⟩) hHeld ?_
        simp only [Act.put, List.getElem_toArray, List.getElem_cons_succ, List.getElem_cons_zero, List.setIfInBounds_toArray, List.set_cons_zero, List.set_cons_succ]
        refine wpAnyH_take (i := 15) (v := undef) rfl (by kernel_rfl) (by kernel_rfl) (by kernel_rfl) (fun _ _ _ h => h) (Or.inr ⟨by rfl, rfl⟩) hHeld ?_
        simp only [Act.put, List.getElem_toArray, List.getElem_cons_succ, List.getElem_cons_zero, List.setIfInBounds_toArray, List.set_cons_zero, List.set_cons_succ]
        refine wpAnyH_take (i := 16) (v := undef) rfl (by kernel_rfl) (by kernel_rfl) (by kernel_rfl) (fun _ _ _ h => h) (Or.inr ⟨by rfl, rfl⟩) hHeld ?_
        simp only [Act.put, List.getElem_toArray, List.getElem_cons_succ, List.getElem_cons_zero, List.setIfInBounds_toArray, List.set_cons_zero, List.set_cons_succ]
        refine wpAnyH_take (i := 17) (v := undef) rfl (by kernel_rfl) (by kernel_rfl) (by kernel_rfl) (fun _ _ _ h => h) (Or.inr ⟨by rfl, rfl⟩) hHeld ?_
        simp only [Act.put, List.getElem_toArray, List.getElem_cons_succ, List.getElem_cons_zero, List.setIfInBounds_toArray, List.set_cons_zero, List.set_cons_succ]
        refine wpAnyH_take (i := 18) (v := undef) rfl (by kernel_rfl) (by kernel_rfl) (by kernel_rfl) (fun _ _ _ h => h) (Or.inr ⟨by rfl, rfl⟩) hHeld ?_
        simp only [Act.put, List.getElem_toArray, List.getElem_cons_succ, List.getElem_cons_zero, List.setIfInBounds_toArray, List.set_cons_zero, List.set_cons_succ]
        refine wpAnyH_take (i := 19) (v := undef) rfl (by kernel_rfl) (by kernel_rfl) (by kernel_rfl) (fun _ _ _ h => h) (Or.inr ⟨by rfl, rfl⟩) hHeld ?_
        simp only [Act.put, List.getElem_toArray, List.getElem_cons_succ, List.getElem_cons_zero, List.setIfInBounds_toArray, List.set_cons_zero, List.set_cons_succ]
        refine wpAnyH_take (i := 20) (v := undef) rfl (by kernel_rfl) (by kernel_rfl) (by kernel_rfl) (fun _ _ _ h => h) (Or.inr ⟨by rfl, rfl⟩) hHeld ?_
        simp only [Act.put, List.getElem_toArray, List.getElem_cons_succ, List.getElem_cons_zero, List.setIfInBounds_toArray, List.set_cons_zero, List.set_cons_succ]
        refine wpAnyH_take (i := 21) (v := undef) rfl (by kernel_rfl) (by kernel_rfl) (by kernel_rfl) (fun _ _ _ h => h) (Or.inr ⟨by rfl, rfl⟩) hHeld ?_
        simp only [Act.put, List.getElem_toArray, List.getElem_cons_succ, List.getElem_cons_zero, List.setIfInBounds_toArray, List.set_cons_zero, List.set_cons_succ]
        refine wpAnyH_take (i := 22) (v := (.bool false)) rfl (by kernel_rfl) (by kernel_rfl) (by kernel_rfl) (fun _ _ _ h => h) (Or.inl ⟨by rfl, ?_⟩) hHeld ?_
        · intro w' hSw
          clear hSw
          go_simp
          first | done | with_reducible rfl
        simp only [Act.put, List.getElem_toArray, List.getElem_cons_succ, List.getElem_cons_zero, List.setIfInBounds_toArray, List.set_cons_zero, List.set_cons_succ]
        refine wpAnyH_done (by kernel_rfl) ?_ _
        go_wp2
        go_roundw
        case rel => exact ⟨k + 1, by omega, by go_num, by rw [HCt'.out], HLo.out.drew⟩
        case measure => simp [intOf]; omega
      | true =>
        go_upto_region 5 with fail
        refine wp_region_held_drew (S := Hh g bl L k true gn now) (by kernel_rfl) HU.out (fun hHeld => ?_)
        refine wpAnyH_take (i := 0) (v := ?_) rfl (by kernel_rfl) (by kernel_rfl) (by kernel_rfl) (fun _ _ _ h => h) (Or.inl ⟨by rfl, ?_⟩) hHeld ?_
        rotate_left
        · intro w' hSw
          clear hSw
          go_simp
          first | done | with_reducible rfl
        simp only [Act.put, List.getElem_toArray, List.getElem_cons_zero, List.setIfInBounds_toArray, List.set_cons_zero, List.set_cons_succ]
        refine wpAnyH_take (i := 1) (v := ?_) rfl (by kernel_rfl) (by kernel_rfl) (by kernel_rfl) (fun _ _ _ h => h) (Or.inl ⟨by rfl, ?_⟩) hHeld ?_
        rotate_left
        · intro w' hSw
          clear hSw
          go_simp
          first | done | with_reducible rfl
        simp only [Act.put, List.getElem_toArray, List.getElem_cons_succ, List.getElem_cons_zero, List.setIfInBounds_toArray, List.set_cons_zero, List.set_cons_succ]
        refine wpAnyH_take (i := 2) (v := ?_) rfl (by kernel_rfl) (by kernel_rfl) (by kernel_rfl) (fun _ _ _ h => h) (Or.inl ⟨by rfl, ?_⟩) hHeld ?_
        rotate_left
        · intro w' hSw
          clear hSw
          go_simp
          first | done | with_reducible rfl
        simp only [Act.put, List.getElem_toArray, List.getElem_cons_succ, List.getElem_cons_zero, List.setIfInBounds_toArray, List.set_cons_zero, List.set_cons_succ]
        refine wpAnyH_take (i := 3) (v := ?_) rfl (by kernel_rfl) (by kernel_rfl) (by kernel_rfl) (fun _ _ _ h => h) (Or.inl ⟨by rfl, ?_⟩) hHeld ?_
        rotate_left
        · intro w' hSw
          have c0 := hSw.c0
          clear hSw
          go_simp
          first | done | with_reducible rfl
        simp only [Act.put, List.getElem_toArray, List.getElem_cons_succ, List.getElem_cons_zero, List.setIfInBounds_toArray, List.set_cons_zero, List.set_cons_succ]
        refine wpAnyH_take (i := 4) (v := ?_) rfl (by kernel_rfl) (by kernel_rfl) (by kernel_rfl) (fun _ _ _ h => h) (Or.inl ⟨by rfl, ?_⟩) hHeld ?_
        rotate_left
        · intro w' hSw
          clear hSw
          go_simp
          first | done | with_reducible rfl
        simp only [Act.put, List.getElem_toArray, List.getElem_cons_succ, List.getElem_cons_zero, List.setIfInBounds_toArray, List.set_cons_zero, List.set_cons_succ]
        refine wpAnyH_take (i := 5) (v := ?_) rfl (by kernel_rfl) (by kernel_rfl) (by kernel_rfl) (fun _ _ _ h => h) (Or.inl ⟨by rfl, ?_⟩) hHeld ?_
        rotate_left
        · intro w' hSw
          clear hSw
          go_simp
          first | done | with_reducible rfl
        simp only [Act.put, List.getElem_toArray, List.getElem_cons_succ, List.getElem_cons_zero, List.setIfInBounds_toArray, List.set_cons_zero, List.set_cons_succ]
        refine wpAnyH_take (i := 6) (v := ?_) rfl (by kernel_rfl) (by kernel_rfl) (by kernel_rfl) (fun _ _ _ h => h) (Or.inl ⟨by rfl, ?_⟩) hHeld ?_
        rotate_left
        · intro w' hSw
          clear hSw
          go_simp
          first | done | with_reducible rfl
        simp only [Act.put, List.getElem_toArray, List.getElem_cons_succ, List.getElem_cons_zero, List.setIfInBounds_toArray, List.set_cons_zero, List.set_cons_succ]
        refine wpAnyH_take (i := 7) (v := (.bool true)) rfl (by kernel_rfl) (by kernel_rfl) (by kernel_rfl) (fun _ _ _ h => h) (Or.inl ⟨by rfl, ?_⟩) hHeld ?_
        · intro w' hSw
          have ct := hSw.ct
          clear hSw
          go_simp
          first | done | with_reducible rfl
        simp only [Act.put, List.getElem_toArray, List.getElem_cons_succ, List.getElem_cons_zero, List.setIfInBounds_toArray, List.set_cons_zero, List.set_cons_succ]
        refine wpAnyH_take (i := 8) (v := (.bool true)) rfl (by kernel_rfl) (by kernel_rfl) (by kernel_rfl) (fun _ _ _ h => h) (Or.inl ⟨by rfl, ?_⟩) hHeld ?_
        · intro w' hSw
          clear hSw
          go_simp
          first | done | with_reducible rfl
        simp only [Act.put, List.getElem_toArray, List.getElem_cons_succ, List.getElem_cons_zero, List.setIfInBounds_toArray, List.set_cons_zero, List.set_cons_succ]
        refine wpAnyH_take (i := 9) (v := ?_) rfl (by kernel_rfl) (by kernel_rfl) (by kernel_rfl) (fun _ _ _ h => h) (Or.inl ⟨by rfl, ?_⟩) hHeld ?_
        rotate_left
        · intro w' hSw
          clear hSw
          go_simp
          first | done | with_reducible rfl
        simp only [Act.put, List.getElem_toArray, List.getElem_cons_succ, List.getElem_cons_zero, List.setIfInBounds_toArray, List.set_cons_zero, List.set_cons_succ]
        refine wpAnyH_take (i := 10) (v := ?_) rfl (by kernel_rfl) (by kernel_rfl) (by kernel_rfl) (fun _ _ _ h => h) (Or.inl ⟨by rfl, ?_⟩) hHeld ?_
        rotate_left
        · intro w' hSw
          clear hSw
          go_simp
          first | done | with_reducible rfl
        simp only [Act.put, List.getElem_toArray, List.getElem_cons_succ, List.getElem_cons_zero, List.setIfInBounds_toArray, List.set_cons_zero, List.set_cons_succ]
        refine wpAnyH_take (i := 11) (v := ?_) rfl (by kernel_rfl) (by kernel_rfl) (by kernel_rfl) (fun _ _ _ h => h) (Or.inl ⟨by rfl, ?_⟩) hHeld ?_
        rotate_left
        · intro w' hSw
          clear hSw
          go_simp
          first | done | with_reducible rfl
        simp only [Act.put, List.getElem_toArray, List.getElem_cons_succ, List.getElem_cons_zero, List.setIfInBounds_toArray, List.set_cons_zero, List.set_cons_succ]
        refine wpAnyH_take (i := 12) (v := ?_) rfl (by kernel_rfl) (by kernel_rfl) (by kernel_rfl) (fun _ _ _ h => h) (Or.inl ⟨by rfl, ?_⟩) hHeld ?_
        rotate_left
        · intro w' hSw
          have c0 := hSw.c0
          clear hSw
          go_simp
          first | done | with_reducible rfl
        simp only [Act.put, List.getElem_toArray, List.getElem_cons_succ, List.getElem_cons_zero, List.setIfInBounds_toArray, List.set_cons_zero, List.set_cons_succ]
        refine wpAnyH_take (i := 13) (v := ?_) rfl (by kernel_rfl) (by kernel_rfl) (by kernel_rfl) (fun _ _ _ h => h) (Or.inl ⟨by rfl, ?_⟩) hHeld ?_
        rotate_left
        · intro w' hSw
          clear hSw
          go_simp
          first | done | with_reducible rfl
        simp only [Act.put, List.getElem_toArray, List.getElem_cons_succ, List.getElem_cons_zero, List.setIfInBounds_toArray, List.set_cons_zero, List.set_cons_succ]
        refine wpAnyH_take (i := 14) (v := ?_) rfl (by kernel_rfl) (by kernel_rfl) (by kernel_rfl) (fun _ _ _ h => h) (Or.inl ⟨by rfl, ?_⟩) hHeld ?_
        rotate_left
        · intro w' hSw
          clear hSw
          go_simp
          first | done | with_reducible rfl
        simp only [Act.put, List.getElem_toArray, List.getElem_cons_succ, List.getElem_cons_zero, List.setIfInBounds_toArray, List.set_cons_zero, List.set_cons_succ]
        refine wpAnyH_take (i := 15) (v := ?_) rfl (by kernel_rfl) (by kernel_rfl) (by kernel_rfl) (fun _ _ _ h => h) (Or.inl ⟨by rfl, ?_⟩) hHeld ?_
        rotate_left
        · intro w' hSw
          clear hSw
          go_simp
          first | done | with_reducible rfl
        simp only [Act.put, List.getElem_toArray, List.getElem_cons_succ, List.getElem_cons_zero, List.setIfInBounds_toArray, List.set_cons_zero, List.set_cons_succ]
        refine wpAnyH_take (i := 16) (v := ?_) rfl (by kernel_rfl) (by kernel_rfl) (by kernel_rfl) (fun _ _ _ h => h) (Or.inl ⟨by rfl, ?_⟩) hHeld ?_
        rotate_left
        · intro w' hSw
          have cg := hSw.cg
          clear hSw
          go_simp
          first | done | with_reducible rfl
        simp only [Act.put, List.getElem_toArray, List.getElem_cons_succ, List.getElem_cons_zero, List.setIfInBounds_toArray, List.set_cons_zero, List.set_cons_succ]
        refine wpAnyH_take (i := 17) (v := ?_) rfl (by kernel_rfl) (by kernel_rfl) (by kernel_rfl) (fun _ _ _ h => h) (Or.inl ⟨by rfl, ?_⟩) hHeld ?_
        rotate_left
        · intro w' hSw
          clear hSw
          go_simp
          first | done | with_reducible rfl
        simp only [Act.put, List.getElem_toArray, List.getElem_cons_succ, List.getElem_cons_zero, List.setIfInBounds_toArray, List.set_cons_zero, List.set_cons_succ]
        refine wpAnyH_take (i := 18) (v := ?_) rfl (by kernel_rfl) (by kernel_rfl) (by kernel_rfl) (fun _ _ _ h => h) (Or.inl ⟨by rfl, ?_⟩) hHeld ?_
        rotate_left
        · intro w' hSw
          clear hSw
          go_simp
          first | done | with_reducible rfl
        simp only [Act.put, List.getElem_toArray, List.getElem_cons_succ, List.getElem_cons_zero, List.setIfInBounds_toArray, List.set_cons_zero, List.set_cons_succ]
        refine wpAnyH_take (i := 19) (v := ?_) rfl (by kernel_rfl) (by kernel_rfl) (by kernel_rfl) (fun _ _ _ h => h) (Or.inl ⟨by rfl, ?_⟩) hHeld ?_
        rotate_left
        · intro w' hSw
          clear hSw
          go_simp
          first | done | with_reducible rfl
        simp only [Act.put, List.getElem_toArray, List.getElem_cons_succ, List.getElem_cons_zero, List.setIfInBounds_toArray, List.set_cons_zero, List.set_cons_succ]
        refine wpAnyH_take (i := 20) (v := ?_) rfl (by kernel_rfl) (by kernel_rfl) (by kernel_rfl) (fun _ _ _ h => h) (Or.inl ⟨by rfl, ?_⟩) hHeld ?_
        rotate_left
        · intro w' hSw
          have cn := hSw.cn
          clear hSw
          go_simp
          first | done | with_reducible rfl
        simp only [Act.put, List.getElem_toArray, List.getElem_cons_succ, List.getElem_cons_zero, List.setIfInBounds_toArray, List.set_cons_zero, List.set_cons_succ]
        refine wpAnyH_take (i := 21) (v := (.bool (gn == now))) rfl (by kernel_rfl) (by kernel_rfl) (by kernel_rfl) (fun _ _ _ h => h) (Or.inl ⟨by rfl, ?_⟩) hHeld ?_
        · intro w' hSw
          clear hSw
          go_simp
          first | done | with_reducible rfl
        simp only [Act.put, List.getElem_toArray, List.getElem_cons_succ, List.getElem_cons_zero, List.setIfInBounds_toArray, List.set_cons_zero, List.set_cons_succ]
        refine wpAnyH_take (i := 22) (v := (.bool (gn == now))) rfl (by kernel_rfl) (by kernel_rfl) (by kernel_rfl) (fun _ _ _ h => h) (Or.inl ⟨by rfl, ?_⟩) hHeld ?_
        · intro w' hSw
          clear hSw
          go_simp
          first | done | with_reducible rfl
        simp only [Act.put, List.getElem_toArray, List.getElem_cons_succ, List.getElem_cons_zero, List.setIfInBounds_toArray, List.set_cons_zero, List.set_cons_succ]
        refine wpAnyH_done (by kernel_rfl) ?_ _
        rw [← hbe]
        clear hbe
        cases be with
        | true =>
          go_wp2
          go_roundw
          case rel => exact ⟨k + 1, by omega, by go_num, by rw [HCt.out]; go_num, HLo.out.drew⟩
          case measure => simp [intOf]; omega
        | false =>
          go_wp2
          go_roundw
          case rel => exact ⟨k + 1, by omega, by go_num, by rw [HCt.out]; rfl, HLo.out.drew⟩
          case measure => simp [intOf]; omega
    · obtain rfl : k = L := by omega
      have hd : decide ((k : Int) < (k : Int)) = false := by simp
      go_wp2
      go_ret
      exact ⟨rfl, HLo.out⟩
theorem infoRE : (Try.prog.info? 58).map (fun i => (i.zero, i.size, i.bytes)) = some (some (.agg (rco none)), 15, 120) := by kernel_rfl
theorem made_at (z : Array Value) (hs : z.size = 15) {n j k : Nat} (h1 : j * 15 + k < n) (hk : k < 15) : (madeCells z n)[j * 15 + k]? = z[k]? := by
  have h2 : (j * 15 + k) % 15 = k := by omega
  simp only [madeCells, hs]
  rw [Array.getElem?_map, Array.getElem?_range, if_pos h1]
  simp only [Option.map_some, h2]
  rw [getElem!_pos z k (by omega), Array.getElem?_eq_getElem (by omega)]
theorem madeR (N : Nat) (l : Int) (hl : l = (N : Int)) (hn : N ≤ 1024) : ∃ zs : Array Value, zs.size = N * 15 ∧ (∀ i, i < N → ∀ k, k < 15 → zs[i * 15 + k]? = (rco none)[k]?) ∧ ∀ w, (Instr.makeSlice 48 (.int .i64 l) (.int .i64 l)).run Try.prog w = .ok (.slice (some ⟨w.heap.size, 0, none⟩) N N) (w.alloc (.cells zs 58)) := by
  obtain ⟨i, hi, hz0, hz1, hz2⟩ := info_parts infoRE
  refine ⟨madeCells (Value.agg (rco none)).cells (N * 15), by simp [size_madeCells], fun j hj k hk => ?_, fun w => ?_⟩
  · have h1 : j * 15 + k < N * 15 := by omega
    exact made_at (rco none) (rco_size none) h1 hk
  · have := run_make (P := Try.prog) w 48 58 i (.agg (rco none)) Try.underlying48 hi hz0 .i64 .i64 l l (by omega) (Int.le_refl _) (by rw [hz2]; omega) (by omega)
    rw [hz1, hl] at this
    rw [hl]
    simpa using this
theorem rnew_at (w : World) (N : Nat) (zs : Array Value) (hz : zs.size = N * 15) (hp : ∀ i, i < N → ∀ k, k < 15 → zs[i * 15 + k]? = (rco none)[k]?) : Below w.heap.size w ((w.alloc (.cells zs 58)).alloc (.cells #[.slice (some ⟨w.heap.size, 0, none⟩) N N, .int .i64 0, .int .i64 0] 50)) ∧ Rc (fun b => w.heap.size ≤ b) ((w.alloc (.cells zs 58)).alloc (.cells #[.slice (some ⟨w.heap.size, 0, none⟩) N N, .int .i64 0, .int .i64 0] 50)) (pv (w.heap.size + 1)) (newC N) := by
  obtain ⟨W1, hW1⟩ : ∃ W1, W1 = w.alloc (.cells zs 58) := ⟨_, rfl⟩
  have s1 : W1.heap.size = w.heap.size + 1 := by rw [hW1]; simp
  rw [← hW1]
  refine ⟨(hW1 ▸ (Below.refl _ _).alloc (Nat.le_refl _) _ : Below w.heap.size w W1).alloc (by omega) _, w.heap.size + 1, w.heap.size, zs, rfl, ?_⟩
  refine ⟨by show _ ≤ _; omega, ?_, Nat.le_refl _, ?_, by simp [newC, hz], fun i o ho k hk => ?_⟩
  · rw [← s1, heap_alloc_new]; simp [rcc, newC]
  · rw [heap_alloc_old _ _ (by omega), hW1]; exact heap_alloc_new _ _
  · have hi : i < N := by have := (List.getElem?_eq_some_iff.1 ho).1; simpa [newC] using this
    have : o = none := by simp [newC, hi] at ho; exact ho.symm
    rw [hp i hi k hk, this]
set_option maxRecDepth 100000 in
theorem rnew_any (w : World) (size : Int) : Calls Try.prog 10 #[.int .i64 size] w fun r w' => ∃ v, r = .returned v ∧ Below w.heap.size w w' ∧ Rc (fun b => w.heap.size ≤ b) w' v (newC (szN size)) := by
  obtain ⟨N, hN⟩ : ∃ N, N = szN size := ⟨_, rfl⟩
  have hle : N ≤ 1024 := by rw [hN]; exact szN_le size
  rw [← hN]
  have hcases : (size ≤ 0 ∧ N = 0) ∨ (0 < size ∧ size ≤ 1024 ∧ size = (N : Int)) ∨ (1024 < size ∧ N = 1024) := by rw [hN]; unfold szN; omega
  clear hN
  rcases hcases with ⟨h1, h2⟩ | ⟨h1, h2, h3⟩ | ⟨h1, h2⟩
  · obtain ⟨zs, hz1, hz2, hz3⟩ := madeR N 0 (by omega) hle
    have HF := hid (rnew_at w N zs hz1 hz2)
    have h4 : size ≤ 1024 := by omega
    have h5 : ¬ 1024 < size := by omega
    have h6 : ¬ 0 < size := by omega
    clear hz1 hz2 h2 hle
    go_enter Try.func10, Try.ntmps10
    go_wp2
    all_goals go_ret
    all_goals exact ⟨_, rfl, HF.out.1, HF.out.2⟩
  · obtain ⟨zs, hz1, hz2, hz3⟩ := madeR N size h3 hle
    have HF := hid (rnew_at w N zs hz1 hz2)
    have h4 : ¬ size < 0 := by omega
    have h5 : ¬ 1024 < size := by omega
    clear hz1 hz2 h3 hle
    go_enter Try.func10, Try.ntmps10
    go_wp2
    all_goals go_ret
    all_goals exact ⟨_, rfl, HF.out.1, HF.out.2⟩
  · obtain ⟨zs, hz1, hz2, hz3⟩ := madeR N 1024 (by omega) hle
    have HF := hid (rnew_at w N zs hz1 hz2)
    have h4 : ¬ size < 0 := by omega
    clear hz1 hz2 h2 hle
    go_enter Try.func10, Try.ntmps10
    go_wp2
    all_goals go_ret
    all_goals exact ⟨_, rfl, HF.out.1, HF.out.2⟩
end Go.Proofs.Ytpmdgockiblkaaa
