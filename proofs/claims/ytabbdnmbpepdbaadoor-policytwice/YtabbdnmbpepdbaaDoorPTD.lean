/-
  Proved here: PolicyTwice's body says true of a policy that Check takes. Conditions: the tables; the policy lies in old memory.
-/
import Derived.Test.YtabbdnmbpepdbaaDoorPTC
namespace Go.Proofs.YtabbdnmbpepdbaaDoor
open Go.RowKit
set_option maxRecDepth 100000

theorem PiV.main5 {S : Nat → Prop} {w : World} {p : Pi} {x0 x1 x2 x3 xq : Value} (h : PiV S w p #[x0, x1, x2, x3, xq]) : TiV S w p.main #[x0, x1, x2, x3] := by
  obtain ⟨y0, y1, y2, y3, ao, cap, xs, e, h1, -, -⟩ := h.five
  simp only [Array.mk.injEq, List.cons.injEq, and_true] at e
  obtain ⟨rfl, rfl, rfl, rfl, -⟩ := e
  exact h1
theorem PiV.qat {S : Nat → Prop} {w : World} {p : Pi} {x0 x1 x2 x3 : Value} {ao : Option Addr} {n cap : Nat} (h : PiV S w p #[x0, x1, x2, x3, .slice ao n cap]) {j : Nat} (hj : j < p.qs.length) : ∃ g o, ao = some ⟨g, o, none⟩ ∧ p.qs.length ≤ cap ∧ g < w.heap.size ∧ ∃ ds, TiV S w (p.qs[j]).pd ds ∧ w.cell? ⟨g, o + j * 5, none⟩ = some (.string (p.qs[j]).nm) ∧ w.rangeAt g (o + j * 5 + 1) ds.toList := by
  obtain ⟨y0, y1, y2, y3, ao', cap', xs, e, -, h2, h3⟩ := h.five
  simp only [Array.mk.injEq, List.cons.injEq, and_true, Value.slice.injEq] at e
  obtain ⟨-, -, -, -, rfl, -, rfl⟩ := e
  obtain ⟨g, o, c0, e6, hc, hg, ds, r⟩ := QiL.rng h2 h3 hj
  simp only [Value.slice.injEq] at e6
  obtain ⟨rfl, -, rfl⟩ := e6
  exact ⟨g, o, rfl, hc, hg, ds, r⟩
theorem q_at (P : Po) (j : Nat) (h1 : j < (pi (plPo P)).qs.length) (h2 : j < (pi P).qs.length) (h3 : j < P.qs.length) : ((pi (plPo P)).qs[j]).nm = (P.qs[j]).nm ∧ ((pi P).qs[j]).nm = (P.qs[j]).nm ∧ ((pi (plPo P)).qs[j]).pd = ti (pl (P.qs[j]).pd) ∧ ((pi P).qs[j]).pd = ti (P.qs[j]).pd := by simp [pi, plPo, plQ]
structure T5L (P0 A g g' k k' n c c' o o' : Nat) (nm : ByteArray) (es fs : Array Value) (W : World) : Prop where
  a4 : W.cell? ⟨A, 4, none⟩ = some (.slice (some ⟨g, o, none⟩) n c)
  p4 : W.cell? ⟨P0, 4, none⟩ = some (.slice (some ⟨g', o', none⟩) n c')
  na : W.cell? ⟨g, k, none⟩ = some (.string nm)
  np : W.cell? ⟨g', k', none⟩ = some (.string nm)
  ra : W.rangeAt g (k + 1) es.toList
  rp : W.rangeAt g' (k' + 1) fs.toList
theorem T5L.on {P0 A g g' k k' n c c' o o' : Nat} {nm : ByteArray} {es fs : Array Value} {W W' : World} (h : T5L P0 A g g' k k' n c c' o o' nm es fs W) (hb : Below W.heap.size W W') (hg : g < W.heap.size) (hg' : g' < W.heap.size) : T5L P0 A g g' k k' n c c' o o' nm es fs W' :=
  ⟨(cell_same (hb.block _ (cell_lt h.a4))).trans h.a4, (cell_same (hb.block _ (cell_lt h.p4))).trans h.p4, (cell_same (hb.block _ hg)).trans h.na, (cell_same (hb.block _ hg')).trans h.np, fun j v hj => (cell_same (hb.block _ hg)).trans (h.ra j v hj), fun j v hj => (cell_same (hb.block _ hg')).trans (h.rp j v hj)⟩
set_option maxHeartbeats 12800000 in
theorem twice_ok (P : Po) (cs : Array Value) (w : World) (hp : PiV (fun b => b < w.heap.size) w (pi P) cs) (hok : OkW P) (hT : TabP w) (hz : 3 ≤ w.heap.size) :
    Calls Tryd.prog 6 #[.agg cs] w fun e w' => e = .returned (.bool true) ∧ Below w.heap.size w w' := by
  have HPV := hid hp
  have HTw := hid hT
  have HOk := hid hok
  obtain ⟨x0, x1, x2, x3, ao, cap, xs, rfl, -, -, -⟩ := hp.five
  have hB1 : Below w.heap.size w (w.alloc (.cells #[x0, x1, x2, x3, .slice ao (pi P).qs.length cap] 29)) := (Below.refl _ _).alloc (Nat.le_refl _) _
  have HN1 : Hid ((w.alloc (.cells #[x0, x1, x2, x3, .slice ao (pi P).qs.length cap] 29)).heap[w.heap.size]? = some (.cells #[x0, x1, x2, x3, .slice ao (pi P).qs.length cap] 29 (0, 0))) := heap_alloc_new _ _
  have HPl := hid (plain8_ok P _ (w.alloc (.cells #[x0, x1, x2, x3, .slice ao (pi P).qs.length cap] 29)) (HPV.out.carry fun b hb hS => ⟨by have := hB1.size; omega, hB1.block b hb⟩) hok (hT.on hB1 hz) (by have := hB1.size; omega))
  have HB1 := hid hB1
  have HWk : Hid (∀ W, Below w.heap.size w W → Calls Tryd.prog 13 #[] W fun e w' => e = .returned (.bool true) ∧ Below W.heap.size W w') := fun W hb => wakes8_any W (HTw.out.on hb hz) (by have := hb.size; omega)
  have hlen : (pi (plPo P)).qs.length = (pi P).qs.length := by rw [pi_len, pi_len]; exact List.length_map _
  have HLen := hid hlen
  clear hp hB1 hT hok hlen
  go_enter Tryd.func6, Tryd.ntmps6
  go_upto_region 1 with fail
  generalize w.alloc (.cells #[x0, x1, x2, x3, .slice ao (pi P).qs.length cap] 29) = W1 at HN1 HB1 HPl ⊢
  go_upto_region 2 with (first
    | (refine ldRow 29 (.tmp 1) rfl rfl w.heap.size rfl 29 #[x0, x1, x2, x3, .slice ao (pi P).qs.length cap] _ Tryd.underlying29 rfl sizePO HN1.out ?_)
    | (refine stNew 29 (.tmp 3) (.tmp 11) rfl rfl w2 29 pz #[a0, a1, a2, a3, .slice ap (pi P).qs.length acap] rfl rfl rfl sizePO rfl HU2.out.one ?_)
    | (go_at_call 14; refine (HPl.out).mono ?_; rintro e w2 ⟨ds, rfl, hw, hu⟩; obtain ⟨a0, a1, a2, a3, ap, acap, axs, rfl, -, -, -⟩ := hu.five; rw [HLen.out] at hu; rw [HLen.out]; have HB2 := hid (HB1.out.trans (hw.mono HB1.out.size)); have HN2 := hid ((hw.block _ (Array.getElem?_eq_some_iff.1 HN1.out).1).trans HN1.out); have HU2 : Hid (PiV (fun b => b < w2.heap.size) w2 (pi (plPo P)) #[a0, a1, a2, a3, .slice ap (pi P).qs.length acap]) := hu.carry fun b hb hS => ⟨hb, rfl⟩; clear hw hu HPl))
  have HB3 : Hid (Below w.heap.size w (w2.alloc (.cells #[a0, a1, a2, a3, .slice ap (pi P).qs.length acap] 29))) := HB2.out.alloc HB2.out.size _
  have HN3 : Hid ((w2.alloc (.cells #[a0, a1, a2, a3, .slice ap (pi P).qs.length acap] 29)).heap[w.heap.size]? = some (.cells #[x0, x1, x2, x3, .slice ao (pi P).qs.length cap] 29 (0, 0))) := (heap_alloc_old _ _ (Array.getElem?_eq_some_iff.1 HN2.out).1).trans HN2.out
  have HA3 : Hid ((w2.alloc (.cells #[a0, a1, a2, a3, .slice ap (pi P).qs.length acap] 29)).heap[w2.heap.size]? = some (.cells #[a0, a1, a2, a3, .slice ap (pi P).qs.length acap] 29 (0, 0))) := heap_alloc_new _ _
  have HU3 : Hid (PiV (fun b => b < (w2.alloc (.cells #[a0, a1, a2, a3, .slice ap (pi P).qs.length acap] 29)).heap.size) (w2.alloc (.cells #[a0, a1, a2, a3, .slice ap (pi P).qs.length acap] 29)) (pi (plPo P)) #[a0, a1, a2, a3, .slice ap (pi P).qs.length acap]) := HU2.out.carry fun b hb hS => ⟨by simp; omega, heap_alloc_old _ _ hb⟩
  clear HB2 HN2 HU2 HN1 HB1
  generalize w2.alloc (.cells #[a0, a1, a2, a3, .slice ap (pi P).qs.length acap] 29) = W3 at HB3 HN3 HA3 HU3 ⊢
  have HPl2 := hid (plain8_ok (plPo P) _ W3 HU3.out HOk.out.pl (HTw.out.on HB3.out hz) (by have := HB3.out.size; omega))
  rw [HOk.out.twice] at HPl2
  go_upto_region 5 with (first
    | (refine ldRow 29 (.tmp 3) rfl rfl w2.heap.size rfl 29 #[a0, a1, a2, a3, .slice ap (pi P).qs.length acap] _ Tryd.underlying29 rfl sizePO HA3.out ?_)
    | (refine stNew 29 (.tmp 5) (.tmp 31) rfl rfl w4 29 pz #[b0, b1, b2, b3, .slice bp (pi P).qs.length bcap] rfl rfl rfl sizePO rfl HU4.out.one ?_)
    | (go_at_call 14; refine (HPl2.out).mono ?_; rintro e w4 ⟨ds, rfl, hw, hu⟩; obtain ⟨b0, b1, b2, b3, bp, bcap, bxs, rfl, -, -, -⟩ := hu.five; rw [HLen.out] at hu; rw [HLen.out]; have HB4 := hid hw; have HU4 : Hid (PiV (fun b => b < w4.heap.size) w4 (pi (plPo P)) #[b0, b1, b2, b3, .slice bp (pi P).qs.length bcap]) := hu.carry fun b hb hS => ⟨hb, rfl⟩; clear hw hu HPl2))
  have HS5 : Hid (T5S w P w2.heap.size w4.heap.size x0 x1 x2 x3 (.slice ao (pi P).qs.length cap) a0 a1 a2 a3 (.slice ap (pi P).qs.length acap) b0 b1 b2 b3 (.slice bp (pi P).qs.length bcap) (w4.alloc (.cells #[b0, b1, b2, b3, .slice bp (pi P).qs.length bcap] 29))) := by
    have hb : Below W3.heap.size W3 (w4.alloc (.cells #[b0, b1, b2, b3, .slice bp (pi P).qs.length bcap] 29)) := HB4.out.alloc HB4.out.size _
    have hl := HB3.out.trans (hb.mono HB3.out.size)
    refine ⟨hl, ⟨(hb.block _ (Array.getElem?_eq_some_iff.1 HN3.out).1).trans HN3.out, (hb.block _ (Array.getElem?_eq_some_iff.1 HA3.out).1).trans HA3.out, heap_alloc_new _ _⟩, HPV.out.carry fun b hb2 hS => ⟨by have := hl.size; omega, hl.block b hb2⟩, HU3.out.carry fun b hb2 hS => ⟨by have := hb.size; omega, hb.block b hb2⟩, HU4.out.carry fun b hb2 hS => ⟨by simp; omega, heap_alloc_old _ _ hb2⟩⟩
  clear HB3 HN3 HA3 HU3 HB4 HU4 HPV
  generalize w4.alloc (.cells #[b0, b1, b2, b3, .slice bp (pi P).qs.length bcap] 29) = W5 at HS5 ⊢
  have HS5d := hid (HS5.out.on (bel_drew (Below.refl W5.heap.size W5)))
  clear HS5
  have HC1 := hid (check8_any (pi (plPo P)) _ W5.drew HS5d.out.va HOk.out.pl.wp (HTw.out.on HS5d.out.low hz) (by have := HS5d.out.low.size; omega))
  rw [okW_chk HOk.out.pl] at HC1
  obtain ⟨m1, hm1⟩ : ∃ m, m = 0 + sz (plPo P).main := ⟨_, rfl⟩
  obtain ⟨m2, hm2⟩ : ∃ m, m = 0 + sz P.main := ⟨_, rfl⟩
  have HGt : Hid (m1 ≤ m2) := by
    have : sz (plPo P).main ≤ sz P.main := HOk.out.gm.s
    show _ ≤ _; omega
  have HSz1 : Hid (∀ W, T5S w P w2.heap.size w4.heap.size x0 x1 x2 x3 (.slice ao (pi P).qs.length cap) a0 a1 a2 a3 (.slice ap (pi P).qs.length acap) b0 b1 b2 b3 (.slice bp (pi P).qs.length bcap) W → Calls Tryd.prog 20 #[.agg #[a0, a1, a2, a3], .int .i64 0] W fun e w' => e = .returned (.int .i64 ((m1 : Nat) : Int)) ∧ Below W.heap.size W w') := fun W h => by
    rw [hm1]
    exact size8_any (sz (plPo P).main) (plPo P).main #[a0, a1, a2, a3] 0 W (Nat.le_refl _) (by have := HOk.out.pl.s; omega) h.va.main5
  have HSz2 : Hid (∀ W, T5S w P w2.heap.size w4.heap.size x0 x1 x2 x3 (.slice ao (pi P).qs.length cap) a0 a1 a2 a3 (.slice ap (pi P).qs.length acap) b0 b1 b2 b3 (.slice bp (pi P).qs.length bcap) W → Calls Tryd.prog 20 #[.agg #[x0, x1, x2, x3], .int .i64 0] W fun e w' => e = .returned (.int .i64 ((m2 : Nat) : Int)) ∧ Below W.heap.size W w') := fun W h => by
    rw [hm2]
    exact size8_any (sz P.main) P.main #[x0, x1, x2, x3] 0 W (Nat.le_refl _) (by have := HOk.out.s; omega) h.vp.main5
  have HSame : Hid (∀ W, T5S w P w2.heap.size w4.heap.size x0 x1 x2 x3 (.slice ao (pi P).qs.length cap) a0 a1 a2 a3 (.slice ap (pi P).qs.length acap) b0 b1 b2 b3 (.slice bp (pi P).qs.length bcap) W → Calls Tryd.prog 16 #[.agg #[a0, a1, a2, a3, .slice ap (pi P).qs.length acap], .agg #[b0, b1, b2, b3, .slice bp (pi P).qs.length bcap]] W fun e w' => e = .returned (.bool true) ∧ Below W.heap.size W w') := fun W h => by
    have hk := HOk.out.pl
    refine policies_same (pi (plPo P)) #[a0, a1, a2, a3, .slice ap (pi P).qs.length acap] #[b0, b1, b2, b3, .slice bp (pi P).qs.length bcap] W ?_ ?_ ?_ (h.va.carry fun b hb _ => ⟨trivial, rfl⟩) (h.vb.carry fun b hb _ => ⟨trivial, rfl⟩)
    · show szI (ti (plPo P).main) ≤ 100000
      rw [sz_ti]; have := hk.s; omega
    · intro q hq
      obtain ⟨y, hy, rfl⟩ := List.mem_map.1 hq
      show szI (ti y.pd) ≤ 100000
      rw [sz_ti]; have := hk.s; have := qsz_mem hy; omega
    · rw [pi_len]; have := hk.l; omega
  clear hm1 hm2
  refine wp_region_held_drew (S := T5R w.heap.size w2.heap.size w4.heap.size x0 x1 x2 x3 (.slice ao (pi P).qs.length cap) a0 a1 a2 a3 (.slice ap (pi P).qs.length acap) b0 b1 b2 b3 (.slice bp (pi P).qs.length bcap)) (by kernel_rfl) HS5d.out.r (fun hHeld => ?_)
  refine wpAnyH_take (i := 0) (v := ?_) rfl (by kernel_rfl) (by kernel_rfl) (by kernel_rfl) (fun _ _ _ h => h) (Or.inl ⟨by rfl, ?_⟩) hHeld ?_
  rotate_left
  · intro w' hSw
    clear hSw
    go_simp
    first | done | with_reducible rfl
  simp only [Act.put, List.getElem_toArray, List.getElem_cons_zero, List.setIfInBounds_toArray, List.set_cons_zero, List.set_cons_succ]
  refine wpAnyH_take (i := 1) (v := ?_) rfl (by kernel_rfl) (by kernel_rfl) (by kernel_rfl) (fun _ _ _ h => h) (Or.inl ⟨by rfl, ?_⟩) hHeld ?_
  rotate_left
  · intro w' hSw
    clear hSw
    go_simp
    first | done | with_reducible rfl
  simp only [Act.put, List.getElem_toArray, List.getElem_cons_succ, List.getElem_cons_zero, List.setIfInBounds_toArray, List.set_cons_zero, List.set_cons_succ]
  refine wpAnyH_take (i := 2) (v := ?_) rfl (by kernel_rfl) (by kernel_rfl) (by kernel_rfl) (fun _ _ _ h => h) (Or.inl ⟨by rfl, ?_⟩) hHeld ?_
  rotate_left
  · intro w' hSw
    clear hSw
    go_simp
    first | done | with_reducible rfl
  simp only [Act.put, List.getElem_toArray, List.getElem_cons_succ, List.getElem_cons_zero, List.setIfInBounds_toArray, List.set_cons_zero, List.set_cons_succ]
  refine wpAnyH_take (i := 3) (v := .agg #[a0, a1, a2, a3, .slice ap (pi P).qs.length acap]) rfl (by kernel_rfl) (by kernel_rfl) (by kernel_rfl) (fun _ _ _ h => h) (Or.inl ⟨by rfl, ?_⟩) hHeld ?_
  · intro w' hSw
    exact runLd 29 (.tmp 3) rfl w2.heap.size 0 rfl #[a0, a1, a2, a3, .slice ap (pi P).qs.length acap] _ hSw.ra Tryd.underlying29 rfl sizePO
  simp only [Act.put, List.getElem_toArray, List.getElem_cons_succ, List.getElem_cons_zero, List.setIfInBounds_toArray, List.set_cons_zero, List.set_cons_succ]
  refine ready_one 4 _ (by kernel_rfl) rfl (stepFnW 9 (.func 9) [.tmp 36] _ [.agg #[a0, a1, a2, a3, .slice ap (pi P).qs.length acap]] rfl rfl rfl rfl (fun _ => rfl) _ HC1.out ?_)
  rintro e w6 ⟨rfl, hw⟩
  refine Or.inl ⟨_, rfl, ?_⟩
  have HS6 := hid (HS5d.out.on hw)
  clear hw HC1 HS5d hHeld
  refine ⟨HS6.out.r, ?_⟩
  simp only [Act.put, List.getElem_toArray, List.getElem_cons_succ, List.getElem_cons_zero, List.setIfInBounds_toArray, List.set_cons_zero, List.set_cons_succ]
  have hHeld := HS6.out.r
  refine wpAnyH_take (i := 5) (v := (.bool false)) rfl (by kernel_rfl) (by kernel_rfl) (by kernel_rfl) (fun _ _ _ h => h) (Or.inl ⟨by rfl, ?_⟩) hHeld ?_
  · intro w' hSw
    clear hSw
    go_simp
    first | done | with_reducible rfl
  simp only [Act.put, List.getElem_toArray, List.getElem_cons_succ, List.getElem_cons_zero, List.setIfInBounds_toArray, List.set_cons_zero, List.set_cons_succ]
  refine wpAnyH_take (i := 6) (v := ?_) rfl (by kernel_rfl) (by kernel_rfl) (by kernel_rfl) (fun _ _ _ h => h) (Or.inl ⟨by rfl, ?_⟩) hHeld ?_
  rotate_left
  · intro w' hSw
    clear hSw
    go_simp
    first | done | with_reducible rfl
  simp only [Act.put, List.getElem_toArray, List.getElem_cons_succ, List.getElem_cons_zero, List.setIfInBounds_toArray, List.set_cons_zero, List.set_cons_succ]
  refine wpAnyH_take (i := 7) (v := ?_) rfl (by kernel_rfl) (by kernel_rfl) (by kernel_rfl) (fun _ _ _ h => h) (Or.inl ⟨by rfl, ?_⟩) hHeld ?_
  rotate_left
  · intro w' hSw
    clear hSw
    go_simp
    first | done | with_reducible rfl
  simp only [Act.put, List.getElem_toArray, List.getElem_cons_succ, List.getElem_cons_zero, List.setIfInBounds_toArray, List.set_cons_zero, List.set_cons_succ]
  refine wpAnyH_take (i := 8) (v := .agg #[a0, a1, a2, a3, .slice ap (pi P).qs.length acap]) rfl (by kernel_rfl) (by kernel_rfl) (by kernel_rfl) (fun _ _ _ h => h) (Or.inl ⟨by rfl, ?_⟩) hHeld ?_
  · intro w' hSw
    exact runLd 29 (.tmp 3) rfl w2.heap.size 0 rfl #[a0, a1, a2, a3, .slice ap (pi P).qs.length acap] _ hSw.ra Tryd.underlying29 rfl sizePO
  simp only [Act.put, List.getElem_toArray, List.getElem_cons_succ, List.getElem_cons_zero, List.setIfInBounds_toArray, List.set_cons_zero, List.set_cons_succ]
  refine wpAnyH_take (i := 9) (v := .agg #[b0, b1, b2, b3, .slice bp (pi P).qs.length bcap]) rfl (by kernel_rfl) (by kernel_rfl) (by kernel_rfl) (fun _ _ _ h => h) (Or.inl ⟨by rfl, ?_⟩) hHeld ?_
  · intro w' hSw
    exact runLd 29 (.tmp 5) rfl w4.heap.size 0 rfl #[b0, b1, b2, b3, .slice bp (pi P).qs.length bcap] _ hSw.rb Tryd.underlying29 rfl sizePO
  simp only [Act.put, List.getElem_toArray, List.getElem_cons_succ, List.getElem_cons_zero, List.setIfInBounds_toArray, List.set_cons_zero, List.set_cons_succ]
  refine ready_one 10 _ (by kernel_rfl) rfl (stepFnW 16 (.func 16) [.tmp 41, .tmp 42] _ [.agg #[a0, a1, a2, a3, .slice ap (pi P).qs.length acap], .agg #[b0, b1, b2, b3, .slice bp (pi P).qs.length bcap]] rfl rfl rfl rfl (fun _ => rfl) _ (HSame.out _ HS6.out) ?_)
  rintro e w7 ⟨rfl, hw⟩
  refine Or.inl ⟨_, rfl, ?_⟩
  have HS7 := hid (HS6.out.on hw)
  clear hw HSame HS6 hHeld
  refine ⟨HS7.out.r, ?_⟩
  simp only [Act.put, List.getElem_toArray, List.getElem_cons_succ, List.getElem_cons_zero, List.setIfInBounds_toArray, List.set_cons_zero, List.set_cons_succ]
  have hHeld := HS7.out.r
  refine wpAnyH_take (i := 11) (v := ?_) rfl (by kernel_rfl) (by kernel_rfl) (by kernel_rfl) (fun _ _ _ h => h) (Or.inl ⟨by rfl, ?_⟩) hHeld ?_
  rotate_left
  · intro w' hSw
    clear hSw
    go_simp
    first | done | with_reducible rfl
  simp only [Act.put, List.getElem_toArray, List.getElem_cons_succ, List.getElem_cons_zero, List.setIfInBounds_toArray, List.set_cons_zero, List.set_cons_succ]
  refine wpAnyH_take (i := 12) (v := ?_) rfl (by kernel_rfl) (by kernel_rfl) (by kernel_rfl) (fun _ _ _ h => h) (Or.inl ⟨by rfl, ?_⟩) hHeld ?_
  rotate_left
  · intro w' hSw
    clear hSw
    go_simp
    first | done | with_reducible rfl
  simp only [Act.put, List.getElem_toArray, List.getElem_cons_succ, List.getElem_cons_zero, List.setIfInBounds_toArray, List.set_cons_zero, List.set_cons_succ]
  refine wpAnyH_take (i := 13) (v := ?_) rfl (by kernel_rfl) (by kernel_rfl) (by kernel_rfl) (fun _ _ _ h => h) (Or.inl ⟨by rfl, ?_⟩) hHeld ?_
  rotate_left
  · intro w' hSw
    clear hSw
    go_simp
    first | done | with_reducible rfl
  simp only [Act.put, List.getElem_toArray, List.getElem_cons_succ, List.getElem_cons_zero, List.setIfInBounds_toArray, List.set_cons_zero, List.set_cons_succ]
  refine wpAnyH_take (i := 14) (v := ?_) rfl (by kernel_rfl) (by kernel_rfl) (by kernel_rfl) (fun _ _ _ h => h) (Or.inl ⟨by rfl, ?_⟩) hHeld ?_
  rotate_left
  · intro w' hSw
    clear hSw
    go_simp
    first | done | with_reducible rfl
  simp only [Act.put, List.getElem_toArray, List.getElem_cons_succ, List.getElem_cons_zero, List.setIfInBounds_toArray, List.set_cons_zero, List.set_cons_succ]
  refine wpAnyH_take (i := 15) (v := .agg #[a0, a1, a2, a3]) rfl (by kernel_rfl) (by kernel_rfl) (by kernel_rfl) (fun _ _ _ h => h) (Or.inl ⟨by rfl, ?_⟩) hHeld ?_
  · intro w' hSw
    exact runLd 26 (.tmp 47) rfl w2.heap.size 0 rfl #[a0, a1, a2, a3] _ hSw.ram Tryd.underlying26 rfl sizeTM
  simp only [Act.put, List.getElem_toArray, List.getElem_cons_succ, List.getElem_cons_zero, List.setIfInBounds_toArray, List.set_cons_zero, List.set_cons_succ]
  refine wpAnyH_take (i := 17) (v := ?_) rfl (by kernel_rfl) (by kernel_rfl) (by kernel_rfl) (fun _ _ _ h => h) (Or.inl ⟨by rfl, ?_⟩) hHeld ?_
  rotate_left
  · intro w' hSw
    clear hSw
    go_simp
    first | done | with_reducible rfl
  simp only [Act.put, List.getElem_toArray, List.getElem_cons_succ, List.getElem_cons_zero, List.setIfInBounds_toArray, List.set_cons_zero, List.set_cons_succ]
  refine wpAnyH_take (i := 18) (v := .agg #[x0, x1, x2, x3]) rfl (by kernel_rfl) (by kernel_rfl) (by kernel_rfl) (fun _ _ _ h => h) (Or.inl ⟨by rfl, ?_⟩) hHeld ?_
  · intro w' hSw
    exact runLd 26 (.tmp 50) rfl w.heap.size 0 rfl #[x0, x1, x2, x3] _ hSw.rpm Tryd.underlying26 rfl sizeTM
  simp only [Act.put, List.getElem_toArray, List.getElem_cons_succ, List.getElem_cons_zero, List.setIfInBounds_toArray, List.set_cons_zero, List.set_cons_succ]
  refine ready_one 16 _ (by kernel_rfl) rfl (stepFnW 20 (.func 20) [.tmp 48, .const (.int .i64 0)] _ [.agg #[a0, a1, a2, a3], .int .i64 0] rfl rfl rfl rfl (fun _ => rfl) _ (HSz1.out _ HS7.out) ?_)
  rintro e w8 ⟨rfl, hw⟩
  refine Or.inl ⟨_, rfl, ?_⟩
  have HS8 := hid (HS7.out.on hw)
  clear hw HSz1 HS7 hHeld
  refine ⟨HS8.out.r, ?_⟩
  simp only [Act.put, List.getElem_toArray, List.getElem_cons_succ, List.getElem_cons_zero, List.setIfInBounds_toArray, List.set_cons_zero, List.set_cons_succ]
  have hHeld := HS8.out.r
  refine ready_one 19 _ (by kernel_rfl) rfl (stepFnW 20 (.func 20) [.tmp 51, .const (.int .i64 0)] _ [.agg #[x0, x1, x2, x3], .int .i64 0] rfl rfl rfl rfl (fun _ => rfl) _ (HSz2.out _ HS8.out) ?_)
  rintro e w9 ⟨rfl, hw⟩
  refine Or.inl ⟨_, rfl, ?_⟩
  have HS9 := hid (HS8.out.on hw)
  clear hw HSz2 HS8 hHeld
  refine ⟨HS9.out.r, ?_⟩
  simp only [Act.put, List.getElem_toArray, List.getElem_cons_succ, List.getElem_cons_zero, List.setIfInBounds_toArray, List.set_cons_zero, List.set_cons_succ]
  have hHeld := HS9.out.r
  refine wpAnyH_take (i := 20) (v := (.bool false)) rfl (by kernel_rfl) (by kernel_rfl) (by kernel_rfl) (fun _ _ _ h => h) (Or.inl ⟨by rfl, ?_⟩) hHeld ?_
  · intro w' hSw
    clear hSw
    go_simp
    exact HGt.out
  simp only [Act.put, List.getElem_toArray, List.getElem_cons_succ, List.getElem_cons_zero, List.setIfInBounds_toArray, List.set_cons_zero, List.set_cons_succ]
  refine wpAnyH_take (i := 21) (v := ?_) rfl (by kernel_rfl) (by kernel_rfl) (by kernel_rfl) (fun _ _ _ h => h) (Or.inl ⟨by rfl, ?_⟩) hHeld ?_
  rotate_left
  · intro w' hSw
    have a4 := hSw.a4
    clear hSw
    go_simp
    first | done | with_reducible rfl
  simp only [Act.put, List.getElem_toArray, List.getElem_cons_succ, List.getElem_cons_zero, List.setIfInBounds_toArray, List.set_cons_zero, List.set_cons_succ]
  refine wpAnyH_take (i := 22) (v := ?_) rfl (by kernel_rfl) (by kernel_rfl) (by kernel_rfl) (fun _ _ _ h => h) (Or.inl ⟨by rfl, ?_⟩) hHeld ?_
  rotate_left
  · intro w' hSw
    have a4 := hSw.a4
    clear hSw
    go_simp
    first | done | with_reducible rfl
  simp only [Act.put, List.getElem_toArray, List.getElem_cons_succ, List.getElem_cons_zero, List.setIfInBounds_toArray, List.set_cons_zero, List.set_cons_succ]
  refine wpAnyH_take (i := 23) (v := ?_) rfl (by kernel_rfl) (by kernel_rfl) (by kernel_rfl) (fun _ _ _ h => h) (Or.inl ⟨by rfl, ?_⟩) hHeld ?_
  rotate_left
  · intro w' hSw
    have a4 := hSw.a4
    clear hSw
    go_simp
    first | done | with_reducible rfl
  simp only [Act.put, List.getElem_toArray, List.getElem_cons_succ, List.getElem_cons_zero, List.setIfInBounds_toArray, List.set_cons_zero, List.set_cons_succ]
  refine wpAnyH_take (i := 24) (v := ?_) rfl (by kernel_rfl) (by kernel_rfl) (by kernel_rfl) (fun _ _ _ h => h) (Or.inl ⟨by rfl, ?_⟩) hHeld ?_
  rotate_left
  · intro w' hSw
    have a4 := hSw.a4
    clear hSw
    go_simp
    first | done | with_reducible rfl
  simp only [Act.put, List.getElem_toArray, List.getElem_cons_succ, List.getElem_cons_zero, List.setIfInBounds_toArray, List.set_cons_zero, List.set_cons_succ]
  refine wpAnyH_take (i := 25) (v := ?_) rfl (by kernel_rfl) (by kernel_rfl) (by kernel_rfl) (fun _ _ _ h => h) (Or.inl ⟨by rfl, ?_⟩) hHeld ?_
  rotate_left
  · intro w' hSw
    have p4 := hSw.p4
    clear hSw
    go_simp
    first | done | with_reducible rfl
  simp only [Act.put, List.getElem_toArray, List.getElem_cons_succ, List.getElem_cons_zero, List.setIfInBounds_toArray, List.set_cons_zero, List.set_cons_succ]
  refine wpAnyH_take (i := 26) (v := ?_) rfl (by kernel_rfl) (by kernel_rfl) (by kernel_rfl) (fun _ _ _ h => h) (Or.inl ⟨by rfl, ?_⟩) hHeld ?_
  rotate_left
  · intro w' hSw
    have p4 := hSw.p4
    clear hSw
    go_simp
    first | done | with_reducible rfl
  simp only [Act.put, List.getElem_toArray, List.getElem_cons_succ, List.getElem_cons_zero, List.setIfInBounds_toArray, List.set_cons_zero, List.set_cons_succ]
  refine wpAnyH_take (i := 27) (v := ?_) rfl (by kernel_rfl) (by kernel_rfl) (by kernel_rfl) (fun _ _ _ h => h) (Or.inl ⟨by rfl, ?_⟩) hHeld ?_
  rotate_left
  · intro w' hSw
    have p4 := hSw.p4
    clear hSw
    go_simp
    first | done | with_reducible rfl
  simp only [Act.put, List.getElem_toArray, List.getElem_cons_succ, List.getElem_cons_zero, List.setIfInBounds_toArray, List.set_cons_zero, List.set_cons_succ]
  refine wpAnyH_take (i := 28) (v := ?_) rfl (by kernel_rfl) (by kernel_rfl) (by kernel_rfl) (fun _ _ _ h => h) (Or.inl ⟨by rfl, ?_⟩) hHeld ?_
  rotate_left
  · intro w' hSw
    clear hSw
    go_simp
    first | done | with_reducible rfl
  simp only [Act.put, List.getElem_toArray, List.getElem_cons_succ, List.getElem_cons_zero, List.setIfInBounds_toArray, List.set_cons_zero, List.set_cons_succ]
  refine wpAnyH_take (i := 29) (v := (.bool false)) rfl (by kernel_rfl) (by kernel_rfl) (by kernel_rfl) (fun _ _ _ h => h) (Or.inl ⟨by rfl, ?_⟩) hHeld ?_
  · intro w' hSw
    clear hSw
    go_simp
    first | done | with_reducible rfl
  simp only [Act.put, List.getElem_toArray, List.getElem_cons_succ, List.getElem_cons_zero, List.setIfInBounds_toArray, List.set_cons_zero, List.set_cons_succ]
  refine wpAnyH_take (i := 30) (v := ?_) rfl (by kernel_rfl) (by kernel_rfl) (by kernel_rfl) (fun _ _ _ h => h) (Or.inl ⟨by rfl, ?_⟩) hHeld ?_
  rotate_left
  · intro w' hSw
    clear hSw
    go_simp
    first | done | with_reducible rfl
  simp only [Act.put, List.getElem_toArray, List.getElem_cons_succ, List.getElem_cons_zero, List.setIfInBounds_toArray, List.set_cons_zero, List.set_cons_succ]
  refine wpAnyH_done (by kernel_rfl) ?_ _
  clear hHeld
  clear HTw HGt
  go_upto_region 8 with fail
  go_loopw [7] (fun v wr => ∃ j : Nat, v = .int .i64 ((j : Nat) : Int) ∧ j ≤ (pi P).qs.length ∧ Hid (T5S w P w2.heap.size w4.heap.size x0 x1 x2 x3 (.slice ao (pi P).qs.length cap) a0 a1 a2 a3 (.slice ap (pi P).qs.length acap) b0 b1 b2 b3 (.slice bp (pi P).qs.length bcap) wr)) (fun v _ => (pi P).qs.length - (intOf v).toNat)
  case atStart => exact ⟨0, rfl, Nat.zero_le _, HS9⟩
  case round =>
    clear HS9
    obtain ⟨j, rfl, hj1, HS⟩ := hrel
    have hl32 : (pi P).qs.length ≤ 32 := by rw [pi_len]; exact HOk.out.l
    by_cases hj : j < (pi P).qs.length
    · have hs3 : decide ((j : Int) < ((pi P).qs.length : Int)) = true := by simp; omega
      have hw3 : IntKind.i64.wrap ((j : Int) + 1) = (j : Int) + 1 := by rw [IntKind.wrap_i64]; omega
      have hja : j < (pi (plPo P)).qs.length := by rw [HLen.out]; exact hj
      have hjp : j < P.qs.length := by rw [← pi_len]; exact hj
      have HSd := hid (HS.out.on (bel_drew (Below.refl wr.heap.size wr)))
      have a4 := HS.out.r.a4
      obtain ⟨g, o, e1, hca, hg, es, ht, hna, hra⟩ := HSd.out.va.qat hja
      obtain ⟨g', o', e2, hcp, hg', fs, ht', hnp, hrp⟩ := HSd.out.vp.qat hj
      obtain ⟨q1, q2, q3, q4⟩ := q_at P j hja hj hjp
      rw [q1] at hna
      rw [q2] at hnp
      rw [q3] at ht
      rw [q4] at ht'
      subst e1
      subst e2
      have hjc : j < acap := by omega
      have hjc' : j < cap := by omega
      have es4 := ht.size
      have fs4 := ht'.size
      obtain ⟨c0, c1, c2, c3, rfl⟩ := arr4 es4
      obtain ⟨d0, d1, d2, d3, rfl⟩ := arr4 fs4
      have HR : Hid (T5L w.heap.size w2.heap.size g g' (o + j * 5) (o' + j * 5) (pi P).qs.length acap cap o o' (P.qs[j]).nm #[c0, c1, c2, c3] #[d0, d1, d2, d3] wr.drew) := ⟨HSd.out.r.a4, HSd.out.r.p4, hna, hnp, hra, hrp⟩
      have hsz : sz (P.qs[j]).pd ≤ 4096 := by have := HOk.out.s; have := qsz_mem (List.getElem_mem hjp); omega
      have hle : sz (pl (P.qs[j]).pd) ≤ sz (P.qs[j]).pd := (HOk.out.gq (List.getElem_mem hjp)).s
      obtain ⟨m1, hm1⟩ : ∃ m, m = 0 + sz (pl (P.qs[j]).pd) := ⟨_, rfl⟩
      obtain ⟨m2, hm2⟩ : ∃ m, m = 0 + sz (P.qs[j]).pd := ⟨_, rfl⟩
      have HGt : Hid (m1 ≤ m2) := by show _ ≤ _; omega
      have HC1 : Hid (Calls Tryd.prog 20 #[.agg #[c0, c1, c2, c3], .int .i64 0] wr.drew fun e w' => e = .returned (.int .i64 ((m1 : Nat) : Int)) ∧ Below wr.drew.heap.size wr.drew w') := by
        rw [hm1]
        exact size8_any _ (pl (P.qs[j]).pd) #[c0, c1, c2, c3] 0 wr.drew (Nat.le_refl _) (by omega) ht
      have HC2 : Hid (∀ W, Below wr.drew.heap.size wr.drew W → Calls Tryd.prog 20 #[.agg #[d0, d1, d2, d3], .int .i64 0] W fun e w' => e = .returned (.int .i64 ((m2 : Nat) : Int)) ∧ Below W.heap.size W w') := fun W hb => by
        rw [hm2]
        exact size8_any _ (P.qs[j]).pd #[d0, d1, d2, d3] 0 W (Nat.le_refl _) (by omega) (ti_on ht' fun b hl hS => ⟨by have := hb.size; omega, hb.block b hl⟩)
      have HG := hid (And.intro hg hg')
      generalize (P.qs[j]).nm = nm at HR
      clear ht ht' hna hnp hra hrp q1 q2 q3 q4 hsz hle hm1 hm2 hg hg' hca hcp HS
      go_upto_region 10 with fail
      refine wp_region_held_drew (S := T5L w.heap.size w2.heap.size g g' (o + j * 5) (o' + j * 5) (pi P).qs.length acap cap o o' nm #[c0, c1, c2, c3] #[d0, d1, d2, d3]) (by kernel_rfl) HR.out (fun hHeld => ?_)
      refine wpAnyH_take (i := 0) (v := ?_) rfl (by kernel_rfl) (by kernel_rfl) (by kernel_rfl) (fun _ _ _ h => h) (Or.inl ⟨by rfl, ?_⟩) hHeld ?_
      rotate_left
      · intro w' hSw
        have a4 := hSw.a4
        have na := hSw.na
        clear hSw
        go_simp
        first | done | with_reducible rfl
      simp only [Act.put, List.getElem_toArray, List.getElem_cons_zero, List.setIfInBounds_toArray, List.set_cons_zero, List.set_cons_succ]
      refine wpAnyH_take (i := 1) (v := ?_) rfl (by kernel_rfl) (by kernel_rfl) (by kernel_rfl) (fun _ _ _ h => h) (Or.inl ⟨by rfl, ?_⟩) hHeld ?_
      rotate_left
      · intro w' hSw
        have a4 := hSw.a4
        have na := hSw.na
        clear hSw
        go_simp
        first | done | with_reducible rfl
      simp only [Act.put, List.getElem_toArray, List.getElem_cons_succ, List.getElem_cons_zero, List.setIfInBounds_toArray, List.set_cons_zero, List.set_cons_succ]
      refine wpAnyH_take (i := 2) (v := ?_) rfl (by kernel_rfl) (by kernel_rfl) (by kernel_rfl) (fun _ _ _ h => h) (Or.inl ⟨by rfl, ?_⟩) hHeld ?_
      rotate_left
      · intro w' hSw
        have a4 := hSw.a4
        have na := hSw.na
        clear hSw
        go_simp
        first | done | with_reducible rfl
      simp only [Act.put, List.getElem_toArray, List.getElem_cons_succ, List.getElem_cons_zero, List.setIfInBounds_toArray, List.set_cons_zero, List.set_cons_succ]
      refine wpAnyH_take (i := 3) (v := ?_) rfl (by kernel_rfl) (by kernel_rfl) (by kernel_rfl) (fun _ _ _ h => h) (Or.inl ⟨by rfl, ?_⟩) hHeld ?_
      rotate_left
      · intro w' hSw
        have a4 := hSw.a4
        have na := hSw.na
        clear hSw
        go_simp
        first | done | with_reducible rfl
      simp only [Act.put, List.getElem_toArray, List.getElem_cons_succ, List.getElem_cons_zero, List.setIfInBounds_toArray, List.set_cons_zero, List.set_cons_succ]
      refine wpAnyH_take (i := 4) (v := ?_) rfl (by kernel_rfl) (by kernel_rfl) (by kernel_rfl) (fun _ _ _ h => h) (Or.inl ⟨by rfl, ?_⟩) hHeld ?_
      rotate_left
      · intro w' hSw
        have a4 := hSw.a4
        have na := hSw.na
        clear hSw
        go_simp
        first | done | with_reducible rfl
      simp only [Act.put, List.getElem_toArray, List.getElem_cons_succ, List.getElem_cons_zero, List.setIfInBounds_toArray, List.set_cons_zero, List.set_cons_succ]
      refine wpAnyH_take (i := 5) (v := ?_) rfl (by kernel_rfl) (by kernel_rfl) (by kernel_rfl) (fun _ _ _ h => h) (Or.inl ⟨by rfl, ?_⟩) hHeld ?_
      rotate_left
      · intro w' hSw
        have a4 := hSw.a4
        have na := hSw.na
        clear hSw
        go_simp
        first | done | with_reducible rfl
      simp only [Act.put, List.getElem_toArray, List.getElem_cons_succ, List.getElem_cons_zero, List.setIfInBounds_toArray, List.set_cons_zero, List.set_cons_succ]
      refine wpAnyH_take (i := 6) (v := ?_) rfl (by kernel_rfl) (by kernel_rfl) (by kernel_rfl) (fun _ _ _ h => h) (Or.inl ⟨by rfl, ?_⟩) hHeld ?_
      rotate_left
      · intro w' hSw
        have p4 := hSw.p4
        have np := hSw.np
        clear hSw
        go_simp
        first | done | with_reducible rfl
      simp only [Act.put, List.getElem_toArray, List.getElem_cons_succ, List.getElem_cons_zero, List.setIfInBounds_toArray, List.set_cons_zero, List.set_cons_succ]
      refine wpAnyH_take (i := 7) (v := ?_) rfl (by kernel_rfl) (by kernel_rfl) (by kernel_rfl) (fun _ _ _ h => h) (Or.inl ⟨by rfl, ?_⟩) hHeld ?_
      rotate_left
      · intro w' hSw
        have p4 := hSw.p4
        have np := hSw.np
        clear hSw
        go_simp
        first | done | with_reducible rfl
      simp only [Act.put, List.getElem_toArray, List.getElem_cons_succ, List.getElem_cons_zero, List.setIfInBounds_toArray, List.set_cons_zero, List.set_cons_succ]
      refine wpAnyH_take (i := 8) (v := ?_) rfl (by kernel_rfl) (by kernel_rfl) (by kernel_rfl) (fun _ _ _ h => h) (Or.inl ⟨by rfl, ?_⟩) hHeld ?_
      rotate_left
      · intro w' hSw
        have p4 := hSw.p4
        have np := hSw.np
        clear hSw
        go_simp
        first | done | with_reducible rfl
      simp only [Act.put, List.getElem_toArray, List.getElem_cons_succ, List.getElem_cons_zero, List.setIfInBounds_toArray, List.set_cons_zero, List.set_cons_succ]
      refine wpAnyH_take (i := 9) (v := ?_) rfl (by kernel_rfl) (by kernel_rfl) (by kernel_rfl) (fun _ _ _ h => h) (Or.inl ⟨by rfl, ?_⟩) hHeld ?_
      rotate_left
      · intro w' hSw
        have p4 := hSw.p4
        have np := hSw.np
        clear hSw
        go_simp
        first | done | with_reducible rfl
      simp only [Act.put, List.getElem_toArray, List.getElem_cons_succ, List.getElem_cons_zero, List.setIfInBounds_toArray, List.set_cons_zero, List.set_cons_succ]
      refine wpAnyH_take (i := 10) (v := ?_) rfl (by kernel_rfl) (by kernel_rfl) (by kernel_rfl) (fun _ _ _ h => h) (Or.inl ⟨by rfl, ?_⟩) hHeld ?_
      rotate_left
      · intro w' hSw
        have p4 := hSw.p4
        have np := hSw.np
        clear hSw
        go_simp
        first | done | with_reducible rfl
      simp only [Act.put, List.getElem_toArray, List.getElem_cons_succ, List.getElem_cons_zero, List.setIfInBounds_toArray, List.set_cons_zero, List.set_cons_succ]
      refine wpAnyH_take (i := 11) (v := ?_) rfl (by kernel_rfl) (by kernel_rfl) (by kernel_rfl) (fun _ _ _ h => h) (Or.inl ⟨by rfl, ?_⟩) hHeld ?_
      rotate_left
      · intro w' hSw
        have p4 := hSw.p4
        have np := hSw.np
        clear hSw
        go_simp
        first | done | with_reducible rfl
      simp only [Act.put, List.getElem_toArray, List.getElem_cons_succ, List.getElem_cons_zero, List.setIfInBounds_toArray, List.set_cons_zero, List.set_cons_succ]
      refine wpAnyH_take (i := 12) (v := (.bool false)) rfl (by kernel_rfl) (by kernel_rfl) (by kernel_rfl) (fun _ _ _ h => h) (Or.inl ⟨by rfl, ?_⟩) hHeld ?_
      · intro w' hSw
        clear hSw
        go_simp
        first | done | with_reducible rfl
      simp only [Act.put, List.getElem_toArray, List.getElem_cons_succ, List.getElem_cons_zero, List.setIfInBounds_toArray, List.set_cons_zero, List.set_cons_succ]
      refine wpAnyH_take (i := 13) (v := ?_) rfl (by kernel_rfl) (by kernel_rfl) (by kernel_rfl) (fun _ _ _ h => h) (Or.inl ⟨by rfl, ?_⟩) hHeld ?_
      rotate_left
      · intro w' hSw
        have a4 := hSw.a4
        clear hSw
        go_simp
        first | done | with_reducible rfl
      simp only [Act.put, List.getElem_toArray, List.getElem_cons_succ, List.getElem_cons_zero, List.setIfInBounds_toArray, List.set_cons_zero, List.set_cons_succ]
      refine wpAnyH_take (i := 14) (v := ?_) rfl (by kernel_rfl) (by kernel_rfl) (by kernel_rfl) (fun _ _ _ h => h) (Or.inl ⟨by rfl, ?_⟩) hHeld ?_
      rotate_left
      · intro w' hSw
        have a4 := hSw.a4
        clear hSw
        go_simp
        first | done | with_reducible rfl
      simp only [Act.put, List.getElem_toArray, List.getElem_cons_succ, List.getElem_cons_zero, List.setIfInBounds_toArray, List.set_cons_zero, List.set_cons_succ]
      refine wpAnyH_take (i := 15) (v := ?_) rfl (by kernel_rfl) (by kernel_rfl) (by kernel_rfl) (fun _ _ _ h => h) (Or.inl ⟨by rfl, ?_⟩) hHeld ?_
      rotate_left
      · intro w' hSw
        have a4 := hSw.a4
        clear hSw
        go_simp
        first | done | with_reducible rfl
      simp only [Act.put, List.getElem_toArray, List.getElem_cons_succ, List.getElem_cons_zero, List.setIfInBounds_toArray, List.set_cons_zero, List.set_cons_succ]
      refine wpAnyH_take (i := 16) (v := ?_) rfl (by kernel_rfl) (by kernel_rfl) (by kernel_rfl) (fun _ _ _ h => h) (Or.inl ⟨by rfl, ?_⟩) hHeld ?_
      rotate_left
      · intro w' hSw
        have a4 := hSw.a4
        clear hSw
        go_simp
        first | done | with_reducible rfl
      simp only [Act.put, List.getElem_toArray, List.getElem_cons_succ, List.getElem_cons_zero, List.setIfInBounds_toArray, List.set_cons_zero, List.set_cons_succ]
      refine wpAnyH_take (i := 17) (v := ?_) rfl (by kernel_rfl) (by kernel_rfl) (by kernel_rfl) (fun _ _ _ h => h) (Or.inl ⟨by rfl, ?_⟩) hHeld ?_
      rotate_left
      · intro w' hSw
        have a4 := hSw.a4
        clear hSw
        go_simp
        first | done | with_reducible rfl
      simp only [Act.put, List.getElem_toArray, List.getElem_cons_succ, List.getElem_cons_zero, List.setIfInBounds_toArray, List.set_cons_zero, List.set_cons_succ]
      refine wpAnyH_take (i := 18) (v := ?_) rfl (by kernel_rfl) (by kernel_rfl) (by kernel_rfl) (fun _ _ _ h => h) (Or.inl ⟨by rfl, ?_⟩) hHeld ?_
      rotate_left
      · intro w' hSw
        have a4 := hSw.a4
        clear hSw
        go_simp
        first | done | with_reducible rfl
      simp only [Act.put, List.getElem_toArray, List.getElem_cons_succ, List.getElem_cons_zero, List.setIfInBounds_toArray, List.set_cons_zero, List.set_cons_succ]
      refine wpAnyH_take (i := 19) (v := .agg #[c0, c1, c2, c3]) rfl (by kernel_rfl) (by kernel_rfl) (by kernel_rfl) (fun _ _ _ h => h) (Or.inl ⟨by rfl, ?_⟩) hHeld ?_
      · intro w' hSw
        exact runLd 26 (.tmp 89) rfl g (o + j * 5 + 1) rfl #[c0, c1, c2, c3] _ hSw.ra Tryd.underlying26 rfl sizeTM
      simp only [Act.put, List.getElem_toArray, List.getElem_cons_succ, List.getElem_cons_zero, List.setIfInBounds_toArray, List.set_cons_zero, List.set_cons_succ]
      refine wpAnyH_take (i := 21) (v := ?_) rfl (by kernel_rfl) (by kernel_rfl) (by kernel_rfl) (fun _ _ _ h => h) (Or.inl ⟨by rfl, ?_⟩) hHeld ?_
      rotate_left
      · intro w' hSw
        have p4 := hSw.p4
        clear hSw
        go_simp
        first | done | with_reducible rfl
      simp only [Act.put, List.getElem_toArray, List.getElem_cons_succ, List.getElem_cons_zero, List.setIfInBounds_toArray, List.set_cons_zero, List.set_cons_succ]
      refine wpAnyH_take (i := 22) (v := ?_) rfl (by kernel_rfl) (by kernel_rfl) (by kernel_rfl) (fun _ _ _ h => h) (Or.inl ⟨by rfl, ?_⟩) hHeld ?_
      rotate_left
      · intro w' hSw
        have p4 := hSw.p4
        clear hSw
        go_simp
        first | done | with_reducible rfl
      simp only [Act.put, List.getElem_toArray, List.getElem_cons_succ, List.getElem_cons_zero, List.setIfInBounds_toArray, List.set_cons_zero, List.set_cons_succ]
      refine wpAnyH_take (i := 23) (v := ?_) rfl (by kernel_rfl) (by kernel_rfl) (by kernel_rfl) (fun _ _ _ h => h) (Or.inl ⟨by rfl, ?_⟩) hHeld ?_
      rotate_left
      · intro w' hSw
        have p4 := hSw.p4
        clear hSw
        go_simp
        first | done | with_reducible rfl
      simp only [Act.put, List.getElem_toArray, List.getElem_cons_succ, List.getElem_cons_zero, List.setIfInBounds_toArray, List.set_cons_zero, List.set_cons_succ]
      refine wpAnyH_take (i := 24) (v := ?_) rfl (by kernel_rfl) (by kernel_rfl) (by kernel_rfl) (fun _ _ _ h => h) (Or.inl ⟨by rfl, ?_⟩) hHeld ?_
      rotate_left
      · intro w' hSw
        have p4 := hSw.p4
        clear hSw
        go_simp
        first | done | with_reducible rfl
      simp only [Act.put, List.getElem_toArray, List.getElem_cons_succ, List.getElem_cons_zero, List.setIfInBounds_toArray, List.set_cons_zero, List.set_cons_succ]
      refine wpAnyH_take (i := 25) (v := ?_) rfl (by kernel_rfl) (by kernel_rfl) (by kernel_rfl) (fun _ _ _ h => h) (Or.inl ⟨by rfl, ?_⟩) hHeld ?_
      rotate_left
      · intro w' hSw
        have p4 := hSw.p4
        clear hSw
        go_simp
        first | done | with_reducible rfl
      simp only [Act.put, List.getElem_toArray, List.getElem_cons_succ, List.getElem_cons_zero, List.setIfInBounds_toArray, List.set_cons_zero, List.set_cons_succ]
      refine wpAnyH_take (i := 26) (v := .agg #[d0, d1, d2, d3]) rfl (by kernel_rfl) (by kernel_rfl) (by kernel_rfl) (fun _ _ _ h => h) (Or.inl ⟨by rfl, ?_⟩) hHeld ?_
      · intro w' hSw
        exact runLd 26 (.tmp 96) rfl g' (o' + j * 5 + 1) rfl #[d0, d1, d2, d3] _ hSw.rp Tryd.underlying26 rfl sizeTM
      simp only [Act.put, List.getElem_toArray, List.getElem_cons_succ, List.getElem_cons_zero, List.setIfInBounds_toArray, List.set_cons_zero, List.set_cons_succ]
      refine ready_one 20 _ (by kernel_rfl) rfl (stepFnW 20 (.func 20) [.tmp 90, .const (.int .i64 0)] _ [.agg #[c0, c1, c2, c3], .int .i64 0] rfl rfl rfl rfl (fun _ => rfl) _ HC1.out ?_)
      rintro e w8 ⟨rfl, hw⟩
      refine Or.inl ⟨_, rfl, ?_⟩
      have HS8 := hid (HSd.out.on hw)
      have HR8 := hid (HR.out.on hw HG.out.1 HG.out.2)
      have HD8 := hid (HC2.out _ hw)
      have HG8 : Hid (g < w8.heap.size ∧ g' < w8.heap.size) := ⟨by have := hw.size; have := HG.out.1; omega, by have := hw.size; have := HG.out.2; omega⟩
      clear hw HSd HR HC2 HC1 HG hHeld
      refine ⟨HR8.out, ?_⟩
      simp only [Act.put, List.getElem_toArray, List.getElem_cons_succ, List.getElem_cons_zero, List.setIfInBounds_toArray, List.set_cons_zero, List.set_cons_succ]
      have hHeld := HR8.out
      refine ready_one 27 _ (by kernel_rfl) rfl (stepFnW 20 (.func 20) [.tmp 97, .const (.int .i64 0)] _ [.agg #[d0, d1, d2, d3], .int .i64 0] rfl rfl rfl rfl (fun _ => rfl) _ HD8.out ?_)
      rintro e w9 ⟨rfl, hw⟩
      refine Or.inl ⟨_, rfl, ?_⟩
      have HS9 := hid (HS8.out.on hw)
      have HR9 := hid (HR8.out.on hw HG8.out.1 HG8.out.2)
      clear hw HS8 HR8 HD8 HG8 hHeld
      refine ⟨HR9.out, ?_⟩
      simp only [Act.put, List.getElem_toArray, List.getElem_cons_succ, List.getElem_cons_zero, List.setIfInBounds_toArray, List.set_cons_zero, List.set_cons_succ]
      have hHeld := HR9.out
      refine wpAnyH_take (i := 28) (v := (.bool false)) rfl (by kernel_rfl) (by kernel_rfl) (by kernel_rfl) (fun _ _ _ h => h) (Or.inl ⟨by rfl, ?_⟩) hHeld ?_
      · intro w' hSw
        clear hSw
        go_simp
        exact HGt.out
      simp only [Act.put, List.getElem_toArray, List.getElem_cons_succ, List.getElem_cons_zero, List.setIfInBounds_toArray, List.set_cons_zero, List.set_cons_succ]
      refine wpAnyH_take (i := 29) (v := ?_) rfl (by kernel_rfl) (by kernel_rfl) (by kernel_rfl) (fun _ _ _ h => h) (Or.inl ⟨by rfl, ?_⟩) hHeld ?_
      rotate_left
      · intro w' hSw
        clear hSw
        go_simp
        first | done | with_reducible rfl
      simp only [Act.put, List.getElem_toArray, List.getElem_cons_succ, List.getElem_cons_zero, List.setIfInBounds_toArray, List.set_cons_zero, List.set_cons_succ]
      refine wpAnyH_done (by kernel_rfl) ?_ _
      clear hHeld HR9 HGt a4
      go_wp2
      refine ⟨⟨j + 1, rfl, hj, HS9⟩, ?_⟩
      simp [intOf]; omega
    · have hs3 : decide ((j : Int) < ((pi P).qs.length : Int)) = false := by simp; omega
      have a4 := HS.out.r.a4
      have HW := hid (HWk.out wr HS.out.low)
      go_wp2_with (go_at_call 13; refine (HW.out).mono ?_; rintro e w11 ⟨rfl, hw⟩; have HB11 := hid (HS.out.low.trans (hw.mono HS.out.low.size)); clear hw)
      go_ret
      exact ⟨rfl, HB11.out⟩
end Go.Proofs.YtabbdnmbpepdbaaDoor
