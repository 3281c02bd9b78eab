/-
  Proved here: Terms and Policies of the statements say true of two readings of one term, of one policy. Condition: at most 100000 terms.
-/
import Derived.Test.YtjallmncajhamaaDoorGX
namespace Go.Proofs.YtjallmncajhamaaDoor
open Go.RowKit
set_option maxRecDepth 100000

theorem heap_alloc2_old (w : World) (o1 o2 : Obj) : ((w.alloc o1).alloc o2).heap[w.heap.size]? = some o1 := (heap_alloc_old _ _ (by simp)).trans (heap_alloc_new _ _)
theorem heap_alloc2_new (w : World) (o1 o2 : Obj) : ((w.alloc o1).alloc o2).heap[w.heap.size + 1]? = some o2 := by have := heap_alloc_new (w.alloc o1) o2; simpa using this
theorem GiL.rng {S : Nat → Prop} {w : World} {ks : List Ti} {v : Value} {xs : List Value} (h : Gx S 4 w v ks.length xs) (hl : GiL S w ks xs) {j : Nat} (hj : j < ks.length) : ∃ g o cap, v = .slice (some ⟨g, o, none⟩) ks.length cap ∧ ks.length ≤ cap ∧ S g ∧ g < w.heap.size ∧ ∃ ds, GiV S w ks[j] ds ∧ w.rangeAt g (o + j * 4) ds.toList := by
  obtain ⟨ao, cap, rfl⟩ := h.form
  obtain ⟨g, o, rfl, hc, hS, hg, hr⟩ := h.at hj
  obtain ⟨ds, h4, h5⟩ := GiL.at ks xs j hj hl
  refine ⟨g, o, cap, rfl, hc, hS, hg, ds, h4, hr _ fun i hi => ?_⟩
  have hi4 : i < 4 := by have := h4.size; simp at hi; omega
  rw [h5 i hi4]
  simp
theorem GqL.rng {S : Nat → Prop} {w : World} {qs : List Qi} {v : Value} {xs : List Value} (h : Gx S 5 w v qs.length xs) (hl : GqL S w qs xs) {j : Nat} (hj : j < qs.length) : ∃ g o cap, v = .slice (some ⟨g, o, none⟩) qs.length cap ∧ qs.length ≤ cap ∧ g < w.heap.size ∧ ∃ ds, GiV S w (qs[j]).pd ds ∧ w.cell? ⟨g, o + j * 5, none⟩ = some (.string (qs[j]).nm) ∧ w.rangeAt g (o + j * 5 + 1) ds.toList := by
  obtain ⟨ao, cap, rfl⟩ := h.form
  obtain ⟨g, o, rfl, hc, hS, hg, hr⟩ := h.at hj
  obtain ⟨ds, h4, h5⟩ := GqL.at qs xs j hj hl
  have hs := h4.size
  have hra := hr (Value.string (qs[j]).nm :: ds.toList) fun i hi => h5 i (by simp at hi; omega)
  refine ⟨g, o, cap, rfl, hc, hg, ds, h4, hra 0 _ rfl, fun i x hi => ?_⟩
  have := hra (i + 1) x (by simpa using hi)
  rw [show o + j * 5 + 1 + i = o + j * 5 + (i + 1) by omega]
  exact this
/-- where Terms is -/
structure TeS (w : World) (ca cb : Array Value) (wr : World) : Prop where
  low : Below w.heap.size w wr
  a : wr.heap[w.heap.size]? = some (.cells ca 26 (0, 0))
  b : wr.heap[w.heap.size + 1]? = some (.cells cb 26 (0, 0))
theorem TeS.on {w : World} {ca cb : Array Value} {wr w' : World} (h : TeS w ca cb wr) (hb : Below wr.heap.size wr w') : TeS w ca cb w' :=
  ⟨h.low.trans (hb.mono h.low.size), (hb.block _ (Array.getElem?_eq_some_iff.1 h.a).1).trans h.a, (hb.block _ (Array.getElem?_eq_some_iff.1 h.b).1).trans h.b⟩
/-- what the region reads -/
structure TeR (A g p g' p' n c c' o o' : Nat) (ds es : Array Value) (W : World) : Prop where
  a3 : W.cell? ⟨A, 3, none⟩ = some (.slice (some ⟨g, o, none⟩) n c)
  b3 : W.cell? ⟨A + 1, 3, none⟩ = some (.slice (some ⟨g', o', none⟩) n c')
  ra : W.rangeAt g p ds.toList
  rb : W.rangeAt g' p' es.toList
theorem TeR.on {A g p g' p' n c c' o o' : Nat} {ds es : Array Value} {W W' : World} (h : TeR A g p g' p' n c c' o o' ds es W) (hb : Below W.heap.size W W') (hg : g < W.heap.size) (hg' : g' < W.heap.size) : TeR A g p g' p' n c c' o o' ds es W' :=
  ⟨(cell_same (hb.block _ (cell_lt h.a3))).trans h.a3, (cell_same (hb.block _ (cell_lt h.b3))).trans h.b3, fun j v hj => (cell_same (hb.block _ hg)).trans (h.ra j v hj), fun j v hj => (cell_same (hb.block _ hg')).trans (h.rb j v hj)⟩
set_option maxHeartbeats 6400000 in
theorem terms_same : ∀ (N : Nat) (t : Ti) (cs ds : Array Value) (w : World), szI t ≤ N → N ≤ 100000 → GiV (fun _ => True) w t cs → GiV (fun _ => True) w t ds →
    Calls Tryd.prog 45 #[.agg cs, .agg ds] w fun e w' => e = .returned (.bool true) ∧ Below w.heap.size w w'
  | 0, t, cs, ds, w, hN, _, _, _ => by have := szI_pos t; omega
  | N + 1, .mk op fd n ks, cs, ds, w, hN, hsm, h1, h2 => by
    have HIH := hid (terms_same N)
    obtain ⟨v, xs, rfl, ha1, ha2⟩ := h1.get
    obtain ⟨v', ys, rfl, hb1, hb2⟩ := h2.get
    obtain ⟨ao, ca, rfl⟩ := ha1.form
    obtain ⟨bo, cb, rfl⟩ := hb1.form
    rw [szI] at hN
    have hkl : ks.length ≤ 100000 := by have := len_szsI ks ks.length (Nat.le_refl _); rw [List.take_length] at this; omega
    obtain ⟨W1, hW1⟩ : ∃ W1, W1 = (w.alloc (.cells (tic op fd n (.slice ao ks.length ca)) 26)).alloc (.cells (tic op fd n (.slice bo ks.length cb)) 26) := ⟨_, rfl⟩
    have hS1 : TeS w (tic op fd n (.slice ao ks.length ca)) (tic op fd n (.slice bo ks.length cb)) W1 := by
      rw [hW1]; exact ⟨((Below.refl _ _).alloc (Nat.le_refl _) _).alloc (by simp) _, heap_alloc2_old _ _ _, heap_alloc2_new _ _ _⟩
    have HE : Hid ((w.alloc (.cells #[.int .i8 op, .int .i8 fd, .int .u64 ((n : Nat) : Int), .slice ao ks.length ca] 26)).alloc (.cells #[.int .i8 op, .int .i8 fd, .int .u64 ((n : Nat) : Int), .slice bo ks.length cb] 26) = W1) := hW1.symm
    obtain ⟨a0, a1, a2, a3⟩ := four_cells hS1.a
    obtain ⟨b0, b1, b2, b3⟩ := four_cells hS1.b
    have HS1 := hid hS1
    have HKa := hid (And.intro ha1 ha2)
    have HKb := hid (And.intro hb1 hb2)
    clear h1 h2 ha1 ha2 hb1 hb2 hW1 hS1
    go_enter Tryd.func45, Tryd.ntmps45
    go_upto_region 1 with fail
    rw [show (w.alloc (.cells #[.int .i8 op, .int .i8 fd, .int .u64 ((n : Nat) : Int), .slice ao ks.length ca] 26)).alloc (.cells #[.int .i8 op, .int .i8 fd, .int .u64 ((n : Nat) : Int), .slice bo ks.length cb] 26) = W1 from HE.out]
    clear HE
    go_upto_region 4 with fail
    clear a0 a1 a2 a3 b0 b1 b2 b3
    go_loopw [5] (fun v wr => ∃ j : Nat, v = .int .i64 ((j : Nat) : Int) ∧ j ≤ ks.length ∧ Hid (TeS w (tic op fd n (.slice ao ks.length ca)) (tic op fd n (.slice bo ks.length cb)) wr)) (fun v _ => ks.length - (intOf v).toNat)
    case atStart => exact ⟨0, rfl, Nat.zero_le _, HS1⟩
    case round =>
      clear HS1
      obtain ⟨j, rfl, hj1, HS⟩ := hrel
      have a3 := (four_cells HS.out.a).2.2.2
      by_cases hj : j < ks.length
      · have hs3 : decide ((j : Int) < (ks.length : Int)) = true := by simp; omega
        have hw3 : IntKind.i64.wrap ((j : Int) + 1) = (j : Int) + 1 := by rw [IntKind.wrap_i64]; omega
        obtain ⟨g, o, c0, e1, hc0, -, hg, es, ht, hra⟩ := GiL.rng HKa.out.1 HKa.out.2 hj
        obtain ⟨g', o', c1, e2, hc1, -, hg', fs, ht', hrb⟩ := GiL.rng HKb.out.1 HKb.out.2 hj
        cases e1
        cases e2
        have hjc : j < ca := by omega
        have hjc' : j < cb := by omega
        have hz := HS.out.low.size
        have HSd : Hid (TeS w (tic op fd n (.slice (some ⟨g, o, none⟩) ks.length ca)) (tic op fd n (.slice (some ⟨g', o', none⟩) ks.length cb)) wr.drew) := HS.out.on (bel_drew (Below.refl _ _))
        have HR : Hid (TeR w.heap.size g (o + j * 4) g' (o' + j * 4) ks.length ca cb o o' es fs wr.drew) := ⟨a3, (four_cells HS.out.b).2.2.2, fun i v hi => (cell_same (HS.out.low.block _ hg)).trans (hra i v hi), fun i v hi => (cell_same (HS.out.low.block _ hg')).trans (hrb i v hi)⟩
        have hcar : ∀ b, b < w.heap.size → True → True ∧ wr.drew.heap[b]? = w.heap[b]? := fun b hb _ => ⟨trivial, HS.out.low.block b hb⟩
        have HC := hid (HIH.out ks[j] es fs wr.drew (by have := szsI_mem (List.getElem_mem hj); omega) (by omega) (gi_on ht hcar) (gi_on ht' hcar))
        have HT1 := hid ht.info
        have HT2 := hid ht'.info
        clear hra hrb ht ht' hcar
        go_upto_region 6 with fail
        refine wp_region_held_drew (S := TeR w.heap.size g (o + j * 4) g' (o' + j * 4) ks.length ca cb o o' es fs) (by kernel_rfl) HR.out (fun hHeld => ?_)
        refine wpAnyH_take (i := 0) (v := ?_) rfl (by kernel_rfl) (by kernel_rfl) (by kernel_rfl) (fun _ _ _ h => h) (Or.inl ⟨by rfl, ?_⟩) hHeld ?_
        rotate_left
        · intro w' hSw
          have a3 := hSw.a3
          clear hSw
          go_simp
          first | done | with_reducible rfl
        simp only [Act.put, List.getElem_toArray, List.getElem_cons_zero, List.setIfInBounds_toArray, List.set_cons_zero, List.set_cons_succ]
        refine wpAnyH_take (i := 1) (v := ?_) rfl (by kernel_rfl) (by kernel_rfl) (by kernel_rfl) (fun _ _ _ h => h) (Or.inl ⟨by rfl, ?_⟩) hHeld ?_
        rotate_left
        · intro w' hSw
          have a3 := hSw.a3
          clear hSw
          go_simp
          first | done | with_reducible rfl
        simp only [Act.put, List.getElem_toArray, List.getElem_cons_succ, List.getElem_cons_zero, List.setIfInBounds_toArray, List.set_cons_zero, List.set_cons_succ]
        refine wpAnyH_take (i := 2) (v := ?_) rfl (by kernel_rfl) (by kernel_rfl) (by kernel_rfl) (fun _ _ _ h => h) (Or.inl ⟨by rfl, ?_⟩) hHeld ?_
        rotate_left
        · intro w' hSw
          have a3 := hSw.a3
          clear hSw
          go_simp
          first | done | with_reducible rfl
        simp only [Act.put, List.getElem_toArray, List.getElem_cons_succ, List.getElem_cons_zero, List.setIfInBounds_toArray, List.set_cons_zero, List.set_cons_succ]
        refine wpAnyH_take (i := 3) (v := ?_) rfl (by kernel_rfl) (by kernel_rfl) (by kernel_rfl) (fun _ _ _ h => h) (Or.inl ⟨by rfl, ?_⟩) hHeld ?_
        rotate_left
        · intro w' hSw
          have a3 := hSw.a3
          clear hSw
          go_simp
          first | done | with_reducible rfl
        simp only [Act.put, List.getElem_toArray, List.getElem_cons_succ, List.getElem_cons_zero, List.setIfInBounds_toArray, List.set_cons_zero, List.set_cons_succ]
        refine wpAnyH_take (i := 4) (v := .agg es) rfl (by kernel_rfl) (by kernel_rfl) (by kernel_rfl) (fun _ _ _ h => h) (Or.inl ⟨by rfl, ?_⟩) hHeld ?_
        · intro w' hSw
          exact runLd 26 (.tmp 44) rfl g (o + j * 4) rfl es _ hSw.ra Tryd.underlying26 rfl HT1.out
        simp only [Act.put, List.getElem_toArray, List.getElem_cons_succ, List.getElem_cons_zero, List.setIfInBounds_toArray, List.set_cons_zero, List.set_cons_succ]
        refine wpAnyH_take (i := 5) (v := ?_) rfl (by kernel_rfl) (by kernel_rfl) (by kernel_rfl) (fun _ _ _ h => h) (Or.inl ⟨by rfl, ?_⟩) hHeld ?_
        rotate_left
        · intro w' hSw
          have b3 := hSw.b3
          clear hSw
          go_simp
          first | done | with_reducible rfl
        simp only [Act.put, List.getElem_toArray, List.getElem_cons_succ, List.getElem_cons_zero, List.setIfInBounds_toArray, List.set_cons_zero, List.set_cons_succ]
        refine wpAnyH_take (i := 6) (v := ?_) rfl (by kernel_rfl) (by kernel_rfl) (by kernel_rfl) (fun _ _ _ h => h) (Or.inl ⟨by rfl, ?_⟩) hHeld ?_
        rotate_left
        · intro w' hSw
          have b3 := hSw.b3
          clear hSw
          go_simp
          first | done | with_reducible rfl
        simp only [Act.put, List.getElem_toArray, List.getElem_cons_succ, List.getElem_cons_zero, List.setIfInBounds_toArray, List.set_cons_zero, List.set_cons_succ]
        refine wpAnyH_take (i := 7) (v := ?_) rfl (by kernel_rfl) (by kernel_rfl) (by kernel_rfl) (fun _ _ _ h => h) (Or.inl ⟨by rfl, ?_⟩) hHeld ?_
        rotate_left
        · intro w' hSw
          have b3 := hSw.b3
          clear hSw
          go_simp
          first | done | with_reducible rfl
        simp only [Act.put, List.getElem_toArray, List.getElem_cons_succ, List.getElem_cons_zero, List.setIfInBounds_toArray, List.set_cons_zero, List.set_cons_succ]
        refine wpAnyH_take (i := 8) (v := ?_) rfl (by kernel_rfl) (by kernel_rfl) (by kernel_rfl) (fun _ _ _ h => h) (Or.inl ⟨by rfl, ?_⟩) hHeld ?_
        rotate_left
        · intro w' hSw
          have b3 := hSw.b3
          clear hSw
          go_simp
          first | done | with_reducible rfl
        simp only [Act.put, List.getElem_toArray, List.getElem_cons_succ, List.getElem_cons_zero, List.setIfInBounds_toArray, List.set_cons_zero, List.set_cons_succ]
        refine wpAnyH_take (i := 9) (v := .agg fs) rfl (by kernel_rfl) (by kernel_rfl) (by kernel_rfl) (fun _ _ _ h => h) (Or.inl ⟨by rfl, ?_⟩) hHeld ?_
        · intro w' hSw
          exact runLd 26 (.tmp 49) rfl g' (o' + j * 4) rfl fs _ hSw.rb Tryd.underlying26 rfl HT2.out
        simp only [Act.put, List.getElem_toArray, List.getElem_cons_succ, List.getElem_cons_zero, List.setIfInBounds_toArray, List.set_cons_zero, List.set_cons_succ]
        refine ready_one 10 _ (by kernel_rfl) rfl (stepFnW 45 (.func 45) [.tmp 45, .tmp 50] _ [.agg es, .agg fs] rfl rfl rfl rfl (fun _ => rfl) _ HC.out ?_)
        rintro e w2 ⟨rfl, hw⟩
        refine Or.inl ⟨_, rfl, ?_⟩
        have hHeld := HR.out.on hw (by show g < wr.heap.size; omega) (by show g' < wr.heap.size; omega)
        have HS2 := hid (HSd.out.on hw)
        clear hw
        refine ⟨hHeld, ?_⟩
        simp only [Act.put, List.getElem_toArray, List.getElem_cons_succ, List.getElem_cons_zero, List.setIfInBounds_toArray, List.set_cons_zero, List.set_cons_succ]
        refine wpAnyH_take (i := 11) (v := ?_) rfl (by kernel_rfl) (by kernel_rfl) (by kernel_rfl) (fun _ _ _ h => h) (Or.inl ⟨by rfl, ?_⟩) hHeld ?_
        rotate_left
        · intro w' hSw
          clear hSw
          go_simp
          first | done | with_reducible rfl
        simp only [Act.put, List.getElem_toArray, List.getElem_cons_succ, List.getElem_cons_zero, List.setIfInBounds_toArray, List.set_cons_zero, List.set_cons_succ]
        refine wpAnyH_done (by kernel_rfl) ?_ _
        clear hHeld a3
        go_wp2
        have hX : ∃ k : Nat, Value.int .i64 ((j : Int) + 1) = .int .i64 ((k : Nat) : Int) ∧ k ≤ ks.length ∧ Hid (TeS w (tic op fd n (.slice (some ⟨g, o, none⟩) ks.length ca)) (tic op fd n (.slice (some ⟨g', o', none⟩) ks.length cb)) w2) := ⟨j + 1, by rw [show (((j + 1 : Nat) : Nat) : Int) = (j : Int) + 1 by omega], hj, HS2⟩
        refine ⟨?_, ?_⟩
        · first
            | exact hX
            | ((repeat apply Exists.intro); refine ⟨?_, rfl⟩; exact hX)
        · simp [intOf]; omega
      · have hs3 : decide ((j : Int) < (ks.length : Int)) = false := by simp; omega
        go_wp2
        go_ret
        exact ⟨rfl, HS.out.low⟩
/-- where Policies is -/
structure PoS (w : World) (ca cb : Array Value) (wr : World) : Prop where
  low : Below w.heap.size w wr
  a : wr.heap[w.heap.size]? = some (.cells ca 29 (0, 0))
  b : wr.heap[w.heap.size + 1]? = some (.cells cb 29 (0, 0))
theorem PoS.on {w : World} {ca cb : Array Value} {wr w' : World} (h : PoS w ca cb wr) (hb : Below wr.heap.size wr w') : PoS w ca cb w' :=
  ⟨h.low.trans (hb.mono h.low.size), (hb.block _ (Array.getElem?_eq_some_iff.1 h.a).1).trans h.a, (hb.block _ (Array.getElem?_eq_some_iff.1 h.b).1).trans h.b⟩
/-- what the region reads -/
structure PoR (A g p g' p' n c c' o o' : Nat) (s : ByteArray) (ds es : Array Value) (W : World) : Prop where
  a4 : W.cell? ⟨A, 4, none⟩ = some (.slice (some ⟨g, o, none⟩) n c)
  b4 : W.cell? ⟨A + 1, 4, none⟩ = some (.slice (some ⟨g', o', none⟩) n c')
  na : W.cell? ⟨g, p, none⟩ = some (.string s)
  nb : W.cell? ⟨g', p', none⟩ = some (.string s)
  ra : W.rangeAt g (p + 1) ds.toList
  rb : W.rangeAt g' (p' + 1) es.toList
theorem PoR.on {A g p g' p' n c c' o o' : Nat} {s : ByteArray} {ds es : Array Value} {W W' : World} (h : PoR A g p g' p' n c c' o o' s ds es W) (hb : Below W.heap.size W W') (hg : g < W.heap.size) (hg' : g' < W.heap.size) : PoR A g p g' p' n c c' o o' s ds es W' :=
  ⟨(cell_same (hb.block _ (cell_lt h.a4))).trans h.a4, (cell_same (hb.block _ (cell_lt h.b4))).trans h.b4, (cell_same (hb.block _ hg)).trans h.na, (cell_same (hb.block _ hg')).trans h.nb, fun j v hj => (cell_same (hb.block _ hg)).trans (h.ra j v hj), fun j v hj => (cell_same (hb.block _ hg')).trans (h.rb j v hj)⟩
set_option maxHeartbeats 12800000 in
theorem policies_same (p : Pi) (cs ds : Array Value) (w : World) (hf1 : szI p.main ≤ 100000) (hf2 : ∀ q ∈ p.qs, szI q.pd ≤ 100000) (hf3 : p.qs.length ≤ 100000) (h1 : GpV (fun _ => True) w p cs) (h2 : GpV (fun _ => True) w p ds) :
    Calls Tryd.prog 19 #[.agg cs, .agg ds] w fun e w' => e = .returned (.bool true) ∧ Below w.heap.size w w' := by
  obtain ⟨main, qs⟩ := p
  simp only at hf1 hf2 hf3
  obtain ⟨ms, qv, xs, rfl, ha1, ha2, ha3⟩ := h1
  obtain ⟨ns, rv, ys, rfl, hb1, hb2, hb3⟩ := h2
  simp only at ha1 ha2 ha3 hb1 hb2 hb3
  obtain ⟨x0, x1, x2, x3, rfl⟩ := arr4 ha1.size
  obtain ⟨y0, y1, y2, y3, rfl⟩ := arr4 hb1.size
  obtain ⟨ao, ca, rfl⟩ := ha2.form
  obtain ⟨bo, cb, rfl⟩ := hb2.form
  show Calls Tryd.prog 19 #[.agg #[x0, x1, x2, x3, .slice ao qs.length ca], .agg #[y0, y1, y2, y3, .slice bo qs.length cb]] w _
  obtain ⟨W1, hW1⟩ : ∃ W1, W1 = (w.alloc (.cells #[x0, x1, x2, x3, .slice ao qs.length ca] 29)).alloc (.cells #[y0, y1, y2, y3, .slice bo qs.length cb] 29) := ⟨_, rfl⟩
  have hS1 : PoS w #[x0, x1, x2, x3, .slice ao qs.length ca] #[y0, y1, y2, y3, .slice bo qs.length cb] W1 := by
    rw [hW1]; exact ⟨((Below.refl _ _).alloc (Nat.le_refl _) _).alloc (by simp) _, heap_alloc2_old _ _ _, heap_alloc2_new _ _ _⟩
  have HE : Hid ((w.alloc (.cells #[x0, x1, x2, x3, .slice ao qs.length ca] 29)).alloc (.cells #[y0, y1, y2, y3, .slice bo qs.length cb] 29) = W1) := hW1.symm
  have hcar : ∀ W, Below w.heap.size w W → ∀ b, b < w.heap.size → True → True ∧ W.heap[b]? = w.heap[b]? := fun W hW b hb _ => ⟨trivial, hW.block b hb⟩
  have HTm := hid (terms_same 100000 main _ _ W1 hf1 (by omega) (gi_on ha1 (hcar W1 hS1.low)) (gi_on hb1 (hcar W1 hS1.low)))
  have HIa := hid ha1.info
  have HIb := hid hb1.info
  have rng4 : ∀ (z0 z1 z2 z3 z4 : Value) (g : Nat) (W : World), W.heap[g]? = some (.cells #[z0, z1, z2, z3, z4] 29 (0, 0)) → W.rangeAt g 0 (#[z0, z1, z2, z3] : Array Value).toList := fun z0 z1 z2 z3 z4 g W hW j v hj => by
    rw [Nat.zero_add, cell_of_row _ _ _ _ _ _ hW]
    have hj4 : j < 4 := by have := (List.getElem?_eq_some_iff.1 hj).1; simpa using this
    have : j = 0 ∨ j = 1 ∨ j = 2 ∨ j = 3 := by omega
    rcases this with rfl | rfl | rfl | rfl <;> simpa using hj
  have HRa := hid (rng4 _ _ _ _ _ _ _ hS1.a)
  have HRb := hid (rng4 _ _ _ _ _ _ _ hS1.b)
  have HKa := hid (And.intro ha2 ha3)
  have HKb := hid (And.intro hb2 hb3)
  have HS1 := hid hS1
  have HF2 := hid hf2
  have HCar := hid hcar
  clear ha1 ha2 ha3 hb1 hb2 hb3 rng4 hW1 hS1 hf1 hf2 hcar
  go_enter Tryd.func19, Tryd.ntmps19
  go_upto_region 1 with fail
  rw [show (w.alloc (.cells #[x0, x1, x2, x3, .slice ao qs.length ca] 29)).alloc (.cells #[y0, y1, y2, y3, .slice bo qs.length cb] 29) = W1 from HE.out]
  clear HE
  have a4 : W1.cell? ⟨w.heap.size, 4, none⟩ = some (.slice ao qs.length ca) := (cell_of_row _ _ _ _ _ _ HS1.out.a).trans rfl
  have b4 : W1.cell? ⟨w.heap.size + 1, 4, none⟩ = some (.slice bo qs.length cb) := (cell_of_row _ _ _ _ _ _ HS1.out.b).trans rfl
  go_upto_region 4 with (first
    | (refine ldMid 26 (.tmp 6) rfl rfl w.heap.size 0 rfl #[x0, x1, x2, x3] _ Tryd.underlying26 rfl HIa.out HRa.out ?_)
    | (refine ldMid 26 (.tmp 8) rfl rfl (w.heap.size + 1) 0 rfl #[y0, y1, y2, y3] _ Tryd.underlying26 rfl HIb.out HRb.out ?_)
    | (go_at_call 45; refine (HTm.out).mono ?_; rintro e W2 ⟨rfl, hw⟩
       have HS2 := hid (HS1.out.on hw)
       have a4' : W2.cell? ⟨w.heap.size, 4, none⟩ = some (.slice ao qs.length ca) := (cell_of_row _ _ _ _ _ _ HS2.out.a).trans rfl
       have b4' : W2.cell? ⟨w.heap.size + 1, 4, none⟩ = some (.slice bo qs.length cb) := (cell_of_row _ _ _ _ _ _ HS2.out.b).trans rfl
       clear hw))
  clear a4 b4 a4' b4' HRa HRb HTm HIa HIb HS1
  go_loopw [5] (fun v wr => ∃ j : Nat, v = .int .i64 ((j : Nat) : Int) ∧ j ≤ qs.length ∧ Hid (PoS w #[x0, x1, x2, x3, .slice ao qs.length ca] #[y0, y1, y2, y3, .slice bo qs.length cb] wr)) (fun v _ => qs.length - (intOf v).toNat)
  case atStart => exact ⟨0, rfl, Nat.zero_le _, HS2⟩
  case round =>
    clear HS2
    obtain ⟨j, rfl, hj1, HS⟩ := hrel
    have a4 : wr.cell? ⟨w.heap.size, 4, none⟩ = some (.slice ao qs.length ca) := (cell_of_row _ _ _ _ _ _ HS.out.a).trans rfl
    by_cases hj : j < qs.length
    · have hs3 : decide ((j : Int) < (qs.length : Int)) = true := by simp; omega
      have hw3 : IntKind.i64.wrap ((j : Int) + 1) = (j : Int) + 1 := by rw [IntKind.wrap_i64]; omega
      obtain ⟨g, o, c0, e1, hc0, hg, es, ht, hna, hra⟩ := GqL.rng HKa.out.1 HKa.out.2 hj
      obtain ⟨g', o', c1, e2, hc1, hg', fs, ht', hnb, hrb⟩ := GqL.rng HKb.out.1 HKb.out.2 hj
      cases e1
      cases e2
      have hjc : j < ca := by omega
      have hjc' : j < cb := by omega
      have hz := HS.out.low.size
      have HSd : Hid (PoS w #[x0, x1, x2, x3, .slice (some ⟨g, o, none⟩) qs.length ca] #[y0, y1, y2, y3, .slice (some ⟨g', o', none⟩) qs.length cb] wr.drew) := HS.out.on (bel_drew (Below.refl _ _))
      have b4 : wr.drew.cell? ⟨w.heap.size + 1, 4, none⟩ = some (.slice (some ⟨g', o', none⟩) qs.length cb) := (cell_of_row _ _ _ _ _ _ HSd.out.b).trans rfl
      have HR : Hid (PoR w.heap.size g (o + j * 5) g' (o' + j * 5) qs.length ca cb o o' (qs[j]).nm es fs wr.drew) := ⟨a4, b4, (cell_same (HS.out.low.block _ hg)).trans hna, (cell_same (HS.out.low.block _ hg')).trans hnb, fun i v hi => (cell_same (HS.out.low.block _ hg)).trans (hra i v hi), fun i v hi => (cell_same (HS.out.low.block _ hg')).trans (hrb i v hi)⟩
      have HC := hid (terms_same 100000 (qs[j]).pd es fs wr.drew (HF2.out _ (List.getElem_mem hj)) (by omega) (gi_on ht (HCar.out _ HSd.out.low)) (gi_on ht' (HCar.out _ HSd.out.low)))
      have HT1 := hid ht.info
      have HT2 := hid ht'.info
      generalize (qs[j]).nm = nm at HR
      clear hra hrb ht ht' hna hnb b4
      go_upto_region 6 with fail
      refine wp_region_held_drew (S := PoR w.heap.size g (o + j * 5) g' (o' + j * 5) qs.length ca cb o o' nm es fs) (by kernel_rfl) HR.out (fun hHeld => ?_)
      refine wpAnyH_take (i := 0) (v := ?_) rfl (by kernel_rfl) (by kernel_rfl) (by kernel_rfl) (fun _ _ _ h => h) (Or.inl ⟨by rfl, ?_⟩) hHeld ?_
      rotate_left
      · intro w' hSw
        have a4 := hSw.a4
        have b4 := hSw.b4
        have na := hSw.na
        have nb := hSw.nb
        clear hSw
        go_simp
        first | done | with_reducible rfl
      simp only [Act.put, List.getElem_toArray, List.getElem_cons_zero, List.setIfInBounds_toArray, List.set_cons_zero, List.set_cons_succ]
      refine wpAnyH_take (i := 1) (v := ?_) rfl (by kernel_rfl) (by kernel_rfl) (by kernel_rfl) (fun _ _ _ h => h) (Or.inl ⟨by rfl, ?_⟩) hHeld ?_
      rotate_left
      · intro w' hSw
        have a4 := hSw.a4
        have b4 := hSw.b4
        have na := hSw.na
        have nb := hSw.nb
        clear hSw
        go_simp
        first | done | with_reducible rfl
      simp only [Act.put, List.getElem_toArray, List.getElem_cons_succ, List.getElem_cons_zero, List.setIfInBounds_toArray, List.set_cons_zero, List.set_cons_succ]
      refine wpAnyH_take (i := 2) (v := ?_) rfl (by kernel_rfl) (by kernel_rfl) (by kernel_rfl) (fun _ _ _ h => h) (Or.inl ⟨by rfl, ?_⟩) hHeld ?_
      rotate_left
      · intro w' hSw
        have a4 := hSw.a4
        have b4 := hSw.b4
        have na := hSw.na
        have nb := hSw.nb
        clear hSw
        go_simp
        first | done | with_reducible rfl
      simp only [Act.put, List.getElem_toArray, List.getElem_cons_succ, List.getElem_cons_zero, List.setIfInBounds_toArray, List.set_cons_zero, List.set_cons_succ]
      refine wpAnyH_take (i := 3) (v := ?_) rfl (by kernel_rfl) (by kernel_rfl) (by kernel_rfl) (fun _ _ _ h => h) (Or.inl ⟨by rfl, ?_⟩) hHeld ?_
      rotate_left
      · intro w' hSw
        have a4 := hSw.a4
        have b4 := hSw.b4
        have na := hSw.na
        have nb := hSw.nb
        clear hSw
        go_simp
        first | done | with_reducible rfl
      simp only [Act.put, List.getElem_toArray, List.getElem_cons_succ, List.getElem_cons_zero, List.setIfInBounds_toArray, List.set_cons_zero, List.set_cons_succ]
      refine wpAnyH_take (i := 4) (v := ?_) rfl (by kernel_rfl) (by kernel_rfl) (by kernel_rfl) (fun _ _ _ h => h) (Or.inl ⟨by rfl, ?_⟩) hHeld ?_
      rotate_left
      · intro w' hSw
        have a4 := hSw.a4
        have b4 := hSw.b4
        have na := hSw.na
        have nb := hSw.nb
        clear hSw
        go_simp
        first | done | with_reducible rfl
      simp only [Act.put, List.getElem_toArray, List.getElem_cons_succ, List.getElem_cons_zero, List.setIfInBounds_toArray, List.set_cons_zero, List.set_cons_succ]
      refine wpAnyH_take (i := 5) (v := ?_) rfl (by kernel_rfl) (by kernel_rfl) (by kernel_rfl) (fun _ _ _ h => h) (Or.inl ⟨by rfl, ?_⟩) hHeld ?_
      rotate_left
      · intro w' hSw
        have a4 := hSw.a4
        have b4 := hSw.b4
        have na := hSw.na
        have nb := hSw.nb
        clear hSw
        go_simp
        first | done | with_reducible rfl
      simp only [Act.put, List.getElem_toArray, List.getElem_cons_succ, List.getElem_cons_zero, List.setIfInBounds_toArray, List.set_cons_zero, List.set_cons_succ]
      refine wpAnyH_take (i := 6) (v := ?_) rfl (by kernel_rfl) (by kernel_rfl) (by kernel_rfl) (fun _ _ _ h => h) (Or.inl ⟨by rfl, ?_⟩) hHeld ?_
      rotate_left
      · intro w' hSw
        have a4 := hSw.a4
        have b4 := hSw.b4
        have na := hSw.na
        have nb := hSw.nb
        clear hSw
        go_simp
        first | done | with_reducible rfl
      simp only [Act.put, List.getElem_toArray, List.getElem_cons_succ, List.getElem_cons_zero, List.setIfInBounds_toArray, List.set_cons_zero, List.set_cons_succ]
      refine wpAnyH_take (i := 7) (v := ?_) rfl (by kernel_rfl) (by kernel_rfl) (by kernel_rfl) (fun _ _ _ h => h) (Or.inl ⟨by rfl, ?_⟩) hHeld ?_
      rotate_left
      · intro w' hSw
        have a4 := hSw.a4
        have b4 := hSw.b4
        have na := hSw.na
        have nb := hSw.nb
        clear hSw
        go_simp
        first | done | with_reducible rfl
      simp only [Act.put, List.getElem_toArray, List.getElem_cons_succ, List.getElem_cons_zero, List.setIfInBounds_toArray, List.set_cons_zero, List.set_cons_succ]
      refine wpAnyH_take (i := 8) (v := ?_) rfl (by kernel_rfl) (by kernel_rfl) (by kernel_rfl) (fun _ _ _ h => h) (Or.inl ⟨by rfl, ?_⟩) hHeld ?_
      rotate_left
      · intro w' hSw
        have a4 := hSw.a4
        have b4 := hSw.b4
        have na := hSw.na
        have nb := hSw.nb
        clear hSw
        go_simp
        first | done | with_reducible rfl
      simp only [Act.put, List.getElem_toArray, List.getElem_cons_succ, List.getElem_cons_zero, List.setIfInBounds_toArray, List.set_cons_zero, List.set_cons_succ]
      refine wpAnyH_take (i := 9) (v := ?_) rfl (by kernel_rfl) (by kernel_rfl) (by kernel_rfl) (fun _ _ _ h => h) (Or.inl ⟨by rfl, ?_⟩) hHeld ?_
      rotate_left
      · intro w' hSw
        have a4 := hSw.a4
        have b4 := hSw.b4
        have na := hSw.na
        have nb := hSw.nb
        clear hSw
        go_simp
        first | done | with_reducible rfl
      simp only [Act.put, List.getElem_toArray, List.getElem_cons_succ, List.getElem_cons_zero, List.setIfInBounds_toArray, List.set_cons_zero, List.set_cons_succ]
      refine wpAnyH_take (i := 10) (v := ?_) rfl (by kernel_rfl) (by kernel_rfl) (by kernel_rfl) (fun _ _ _ h => h) (Or.inl ⟨by rfl, ?_⟩) hHeld ?_
      rotate_left
      · intro w' hSw
        have a4 := hSw.a4
        have b4 := hSw.b4
        have na := hSw.na
        have nb := hSw.nb
        clear hSw
        go_simp
        first | done | with_reducible rfl
      simp only [Act.put, List.getElem_toArray, List.getElem_cons_succ, List.getElem_cons_zero, List.setIfInBounds_toArray, List.set_cons_zero, List.set_cons_succ]
      refine wpAnyH_take (i := 11) (v := ?_) rfl (by kernel_rfl) (by kernel_rfl) (by kernel_rfl) (fun _ _ _ h => h) (Or.inl ⟨by rfl, ?_⟩) hHeld ?_
      rotate_left
      · intro w' hSw
        have a4 := hSw.a4
        have b4 := hSw.b4
        have na := hSw.na
        have nb := hSw.nb
        clear hSw
        go_simp
        first | done | with_reducible rfl
      simp only [Act.put, List.getElem_toArray, List.getElem_cons_succ, List.getElem_cons_zero, List.setIfInBounds_toArray, List.set_cons_zero, List.set_cons_succ]
      refine wpAnyH_take (i := 12) (v := ?_) rfl (by kernel_rfl) (by kernel_rfl) (by kernel_rfl) (fun _ _ _ h => h) (Or.inl ⟨by rfl, ?_⟩) hHeld ?_
      rotate_left
      · intro w' hSw
        have a4 := hSw.a4
        have b4 := hSw.b4
        have na := hSw.na
        have nb := hSw.nb
        clear hSw
        go_simp
        first | done | with_reducible rfl
      simp only [Act.put, List.getElem_toArray, List.getElem_cons_succ, List.getElem_cons_zero, List.setIfInBounds_toArray, List.set_cons_zero, List.set_cons_succ]
      refine wpAnyH_take (i := 13) (v := ?_) rfl (by kernel_rfl) (by kernel_rfl) (by kernel_rfl) (fun _ _ _ h => h) (Or.inl ⟨by rfl, ?_⟩) hHeld ?_
      rotate_left
      · intro w' hSw
        have a4 := hSw.a4
        have b4 := hSw.b4
        have na := hSw.na
        have nb := hSw.nb
        clear hSw
        go_simp
        first | done | with_reducible rfl
      simp only [Act.put, List.getElem_toArray, List.getElem_cons_succ, List.getElem_cons_zero, List.setIfInBounds_toArray, List.set_cons_zero, List.set_cons_succ]
      refine wpAnyH_take (i := 14) (v := ?_) rfl (by kernel_rfl) (by kernel_rfl) (by kernel_rfl) (fun _ _ _ h => h) (Or.inl ⟨by rfl, ?_⟩) hHeld ?_
      rotate_left
      · intro w' hSw
        have a4 := hSw.a4
        clear hSw
        go_simp
        first | done | with_reducible rfl
      simp only [Act.put, List.getElem_toArray, List.getElem_cons_succ, List.getElem_cons_zero, List.setIfInBounds_toArray, List.set_cons_zero, List.set_cons_succ]
      refine wpAnyH_take (i := 15) (v := ?_) rfl (by kernel_rfl) (by kernel_rfl) (by kernel_rfl) (fun _ _ _ h => h) (Or.inl ⟨by rfl, ?_⟩) hHeld ?_
      rotate_left
      · intro w' hSw
        have a4 := hSw.a4
        clear hSw
        go_simp
        first | done | with_reducible rfl
      simp only [Act.put, List.getElem_toArray, List.getElem_cons_succ, List.getElem_cons_zero, List.setIfInBounds_toArray, List.set_cons_zero, List.set_cons_succ]
      refine wpAnyH_take (i := 16) (v := ?_) rfl (by kernel_rfl) (by kernel_rfl) (by kernel_rfl) (fun _ _ _ h => h) (Or.inl ⟨by rfl, ?_⟩) hHeld ?_
      rotate_left
      · intro w' hSw
        have a4 := hSw.a4
        clear hSw
        go_simp
        first | done | with_reducible rfl
      simp only [Act.put, List.getElem_toArray, List.getElem_cons_succ, List.getElem_cons_zero, List.setIfInBounds_toArray, List.set_cons_zero, List.set_cons_succ]
      refine wpAnyH_take (i := 17) (v := ?_) rfl (by kernel_rfl) (by kernel_rfl) (by kernel_rfl) (fun _ _ _ h => h) (Or.inl ⟨by rfl, ?_⟩) hHeld ?_
      rotate_left
      · intro w' hSw
        have a4 := hSw.a4
        clear hSw
        go_simp
        first | done | with_reducible rfl
      simp only [Act.put, List.getElem_toArray, List.getElem_cons_succ, List.getElem_cons_zero, List.setIfInBounds_toArray, List.set_cons_zero, List.set_cons_succ]
      refine wpAnyH_take (i := 18) (v := ?_) rfl (by kernel_rfl) (by kernel_rfl) (by kernel_rfl) (fun _ _ _ h => h) (Or.inl ⟨by rfl, ?_⟩) hHeld ?_
      rotate_left
      · intro w' hSw
        have a4 := hSw.a4
        clear hSw
        go_simp
        first | done | with_reducible rfl
      simp only [Act.put, List.getElem_toArray, List.getElem_cons_succ, List.getElem_cons_zero, List.setIfInBounds_toArray, List.set_cons_zero, List.set_cons_succ]
      refine wpAnyH_take (i := 19) (v := .agg es) rfl (by kernel_rfl) (by kernel_rfl) (by kernel_rfl) (fun _ _ _ h => h) (Or.inl ⟨by rfl, ?_⟩) hHeld ?_
      · intro w' hSw
        exact runLd 26 (.tmp 46) rfl g (o + j * 5 + 1) rfl es _ hSw.ra Tryd.underlying26 rfl HT1.out
      simp only [Act.put, List.getElem_toArray, List.getElem_cons_succ, List.getElem_cons_zero, List.setIfInBounds_toArray, List.set_cons_zero, List.set_cons_succ]
      refine wpAnyH_take (i := 20) (v := ?_) rfl (by kernel_rfl) (by kernel_rfl) (by kernel_rfl) (fun _ _ _ h => h) (Or.inl ⟨by rfl, ?_⟩) hHeld ?_
      rotate_left
      · intro w' hSw
        have b4 := hSw.b4
        clear hSw
        go_simp
        first | done | with_reducible rfl
      simp only [Act.put, List.getElem_toArray, List.getElem_cons_succ, List.getElem_cons_zero, List.setIfInBounds_toArray, List.set_cons_zero, List.set_cons_succ]
      refine wpAnyH_take (i := 21) (v := ?_) rfl (by kernel_rfl) (by kernel_rfl) (by kernel_rfl) (fun _ _ _ h => h) (Or.inl ⟨by rfl, ?_⟩) hHeld ?_
      rotate_left
      · intro w' hSw
        have b4 := hSw.b4
        clear hSw
        go_simp
        first | done | with_reducible rfl
      simp only [Act.put, List.getElem_toArray, List.getElem_cons_succ, List.getElem_cons_zero, List.setIfInBounds_toArray, List.set_cons_zero, List.set_cons_succ]
      refine wpAnyH_take (i := 22) (v := ?_) rfl (by kernel_rfl) (by kernel_rfl) (by kernel_rfl) (fun _ _ _ h => h) (Or.inl ⟨by rfl, ?_⟩) hHeld ?_
      rotate_left
      · intro w' hSw
        have b4 := hSw.b4
        clear hSw
        go_simp
        first | done | with_reducible rfl
      simp only [Act.put, List.getElem_toArray, List.getElem_cons_succ, List.getElem_cons_zero, List.setIfInBounds_toArray, List.set_cons_zero, List.set_cons_succ]
      refine wpAnyH_take (i := 23) (v := ?_) rfl (by kernel_rfl) (by kernel_rfl) (by kernel_rfl) (fun _ _ _ h => h) (Or.inl ⟨by rfl, ?_⟩) hHeld ?_
      rotate_left
      · intro w' hSw
        have b4 := hSw.b4
        clear hSw
        go_simp
        first | done | with_reducible rfl
      simp only [Act.put, List.getElem_toArray, List.getElem_cons_succ, List.getElem_cons_zero, List.setIfInBounds_toArray, List.set_cons_zero, List.set_cons_succ]
      refine wpAnyH_take (i := 24) (v := ?_) rfl (by kernel_rfl) (by kernel_rfl) (by kernel_rfl) (fun _ _ _ h => h) (Or.inl ⟨by rfl, ?_⟩) hHeld ?_
      rotate_left
      · intro w' hSw
        have b4 := hSw.b4
        clear hSw
        go_simp
        first | done | with_reducible rfl
      simp only [Act.put, List.getElem_toArray, List.getElem_cons_succ, List.getElem_cons_zero, List.setIfInBounds_toArray, List.set_cons_zero, List.set_cons_succ]
      refine wpAnyH_take (i := 25) (v := .agg fs) rfl (by kernel_rfl) (by kernel_rfl) (by kernel_rfl) (fun _ _ _ h => h) (Or.inl ⟨by rfl, ?_⟩) hHeld ?_
      · intro w' hSw
        exact runLd 26 (.tmp 52) rfl g' (o' + j * 5 + 1) rfl fs _ hSw.rb Tryd.underlying26 rfl HT2.out
      simp only [Act.put, List.getElem_toArray, List.getElem_cons_succ, List.getElem_cons_zero, List.setIfInBounds_toArray, List.set_cons_zero, List.set_cons_succ]
      refine ready_one 26 _ (by kernel_rfl) rfl (stepFnW 45 (.func 45) [.tmp 47, .tmp 53] _ [.agg es, .agg fs] rfl rfl rfl rfl (fun _ => rfl) _ HC.out ?_)
      rintro e w2 ⟨rfl, hw⟩
      refine Or.inl ⟨_, rfl, ?_⟩
      have hHeld := HR.out.on hw (by show g < wr.heap.size; omega) (by show g' < wr.heap.size; omega)
      have HS2 := hid (HSd.out.on hw)
      clear hw
      refine ⟨hHeld, ?_⟩
      simp only [Act.put, List.getElem_toArray, List.getElem_cons_succ, List.getElem_cons_zero, List.setIfInBounds_toArray, List.set_cons_zero, List.set_cons_succ]
      refine wpAnyH_take (i := 27) (v := ?_) rfl (by kernel_rfl) (by kernel_rfl) (by kernel_rfl) (fun _ _ _ h => h) (Or.inl ⟨by rfl, ?_⟩) hHeld ?_
      rotate_left
      · intro w' hSw
        clear hSw
        go_simp
        first | done | with_reducible rfl
      simp only [Act.put, List.getElem_toArray, List.getElem_cons_succ, List.getElem_cons_zero, List.setIfInBounds_toArray, List.set_cons_zero, List.set_cons_succ]
      refine wpAnyH_take (i := 28) (v := ?_) rfl (by kernel_rfl) (by kernel_rfl) (by kernel_rfl) (fun _ _ _ h => h) (Or.inl ⟨by rfl, ?_⟩) hHeld ?_
      rotate_left
      · intro w' hSw
        clear hSw
        go_simp
        first | done | with_reducible rfl
      simp only [Act.put, List.getElem_toArray, List.getElem_cons_succ, List.getElem_cons_zero, List.setIfInBounds_toArray, List.set_cons_zero, List.set_cons_succ]
      refine wpAnyH_done (by kernel_rfl) ?_ _
      clear hHeld a4
      go_wp2
      have hX : ∃ k : Nat, Value.int .i64 ((j : Int) + 1) = .int .i64 ((k : Nat) : Int) ∧ k ≤ qs.length ∧ Hid (PoS w #[x0, x1, x2, x3, .slice (some ⟨g, o, none⟩) qs.length ca] #[y0, y1, y2, y3, .slice (some ⟨g', o', none⟩) qs.length cb] w2) := ⟨j + 1, by rw [show (((j + 1 : Nat) : Nat) : Int) = (j : Int) + 1 by omega], hj, HS2⟩
      refine ⟨?_, ?_⟩
      · first
          | exact hX
          | ((repeat apply Exists.intro); refine ⟨?_, rfl⟩; exact hX)
      · simp [intOf]; omega
    · have hs3 : decide ((j : Int) < (qs.length : Int)) = false := by simp; omega
      go_wp2
      go_ret
      exact ⟨rfl, HS.out.low⟩
end Go.Proofs.YtjallmncajhamaaDoor
