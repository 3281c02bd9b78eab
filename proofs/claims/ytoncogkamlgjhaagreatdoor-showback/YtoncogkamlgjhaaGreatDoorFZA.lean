/-
  Proved here: term and Same of the statements say true of two readings of one term, one policy. No condition.
-/
import Derived.Test.YtoncogkamlgjhaaGreatDoorFYL
namespace Go.Proofs.YtoncogkamlgjhaaGreatDoor
set_option maxRecDepth 100000
open Go.RowKit
set_option maxRecDepth 100000

theorem TmL.rng7 {S : Nat → Prop} {w : World} {ks : List Tm} {v : Value} {xs : List Value} (h : Rw S 4 26 w v ks.length xs) (hl : TmL S w ks xs) {j : Nat} (hj : j < ks.length) : ∃ g o cap, v = .slice (some ⟨g, o, none⟩) ks.length cap ∧ ks.length ≤ cap ∧ S g ∧ g < w.heap.size ∧ ∃ ds, TmV S w ks[j] ds ∧ w.rangeAt g (o + j * 4) ds.toList := by
  obtain ⟨hx, ⟨e, h0⟩ | ⟨g, o, cap', cur, e, hS, hg, hc, hs, ht⟩⟩ := h
  · omega
  · obtain ⟨ds, h4, h5⟩ := TmL.at ks xs j hj hl
    refine ⟨g, o, cap', e, hc, hS, (Array.getElem?_eq_some_iff.1 hg).1, ds, h4, range_of fun i hi => ?_⟩
    have hi4 : i < 4 := by rw [h4.size] at hi; exact hi
    have hb : j * 4 + i < ks.length * 4 := by omega
    rw [cell_of_row _ _ _ _ _ _ hg, Nat.add_assoc, cells_at ht hb, h5 i hi4]
/-- where Terms is -/
structure Te7S (w : World) (ca cb : Array Value) (wr : World) : Prop where
  low : Below w.heap.size w wr
  a : wr.heap[w.heap.size]? = some (.cells ca 26 (0, 0))
  b : wr.heap[w.heap.size + 1]? = some (.cells cb 26 (0, 0))
theorem Te7S.on {w : World} {ca cb : Array Value} {wr w' : World} (h : Te7S w ca cb wr) (hb : Below wr.heap.size wr w') : Te7S w ca cb w' :=
  ⟨h.low.trans (hb.mono h.low.size), (hb.block _ (Array.getElem?_eq_some_iff.1 h.a).1).trans h.a, (hb.block _ (Array.getElem?_eq_some_iff.1 h.b).1).trans h.b⟩
/-- what the region reads -/
structure Te7R (A g p g' p' n c c' o o' : Nat) (ds es : Array Value) (W : World) : Prop where
  a3 : W.cell? ⟨A, 3, none⟩ = some (.slice (some ⟨g, o, none⟩) n c)
  b3 : W.cell? ⟨A + 1, 3, none⟩ = some (.slice (some ⟨g', o', none⟩) n c')
  ra : W.rangeAt g p ds.toList
  rb : W.rangeAt g' p' es.toList
theorem Te7R.on {A g p g' p' n c c' o o' : Nat} {ds es : Array Value} {W W' : World} (h : Te7R A g p g' p' n c c' o o' ds es W) (hb : Below W.heap.size W W') (hg : g < W.heap.size) (hg' : g' < W.heap.size) : Te7R A g p g' p' n c c' o o' ds es W' :=
  ⟨(cell_same (hb.block _ (cell_lt h.a3))).trans h.a3, (cell_same (hb.block _ (cell_lt h.b3))).trans h.b3, fun j v hj => (cell_same (hb.block _ hg)).trans (h.ra j v hj), fun j v hj => (cell_same (hb.block _ hg')).trans (h.rb j v hj)⟩
set_option maxHeartbeats 6400000 in
theorem bterm_same : ∀ (N : Nat) (t : Tm) (cs ds : Array Value) (w : World), sz t ≤ N → N ≤ 100000 → TmV (fun _ => True) w t cs → TmV (fun _ => True) w t ds →
    Calls Tryz.prog 17 #[.agg cs, .agg ds] w fun e w' => e = .returned (.bool true) ∧ Below w.heap.size w w'
  | 0, t, cs, ds, w, hN, _, _, _ => by have := sz_pos t; omega
  | N + 1, .mk op fd n ks, cs, ds, w, hN, hsm, h1, h2 => by
    have HIH := hid (bterm_same N)
    obtain ⟨v, xs, rfl, ha1, ha2⟩ := h1.get
    obtain ⟨v', ys, rfl, hb1, hb2⟩ := h2.get
    obtain ⟨ao, ca, rfl⟩ := ha1.form
    obtain ⟨bo, cb, rfl⟩ := hb1.form
    rw [sz] at hN
    have hkl : ks.length ≤ 100000 := by have := len_szs ks ks.length (Nat.le_refl _); rw [List.take_length] at this; omega
    obtain ⟨W1, hW1⟩ : ∃ W1, W1 = (w.alloc (.cells (tmc op fd n (.slice ao ks.length ca)) 26)).alloc (.cells (tmc op fd n (.slice bo ks.length cb)) 26) := ⟨_, rfl⟩
    have hS1 : Te7S w (tmc op fd n (.slice ao ks.length ca)) (tmc op fd n (.slice bo ks.length cb)) W1 := by
      rw [hW1]; exact ⟨((Below.refl _ _).alloc (Nat.le_refl _) _).alloc (by simp) _, heap_alloc2_old _ _ _, heap_alloc2_new _ _ _⟩
    have HE : Hid ((w.alloc (.cells #[.int .i8 ((op : Nat) : Int), .int .i8 ((fd : Nat) : Int), .int .u64 ((n : Nat) : Int), .slice ao ks.length ca] 26)).alloc (.cells #[.int .i8 ((op : Nat) : Int), .int .i8 ((fd : Nat) : Int), .int .u64 ((n : Nat) : Int), .slice bo ks.length cb] 26) = W1) := hW1.symm
    obtain ⟨a0, a1, a2, a3⟩ := four_cells hS1.a
    obtain ⟨b0, b1, b2, b3⟩ := four_cells hS1.b
    have HS1 := hid hS1
    have HKa := hid (And.intro ha1 ha2)
    have HKb := hid (And.intro hb1 hb2)
    clear h1 h2 ha1 ha2 hb1 hb2 hW1 hS1
    go_enter Tryz.func17, Tryz.ntmps17
    go_upto_region 1 with fail
    rw [show (w.alloc (.cells #[.int .i8 ((op : Nat) : Int), .int .i8 ((fd : Nat) : Int), .int .u64 ((n : Nat) : Int), .slice ao ks.length ca] 26)).alloc (.cells #[.int .i8 ((op : Nat) : Int), .int .i8 ((fd : Nat) : Int), .int .u64 ((n : Nat) : Int), .slice bo ks.length cb] 26) = W1 from HE.out]
    clear HE
    go_upto_region 4 with fail
    clear a0 a1 a2 a3 b0 b1 b2 b3
    go_loopw [37] (fun v wr => ∃ j : Nat, v = .int .i64 ((j : Nat) : Int) ∧ j ≤ ks.length ∧ Hid (Te7S w (tmc op fd n (.slice ao ks.length ca)) (tmc op fd n (.slice bo ks.length cb)) wr)) (fun v _ => ks.length - (intOf v).toNat)
    case atStart => exact ⟨0, rfl, Nat.zero_le _, HS1⟩
    case round =>
      clear HS1
      obtain ⟨j, rfl, hj1, HS⟩ := hrel
      have a3 := (four_cells HS.out.a).2.2.2
      by_cases hj : j < ks.length
      · have hs3 : decide ((j : Int) < (ks.length : Int)) = true := by simp; omega
        have hw3 : IntKind.i64.wrap ((j : Int) + 1) = (j : Int) + 1 := by rw [IntKind.wrap_i64]; omega
        obtain ⟨g, o, c0, e1, hc0, -, hg, es, ht, hra⟩ := TmL.rng7 HKa.out.1 HKa.out.2 hj
        obtain ⟨g', o', c1, e2, hc1, -, hg', fs, ht', hrb⟩ := TmL.rng7 HKb.out.1 HKb.out.2 hj
        cases e1
        cases e2
        have hjc : j < ca := by omega
        have hjc' : j < cb := by omega
        have hz := HS.out.low.size
        have HSd : Hid (Te7S w (tmc op fd n (.slice (some ⟨g, o, none⟩) ks.length ca)) (tmc op fd n (.slice (some ⟨g', o', none⟩) ks.length cb)) wr.drew) := HS.out.on (bel_drew (Below.refl _ _))
        have HR : Hid (Te7R w.heap.size g (o + j * 4) g' (o' + j * 4) ks.length ca cb o o' es fs wr.drew) := ⟨a3, (four_cells HS.out.b).2.2.2, fun i v hi => (cell_same (HS.out.low.block _ hg)).trans (hra i v hi), fun i v hi => (cell_same (HS.out.low.block _ hg')).trans (hrb i v hi)⟩
        have hcar : ∀ b, b < w.heap.size → True → True ∧ wr.drew.heap[b]? = w.heap[b]? := fun b hb _ => ⟨trivial, HS.out.low.block b hb⟩
        have HC := hid (HIH.out ks[j] es fs wr.drew (by have := szs_mem (List.getElem_mem hj); omega) (by omega) (tm_on ht hcar) (tm_on ht' hcar))
        have HT1 := hid ht.info
        have HT2 := hid ht'.info
        clear hra hrb ht ht' hcar
        go_upto_region 6 with fail
        refine wp_region_held_drew (S := Te7R w.heap.size g (o + j * 4) g' (o' + j * 4) ks.length ca cb o o' es fs) (by kernel_rfl) HR.out (fun hHeld => ?_)
        refine wpAnyH_take (i := 0) (v := ?_) rfl (by kernel_rfl) (by kernel_rfl) (by kernel_rfl) (fun _ _ _ h => h) (Or.inl ⟨by rfl, ?_⟩) hHeld ?_
        rotate_left
        · intro w' hSw
          have a3 := hSw.a3
          clear hSw
          go_simp
          first | done | with_reducible rfl
        simp only [Act.put, List.getElem_toArray, List.getElem_cons_zero, List.setIfInBounds_toArray, List.set_cons_zero, List.set_cons_succ]
        refine wpAnyH_take (i := 1) (v := ?_) rfl (by kernel_rfl) (by kernel_rfl) (by kernel_rfl) (fun _ _ _ h => h) (Or.inl ⟨by rfl, ?_⟩) hHeld ?_
        rotate_left
        · intro w' hSw
          have a3 := hSw.a3
          clear hSw
          go_simp
          first | done | with_reducible rfl
        simp only [Act.put, List.getElem_toArray, List.getElem_cons_succ, List.getElem_cons_zero, List.setIfInBounds_toArray, List.set_cons_zero, List.set_cons_succ]
        refine wpAnyH_take (i := 2) (v := ?_) rfl (by kernel_rfl) (by kernel_rfl) (by kernel_rfl) (fun _ _ _ h => h) (Or.inl ⟨by rfl, ?_⟩) hHeld ?_
        rotate_left
        · intro w' hSw
          have a3 := hSw.a3
          clear hSw
          go_simp
          first | done | with_reducible rfl
        simp only [Act.put, List.getElem_toArray, List.getElem_cons_succ, List.getElem_cons_zero, List.setIfInBounds_toArray, List.set_cons_zero, List.set_cons_succ]
        refine wpAnyH_take (i := 3) (v := ?_) rfl (by kernel_rfl) (by kernel_rfl) (by kernel_rfl) (fun _ _ _ h => h) (Or.inl ⟨by rfl, ?_⟩) hHeld ?_
        rotate_left
        · intro w' hSw
          have a3 := hSw.a3
          clear hSw
          go_simp
          first | done | with_reducible rfl
        simp only [Act.put, List.getElem_toArray, List.getElem_cons_succ, List.getElem_cons_zero, List.setIfInBounds_toArray, List.set_cons_zero, List.set_cons_succ]
        refine wpAnyH_take (i := 4) (v := .agg es) rfl (by kernel_rfl) (by kernel_rfl) (by kernel_rfl) (fun _ _ _ h => h) (Or.inl ⟨by rfl, ?_⟩) hHeld ?_
        · intro w' hSw
          exact runLd 26 (.tmp 43) rfl g (o + j * 4) rfl es _ hSw.ra Tryz.underlying26 rfl HT1.out
        simp only [Act.put, List.getElem_toArray, List.getElem_cons_succ, List.getElem_cons_zero, List.setIfInBounds_toArray, List.set_cons_zero, List.set_cons_succ]
        refine wpAnyH_take (i := 5) (v := ?_) rfl (by kernel_rfl) (by kernel_rfl) (by kernel_rfl) (fun _ _ _ h => h) (Or.inl ⟨by rfl, ?_⟩) hHeld ?_
        rotate_left
        · intro w' hSw
          have b3 := hSw.b3
          clear hSw
          go_simp
          first | done | with_reducible rfl
        simp only [Act.put, List.getElem_toArray, List.getElem_cons_succ, List.getElem_cons_zero, List.setIfInBounds_toArray, List.set_cons_zero, List.set_cons_succ]
        refine wpAnyH_take (i := 6) (v := ?_) rfl (by kernel_rfl) (by kernel_rfl) (by kernel_rfl) (fun _ _ _ h => h) (Or.inl ⟨by rfl, ?_⟩) hHeld ?_
        rotate_left
        · intro w' hSw
          have b3 := hSw.b3
          clear hSw
          go_simp
          first | done | with_reducible rfl
        simp only [Act.put, List.getElem_toArray, List.getElem_cons_succ, List.getElem_cons_zero, List.setIfInBounds_toArray, List.set_cons_zero, List.set_cons_succ]
        refine wpAnyH_take (i := 7) (v := ?_) rfl (by kernel_rfl) (by kernel_rfl) (by kernel_rfl) (fun _ _ _ h => h) (Or.inl ⟨by rfl, ?_⟩) hHeld ?_
        rotate_left
        · intro w' hSw
          have b3 := hSw.b3
          clear hSw
          go_simp
          first | done | with_reducible rfl
        simp only [Act.put, List.getElem_toArray, List.getElem_cons_succ, List.getElem_cons_zero, List.setIfInBounds_toArray, List.set_cons_zero, List.set_cons_succ]
        refine wpAnyH_take (i := 8) (v := ?_) rfl (by kernel_rfl) (by kernel_rfl) (by kernel_rfl) (fun _ _ _ h => h) (Or.inl ⟨by rfl, ?_⟩) hHeld ?_
        rotate_left
        · intro w' hSw
          have b3 := hSw.b3
          clear hSw
          go_simp
          first | done | with_reducible rfl
        simp only [Act.put, List.getElem_toArray, List.getElem_cons_succ, List.getElem_cons_zero, List.setIfInBounds_toArray, List.set_cons_zero, List.set_cons_succ]
        refine wpAnyH_take (i := 9) (v := .agg fs) rfl (by kernel_rfl) (by kernel_rfl) (by kernel_rfl) (fun _ _ _ h => h) (Or.inl ⟨by rfl, ?_⟩) hHeld ?_
        · intro w' hSw
          exact runLd 26 (.tmp 48) rfl g' (o' + j * 4) rfl fs _ hSw.rb Tryz.underlying26 rfl HT2.out
        simp only [Act.put, List.getElem_toArray, List.getElem_cons_succ, List.getElem_cons_zero, List.setIfInBounds_toArray, List.set_cons_zero, List.set_cons_succ]
        refine ready_one 10 _ (by kernel_rfl) rfl (stepFnW 17 (.func 17) [.tmp 44, .tmp 49] _ [.agg es, .agg fs] rfl rfl rfl rfl (fun _ => rfl) _ HC.out ?_)
        rintro e w2 ⟨rfl, hw⟩
        refine Or.inl ⟨_, rfl, ?_⟩
        have hHeld := HR.out.on hw (by show g < wr.heap.size; omega) (by show g' < wr.heap.size; omega)
        have HS2 := hid (HSd.out.on hw)
        clear hw
        refine ⟨hHeld, ?_⟩
        simp only [Act.put, List.getElem_toArray, List.getElem_cons_succ, List.getElem_cons_zero, List.setIfInBounds_toArray, List.set_cons_zero, List.set_cons_succ]
        refine wpAnyH_take (i := 11) (v := ?_) rfl (by kernel_rfl) (by kernel_rfl) (by kernel_rfl) (fun _ _ _ h => h) (Or.inl ⟨by rfl, ?_⟩) hHeld ?_
        rotate_left
        · intro w' hSw
          clear hSw
          go_simp
          first | done | with_reducible rfl
        simp only [Act.put, List.getElem_toArray, List.getElem_cons_succ, List.getElem_cons_zero, List.setIfInBounds_toArray, List.set_cons_zero, List.set_cons_succ]
        refine wpAnyH_done (by kernel_rfl) ?_ _
        clear hHeld a3
        go_wp2
        have hX : ∃ k : Nat, Value.int .i64 ((j : Int) + 1) = .int .i64 ((k : Nat) : Int) ∧ k ≤ ks.length ∧ Hid (Te7S w (tmc op fd n (.slice (some ⟨g, o, none⟩) ks.length ca)) (tmc op fd n (.slice (some ⟨g', o', none⟩) ks.length cb)) w2) := ⟨j + 1, by rw [show (((j + 1 : Nat) : Nat) : Int) = (j : Int) + 1 by omega], hj, HS2⟩
        refine ⟨?_, ?_⟩
        · first
            | exact hX
            | ((repeat apply Exists.intro); refine ⟨?_, rfl⟩; exact hX)
        · simp [intOf]; omega
      · have hs3 : decide ((j : Int) < (ks.length : Int)) = false := by simp; omega
        go_wp2
        go_ret
        exact ⟨rfl, HS.out.low⟩
/-- where Policies is -/
structure Po7S (w : World) (ca cb : Array Value) (wr : World) : Prop where
  low : Below w.heap.size w wr
  a : wr.heap[w.heap.size]? = some (.cells ca 29 (0, 0))
  b : wr.heap[w.heap.size + 1]? = some (.cells cb 29 (0, 0))
theorem Po7S.on {w : World} {ca cb : Array Value} {wr w' : World} (h : Po7S w ca cb wr) (hb : Below wr.heap.size wr w') : Po7S w ca cb w' :=
  ⟨h.low.trans (hb.mono h.low.size), (hb.block _ (Array.getElem?_eq_some_iff.1 h.a).1).trans h.a, (hb.block _ (Array.getElem?_eq_some_iff.1 h.b).1).trans h.b⟩
/-- a query at a place -/
theorem QyL.rng7 {S : Nat → Prop} {w : World} {qs : List Qy} {v : Value} {xs : List Value} (h : Rw S 5 40 w v qs.length xs) (hl : QyL S w qs xs) {j : Nat} (hj : j < qs.length) : ∃ g o cap, v = .slice (some ⟨g, o, none⟩) qs.length cap ∧ qs.length ≤ cap ∧ g < w.heap.size ∧ ∃ ds, TmV S w (qs[j]).pd ds ∧ w.cell? ⟨g, o + j * 5, none⟩ = some (.string (qs[j]).nm) ∧ w.rangeAt g (o + j * 5 + 1) ds.toList := by
  obtain ⟨hx, ⟨e, h0⟩ | ⟨g, o, cap', cur, e, hS, hg, hc, hs, ht⟩⟩ := h
  · omega
  · obtain ⟨ds, h4, h5⟩ := QyL.at qs xs j hj hl
    have hcell : ∀ i, i < 5 → w.cell? ⟨g, o + j * 5 + i, none⟩ = (Value.string (qs[j]).nm :: ds.toList)[i]? := fun i hi => by
      have hb : j * 5 + i < qs.length * 5 := by omega
      rw [cell_of_row _ _ _ _ _ _ hg, show o + j * 5 + i = o + (j * 5 + i) by omega, cells_at ht hb, h5 i hi]
    refine ⟨g, o, cap', e, hc, (Array.getElem?_eq_some_iff.1 hg).1, ds, h4, hcell 0 (by omega), range_of fun i hi => ?_⟩
    have hi4 : i < 4 := by rw [h4.size] at hi; exact hi
    have := hcell (i + 1) (by omega)
    rw [show o + j * 5 + 1 + i = o + j * 5 + (i + 1) by omega, this]
    simp
/-- what the region reads -/
structure Po7R (A g p g' p' n c c' o o' : Nat) (s : ByteArray) (ds es : Array Value) (W : World) : Prop where
  a4 : W.cell? ⟨A, 4, none⟩ = some (.slice (some ⟨g, o, none⟩) n c)
  b4 : W.cell? ⟨A + 1, 4, none⟩ = some (.slice (some ⟨g', o', none⟩) n c')
  na : W.cell? ⟨g, p, none⟩ = some (.string s)
  nb : W.cell? ⟨g', p', none⟩ = some (.string s)
  ra : W.rangeAt g (p + 1) ds.toList
  rb : W.rangeAt g' (p' + 1) es.toList
theorem Po7R.on {A g p g' p' n c c' o o' : Nat} {s : ByteArray} {ds es : Array Value} {W W' : World} (h : Po7R A g p g' p' n c c' o o' s ds es W) (hb : Below W.heap.size W W') (hg : g < W.heap.size) (hg' : g' < W.heap.size) : Po7R A g p g' p' n c c' o o' s ds es W' :=
  ⟨(cell_same (hb.block _ (cell_lt h.a4))).trans h.a4, (cell_same (hb.block _ (cell_lt h.b4))).trans h.b4, (cell_same (hb.block _ hg)).trans h.na, (cell_same (hb.block _ hg')).trans h.nb, fun j v hj => (cell_same (hb.block _ hg)).trans (h.ra j v hj), fun j v hj => (cell_same (hb.block _ hg')).trans (h.rb j v hj)⟩
theorem qsz_mem7 : ∀ {qs : List Qy} {q : Qy}, q ∈ qs → sz q.pd ≤ qsz qs
  | a :: qs, q, h => by
    rw [qsz_cons]
    rcases List.mem_cons.1 h with rfl | h
    · omega
    · have := qsz_mem7 h; omega
theorem fits_sz7 {p : Po} (h : fitsB p = true) : sz p.main ≤ 4096 ∧ (∀ q ∈ p.qs, sz q.pd ≤ 4096) ∧ p.qs.length ≤ 4096 := by
  rw [fitsB_iff] at h
  refine ⟨by omega, fun q hq => ?_, ?_⟩
  · have := qsz_mem7 hq
    omega
  · have := len_qsz p.qs p.qs.length (Nat.le_refl _)
    rw [List.take_length] at this
    omega
set_option maxHeartbeats 12800000 in
theorem bsame_any (p : Po) (cs ds : Array Value) (w : World) (hf : fitsB p = true) (h1 : PoV (fun _ => True) w p cs) (h2 : PoV (fun _ => True) w p ds) :
    Calls Tryz.prog 8 #[.agg cs, .agg ds] w fun e w' => e = .returned (.bool true) ∧ Below w.heap.size w w' := by
  obtain ⟨hf1, hf2, hf3⟩ := fits_sz7 hf
  obtain ⟨main, qs⟩ := p
  simp only at hf1 hf2 hf3
  obtain ⟨ms, qv, xs, rfl, ha1, ha2, ha3⟩ := h1
  obtain ⟨ns, rv, ys, rfl, hb1, hb2, hb3⟩ := h2
  simp only at ha1 ha2 ha3 hb1 hb2 hb3
  obtain ⟨x0, x1, x2, x3, rfl⟩ := arr4 ha1.size
  obtain ⟨y0, y1, y2, y3, rfl⟩ := arr4 hb1.size
  obtain ⟨ao, ca, rfl⟩ := ha2.form
  obtain ⟨bo, cb, rfl⟩ := hb2.form
  show Calls Tryz.prog 8 #[.agg #[x0, x1, x2, x3, .slice ao qs.length ca], .agg #[y0, y1, y2, y3, .slice bo qs.length cb]] w _
  obtain ⟨W1, hW1⟩ : ∃ W1, W1 = (w.alloc (.cells #[x0, x1, x2, x3, .slice ao qs.length ca] 29)).alloc (.cells #[y0, y1, y2, y3, .slice bo qs.length cb] 29) := ⟨_, rfl⟩
  have hS1 : Po7S w #[x0, x1, x2, x3, .slice ao qs.length ca] #[y0, y1, y2, y3, .slice bo qs.length cb] W1 := by
    rw [hW1]; exact ⟨((Below.refl _ _).alloc (Nat.le_refl _) _).alloc (by simp) _, heap_alloc2_old _ _ _, heap_alloc2_new _ _ _⟩
  have HE : Hid ((w.alloc (.cells #[x0, x1, x2, x3, .slice ao qs.length ca] 29)).alloc (.cells #[y0, y1, y2, y3, .slice bo qs.length cb] 29) = W1) := hW1.symm
  have hcar : ∀ W, Below w.heap.size w W → ∀ b, b < w.heap.size → True → True ∧ W.heap[b]? = w.heap[b]? := fun W hW b hb _ => ⟨trivial, hW.block b hb⟩
  have HTm := hid (bterm_same 4096 main _ _ W1 hf1 (by omega) (tm_on ha1 (hcar W1 hS1.low)) (tm_on hb1 (hcar W1 hS1.low)))
  have HIa := hid ha1.info
  have HIb := hid hb1.info
  have rng4 : ∀ (z0 z1 z2 z3 z4 : Value) (g : Nat) (W : World), W.heap[g]? = some (.cells #[z0, z1, z2, z3, z4] 29 (0, 0)) → W.rangeAt g 0 (#[z0, z1, z2, z3] : Array Value).toList := fun z0 z1 z2 z3 z4 g W hW j v hj => by
    rw [Nat.zero_add, cell_of_row _ _ _ _ _ _ hW]
    have hj4 : j < 4 := by have := (List.getElem?_eq_some_iff.1 hj).1; simpa using this
    have : j = 0 ∨ j = 1 ∨ j = 2 ∨ j = 3 := by omega
    rcases this with rfl | rfl | rfl | rfl <;> simpa using hj
  have HRa := hid (rng4 _ _ _ _ _ _ _ hS1.a)
  have HRb := hid (rng4 _ _ _ _ _ _ _ hS1.b)
  have HKa := hid (And.intro ha2 ha3)
  have HKb := hid (And.intro hb2 hb3)
  have HS1 := hid hS1
  have HF2 := hid hf2
  have HCar := hid hcar
  clear ha1 ha2 ha3 hb1 hb2 hb3 rng4 hW1 hS1 hf hf1 hf2 hcar
  go_enter Tryz.func8, Tryz.ntmps8
  go_upto_region 1 with fail
  rw [show (w.alloc (.cells #[x0, x1, x2, x3, .slice ao qs.length ca] 29)).alloc (.cells #[y0, y1, y2, y3, .slice bo qs.length cb] 29) = W1 from HE.out]
  clear HE
  have a4 : W1.cell? ⟨w.heap.size, 4, none⟩ = some (.slice ao qs.length ca) := (cell_of_row _ _ _ _ _ _ HS1.out.a).trans rfl
  have b4 : W1.cell? ⟨w.heap.size + 1, 4, none⟩ = some (.slice bo qs.length cb) := (cell_of_row _ _ _ _ _ _ HS1.out.b).trans rfl
  go_upto_region 4 with (first
    | (refine ldMid 26 (.tmp 6) rfl rfl w.heap.size 0 rfl #[x0, x1, x2, x3] _ Tryz.underlying26 rfl HIa.out HRa.out ?_)
    | (refine ldMid 26 (.tmp 8) rfl rfl (w.heap.size + 1) 0 rfl #[y0, y1, y2, y3] _ Tryz.underlying26 rfl HIb.out HRb.out ?_)
    | (go_at_call 17; refine (HTm.out).mono ?_; rintro e W2 ⟨rfl, hw⟩
       have HS2 := hid (HS1.out.on hw)
       have a4' : W2.cell? ⟨w.heap.size, 4, none⟩ = some (.slice ao qs.length ca) := (cell_of_row _ _ _ _ _ _ HS2.out.a).trans rfl
       have b4' : W2.cell? ⟨w.heap.size + 1, 4, none⟩ = some (.slice bo qs.length cb) := (cell_of_row _ _ _ _ _ _ HS2.out.b).trans rfl
       clear hw))
  clear a4 b4 a4' b4' HRa HRb HTm HIa HIb HS1
  go_loopw [24] (fun v wr => ∃ j : Nat, v = .int .i64 ((j : Nat) : Int) ∧ j ≤ qs.length ∧ Hid (Po7S w #[x0, x1, x2, x3, .slice ao qs.length ca] #[y0, y1, y2, y3, .slice bo qs.length cb] wr)) (fun v _ => qs.length - (intOf v).toNat)
  case atStart => exact ⟨0, rfl, Nat.zero_le _, HS2⟩
  case round =>
    clear HS2
    obtain ⟨j, rfl, hj1, HS⟩ := hrel
    have a4 : wr.cell? ⟨w.heap.size, 4, none⟩ = some (.slice ao qs.length ca) := (cell_of_row _ _ _ _ _ _ HS.out.a).trans rfl
    by_cases hj : j < qs.length
    · have hs3 : decide ((j : Int) < (qs.length : Int)) = true := by simp; omega
      have hw3 : IntKind.i64.wrap ((j : Int) + 1) = (j : Int) + 1 := by rw [IntKind.wrap_i64]; omega
      obtain ⟨g, o, c0, e1, hc0, hg, es, ht, hna, hra⟩ := QyL.rng7 HKa.out.1 HKa.out.2 hj
      obtain ⟨g', o', c1, e2, hc1, hg', fs, ht', hnb, hrb⟩ := QyL.rng7 HKb.out.1 HKb.out.2 hj
      cases e1
      cases e2
      have hjc : j < ca := by omega
      have hjc' : j < cb := by omega
      have hz := HS.out.low.size
      have HSd : Hid (Po7S w #[x0, x1, x2, x3, .slice (some ⟨g, o, none⟩) qs.length ca] #[y0, y1, y2, y3, .slice (some ⟨g', o', none⟩) qs.length cb] wr.drew) := HS.out.on (bel_drew (Below.refl _ _))
      have b4 : wr.drew.cell? ⟨w.heap.size + 1, 4, none⟩ = some (.slice (some ⟨g', o', none⟩) qs.length cb) := (cell_of_row _ _ _ _ _ _ HSd.out.b).trans rfl
      have HR : Hid (Po7R w.heap.size g (o + j * 5) g' (o' + j * 5) qs.length ca cb o o' (qs[j]).nm es fs wr.drew) := ⟨a4, b4, (cell_same (HS.out.low.block _ hg)).trans hna, (cell_same (HS.out.low.block _ hg')).trans hnb, fun i v hi => (cell_same (HS.out.low.block _ hg)).trans (hra i v hi), fun i v hi => (cell_same (HS.out.low.block _ hg')).trans (hrb i v hi)⟩
      have HC := hid (bterm_same 4096 (qs[j]).pd es fs wr.drew (HF2.out _ (List.getElem_mem hj)) (by omega) (tm_on ht (HCar.out _ HSd.out.low)) (tm_on ht' (HCar.out _ HSd.out.low)))
      have HT1 := hid ht.info
      have HT2 := hid ht'.info
      generalize (qs[j]).nm = nm at HR
      clear hra hrb ht ht' hna hnb b4
      go_upto_region 6 with fail
      refine wp_region_held_drew (S := Po7R w.heap.size g (o + j * 5) g' (o' + j * 5) qs.length ca cb o o' nm es fs) (by kernel_rfl) HR.out (fun hHeld => ?_)
      refine wpAnyH_take (i := 0) (v := ?_) rfl (by kernel_rfl) (by kernel_rfl) (by kernel_rfl) (fun _ _ _ h => h) (Or.inl ⟨by rfl, ?_⟩) hHeld ?_
      rotate_left
      · intro w' hSw
        have a4 := hSw.a4
        have b4 := hSw.b4
        have na := hSw.na
        have nb := hSw.nb
        clear hSw
        go_simp
        first | done | with_reducible rfl
      simp only [Act.put, List.getElem_toArray, List.getElem_cons_zero, List.setIfInBounds_toArray, List.set_cons_zero, List.set_cons_succ]
      refine wpAnyH_take (i := 1) (v := ?_) rfl (by kernel_rfl) (by kernel_rfl) (by kernel_rfl) (fun _ _ _ h => h) (Or.inl ⟨by rfl, ?_⟩) hHeld ?_
      rotate_left
      · intro w' hSw
        have a4 := hSw.a4
        have b4 := hSw.b4
        have na := hSw.na
        have nb := hSw.nb
        clear hSw
        go_simp
        first | done | with_reducible rfl
      simp only [Act.put, List.getElem_toArray, List.getElem_cons_succ, List.getElem_cons_zero, List.setIfInBounds_toArray, List.set_cons_zero, List.set_cons_succ]
      refine wpAnyH_take (i := 2) (v := ?_) rfl (by kernel_rfl) (by kernel_rfl) (by kernel_rfl) (fun _ _ _ h => h) (Or.inl ⟨by rfl, ?_⟩) hHeld ?_
      rotate_left
      · intro w' hSw
        have a4 := hSw.a4
        have b4 := hSw.b4
        have na := hSw.na
        have nb := hSw.nb
        clear hSw
        go_simp
        first | done | with_reducible rfl
      simp only [Act.put, List.getElem_toArray, List.getElem_cons_succ, List.getElem_cons_zero, List.setIfInBounds_toArray, List.set_cons_zero, List.set_cons_succ]
      refine wpAnyH_take (i := 3) (v := ?_) rfl (by kernel_rfl) (by kernel_rfl) (by kernel_rfl) (fun _ _ _ h => h) (Or.inl ⟨by rfl, ?_⟩) hHeld ?_
      rotate_left
      · intro w' hSw
        have a4 := hSw.a4
        have b4 := hSw.b4
        have na := hSw.na
        have nb := hSw.nb
        clear hSw
        go_simp
        first | done | with_reducible rfl
      simp only [Act.put, List.getElem_toArray, List.getElem_cons_succ, List.getElem_cons_zero, List.setIfInBounds_toArray, List.set_cons_zero, List.set_cons_succ]
      refine wpAnyH_take (i := 4) (v := ?_) rfl (by kernel_rfl) (by kernel_rfl) (by kernel_rfl) (fun _ _ _ h => h) (Or.inl ⟨by rfl, ?_⟩) hHeld ?_
      rotate_left
      · intro w' hSw
        have a4 := hSw.a4
        have b4 := hSw.b4
        have na := hSw.na
        have nb := hSw.nb
        clear hSw
        go_simp
        first | done | with_reducible rfl
      simp only [Act.put, List.getElem_toArray, List.getElem_cons_succ, List.getElem_cons_zero, List.setIfInBounds_toArray, List.set_cons_zero, List.set_cons_succ]
      refine wpAnyH_take (i := 5) (v := ?_) rfl (by kernel_rfl) (by kernel_rfl) (by kernel_rfl) (fun _ _ _ h => h) (Or.inl ⟨by rfl, ?_⟩) hHeld ?_
      rotate_left
      · intro w' hSw
        have a4 := hSw.a4
        have b4 := hSw.b4
        have na := hSw.na
        have nb := hSw.nb
        clear hSw
        go_simp
        first | done | with_reducible rfl
      simp only [Act.put, List.getElem_toArray, List.getElem_cons_succ, List.getElem_cons_zero, List.setIfInBounds_toArray, List.set_cons_zero, List.set_cons_succ]
      refine wpAnyH_take (i := 6) (v := ?_) rfl (by kernel_rfl) (by kernel_rfl) (by kernel_rfl) (fun _ _ _ h => h) (Or.inl ⟨by rfl, ?_⟩) hHeld ?_
      rotate_left
      · intro w' hSw
        have a4 := hSw.a4
        have b4 := hSw.b4
        have na := hSw.na
        have nb := hSw.nb
        clear hSw
        go_simp
        first | done | with_reducible rfl
      simp only [Act.put, List.getElem_toArray, List.getElem_cons_succ, List.getElem_cons_zero, List.setIfInBounds_toArray, List.set_cons_zero, List.set_cons_succ]
      refine wpAnyH_take (i := 7) (v := ?_) rfl (by kernel_rfl) (by kernel_rfl) (by kernel_rfl) (fun _ _ _ h => h) (Or.inl ⟨by rfl, ?_⟩) hHeld ?_
      rotate_left
      · intro w' hSw
        have a4 := hSw.a4
        have b4 := hSw.b4
        have na := hSw.na
        have nb := hSw.nb
        clear hSw
        go_simp
        first | done | with_reducible rfl
      simp only [Act.put, List.getElem_toArray, List.getElem_cons_succ, List.getElem_cons_zero, List.setIfInBounds_toArray, List.set_cons_zero, List.set_cons_succ]
      refine wpAnyH_take (i := 8) (v := ?_) rfl (by kernel_rfl) (by kernel_rfl) (by kernel_rfl) (fun _ _ _ h => h) (Or.inl ⟨by rfl, ?_⟩) hHeld ?_
      rotate_left
      · intro w' hSw
        have a4 := hSw.a4
        have b4 := hSw.b4
        have na := hSw.na
        have nb := hSw.nb
        clear hSw
        go_simp
        first | done | with_reducible rfl
      simp only [Act.put, List.getElem_toArray, List.getElem_cons_succ, List.getElem_cons_zero, List.setIfInBounds_toArray, List.set_cons_zero, List.set_cons_succ]
      refine wpAnyH_take (i := 9) (v := ?_) rfl (by kernel_rfl) (by kernel_rfl) (by kernel_rfl) (fun _ _ _ h => h) (Or.inl ⟨by rfl, ?_⟩) hHeld ?_
      rotate_left
      · intro w' hSw
        have a4 := hSw.a4
        have b4 := hSw.b4
        have na := hSw.na
        have nb := hSw.nb
        clear hSw
        go_simp
        first | done | with_reducible rfl
      simp only [Act.put, List.getElem_toArray, List.getElem_cons_succ, List.getElem_cons_zero, List.setIfInBounds_toArray, List.set_cons_zero, List.set_cons_succ]
      refine wpAnyH_take (i := 10) (v := ?_) rfl (by kernel_rfl) (by kernel_rfl) (by kernel_rfl) (fun _ _ _ h => h) (Or.inl ⟨by rfl, ?_⟩) hHeld ?_
      rotate_left
      · intro w' hSw
        have a4 := hSw.a4
        have b4 := hSw.b4
        have na := hSw.na
        have nb := hSw.nb
        clear hSw
        go_simp
        first | done | with_reducible rfl
      simp only [Act.put, List.getElem_toArray, List.getElem_cons_succ, List.getElem_cons_zero, List.setIfInBounds_toArray, List.set_cons_zero, List.set_cons_succ]
      refine wpAnyH_take (i := 11) (v := ?_) rfl (by kernel_rfl) (by kernel_rfl) (by kernel_rfl) (fun _ _ _ h => h) (Or.inl ⟨by rfl, ?_⟩) hHeld ?_
      rotate_left
      · intro w' hSw
        have a4 := hSw.a4
        have b4 := hSw.b4
        have na := hSw.na
        have nb := hSw.nb
        clear hSw
        go_simp
        first | done | with_reducible rfl
      simp only [Act.put, List.getElem_toArray, List.getElem_cons_succ, List.getElem_cons_zero, List.setIfInBounds_toArray, List.set_cons_zero, List.set_cons_succ]
      refine wpAnyH_take (i := 12) (v := ?_) rfl (by kernel_rfl) (by kernel_rfl) (by kernel_rfl) (fun _ _ _ h => h) (Or.inl ⟨by rfl, ?_⟩) hHeld ?_
      rotate_left
      · intro w' hSw
        have a4 := hSw.a4
        have b4 := hSw.b4
        have na := hSw.na
        have nb := hSw.nb
        clear hSw
        go_simp
        first | done | with_reducible rfl
      simp only [Act.put, List.getElem_toArray, List.getElem_cons_succ, List.getElem_cons_zero, List.setIfInBounds_toArray, List.set_cons_zero, List.set_cons_succ]
      refine wpAnyH_take (i := 13) (v := ?_) rfl (by kernel_rfl) (by kernel_rfl) (by kernel_rfl) (fun _ _ _ h => h) (Or.inl ⟨by rfl, ?_⟩) hHeld ?_
      rotate_left
      · intro w' hSw
        have a4 := hSw.a4
        have b4 := hSw.b4
        have na := hSw.na
        have nb := hSw.nb
        clear hSw
        go_simp
        first | done | with_reducible rfl
      simp only [Act.put, List.getElem_toArray, List.getElem_cons_succ, List.getElem_cons_zero, List.setIfInBounds_toArray, List.set_cons_zero, List.set_cons_succ]
      refine wpAnyH_take (i := 14) (v := ?_) rfl (by kernel_rfl) (by kernel_rfl) (by kernel_rfl) (fun _ _ _ h => h) (Or.inl ⟨by rfl, ?_⟩) hHeld ?_
      rotate_left
      · intro w' hSw
        have a4 := hSw.a4
        clear hSw
        go_simp
        first | done | with_reducible rfl
      simp only [Act.put, List.getElem_toArray, List.getElem_cons_succ, List.getElem_cons_zero, List.setIfInBounds_toArray, List.set_cons_zero, List.set_cons_succ]
      refine wpAnyH_take (i := 15) (v := ?_) rfl (by kernel_rfl) (by kernel_rfl) (by kernel_rfl) (fun _ _ _ h => h) (Or.inl ⟨by rfl, ?_⟩) hHeld ?_
      rotate_left
      · intro w' hSw
        have a4 := hSw.a4
        clear hSw
        go_simp
        first | done | with_reducible rfl
      simp only [Act.put, List.getElem_toArray, List.getElem_cons_succ, List.getElem_cons_zero, List.setIfInBounds_toArray, List.set_cons_zero, List.set_cons_succ]
      refine wpAnyH_take (i := 16) (v := ?_) rfl (by kernel_rfl) (by kernel_rfl) (by kernel_rfl) (fun _ _ _ h => h) (Or.inl ⟨by rfl, ?_⟩) hHeld ?_
      rotate_left
      · intro w' hSw
        have a4 := hSw.a4
        clear hSw
        go_simp
        first | done | with_reducible rfl
      simp only [Act.put, List.getElem_toArray, List.getElem_cons_succ, List.getElem_cons_zero, List.setIfInBounds_toArray, List.set_cons_zero, List.set_cons_succ]
      refine wpAnyH_take (i := 17) (v := ?_) rfl (by kernel_rfl) (by kernel_rfl) (by kernel_rfl) (fun _ _ _ h => h) (Or.inl ⟨by rfl, ?_⟩) hHeld ?_
      rotate_left
      · intro w' hSw
        have a4 := hSw.a4
        clear hSw
        go_simp
        first | done | with_reducible rfl
      simp only [Act.put, List.getElem_toArray, List.getElem_cons_succ, List.getElem_cons_zero, List.setIfInBounds_toArray, List.set_cons_zero, List.set_cons_succ]
      refine wpAnyH_take (i := 18) (v := ?_) rfl (by kernel_rfl) (by kernel_rfl) (by kernel_rfl) (fun _ _ _ h => h) (Or.inl ⟨by rfl, ?_⟩) hHeld ?_
      rotate_left
      · intro w' hSw
        have a4 := hSw.a4
        clear hSw
        go_simp
        first | done | with_reducible rfl
      simp only [Act.put, List.getElem_toArray, List.getElem_cons_succ, List.getElem_cons_zero, List.setIfInBounds_toArray, List.set_cons_zero, List.set_cons_succ]
      refine wpAnyH_take (i := 19) (v := .agg es) rfl (by kernel_rfl) (by kernel_rfl) (by kernel_rfl) (fun _ _ _ h => h) (Or.inl ⟨by rfl, ?_⟩) hHeld ?_
      · intro w' hSw
        exact runLd 26 (.tmp 45) rfl g (o + j * 5 + 1) rfl es _ hSw.ra Tryz.underlying26 rfl HT1.out
      simp only [Act.put, List.getElem_toArray, List.getElem_cons_succ, List.getElem_cons_zero, List.setIfInBounds_toArray, List.set_cons_zero, List.set_cons_succ]
      refine wpAnyH_take (i := 20) (v := ?_) rfl (by kernel_rfl) (by kernel_rfl) (by kernel_rfl) (fun _ _ _ h => h) (Or.inl ⟨by rfl, ?_⟩) hHeld ?_
      rotate_left
      · intro w' hSw
        have b4 := hSw.b4
        clear hSw
        go_simp
        first | done | with_reducible rfl
      simp only [Act.put, List.getElem_toArray, List.getElem_cons_succ, List.getElem_cons_zero, List.setIfInBounds_toArray, List.set_cons_zero, List.set_cons_succ]
      refine wpAnyH_take (i := 21) (v := ?_) rfl (by kernel_rfl) (by kernel_rfl) (by kernel_rfl) (fun _ _ _ h => h) (Or.inl ⟨by rfl, ?_⟩) hHeld ?_
      rotate_left
      · intro w' hSw
        have b4 := hSw.b4
        clear hSw
        go_simp
        first | done | with_reducible rfl
      simp only [Act.put, List.getElem_toArray, List.getElem_cons_succ, List.getElem_cons_zero, List.setIfInBounds_toArray, List.set_cons_zero, List.set_cons_succ]
      refine wpAnyH_take (i := 22) (v := ?_) rfl (by kernel_rfl) (by kernel_rfl) (by kernel_rfl) (fun _ _ _ h => h) (Or.inl ⟨by rfl, ?_⟩) hHeld ?_
      rotate_left
      · intro w' hSw
        have b4 := hSw.b4
        clear hSw
        go_simp
        first | done | with_reducible rfl
      simp only [Act.put, List.getElem_toArray, List.getElem_cons_succ, List.getElem_cons_zero, List.setIfInBounds_toArray, List.set_cons_zero, List.set_cons_succ]
      refine wpAnyH_take (i := 23) (v := ?_) rfl (by kernel_rfl) (by kernel_rfl) (by kernel_rfl) (fun _ _ _ h => h) (Or.inl ⟨by rfl, ?_⟩) hHeld ?_
      rotate_left
      · intro w' hSw
        have b4 := hSw.b4
        clear hSw
        go_simp
        first | done | with_reducible rfl
      simp only [Act.put, List.getElem_toArray, List.getElem_cons_succ, List.getElem_cons_zero, List.setIfInBounds_toArray, List.set_cons_zero, List.set_cons_succ]
      refine wpAnyH_take (i := 24) (v := ?_) rfl (by kernel_rfl) (by kernel_rfl) (by kernel_rfl) (fun _ _ _ h => h) (Or.inl ⟨by rfl, ?_⟩) hHeld ?_
      rotate_left
      · intro w' hSw
        have b4 := hSw.b4
        clear hSw
        go_simp
        first | done | with_reducible rfl
      simp only [Act.put, List.getElem_toArray, List.getElem_cons_succ, List.getElem_cons_zero, List.setIfInBounds_toArray, List.set_cons_zero, List.set_cons_succ]
      refine wpAnyH_take (i := 25) (v := .agg fs) rfl (by kernel_rfl) (by kernel_rfl) (by kernel_rfl) (fun _ _ _ h => h) (Or.inl ⟨by rfl, ?_⟩) hHeld ?_
      · intro w' hSw
        exact runLd 26 (.tmp 51) rfl g' (o' + j * 5 + 1) rfl fs _ hSw.rb Tryz.underlying26 rfl HT2.out
      simp only [Act.put, List.getElem_toArray, List.getElem_cons_succ, List.getElem_cons_zero, List.setIfInBounds_toArray, List.set_cons_zero, List.set_cons_succ]
      refine ready_one 26 _ (by kernel_rfl) rfl (stepFnW 17 (.func 17) [.tmp 46, .tmp 52] _ [.agg es, .agg fs] rfl rfl rfl rfl (fun _ => rfl) _ HC.out ?_)
      rintro e w2 ⟨rfl, hw⟩
      refine Or.inl ⟨_, rfl, ?_⟩
      have hHeld := HR.out.on hw (by show g < wr.heap.size; omega) (by show g' < wr.heap.size; omega)
      have HS2 := hid (HSd.out.on hw)
      clear hw
      refine ⟨hHeld, ?_⟩
      simp only [Act.put, List.getElem_toArray, List.getElem_cons_succ, List.getElem_cons_zero, List.setIfInBounds_toArray, List.set_cons_zero, List.set_cons_succ]
      refine wpAnyH_take (i := 27) (v := ?_) rfl (by kernel_rfl) (by kernel_rfl) (by kernel_rfl) (fun _ _ _ h => h) (Or.inl ⟨by rfl, ?_⟩) hHeld ?_
      rotate_left
      · intro w' hSw
        clear hSw
        go_simp
        first | done | with_reducible rfl
      simp only [Act.put, List.getElem_toArray, List.getElem_cons_succ, List.getElem_cons_zero, List.setIfInBounds_toArray, List.set_cons_zero, List.set_cons_succ]
      refine wpAnyH_take (i := 28) (v := ?_) rfl (by kernel_rfl) (by kernel_rfl) (by kernel_rfl) (fun _ _ _ h => h) (Or.inl ⟨by rfl, ?_⟩) hHeld ?_
      rotate_left
      · intro w' hSw
        clear hSw
        go_simp
        first | done | with_reducible rfl
      simp only [Act.put, List.getElem_toArray, List.getElem_cons_succ, List.getElem_cons_zero, List.setIfInBounds_toArray, List.set_cons_zero, List.set_cons_succ]
      refine wpAnyH_done (by kernel_rfl) ?_ _
      clear hHeld a4
      go_wp2
      have hX : ∃ k : Nat, Value.int .i64 ((j : Int) + 1) = .int .i64 ((k : Nat) : Int) ∧ k ≤ qs.length ∧ Hid (Po7S w #[x0, x1, x2, x3, .slice (some ⟨g, o, none⟩) qs.length ca] #[y0, y1, y2, y3, .slice (some ⟨g', o', none⟩) qs.length cb] w2) := ⟨j + 1, by rw [show (((j + 1 : Nat) : Nat) : Int) = (j : Int) + 1 by omega], hj, HS2⟩
      refine ⟨?_, ?_⟩
      · first
          | exact hX
          | ((repeat apply Exists.intro); refine ⟨?_, rfl⟩; exact hX)
      · simp [intOf]; omega
    · have hs3 : decide ((j : Int) < (qs.length : Int)) = false := by simp; omega
      go_wp2
      go_ret
      exact ⟨rfl, HS.out.low⟩
end Go.Proofs.YtoncogkamlgjhaaGreatDoor
