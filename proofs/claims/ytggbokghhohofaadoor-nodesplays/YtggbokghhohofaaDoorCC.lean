/-
  Proved here: ordered of package nodes: whether a test may stand over two nodes. Condition: the two are nodes of the store.
-/
import Derived.Test.YtggbokghhohofaaDoorCB
namespace Go.Proofs.YtggbokghhohofaaDoor
open Go.RowKit Go.Maps
set_option maxRecDepth 100000

def ordH (x : Nd) (fd : Int) : Bool := x.fd == -1 || decide (fd < x.fd)
def ordL (y : Nd) (fd n : Int) : Bool := y.fd == -1 || decide (0 < orI (cmpI y.fd fd) (cmpI y.n n))
/-- What it reads. -/
structure Hod (p g o hi lo : Nat) (ao : Value) (x y : Nv) (w : World) : Prop where
  c : w.cell? ⟨p, 0, none⟩ = some ao
  rx : w.rangeAt g (o + hi * 5) (ndc x).toList
  ry : w.rangeAt g (o + lo * 5) (ndc y).toList
theorem Hod.on {p g o hi lo : Nat} {ao : Value} {x y : Nv} {w w' : World} (h : Hod p g o hi lo ao x y w) (hb : Below w.heap.size w w') : Hod p g o hi lo ao x y w' := by
  have hg : g < w.heap.size := cell_lt (h.rx 0 _ rfl)
  exact ⟨cell_on hb h.c, fun k u hk => (cell_same (hb.block g hg)).trans (h.rx k u hk), fun k u hk => (cell_same (hb.block g hg)).trans (h.ry k u hk)⟩
theorem Sp.alN {ops : Array Oper} {Q : Exit → Act → World → Prop} {o : Oper} {a : Act} {w : World} {K : Act → World → Prop} (hop : o.op = .alloc 41) (hg : o.guard = none) (hk : K (a.put o.dst (ptr w.heap.size)) (w.alloc (.cells (ndc (nilS, ⟨0, 0, 0, 0, []⟩)) 41))) : Sp ops Q o a w K := by
  refine ⟨by simp [Region.wanted, hg], ?_⟩
  unfold Oper.wp execOp
  simp only [hop]
  go_simp
  exact hk
theorem Sp.stR {ops : Array Oper} {Q : Exit → Act → World → Prop} {o : Oper} {a : Act} {w : World} {K : Act → World → Prop} (ty : TypeId) (x y : Operand) (hop : o.op = .store ty x y) (hg : o.guard = none) (g : Nat) (cs : Array Value) (hx : a.eval x = .pointer (some ⟨g, 0, none⟩)) (hy : a.eval y = .agg cs) (t : TypeId) (zs : Array Value) (hgb : w.heap[g]? = some (.cells zs t (0, 0))) (hi : (Tryd.prog.info? ty).map (·.size) = some cs.size) (hz : zs.size = cs.size) (h1 : cs.all (·.oneCell') = true) (hk : K (a.put o.dst undef) (w.setRow g cs)) : Sp ops Q o a w K :=
  ⟨by simp [Region.wanted, hg], wp_store_row ty x y hop g cs hx hy t zs hgb hi hz h1 hk⟩
theorem setRow_blk (w : World) (g : Nat) (zs cs : Array Value) (t : TypeId) (fr : Nat × Nat) (h : w.heap[g]? = some (.cells zs t fr)) : (w.setRow g cs).heap[g]? = some (.cells cs t fr) := setRow_heap w g zs cs t fr h
theorem bel_row {B : Nat} {w w' : World} (h : Below B w w') {g : Nat} (hg : B ≤ g) (cs : Array Value) : Below B w (w'.setRow g cs) :=
  h.trans ⟨rfl, rfl, rfl, by simp [World.setRow], fun k hk => setRow_other w' g k _ (by omega)⟩
theorem ndc_one {u : Value} (hu : u.oneCell' = true) (x : Nd) : (ndc (u, x)).all (·.oneCell') = true := by
  rw [Array.all_eq_true_iff_forall_mem]
  intro v hv
  exact flN_one hu (u, x) rfl v (by simpa [flN] using hv)
/-- Two nodes of a store. -/
theorem StM.two {B p : Nat} {w : World} {all : List Nd} {va : Value} {bt bl nt nl : Nat} {Gt Gl : Lit → Option Value} {d : List Nv} (h : StM B p w all va bt bl nt nl Gt Gl d) {hi lo : Nat} (h1 : hi < all.length) (h2 : lo < all.length) : ∃ g o cap u v, va = .slice (some ⟨g, o, none⟩) d.length cap ∧ d.length ≤ cap ∧ Hod p g o hi lo va (u, all[hi]) (v, all[lo]) w ∧ u.oneCell' = true ∧ v.oneCell' = true := by
  obtain ⟨ao, cap, rfl⟩ := h.rw.form
  have hdl := h.dl
  have hd1 : hi < d.length := by omega
  have hd2 : lo < d.length := by omega
  obtain ⟨g, o, rfl, -, hc, -, hr1⟩ := h.rw.rg flN5 rfl hi hd1
  obtain ⟨g', o', e', -, -, -, hr2⟩ := h.rw.rg flN5 rfl lo hd2
  simp only [Option.some.injEq, Addr.mk.injEq, and_true] at e'
  obtain ⟨rfl, rfl⟩ := e'
  have e1 : d[hi].2 = all[hi] := by have := h.dm; subst this; simp
  have e2 : d[lo].2 = all[lo] := by have := h.dm; subst this; simp
  obtain ⟨a1, c1, f1, -⟩ := (h.lf _ (List.getElem_mem hd1)).form
  obtain ⟨a2, c2, f2, -⟩ := (h.lf _ (List.getElem_mem hd2)).form
  refine ⟨g, o, cap, d[hi].1, d[lo].1, rfl, hc, ⟨h.cells.1, ?_, ?_⟩, by rw [f1]; rfl, by rw [f2]; rfl⟩
  · rw [← e1]; exact hr1
  · rw [← e2]; exact hr2
structure Hoe (b : Nat) (f n : Int) (w : World) : Prop where
  c0 : w.cell? ⟨b, 0, none⟩ = some (.int .i8 f)
  c1 : w.cell? ⟨b, 1, none⟩ = some (.int .u64 n)
theorem Hoe.on {b : Nat} {f n : Int} {w : World} (h : Hoe b f n w) (o : Obj) : Hoe b f n (w.alloc o) := by
  have hb : Below w.heap.size w (w.alloc o) := (Below.refl _ _).alloc (Nat.le_refl _) _
  exact ⟨cell_on hb h.c0, cell_on hb h.c1⟩
set_option maxHeartbeats 12800000 in
theorem ordered_any {B p : Nat} {w : World} {all : List Nd} (h : St B p w all) (fd n : Int) (hi lo : Nat) (h1 : hi < all.length) (h2 : lo < all.length) (_hl : all.length ≤ 65536) : Calls Tryd.prog 29 #[ptr p, .int .i8 fd, .int .u64 n, .int .i64 ((hi : Nat) : Int), .int .i64 ((lo : Nat) : Int)] w fun e w' => e = .returned (.bool (ordH all[hi] fd && ordL all[lo] fd n)) ∧ Below w.heap.size w w' := by
  obtain ⟨va, bt, bl, nt, nl, Gt, Gl, d, h⟩ := h
  obtain ⟨g, o, cap, u, v, rfl, hcap, hH, hu, hv⟩ := h.two h1 h2
  have hdl := h.dl
  rw [← hdl] at h1 h2
  have hc1 : hi < cap := by omega
  have hc2 : lo < cap := by omega
  generalize all[hi] = x at hH ⊢
  generalize all[lo] = y at hH ⊢
  have HH := hid hH
  have HU := hid hu
  have HV := hid hv
  have hzw : Hid (∀ W' : World, Below w.heap.size w W' → Hod p g o hi lo (.slice (some ⟨g, o, none⟩) d.length cap) (u, x) (v, y) W') := fun W' hb => hH.on hb
  clear h hH hu hv hdl
  go_enter Tryd.func29, Tryd.ntmps29
  go_upto_region 1 with fail
  go_cut [11, 12] from 15 (fun s11 s12 wc => ∃ a b : Nat, s11 = ptr a ∧ s12 = ptr b ∧ Hid (Below w.heap.size w wc ∧ wc.heap[a]? = some (.cells (ndc (u, x)) 41 (0, 0)) ∧ wc.heap[b]? = some (.cells (ndc (v, y)) 41 (0, 0))))
  case first =>
    have hbd : Below w.heap.size w w.drew := ⟨rfl, rfl, rfl, Nat.le_refl _, fun _ _ => rfl⟩
    refine wp_region_held_drew (S := Hod p g o hi lo (.slice (some ⟨g, o, none⟩) d.length cap) (u, x) (v, y)) (by kernel_rfl) ⟨HH.out.c, HH.out.rx, HH.out.ry⟩ (fun hHeld => ?_)
    refine wpAnyH_take (i := 0) (v := ?_) rfl (by kernel_rfl) (by kernel_rfl) (by kernel_rfl) (fun _ _ _ h => h) (Or.inl ⟨by rfl, ?_⟩) hHeld ?_
    rotate_left
    · intro w' hSw
      clear hSw
      go_simp
      first | done | with_reducible rfl
    simp only [Act.put, List.getElem_toArray, List.getElem_cons_zero, List.setIfInBounds_toArray, List.set_cons_zero, List.set_cons_succ]
    refine wpAnyH_take (i := 1) (v := ?_) rfl (by kernel_rfl) (by kernel_rfl) (by kernel_rfl) (fun _ _ _ h => h) (Or.inl ⟨by rfl, ?_⟩) hHeld ?_
    rotate_left
    · intro w' hSw
      clear hSw
      go_simp
      first | done | with_reducible rfl
    simp only [Act.put, List.getElem_toArray, List.getElem_cons_succ, List.getElem_cons_zero, List.setIfInBounds_toArray, List.set_cons_zero, List.set_cons_succ]
    refine wpAnyH_take (i := 2) (v := ?_) rfl (by kernel_rfl) (by kernel_rfl) (by kernel_rfl) (fun _ _ _ h => h) (Or.inl ⟨by rfl, ?_⟩) hHeld ?_
    rotate_left
    · intro w' hSw
      clear hSw
      go_simp
      first | done | with_reducible rfl
    simp only [Act.put, List.getElem_toArray, List.getElem_cons_succ, List.getElem_cons_zero, List.setIfInBounds_toArray, List.set_cons_zero, List.set_cons_succ]
    refine wpAnyH_take (i := 3) (v := ?_) rfl (by kernel_rfl) (by kernel_rfl) (by kernel_rfl) (fun _ _ _ h => h) (Or.inl ⟨by rfl, ?_⟩) hHeld ?_
    rotate_left
    · intro w' hSw
      have c := hSw.c
      clear hSw
      go_simp
      first | done | with_reducible rfl
    simp only [Act.put, List.getElem_toArray, List.getElem_cons_succ, List.getElem_cons_zero, List.setIfInBounds_toArray, List.set_cons_zero, List.set_cons_succ]
    refine wpAnyH_take (i := 4) (v := ?_) rfl (by kernel_rfl) (by kernel_rfl) (by kernel_rfl) (fun _ _ _ h => h) (Or.inl ⟨by rfl, ?_⟩) hHeld ?_
    rotate_left
    · intro w' hSw
      clear hSw
      go_simp
      first | done | with_reducible rfl
    simp only [Act.put, List.getElem_toArray, List.getElem_cons_succ, List.getElem_cons_zero, List.setIfInBounds_toArray, List.set_cons_zero, List.set_cons_succ]
    refine wpAnyH_take (i := 5) (v := ?_) rfl (by kernel_rfl) (by kernel_rfl) (by kernel_rfl) (fun _ _ _ h => h) (Or.inl ⟨by rfl, ?_⟩) hHeld ?_
    rotate_left
    · intro w' hSw
      clear hSw
      go_simp
      first | done | with_reducible rfl
    simp only [Act.put, List.getElem_toArray, List.getElem_cons_succ, List.getElem_cons_zero, List.setIfInBounds_toArray, List.set_cons_zero, List.set_cons_succ]
    refine wpAnyH_take (i := 6) (v := .agg (ndc (u, x))) rfl (by kernel_rfl) (by kernel_rfl) (by kernel_rfl) (fun _ _ _ h => h) (Or.inl ⟨by rfl, ?_⟩) hHeld ?_
    · intro w' hSw
      exact runLd 41 (.tmp 20) rfl g (o + hi * 5) rfl (ndc (u, x)) _ hSw.rx Tryd.underlying41 rfl (infoNODE _)
    simp only [Act.put, List.getElem_toArray, List.getElem_cons_succ, List.getElem_cons_zero, List.setIfInBounds_toArray, List.set_cons_zero, List.set_cons_succ]
    refine wpAnyH_take (i := 7) (v := ?_) rfl (by kernel_rfl) (by kernel_rfl) (by kernel_rfl) (fun _ _ _ h => h) (Or.inl ⟨by rfl, ?_⟩) hHeld ?_
    rotate_left
    · intro w' hSw
      clear hSw
      go_simp
      first | done | with_reducible rfl
    simp only [Act.put, List.getElem_toArray, List.getElem_cons_succ, List.getElem_cons_zero, List.setIfInBounds_toArray, List.set_cons_zero, List.set_cons_succ]
    refine wpAnyH_take (i := 8) (v := ?_) rfl (by kernel_rfl) (by kernel_rfl) (by kernel_rfl) (fun _ _ _ h => h) (Or.inl ⟨by rfl, ?_⟩) hHeld ?_
    rotate_left
    · intro w' hSw
      clear hSw
      go_simp
      first | done | with_reducible rfl
    simp only [Act.put, List.getElem_toArray, List.getElem_cons_succ, List.getElem_cons_zero, List.setIfInBounds_toArray, List.set_cons_zero, List.set_cons_succ]
    refine wpAnyH_take (i := 9) (v := ?_) rfl (by kernel_rfl) (by kernel_rfl) (by kernel_rfl) (fun _ _ _ h => h) (Or.inl ⟨by rfl, ?_⟩) hHeld ?_
    rotate_left
    · intro w' hSw
      clear hSw
      go_simp
      first | done | with_reducible rfl
    simp only [Act.put, List.getElem_toArray, List.getElem_cons_succ, List.getElem_cons_zero, List.setIfInBounds_toArray, List.set_cons_zero, List.set_cons_succ]
    refine wpAnyH_take (i := 10) (v := ?_) rfl (by kernel_rfl) (by kernel_rfl) (by kernel_rfl) (fun _ _ _ h => h) (Or.inl ⟨by rfl, ?_⟩) hHeld ?_
    rotate_left
    · intro w' hSw
      have c := hSw.c
      clear hSw
      go_simp
      first | done | with_reducible rfl
    simp only [Act.put, List.getElem_toArray, List.getElem_cons_succ, List.getElem_cons_zero, List.setIfInBounds_toArray, List.set_cons_zero, List.set_cons_succ]
    refine wpAnyH_take (i := 11) (v := ?_) rfl (by kernel_rfl) (by kernel_rfl) (by kernel_rfl) (fun _ _ _ h => h) (Or.inl ⟨by rfl, ?_⟩) hHeld ?_
    rotate_left
    · intro w' hSw
      clear hSw
      go_simp
      first | done | with_reducible rfl
    simp only [Act.put, List.getElem_toArray, List.getElem_cons_succ, List.getElem_cons_zero, List.setIfInBounds_toArray, List.set_cons_zero, List.set_cons_succ]
    refine wpAnyH_take (i := 12) (v := ?_) rfl (by kernel_rfl) (by kernel_rfl) (by kernel_rfl) (fun _ _ _ h => h) (Or.inl ⟨by rfl, ?_⟩) hHeld ?_
    rotate_left
    · intro w' hSw
      clear hSw
      go_simp
      first | done | with_reducible rfl
    simp only [Act.put, List.getElem_toArray, List.getElem_cons_succ, List.getElem_cons_zero, List.setIfInBounds_toArray, List.set_cons_zero, List.set_cons_succ]
    refine wpAnyH_take (i := 13) (v := .agg (ndc (v, y))) rfl (by kernel_rfl) (by kernel_rfl) (by kernel_rfl) (fun _ _ _ h => h) (Or.inl ⟨by rfl, ?_⟩) hHeld ?_
    · intro w' hSw
      exact runLd 41 (.tmp 27) rfl g (o + lo * 5) rfl (ndc (v, y)) _ hSw.ry Tryd.underlying41 rfl (infoNODE _)
    simp only [Act.put, List.getElem_toArray, List.getElem_cons_succ, List.getElem_cons_zero, List.setIfInBounds_toArray, List.set_cons_zero, List.set_cons_succ]
    have hb1 : Below w.heap.size w (w.drew.alloc (.cells (ndc (nilS, ⟨0, 0, 0, 0, []⟩)) 41)) := hbd.alloc (Nat.le_refl _) _
    have hb2 : Below w.heap.size w ((w.drew.alloc (.cells (ndc (nilS, ⟨0, 0, 0, 0, []⟩)) 41)).alloc (.cells (ndc (nilS, ⟨0, 0, 0, 0, []⟩)) 41)) := hb1.alloc (by show _ ≤ (w.drew.alloc _).heap.size; have := hb1.size; exact this) _
    have hn1 : ((w.drew.alloc (.cells (ndc (nilS, ⟨0, 0, 0, 0, []⟩)) 41)).alloc (.cells (ndc (nilS, ⟨0, 0, 0, 0, []⟩)) 41)).heap[w.heap.size]? = some (.cells (ndc (nilS, ⟨0, 0, 0, 0, []⟩)) 41 (0, 0)) := by
      rw [heap_alloc_old _ _ (by simp)]; exact heap_alloc_new w.drew _
    have hn2 : ((w.drew.alloc (.cells (ndc (nilS, ⟨0, 0, 0, 0, []⟩)) 41)).alloc (.cells (ndc (nilS, ⟨0, 0, 0, 0, []⟩)) 41)).heap[w.heap.size + 1]? = some (.cells (ndc (nilS, ⟨0, 0, 0, 0, []⟩)) 41 (0, 0)) := by
      have := heap_alloc_new (w.drew.alloc (.cells (ndc (nilS, ⟨0, 0, 0, 0, []⟩)) 41)) (.cells (ndc (nilS, ⟨0, 0, 0, 0, []⟩)) 41)
      rw [show (w.drew.alloc (.cells (ndc (nilS, ⟨0, 0, 0, 0, []⟩)) 41)).heap.size = w.heap.size + 1 by simp] at this
      exact this
    have hs1 : (w.drew.alloc (.cells (ndc (nilS, ⟨0, 0, 0, 0, []⟩)) 41)).heap.size = w.heap.size + 1 := by simp
    have HB := hid (And.intro hb1 (And.intro hb2 (And.intro hn1 hn2)))
    have HS1 := hid hs1
    clear hb1 hb2 hn1 hn2 hs1
    refine an2 14 15 _ _ (by kernel_rfl) rfl rfl ?_ ?_
    · skip
      refine Sp.alN rfl rfl ?_
      refine ⟨(hzw.out _ HB.out.1), ?_⟩
      simp only [Act.put, List.getElem_toArray, List.getElem_cons_succ, List.getElem_cons_zero, List.setIfInBounds_toArray, List.set_cons_zero, List.set_cons_succ]
      refine an1 15 _ (by kernel_rfl) rfl ?_
      refine Sp.alN rfl rfl ?_
      refine ⟨(hzw.out _ HB.out.2.1), ?_⟩
      simp only [Act.put, List.getElem_toArray, List.getElem_cons_succ, List.getElem_cons_zero, List.setIfInBounds_toArray, List.set_cons_zero, List.set_cons_succ]
      rw [show (w.drew.alloc (.cells (ndc (nilS, ⟨0, 0, 0, 0, []⟩)) 41)).heap.size = w.heap.size + 1 from HS1.out]
      have H1 : Hid ((((w.drew.alloc (.cells (ndc (nilS, ⟨0, 0, 0, 0, []⟩)) 41)).alloc (.cells (ndc (nilS, ⟨0, 0, 0, 0, []⟩)) 41)).setRow (w.heap.size) (ndc (u, x))).heap[w.heap.size]? = some (.cells (ndc (u, x)) 41 (0, 0))) := setRow_blk _ _ _ _ _ _ HB.out.2.2.1
      have H2 : Hid ((((w.drew.alloc (.cells (ndc (nilS, ⟨0, 0, 0, 0, []⟩)) 41)).alloc (.cells (ndc (nilS, ⟨0, 0, 0, 0, []⟩)) 41)).setRow (w.heap.size) (ndc (u, x))).heap[w.heap.size + 1]? = some (.cells (ndc (nilS, ⟨0, 0, 0, 0, []⟩)) 41 (0, 0))) := (setRow_other _ _ _ _ (by omega)).trans HB.out.2.2.2
      have H3 := hid (bel_row HB.out.2.1 (g := w.heap.size) (by omega) (ndc (u, x)))
      refine an1 16 _ (by kernel_rfl) rfl ?_
      refine Sp.stR 41 (.tmp 11) (.tmp 21) rfl rfl (w.heap.size) (ndc (u, x)) rfl rfl 41 _ HB.out.2.2.1 (infoNODE _) rfl (ndc_one HU.out x) ?_
      refine ⟨(hzw.out _ H3.out), ?_⟩
      simp only [Act.put, List.getElem_toArray, List.getElem_cons_succ, List.getElem_cons_zero]
      generalize ((w.drew.alloc (.cells (ndc (nilS, ⟨0, 0, 0, 0, []⟩)) 41)).alloc (.cells (ndc (nilS, ⟨0, 0, 0, 0, []⟩)) 41)).setRow (w.heap.size) (ndc (u, x)) = w3 at H1 H2 H3 ⊢
      refine an1 17 _ (by kernel_rfl) rfl ?_
      refine Sp.stR 41 (.tmp 12) (.tmp 28) rfl rfl (w.heap.size + 1) (ndc (v, y)) rfl rfl 41 _ H2.out (infoNODE _) rfl (ndc_one HV.out y) ?_
      have H4 := hid (bel_row H3.out (g := w.heap.size + 1) (by omega) (ndc (v, y)))
      have H5 : Hid ((w3.setRow (w.heap.size + 1) (ndc (v, y))).heap[w.heap.size + 1]? = some (.cells (ndc (v, y)) 41 (0, 0))) := setRow_blk _ _ _ _ _ _ H2.out
      have H6 : Hid ((w3.setRow (w.heap.size + 1) (ndc (v, y))).heap[w.heap.size]? = some (.cells (ndc (u, x)) 41 (0, 0))) := (setRow_other _ _ _ _ (by omega)).trans H1.out
      refine ⟨(hzw.out _ H4.out), ?_⟩
      simp only [Act.put, List.getElem_toArray, List.getElem_cons_succ, List.getElem_cons_zero]
      refine wpAnyH_done (by kernel_rfl) ?_ _
      go_wp2
      go_meet
      case rel => exact ⟨w.heap.size, w.heap.size + 1, rfl, rfl, H4.out, H6.out, H5.out⟩
    · skip
      refine Sp.alN rfl rfl ?_
      refine ⟨(hzw.out _ HB.out.1), ?_⟩
      simp only [Act.put, List.getElem_toArray, List.getElem_cons_succ, List.getElem_cons_zero, List.setIfInBounds_toArray, List.set_cons_zero, List.set_cons_succ]
      refine an1 14 _ (by kernel_rfl) rfl ?_
      refine Sp.alN rfl rfl ?_
      refine ⟨(hzw.out _ HB.out.2.1), ?_⟩
      simp only [Act.put, List.getElem_toArray, List.getElem_cons_succ, List.getElem_cons_zero, List.setIfInBounds_toArray, List.set_cons_zero, List.set_cons_succ]
      rw [show (w.drew.alloc (.cells (ndc (nilS, ⟨0, 0, 0, 0, []⟩)) 41)).heap.size = w.heap.size + 1 from HS1.out]
      have H1 : Hid ((((w.drew.alloc (.cells (ndc (nilS, ⟨0, 0, 0, 0, []⟩)) 41)).alloc (.cells (ndc (nilS, ⟨0, 0, 0, 0, []⟩)) 41)).setRow (w.heap.size + 1) (ndc (u, x))).heap[w.heap.size + 1]? = some (.cells (ndc (u, x)) 41 (0, 0))) := setRow_blk _ _ _ _ _ _ HB.out.2.2.2
      have H2 : Hid ((((w.drew.alloc (.cells (ndc (nilS, ⟨0, 0, 0, 0, []⟩)) 41)).alloc (.cells (ndc (nilS, ⟨0, 0, 0, 0, []⟩)) 41)).setRow (w.heap.size + 1) (ndc (u, x))).heap[w.heap.size]? = some (.cells (ndc (nilS, ⟨0, 0, 0, 0, []⟩)) 41 (0, 0))) := (setRow_other _ _ _ _ (by omega)).trans HB.out.2.2.1
      have H3 := hid (bel_row HB.out.2.1 (g := w.heap.size + 1) (by omega) (ndc (u, x)))
      refine an1 16 _ (by kernel_rfl) rfl ?_
      refine Sp.stR 41 (.tmp 11) (.tmp 21) rfl rfl (w.heap.size + 1) (ndc (u, x)) rfl rfl 41 _ HB.out.2.2.2 (infoNODE _) rfl (ndc_one HU.out x) ?_
      refine ⟨(hzw.out _ H3.out), ?_⟩
      simp only [Act.put, List.getElem_toArray, List.getElem_cons_succ, List.getElem_cons_zero]
      generalize ((w.drew.alloc (.cells (ndc (nilS, ⟨0, 0, 0, 0, []⟩)) 41)).alloc (.cells (ndc (nilS, ⟨0, 0, 0, 0, []⟩)) 41)).setRow (w.heap.size + 1) (ndc (u, x)) = w3 at H1 H2 H3 ⊢
      refine an1 17 _ (by kernel_rfl) rfl ?_
      refine Sp.stR 41 (.tmp 12) (.tmp 28) rfl rfl (w.heap.size) (ndc (v, y)) rfl rfl 41 _ H2.out (infoNODE _) rfl (ndc_one HV.out y) ?_
      have H4 := hid (bel_row H3.out (g := w.heap.size) (by omega) (ndc (v, y)))
      have H5 : Hid ((w3.setRow (w.heap.size) (ndc (v, y))).heap[w.heap.size]? = some (.cells (ndc (v, y)) 41 (0, 0))) := setRow_blk _ _ _ _ _ _ H2.out
      have H6 : Hid ((w3.setRow (w.heap.size) (ndc (v, y))).heap[w.heap.size + 1]? = some (.cells (ndc (u, x)) 41 (0, 0))) := (setRow_other _ _ _ _ (by omega)).trans H1.out
      refine ⟨(hzw.out _ H4.out), ?_⟩
      simp only [Act.put, List.getElem_toArray, List.getElem_cons_succ, List.getElem_cons_zero]
      refine wpAnyH_done (by kernel_rfl) ?_ _
      go_wp2
      go_meet
      case rel => exact ⟨w.heap.size + 1, w.heap.size, rfl, rfl, H4.out, H6.out, H5.out⟩
  case rest =>
  obtain ⟨a, b, rfl, rfl, HW⟩ := hcut
  rename World => W5
  have ca0 : W5.cell? ⟨a, 0, none⟩ = some (.int .i8 x.fd) := (cell_of_row _ _ _ _ _ _ HW.out.2.1).trans rfl
  have CB0 : Hid (W5.cell? ⟨b, 0, none⟩ = some (.int .i8 y.fd) ∧ W5.cell? ⟨b, 1, none⟩ = some (.int .u64 y.n)) := ⟨(cell_of_row _ _ _ _ _ _ HW.out.2.2).trans rfl, (cell_of_row _ _ _ _ _ _ HW.out.2.2).trans rfl⟩
  have HBL := hid HW.out.1
  clear HW HH HU HV hzw
  obtain ⟨fx, nx, hx, lx, lfx⟩ := x
  obtain ⟨fy, ny, hy, ly, lfy⟩ := y
  simp only at ca0 CB0
  go_upto_region 2 with fail
  go_cut [13] from 29 (fun s13 wd => s13 = .bool (ordH ⟨fx, nx, hx, lx, lfx⟩ fd) ∧ wd = W5)
  case first =>
    by_cases e : fx = -1
    · subst e
      go_wp2
      go_meet
      case rel => exact ⟨rfl, rfl⟩
    · have e1 : (fx == -1) = false := beq_eq_false_iff_ne.2 e
      clear e
      go_wp2
      go_meet
      case rel => exact ⟨by unfold ordH; rw [e1]; rfl, rfl⟩
  case rest =>
  obtain ⟨rfl, hwc⟩ := hcut
  subst hwc
  rename World => W6
  clear ca0
  go_upto_region 3 with fail
  go_cut [14] from 38 (fun s14 wd => s14 = .bool (ordL ⟨fy, ny, hy, ly, lfy⟩ fd n) ∧ Hid (Below w.heap.size w wd))
  case first =>
    have hcd : W6.drew.cell? ⟨b, 0, none⟩ = some (.int .i8 fy) ∧ W6.drew.cell? ⟨b, 1, none⟩ = some (.int .u64 ny) := CB0.out
    have HCD := hid hcd
    have hB6 : Below w.heap.size w W6.drew := ⟨HBL.out.os, HBL.out.tape, HBL.out.output, HBL.out.size, HBL.out.block⟩
    have HB6 := hid hB6
    clear hcd hB6
    by_cases e : fy = -1
    · subst e
      refine wp_region_held_drew (S := Hoe b (-1) ny) (by kernel_rfl) ⟨HCD.out.1, HCD.out.2⟩ (fun hHeld => ?_)
      refine wpAnyH_take (i := 0) (v := ?_) rfl (by kernel_rfl) (by kernel_rfl) (by kernel_rfl) (fun _ _ _ h => h) (Or.inl ⟨by rfl, ?_⟩) hHeld ?_
      rotate_left
      · intro w' hSw
        clear hSw
        go_simp
        first | done | with_reducible rfl
      simp only [Act.put, List.getElem_toArray, List.getElem_cons_zero, List.setIfInBounds_toArray, List.set_cons_zero, List.set_cons_succ]
      refine wpAnyH_take (i := 1) (v := ?_) rfl (by kernel_rfl) (by kernel_rfl) (by kernel_rfl) (fun _ _ _ h => h) (Or.inl ⟨by rfl, ?_⟩) hHeld ?_
      rotate_left
      · intro w' hSw
        have c0 := hSw.c0
        clear hSw
        go_simp
        first | done | with_reducible rfl
      simp only [Act.put, List.getElem_toArray, List.getElem_cons_succ, List.getElem_cons_zero, List.setIfInBounds_toArray, List.set_cons_zero, List.set_cons_succ]
      refine wpAnyH_take (i := 2) (v := ?_) rfl (by kernel_rfl) (by kernel_rfl) (by kernel_rfl) (fun _ _ _ h => h) (Or.inl ⟨by rfl, ?_⟩) hHeld ?_
      rotate_left
      · intro w' hSw
        clear hSw
        go_simp
        first | done | with_reducible rfl
      simp only [Act.put, List.getElem_toArray, List.getElem_cons_succ, List.getElem_cons_zero, List.setIfInBounds_toArray, List.set_cons_zero, List.set_cons_succ]
      refine wpAnyH_take (i := 3) (v := ?_) rfl (by kernel_rfl) (by kernel_rfl) (by kernel_rfl) (fun _ _ _ h => h) (Or.inl ⟨by rfl, ?_⟩) hHeld ?_
      rotate_left
      · intro w' hSw
        clear hSw
        go_simp
        first | done | with_reducible rfl
      simp only [Act.put, List.getElem_toArray, List.getElem_cons_succ, List.getElem_cons_zero, List.setIfInBounds_toArray, List.set_cons_zero, List.set_cons_succ]
      refine wpAnyH_take (i := 4) (v := undef) rfl (by kernel_rfl) (by kernel_rfl) (by kernel_rfl) (fun _ _ _ h => h) (Or.inr ⟨by rfl, rfl⟩) hHeld ?_
      simp only [Act.put, List.getElem_toArray, List.getElem_cons_succ, List.getElem_cons_zero, List.setIfInBounds_toArray, List.set_cons_zero, List.set_cons_succ]
      refine wpAnyH_take (i := 5) (v := undef) rfl (by kernel_rfl) (by kernel_rfl) (by kernel_rfl) (fun _ _ _ h => h) (Or.inr ⟨by rfl, rfl⟩) hHeld ?_
      simp only [Act.put, List.getElem_toArray, List.getElem_cons_succ, List.getElem_cons_zero, List.setIfInBounds_toArray, List.set_cons_zero, List.set_cons_succ]
      refine wpAnyH_take (i := 6) (v := undef) rfl (by kernel_rfl) (by kernel_rfl) (by kernel_rfl) (fun _ _ _ h => h) (Or.inr ⟨by rfl, rfl⟩) hHeld ?_
      simp only [Act.put, List.getElem_toArray, List.getElem_cons_succ, List.getElem_cons_zero, List.setIfInBounds_toArray, List.set_cons_zero, List.set_cons_succ]
      refine wpAnyH_take (i := 7) (v := undef) rfl (by kernel_rfl) (by kernel_rfl) (by kernel_rfl) (fun _ _ _ h => h) (Or.inr ⟨by rfl, rfl⟩) hHeld ?_
      simp only [Act.put, List.getElem_toArray, List.getElem_cons_succ, List.getElem_cons_zero, List.setIfInBounds_toArray, List.set_cons_zero, List.set_cons_succ]
      refine wpAnyH_take (i := 8) (v := undef) rfl (by kernel_rfl) (by kernel_rfl) (by kernel_rfl) (fun _ _ _ h => h) (Or.inr ⟨by rfl, rfl⟩) hHeld ?_
      simp only [Act.put, List.getElem_toArray, List.getElem_cons_succ, List.getElem_cons_zero, List.setIfInBounds_toArray, List.set_cons_zero, List.set_cons_succ]
      refine wpAnyH_take (i := 9) (v := undef) rfl (by kernel_rfl) (by kernel_rfl) (by kernel_rfl) (fun _ _ _ h => h) (Or.inr ⟨by rfl, rfl⟩) hHeld ?_
      simp only [Act.put, List.getElem_toArray, List.getElem_cons_succ, List.getElem_cons_zero, List.setIfInBounds_toArray, List.set_cons_zero, List.set_cons_succ]
      refine wpAnyH_take (i := 10) (v := undef) rfl (by kernel_rfl) (by kernel_rfl) (by kernel_rfl) (fun _ _ _ h => h) (Or.inr ⟨by rfl, rfl⟩) hHeld ?_
      simp only [Act.put, List.getElem_toArray, List.getElem_cons_succ, List.getElem_cons_zero, List.setIfInBounds_toArray, List.set_cons_zero, List.set_cons_succ]
      refine wpAnyH_take (i := 11) (v := undef) rfl (by kernel_rfl) (by kernel_rfl) (by kernel_rfl) (fun _ _ _ h => h) (Or.inr ⟨by rfl, rfl⟩) hHeld ?_
      simp only [Act.put, List.getElem_toArray, List.getElem_cons_succ, List.getElem_cons_zero, List.setIfInBounds_toArray, List.set_cons_zero, List.set_cons_succ]
      refine wpAnyH_take (i := 12) (v := undef) rfl (by kernel_rfl) (by kernel_rfl) (by kernel_rfl) (fun _ _ _ h => h) (Or.inr ⟨by rfl, rfl⟩) hHeld ?_
      simp only [Act.put, List.getElem_toArray, List.getElem_cons_succ, List.getElem_cons_zero, List.setIfInBounds_toArray, List.set_cons_zero, List.set_cons_succ]
      refine wpAnyH_take (i := 13) (v := undef) rfl (by kernel_rfl) (by kernel_rfl) (by kernel_rfl) (fun _ _ _ h => h) (Or.inr ⟨by rfl, rfl⟩) hHeld ?_
      simp only [Act.put, List.getElem_toArray, List.getElem_cons_succ, List.getElem_cons_zero, List.setIfInBounds_toArray, List.set_cons_zero, List.set_cons_succ]
      refine wpAnyH_take (i := 14) (v := undef) rfl (by kernel_rfl) (by kernel_rfl) (by kernel_rfl) (fun _ _ _ h => h) (Or.inr ⟨by rfl, rfl⟩) hHeld ?_
      simp only [Act.put, List.getElem_toArray, List.getElem_cons_succ, List.getElem_cons_zero, List.setIfInBounds_toArray, List.set_cons_zero, List.set_cons_succ]
      refine wpAnyH_take (i := 15) (v := ?_) rfl (by kernel_rfl) (by kernel_rfl) (by kernel_rfl) (fun _ _ _ h => h) (Or.inl ⟨by rfl, ?_⟩) hHeld ?_
      rotate_left
      · intro w' hSw
        clear hSw
        go_simp
        first | done | with_reducible rfl
      simp only [Act.put, List.getElem_toArray, List.getElem_cons_succ, List.getElem_cons_zero, List.setIfInBounds_toArray, List.set_cons_zero, List.set_cons_succ]
      refine wpAnyH_take (i := 16) (v := ?_) rfl (by kernel_rfl) (by kernel_rfl) (by kernel_rfl) (fun _ _ _ h => h) (Or.inl ⟨by rfl, ?_⟩) hHeld ?_
      rotate_left
      · intro w' hSw
        clear hSw
        go_simp
        first | done | with_reducible rfl
      simp only [Act.put, List.getElem_toArray, List.getElem_cons_succ, List.getElem_cons_zero, List.setIfInBounds_toArray, List.set_cons_zero, List.set_cons_succ]
      refine wpAnyH_done (by kernel_rfl) ?_ _
      go_wp2
      go_meet
      case rel => exact ⟨rfl, HB6⟩
    · have e1 : (fy == -1) = false := beq_eq_false_iff_ne.2 e
      clear e
      refine wp_region_held_drew (S := Hoe b fy ny) (by kernel_rfl) ⟨HCD.out.1, HCD.out.2⟩ (fun hHeld => ?_)
      refine wpAnyH_take (i := 0) (v := ?_) rfl (by kernel_rfl) (by kernel_rfl) (by kernel_rfl) (fun _ _ _ h => h) (Or.inl ⟨by rfl, ?_⟩) hHeld ?_
      rotate_left
      · intro w' hSw
        clear hSw
        go_simp
        first | done | with_reducible rfl
      simp only [Act.put, List.getElem_toArray, List.getElem_cons_zero, List.setIfInBounds_toArray, List.set_cons_zero, List.set_cons_succ]
      refine wpAnyH_take (i := 1) (v := ?_) rfl (by kernel_rfl) (by kernel_rfl) (by kernel_rfl) (fun _ _ _ h => h) (Or.inl ⟨by rfl, ?_⟩) hHeld ?_
      rotate_left
      · intro w' hSw
        have c0 := hSw.c0
        clear hSw
        go_simp
        first | done | with_reducible rfl
      simp only [Act.put, List.getElem_toArray, List.getElem_cons_succ, List.getElem_cons_zero, List.setIfInBounds_toArray, List.set_cons_zero, List.set_cons_succ]
      refine wpAnyH_take (i := 2) (v := ?_) rfl (by kernel_rfl) (by kernel_rfl) (by kernel_rfl) (fun _ _ _ h => h) (Or.inl ⟨by rfl, ?_⟩) hHeld ?_
      rotate_left
      · intro w' hSw
        clear hSw
        go_simp
        first | done | with_reducible rfl
      simp only [Act.put, List.getElem_toArray, List.getElem_cons_succ, List.getElem_cons_zero, List.setIfInBounds_toArray, List.set_cons_zero, List.set_cons_succ]
      refine wpAnyH_take (i := 3) (v := ?_) rfl (by kernel_rfl) (by kernel_rfl) (by kernel_rfl) (fun _ _ _ h => h) (Or.inl ⟨by rfl, ?_⟩) hHeld ?_
      rotate_left
      · intro w' hSw
        clear hSw
        go_simp
        first | done | with_reducible rfl
      simp only [Act.put, List.getElem_toArray, List.getElem_cons_succ, List.getElem_cons_zero, List.setIfInBounds_toArray, List.set_cons_zero, List.set_cons_succ]
      refine wpAnyH_take (i := 4) (v := ?_) rfl (by kernel_rfl) (by kernel_rfl) (by kernel_rfl) (fun _ _ _ h => h) (Or.inl ⟨by rfl, ?_⟩) hHeld ?_
      rotate_left
      · intro w' hSw
        clear hSw
        go_simp
        first | done | with_reducible rfl
      simp only [Act.put, List.getElem_toArray, List.getElem_cons_succ, List.getElem_cons_zero, List.setIfInBounds_toArray, List.set_cons_zero, List.set_cons_succ]
      refine wpAnyH_take (i := 5) (v := ?_) rfl (by kernel_rfl) (by kernel_rfl) (by kernel_rfl) (fun _ _ _ h => h) (Or.inl ⟨by rfl, ?_⟩) hHeld ?_
      rotate_left
      · intro w' hSw
        have c0 := hSw.c0
        clear hSw
        go_simp
        first | done | with_reducible rfl
      simp only [Act.put, List.getElem_toArray, List.getElem_cons_succ, List.getElem_cons_zero, List.setIfInBounds_toArray, List.set_cons_zero, List.set_cons_succ]
      refine wpAnyH_take (i := 6) (v := ?_) rfl (by kernel_rfl) (by kernel_rfl) (by kernel_rfl) (fun _ _ _ h => h) (Or.inl ⟨by rfl, ?_⟩) hHeld ?_
      rotate_left
      · intro w' hSw
        clear hSw
        go_simp
        first | done | with_reducible rfl
      simp only [Act.put, List.getElem_toArray, List.getElem_cons_succ, List.getElem_cons_zero, List.setIfInBounds_toArray, List.set_cons_zero, List.set_cons_succ]
      refine wpAnyH_take (i := 8) (v := ?_) rfl (by kernel_rfl) (by kernel_rfl) (by kernel_rfl) (fun _ _ _ h => h) (Or.inl ⟨by rfl, ?_⟩) hHeld ?_
      rotate_left
      · intro w' hSw
        clear hSw
        go_simp
        first | done | with_reducible rfl
      simp only [Act.put, List.getElem_toArray, List.getElem_cons_succ, List.getElem_cons_zero, List.setIfInBounds_toArray, List.set_cons_zero, List.set_cons_succ]
      refine wpAnyH_take (i := 9) (v := ?_) rfl (by kernel_rfl) (by kernel_rfl) (by kernel_rfl) (fun _ _ _ h => h) (Or.inl ⟨by rfl, ?_⟩) hHeld ?_
      rotate_left
      · intro w' hSw
        have c1 := hSw.c1
        clear hSw
        go_simp
        first | done | with_reducible rfl
      simp only [Act.put, List.getElem_toArray, List.getElem_cons_succ, List.getElem_cons_zero, List.setIfInBounds_toArray, List.set_cons_zero, List.set_cons_succ]
      refine wpAnyH_take (i := 10) (v := ?_) rfl (by kernel_rfl) (by kernel_rfl) (by kernel_rfl) (fun _ _ _ h => h) (Or.inl ⟨by rfl, ?_⟩) hHeld ?_
      rotate_left
      · intro w' hSw
        clear hSw
        go_simp
        first | done | with_reducible rfl
      simp only [Act.put, List.getElem_toArray, List.getElem_cons_succ, List.getElem_cons_zero, List.setIfInBounds_toArray, List.set_cons_zero, List.set_cons_succ]
      refine wpAnyH_ready (rs := [7]) (by kernel_rfl) (by simp) ?_
      refine AllReadyH.cons rfl (fun K hK => ?_) AllReadyH.nil
      refine stepFnW 43 (.func 43) [.tmp 43, .tmp 44] _ [.int .i8 fy, .int .i8 fd] [] rfl (by simp [Region.wanted, yielded]) rfl rfl (fun _ _ => rfl) _ (cmp8_any fy fd _) ?_
      rintro e w1 ⟨rfl, hw1⟩
      refine Or.inl ⟨_, rfl, ?_⟩
      rw [hw1]
      refine hK.out _ _ hHeld (fun hHeld => ?_)
      clear hK K
      simp only [Act.put, List.getElem_toArray, List.getElem_cons_succ, List.getElem_cons_zero, List.setIfInBounds_toArray, List.set_cons_zero, List.set_cons_succ]
      clear hw1
      refine wpAnyH_ready (rs := [11]) (by kernel_rfl) (by simp) ?_
      refine AllReadyH.cons rfl (fun K hK => ?_) AllReadyH.nil
      refine stepFnW 44 (.func 44) [.tmp 47, .tmp 48] _ [.int .u64 ny, .int .u64 n] [] rfl (by simp [Region.wanted, yielded]) rfl rfl (fun _ _ => rfl) _ (cmp64_any ny n _) ?_
      rintro e w2 ⟨rfl, hw2⟩
      refine Or.inl ⟨_, rfl, ?_⟩
      rw [hw2]
      refine hK.out _ _ hHeld (fun hHeld => ?_)
      clear hK K
      simp only [Act.put, List.getElem_toArray, List.getElem_cons_succ, List.getElem_cons_zero, List.setIfInBounds_toArray, List.set_cons_zero, List.set_cons_succ]
      clear hw2
      refine wpAnyH_ready (rs := [12]) (by kernel_rfl) (by simp) ?_
      refine AllReadyH.cons rfl (fun K hK => ?_) AllReadyH.nil
      refine stepBs2 (.tmp 45) (.tmp 49) rfl (by simp [Region.wanted, yielded]) _ _ rfl rfl ?_
      have HO := hid (or_any (W6.drew.alloc (.cells #[.int .i64 (cmpI fy fd), .int .i64 (cmpI ny n)] 3)) W6.drew.heap.size (cmpI fy fd) (cmpI ny n) (by rw [cell_of_row _ _ _ _ _ _ (heap_alloc_new _ _)]; rfl) (by rw [cell_of_row _ _ _ _ _ _ (heap_alloc_new _ _)]; rfl))
      have HB7 := hid (HB6.out.alloc HB6.out.size (.cells #[.int .i64 (cmpI fy fd), .int .i64 (cmpI ny n)] 3))
      refine hK.out _ _ (hHeld.on _) (fun hHeld => ?_)
      clear hK K
      simp only [Act.put, List.getElem_toArray, List.getElem_cons_succ, List.getElem_cons_zero, List.setIfInBounds_toArray, List.set_cons_zero, List.set_cons_succ]
      refine wpAnyH_ready (rs := [13]) (by kernel_rfl) (by simp) ?_
      refine AllReadyH.cons rfl (fun K hK => ?_) AllReadyH.nil
      refine stepFnW 42 (.func 42) [.tmp 50] _ [.slice (some ⟨W6.drew.heap.size, 0, none⟩) 2 2] [] rfl (by simp [Region.wanted, yielded]) rfl rfl (fun _ _ => rfl) _ HO.out ?_
      rintro e w3 ⟨rfl, hw3⟩
      refine Or.inl ⟨_, rfl, ?_⟩
      rw [hw3]
      refine hK.out _ _ hHeld (fun hHeld => ?_)
      clear hK K
      simp only [Act.put, List.getElem_toArray, List.getElem_cons_succ, List.getElem_cons_zero, List.setIfInBounds_toArray, List.set_cons_zero, List.set_cons_succ]
      clear hw3
      refine wpAnyH_take (i := 14) (v := ?_) rfl (by kernel_rfl) (by kernel_rfl) (by kernel_rfl) (fun _ _ _ h => h) (Or.inl ⟨by rfl, ?_⟩) hHeld ?_
      rotate_left
      · intro w' hSw
        clear hSw
        go_simp
        first | done | with_reducible rfl
      simp only [Act.put, List.getElem_toArray, List.getElem_cons_succ, List.getElem_cons_zero, List.setIfInBounds_toArray, List.set_cons_zero, List.set_cons_succ]
      refine wpAnyH_take (i := 15) (v := ?_) rfl (by kernel_rfl) (by kernel_rfl) (by kernel_rfl) (fun _ _ _ h => h) (Or.inl ⟨by rfl, ?_⟩) hHeld ?_
      rotate_left
      · intro w' hSw
        clear hSw
        go_simp
        first | done | with_reducible rfl
      simp only [Act.put, List.getElem_toArray, List.getElem_cons_succ, List.getElem_cons_zero, List.setIfInBounds_toArray, List.set_cons_zero, List.set_cons_succ]
      refine wpAnyH_take (i := 16) (v := ?_) rfl (by kernel_rfl) (by kernel_rfl) (by kernel_rfl) (fun _ _ _ h => h) (Or.inl ⟨by rfl, ?_⟩) hHeld ?_
      rotate_left
      · intro w' hSw
        clear hSw
        go_simp
        first | done | with_reducible rfl
      simp only [Act.put, List.getElem_toArray, List.getElem_cons_succ, List.getElem_cons_zero, List.setIfInBounds_toArray, List.set_cons_zero, List.set_cons_succ]
      refine wpAnyH_done (by kernel_rfl) ?_ _
      go_wp2
      go_meet
      case rel => exact ⟨by unfold ordL; rw [e1]; rfl, HB7⟩
  case rest =>
  obtain ⟨rfl, HB9⟩ := hcut
  cases hA : ordH ⟨fx, nx, hx, lx, lfx⟩ fd
  · go_wp2
    go_ret
    exact ⟨by rw [hA]; rfl, HB9.out⟩
  · go_wp2
    go_ret
    exact ⟨by rw [hA]; rfl, HB9.out⟩
end Go.Proofs.YtggbokghhohofaaDoor
