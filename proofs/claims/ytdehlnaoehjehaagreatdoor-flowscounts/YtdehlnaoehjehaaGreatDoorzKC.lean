/-
  Proved here: put of package flows: one rule more, as one that was added last. Conditions: its place is free; there is room; the widths' table holds its numbers; fewer than 2 to 31 were added.
-/
import Derived.Test.YtdehlnaoehjehaaGreatDoorzKB
namespace Go.Proofs.YtdehlnaoehjehaaGreatDoor
set_option maxRecDepth 100000
open Go.RowKit Go.Maps

set_option maxRecDepth 100000 in
theorem FInv.put {Gr Gp Gg : Lit → Option Value} {room : Int} {es : List Fe} {gs : List Ge} {ad : Int} (h : FInv Gr Gp Gg room es gs ad) {r : Rl} (hr : r.Fit) (hm : mOk r.mt = true) (hn : ∀ e ∈ es, eqP e.r r = false) (hl : (es.length : Int) < room) (p : Nat) (u : Value) :
    FInv (updL Gr (.int .i64 (ad + 1)) (some (pv p))) (updL Gp (kp r.rk r.mt) (some (pv p))) Gg room (es ++ [⟨p, ad + 1, r, u, 0, 0⟩]) gs (ad + 1) := by
  refine ⟨fun l v => ?_, fun l v => ?_, h.gg, fun e he => ?_, h.fig, ?_, fun e he => ?_, ?_, h.once, by have := h.ad0; omega, h.rm, by simp; omega⟩
  · by_cases hk : l = .int .i64 (ad + 1)
    · subst hk
      rw [updL_same]
      constructor
      · intro e
        exact ⟨⟨p, ad + 1, r, u, 0, 0⟩, by simp, rfl, (Option.some.inj e).symm⟩
      · rintro ⟨x, hx, e1, rfl⟩
        rcases List.mem_append.1 hx with h1 | h1
        · have := h.bd x h1
          have e2 : ad + 1 = x.k := by simpa using e1
          omega
        · simp at h1; subst h1; rfl
    · rw [updL_other _ _ hk, h.gr]
      constructor
      · rintro ⟨x, hx, e1, e2⟩; exact ⟨x, List.mem_append_left _ hx, e1, e2⟩
      · rintro ⟨x, hx, e1, e2⟩
        rcases List.mem_append.1 hx with h1 | h1
        · exact ⟨x, h1, e1, e2⟩
        · simp at h1; subst h1; exact absurd e1 hk
  · by_cases hk : l = kp r.rk r.mt
    · subst hk
      rw [updL_same]
      constructor
      · intro e
        exact ⟨⟨p, ad + 1, r, u, 0, 0⟩, by simp, rfl, (Option.some.inj e).symm⟩
      · rintro ⟨x, hx, e1, rfl⟩
        rcases List.mem_append.1 hx with h1 | h1
        · have := (eqP_kp (h.fit x h1).1 hr).2 e1.symm
          rw [hn x h1] at this; cases this
        · simp at h1; subst h1; rfl
    · rw [updL_other _ _ hk, h.gp]
      constructor
      · rintro ⟨x, hx, e1, e2⟩; exact ⟨x, List.mem_append_left _ hx, e1, e2⟩
      · rintro ⟨x, hx, e1, e2⟩
        rcases List.mem_append.1 hx with h1 | h1
        · exact ⟨x, h1, e1, e2⟩
        · simp at h1; subst h1; exact absurd e1 hk
  · rcases List.mem_append.1 he with h1 | h1
    · exact h.fit e h1
    · simp at h1; subst h1; exact ⟨hr, hm, inB0, inB0⟩
  · rw [List.pairwise_append]
    refine ⟨h.num, by simp, fun a ha b hb => ?_⟩
    simp at hb; subst hb
    have := h.bd a ha
    show a.k < ad + 1
    omega
  · rcases List.mem_append.1 he with h1 | h1
    · have := h.bd e h1; omega
    · simp at h1; subst h1
      have := h.ad0
      show 1 ≤ ad + 1 ∧ ad + 1 ≤ ad + 1
      omega
  · rw [List.pairwise_append]
    refine ⟨h.apart, by simp, fun a ha b hb => ?_⟩
    simp at hb; subst hb
    exact hn a ha
theorem runBldE {o : Oper} {a : Act} {w : World} (x y : Operand) (ho : o.op = .build 104 #[(1, x), (2, y)]) (k : Int) (r : Rl) (u : Value) (p : Nat) (hx : a.eval x = .int .i64 k) (hy : a.eval y = .agg (rlc r u)) : (execOp a.eval o).run Tryz.prog w = .ok (.value (.agg (fec ⟨p, k, r, u, 0, 0⟩))) w := by
  unfold execOp
  simp only [ho, hx, hy, List.map_toArray, List.map_cons, List.map_nil, Sem.run_bind, Sem.run_pure]
  show _ = _
  kernel_rfl
theorem bldE {ops : Array Oper} {rest : List Oper} {o : Oper} {a : Act} {w : World} {Q : Exit → Act → World → Prop} (x y : Operand) (ho : o.op = .build 104 #[(1, x), (2, y)]) (hw : Region.wanted o (yielded ops a.tmps) = true) (k : Int) (r : Rl) (u : Value) (p : Nat) (hx : a.eval x = .int .i64 k) (hy : a.eval y = .agg (rlc r u))
    (h : wpList Tryz.prog ops Q rest (a.put o.dst (.agg (fec ⟨p, k, r, u, 0, 0⟩))) w) : wpList Tryz.prog ops Q (o :: rest) a w := by
  unfold wpList
  rw [if_pos hw]
  refine Or.inl ?_
  show Oper.upon Tryz.prog o a _ Q ((execOp a.eval o).run Tryz.prog w)
  rw [runBldE x y ho k r u p hx hy]
  exact h
/-- What put reads first. -/
structure Hpu (g b bp : Nat) (vm : Value) (r : Rl) (u : Value) (w : World) : Prop where
  c : w.cell? ⟨g, 0, none⟩ = some vm
  c2 : w.cell? ⟨g, 2, none⟩ = some (.map (some bp))
  rr : w.rangeAt b 0 (rlc r u).toList
/-- What put leaves. -/
def PtP (S : Nat → Prop) (w : World) (g : Nat) (room ad : Int) (es : List Fe) (gs : List Ge) (r : Rl) (e : Ending) (w' : World) : Prop :=
  e = .returned (.tuple #[]) ∧ Only S w w' ∧ ∃ p u', Fl S w' g room (ad + 1) (es ++ [⟨p, ad + 1, r, u', 0, 0⟩]) gs
set_option maxHeartbeats 3200000 in
set_option maxRecDepth 100000 in
theorem put_any {S T : Nat → Prop} (w : World) (g : Nat) (room ad : Int) (es : List Fe) (gs : List Ge) (h : Fl S w g room ad es gs) (hf : Fresh S w) (ht : Tab w) (r : Rl) (u : Value) (hr : r.Fit) (hm : mOk r.mt = true) (hn : ∀ e ∈ es, eqP e.r r = false) (hl : (es.length : Int) < room) (had : ad < 2147483640) (hu : Cps T w u r.cp) (hT : ∀ b, T b → b < w.heap.size ∧ ¬ S b) :
    Calls Tryz.prog 80 #[pv g, .agg (rlc r u)] w (PtP S w g room ad es gs r) := by
  obtain ⟨o, vm, br, bp, bg, Gr, Gp, Gg, h1, h2⟩ := h
  obtain ⟨W0, hW0⟩ : ∃ W0, W0 = w.alloc (.cells (rlc r u) 35) := ⟨_, rfl⟩
  have hB0 : Below w.heap.size w W0 := by rw [hW0]; exact (Below.refl _ _).alloc (Nat.le_refl _) _
  have hs0 : W0.heap.size = w.heap.size + 1 := by rw [hW0]; simp
  have hX0 : W0.heap[w.heap.size]? = some (.cells (rlc r u) 35 (0, 0)) := by rw [hW0]; exact heap_alloc_new _ _
  obtain ⟨o0, ho0⟩ : ∃ o0 : Nat → Fg, o0 = fun b => if b < w.heap.size then o b else if b = w.heap.size then .cop else .tup := ⟨_, rfl⟩
  obtain ⟨S', hS'⟩ : ∃ S' : Nat → Prop, S' = fun b => S b ∧ o0 b = .tup := ⟨_, rfl⟩
  have o0e : ∀ b, o0 b = if b < w.heap.size then o b else if b = w.heap.size then .cop else .tup := fun b => by rw [ho0]
  have Si : ∀ b, S' b ↔ S b ∧ o0 b = .tup := fun b => by rw [hS']
  have hTb : Tbl S' W0.drew vm (es.map Fe.ru) ad := h1.tb.carry fun b hb hS => ⟨(Si b).2 ⟨hS.1, by rw [o0e, if_pos hb]; exact hS.2⟩, hB0.block b hb⟩
  have hF0 : Fresh S' W0.drew := fun k hk => by
    have hk' : w.heap.size + 1 ≤ k := by rw [← hs0]; exact hk
    exact (Si k).2 ⟨hf k (by omega), by rw [o0e, if_neg (by omega), if_neg (by omega)]⟩
  have h1024 : es.length < 1024 := by have := h2.rm; omega
  have eE : adE (es.map Fe.ru) r.mt = 0 := by simp [adE, hm, show ¬ 1024 ≤ es.length by omega]
  have hadd := tAdd_any W0.drew vm (es.map Fe.ru) ad r.rk r.mt u r.ck hTb hF0 (ht.on hB0.drew) hr.mt had
  unfold adN adT adA at hadd
  rw [eE] at hadd
  simp only [if_true] at hadd
  have HA := hid hadd
  have nS : ∀ b, b < w.heap.size → o b ≠ .tup → ¬ S' b := fun b hb h5 h6 => by
    have := ((Si b).1 h6).2
    rw [o0e, if_pos hb] at this
    exact h5 this
  have nB : ¬ S' w.heap.size := fun h6 => by
    have := ((Si _).1 h6).2
    rw [o0e, if_neg (by omega), if_pos rfl] at this
    cases this
  have hgl := (Array.getElem?_eq_some_iff.1 h1.hg).1
  have hbrl := h1.mr.lt
  have hbpl := h1.mp.lt
  have hbgl := h1.mg.lt
  have ngr : g ≠ br := fun e => by have h5 := h1.og; rw [e, h1.or] at h5; cases h5
  have ngp : g ≠ bp := fun e => by have h5 := h1.og; rw [e, h1.op] at h5; cases h5
  have nrp : br ≠ bp := fun e => by have h5 := h1.or; rw [e, h1.op] at h5; cases h5
  -- behind tuples' Add
  have H1 : Hid (∀ w1, Only S' W0.drew w1 → (w1.cell? ⟨g, 0, none⟩ = some vm ∧ w1.cell? ⟨g, 2, none⟩ = some (.map (some bp))) ∧ w1.rangeAt w.heap.size 0 (rlc r u).toList ∧ w1.heap[w.heap.size]? = some (.cells (rlc r u) 35 (0, 0)) ∧ (∀ b, b < w.heap.size → o b ≠ .tup → w1.heap[b]? = w.heap[b]?) ∧ (∀ b, b < w.heap.size → ¬ S b → w1.heap[b]? = w.heap[b]?) ∧ w.heap.size + 1 ≤ w1.heap.size ∧ Calls Tryz.prog 37 #[.agg (rlc r u)] w1 (FrP w1 r)) := fun w1 hO => by
    have hx : w1.heap[w.heap.size]? = some (.cells (rlc r u) 35 (0, 0)) := (hO.block _ nB).trans hX0
    have o1 : ∀ b, b < w.heap.size → o b ≠ .tup → w1.heap[b]? = w.heap[b]? := fun b hb h5 => (hO.block b (nS b hb h5)).trans (hB0.block b hb)
    have o2 : ∀ b, b < w.heap.size → ¬ S b → w1.heap[b]? = w.heap[b]? := fun b hb h5 => (hO.block b (fun h6 => h5 ((Si b).1 h6).1)).trans (hB0.block b hb)
    have hsz : w.heap.size + 1 ≤ w1.heap.size := by rw [← hs0]; exact hO.size
    have hg1 := o1 g hgl (by rw [h1.og]; simp)
    exact ⟨⟨(cell_same hg1).trans h1.cells.1, (cell_same hg1).trans h1.cells.2.2.1⟩, row_range hx, hx, o1, o2, hsz, fresh_any w1 r u (Cps.carry (fun b hb hS => ⟨hS, o2 b (hT b hS).1 (hT b hS).2⟩) hu) (fun b hb => by have := (hT b hb).1; omega) hr.sm⟩
  have HH : Hid (Hpu g w.heap.size bp vm r u W0.drew) := ⟨cell_on hB0 h1.cells.1, cell_on hB0 h1.cells.2.2.1, row_range (w := W0.drew) hX0⟩
  have HW0 := hid hW0
  -- all that comes behind
  have HZ : Hid (∀ w1 w2 u', Only S' W0.drew w1 → Tbl S' w1 vm (es.map Fe.ru ++ [⟨ad + 1, r.rk, r.mt⟩]) (ad + 1) → Below w1.heap.size w1 w2 → Cps (fun b => w1.heap.size ≤ b) w2 u' r.cp →
      ∃ W3 w4, w2.alloc (.cells (fec ⟨w2.heap.size, ad + 1, r, u', 0, 0⟩) 104) = W3 ∧ W3.cell? ⟨g, 1, none⟩ = some (.map (some br)) ∧ (Instr.mapUpdate 86 (.map (some br)) (.int .i64 (ad + 1)) (pv w2.heap.size)).run Tryz.prog W3 = .ok () w4 ∧ Hpu g w.heap.size bp vm r u w4.drew ∧ w4.cell? ⟨g, 2, none⟩ = some (.map (some bp)) ∧
        ∀ w5, Below w4.drew.heap.size w4.drew w5 → Hpu g w.heap.size bp vm r u w5 ∧ w5.cell? ⟨g, 2, none⟩ = some (.map (some bp)) ∧ Mp w5 174 bp es.length Gp ∧ ∀ w6, Mp w6 174 bp (if (Gp (kp r.rk r.mt)).isSome then es.length else es.length + 1) (updL Gp (kp r.rk r.mt) (some (pv w2.heap.size))) → Tur w5 w6 bp → Hpu g w.heap.size bp vm r u w6 ∧ PtP S w g room ad es gs r (.returned (.tuple #[])) w6) := fun w1 w2 u' hO hTb1 hb2 hC => by
    obtain ⟨-, hR1, hx1, o1, o2, hsz1, -⟩ := H1.out w1 hO
    obtain ⟨W3, hW3⟩ : ∃ W3, w2.alloc (.cells (fec ⟨w2.heap.size, ad + 1, r, u', 0, 0⟩) 104) = W3 := ⟨_, rfl⟩
    have hb3 : Below w2.heap.size w2 W3 := by rw [← hW3]; exact (Below.refl _ _).alloc (Nat.le_refl _) _
    have hX3 : W3.heap[w2.heap.size]? = some (.cells (fec ⟨w2.heap.size, ad + 1, r, u', 0, 0⟩) 104 (0, 0)) := by rw [← hW3]; exact heap_alloc_new _ _
    have hs3 : W3.heap.size = w2.heap.size + 1 := by rw [← hW3]; simp
    have hs12 := hb2.size
    have o3 : ∀ b, b < w1.heap.size → W3.heap[b]? = w1.heap[b]? := fun b hb => by rw [hb3.block b (by omega), hb2.block b hb]
    have hM3 : Mp W3 3 br es.length Gr := h1.mr.carry (by rw [o3 br (by omega), o1 br hbrl (by rw [h1.or]; simp)])
    have hwf : (Lit.int .i64 (ad + 1)).wf = true := wf64 (by have := h2.ad0; unfold I64; omega)
    obtain ⟨w4, hst, hM4, hT4⟩ := hM3.store (val := pv w2.heap.size) lawI Tryz.underlying86 (by omega) (key_i hwf)
    have hGn : Gr (.int .i64 (ad + 1)) = none := by
      cases hG : Gr (.int .i64 (ad + 1)) with
      | none => rfl
      | some v =>
        obtain ⟨e, he, e1, -⟩ := (h2.gr _ _).1 hG
        have e2 : ad + 1 = e.k := by simpa using e1
        have := h2.bd e he
        omega
    rw [hGn] at hM4
    simp only [Option.isSome_none, Bool.false_eq_true, if_false] at hM4
    have o4 : ∀ b, b < w1.heap.size → b ≠ br → w4.heap[b]? = w1.heap[b]? := fun b hb hne => by rw [hT4.block b hne, o3 b hb]
    have hsw : w.heap.size ≠ br := by omega
    have hg4 : w4.heap[g]? = w.heap[g]? := by rw [o4 g (by omega) ngr, o1 g hgl (by rw [h1.og]; simp)]
    have hx4 : w4.heap[w.heap.size]? = some (.cells (rlc r u) 35 (0, 0)) := by rw [o4 _ (by omega) hsw]; exact hx1
    have hH4 : Hpu g w.heap.size bp vm r u w4 := ⟨(cell_same hg4).trans h1.cells.1, (cell_same hg4).trans h1.cells.2.2.1, row_range hx4⟩
    refine ⟨W3, w4, hW3, ?_, hst, ⟨hH4.c, hH4.c2, hH4.rr⟩, (cell_same hg4).trans h1.cells.2.2.1, fun w5 hb5 => ?_⟩
    · rw [cell_same (show W3.heap[g]? = w.heap[g]? by rw [o3 g (by omega), o1 g hgl (by rw [h1.og]; simp)])]; exact h1.cells.2.1
    have hs4 : w4.heap.size = W3.heap.size := hT4.size
    have o5 : ∀ b, b < w4.heap.size → w5.heap[b]? = w4.heap[b]? := fun b hb => hb5.block b hb
    have hg5 : w5.heap[g]? = w.heap[g]? := by rw [o5 g (by omega), hg4]
    have hx5 : w5.heap[w.heap.size]? = some (.cells (rlc r u) 35 (0, 0)) := by rw [o5 _ (by omega)]; exact hx4
    have hs5 := hb5.size
    have hs5' : w4.heap.size ≤ w5.heap.size := hs5
    refine ⟨⟨(cell_same hg5).trans h1.cells.1, (cell_same hg5).trans h1.cells.2.2.1, row_range hx5⟩, (cell_same hg5).trans h1.cells.2.2.1, h1.mp.carry (by rw [o5 bp (by omega), o4 bp (by omega) nrp.symm, o1 bp hbpl (by rw [h1.op]; simp)]), fun w6 hM6 hT6 => ?_⟩
    have hPn : Gp (kp r.rk r.mt) = none := by
      cases hG : Gp (kp r.rk r.mt) with
      | none => rfl
      | some v =>
        obtain ⟨e, he, e1, -⟩ := (h2.gp _ _).1 hG
        have := (eqP_kp (h2.fit e he).1 hr).2 e1.symm
        rw [hn e he] at this; cases this
    rw [hPn] at hM6
    simp only [Option.isSome_none, Bool.false_eq_true, if_false] at hM6
    have hs6 : w6.heap.size = w5.heap.size := hT6.size
    have o6 : ∀ b, b < w1.heap.size → b ≠ br → b ≠ bp → w6.heap[b]? = w1.heap[b]? := fun b hb n1 n2 => by rw [hT6.block b n2, o5 b (by omega), o4 b hb n1]
    have new : ∀ b, w1.heap.size ≤ b → b < W3.heap.size → w6.heap[b]? = W3.heap[b]? := fun b h5 h6 => by rw [hT6.block b (by omega), o5 b (by omega), hT4.block b (by omega)]
    have hx6 : w6.heap[w.heap.size]? = some (.cells (rlc r u) 35 (0, 0)) := by rw [o6 _ (by omega) hsw (by omega)]; exact hx1
    have hg6 : w6.heap[g]? = w.heap[g]? := by rw [hT6.block g ngp, hg5]
    have old : ∀ b, b < w.heap.size → o b ≠ .tup → b ≠ br → b ≠ bp → w6.heap[b]? = w.heap[b]? := fun b hb h5 n1 n2 => by rw [o6 b (by omega) n1 n2, o1 b hb h5]
    have hO6 : Only S w w6 := by
      refine ⟨hT6.os.trans (hb5.os.trans (hT4.os.trans (hb3.os.trans (hb2.os.trans (hO.os.trans hB0.os))))), hT6.tape.trans (hb5.tape.trans (hT4.tape.trans (hb3.tape.trans (hb2.tape.trans (hO.tape.trans hB0.tape))))), hT6.output.trans (hb5.output.trans (hT4.output.trans (hb3.output.trans (hb2.output.trans (hO.output.trans hB0.output))))), by omega, fun k hk => ?_⟩
      rcases Nat.lt_or_ge k w.heap.size with h5 | h5
      · rw [o6 k (by omega) (fun e => hk (e ▸ h1.sr)) (fun e => hk (e ▸ h1.sp)), o2 k h5 hk]
      · exact absurd (hf k h5) hk
    refine ⟨⟨(cell_same hg6).trans h1.cells.1, (cell_same hg6).trans h1.cells.2.2.1, row_range hx6⟩, rfl, hO6, w2.heap.size, u', fun b => if b < w.heap.size then o b else if b = w2.heap.size then .ent else if b = w.heap.size then .cop else if b < w1.heap.size then .tup else .cop, vm, br, bp, bg, _, _, Gg, ?_, h2.put hr hm hn hl w2.heap.size u'⟩
    have tg : ∀ b, b < w.heap.size → (if b < w.heap.size then o b else if b = w2.heap.size then Fg.ent else if b = w.heap.size then .cop else if b < w1.heap.size then .tup else .cop) = o b := fun b hb => if_pos hb
    refine ⟨h1.sg, (tg g hgl).trans h1.og, hg6.trans h1.hg, ?_, h1.sr, (tg br hbrl).trans h1.or, ?_, h1.sp, (tg bp hbpl).trans h1.op, ?_, h1.sn, (tg bg hbgl).trans h1.on, ?_, fun e he => ?_, fun x hx => ?_, ?_, h1.nt⟩
    · rw [List.map_append]
      refine hTb1.carry fun b hb hS => ?_
      obtain ⟨hS1, hS2⟩ := (Si b).1 hS
      rw [o0e] at hS2
      by_cases hlt : b < w.heap.size
      · rw [if_pos hlt] at hS2
        refine ⟨⟨hS1, (tg b hlt).trans hS2⟩, o6 b hb (fun e => by rw [e, h1.or] at hS2; cases hS2) (fun e => by rw [e, h1.op] at hS2; cases hS2)⟩
      · rw [if_neg hlt] at hS2
        have hne : b ≠ w.heap.size := fun e => by rw [if_pos e] at hS2; cases hS2
        exact ⟨⟨hS1, by rw [if_neg hlt, if_neg (by omega), if_neg hne, if_pos hb]⟩, o6 b hb (by omega) (by omega)⟩
    · rw [List.length_append]
      exact hM4.carry (by rw [hT6.block br nrp, o5 br (by omega)])
    · rw [List.length_append]
      exact hM6
    · exact h1.mg.carry (old bg hbgl (by rw [h1.on]; simp) (fun e => by have h5 := h1.on; rw [e, h1.or] at h5; cases h5) (fun e => by have h5 := h1.on; rw [e, h1.op] at h5; cases h5))
    · rcases List.mem_append.1 he with h5 | h5
      · have h6 := h1.ent e h5
        refine h6.carry fun b hb hS hb' => ⟨hS, tg b hb, old b hb ?_ ?_ ?_⟩
        · rcases hb' with rfl | h7
          · rw [h6.t]; simp
          · rw [h7]; simp
        · rcases hb' with rfl | h7
          · intro e1; have h8 := h6.t; rw [e1, h1.or] at h8; cases h8
          · intro e1; rw [e1, h1.or] at h7; cases h7
        · rcases hb' with rfl | h7
          · intro e1; have h8 := h6.t; rw [e1, h1.op] at h8; cases h8
          · intro e1; rw [e1, h1.op] at h7; cases h7
      · simp at h5; subst h5
        refine ⟨hf _ (by show w.heap.size ≤ w2.heap.size; omega), ?_, ?_, Cps.carry (fun b hb hS => ?_) hC⟩
        · show (if w2.heap.size < w.heap.size then _ else _) = _
          rw [if_neg (by omega), if_pos rfl]
        · show w6.heap[w2.heap.size]? = _
          rw [new _ (by omega) (by omega)]; exact hX3
        · refine ⟨⟨hf b (by omega), ?_⟩, ?_⟩
          · rw [if_neg (by omega), if_neg (by omega), if_neg (by omega), if_neg (by omega)]
          · rw [new b hS (by omega), hb3.block b hb]
    · have h6 := h1.tal x hx
      have h7 := (Array.getElem?_eq_some_iff.1 h6.h).1
      exact h6.carry ⟨h6.s, tg x.p h7, old x.p h7 (by rw [h6.t]; simp) (fun e1 => by have h8 := h6.t; rw [e1, h1.or] at h8; cases h8) (fun e1 => by have h8 := h6.t; rw [e1, h1.op] at h8; cases h8)⟩
    · rw [List.pairwise_append]
      refine ⟨h1.ne, by simp, fun a ha b hb => ?_⟩
      simp at hb; subst hb
      have := (Array.getElem?_eq_some_iff.1 (h1.ent a ha).h).1
      show a.p ≠ w2.heap.size
      omega
  have hrk := hr.rk
  have hmt := hr.mt
  have hlen : es.length < 2147483648 := by omega
  obtain ⟨av, hav⟩ : ∃ av, vm = pv av := h1.tb.form
  subst hav
  clear h1 h2 hf ht hr hm hn hl hu hT hB0 hs0 hX0 hTb hF0 eE hadd nS nB hgl hbrl hbpl hbgl ngr ngp nrp hW0 ho0 hS' o0e Si
  go_enter Tryz.func80, Tryz.ntmps80
  go_upto_region 1 with fail
  rw [← HW0.out]
  clear HW0
  refine wp_region_held_drew (S := Hpu g w.heap.size bp (pv av) r u) (by kernel_rfl) HH.out (fun hHeld => ?_)
  refine wpAnyH_take (i := 0) (v := ?_) rfl (by kernel_rfl) (by kernel_rfl) (by kernel_rfl) (fun _ _ _ h => h) (Or.inl ⟨by rfl, ?_⟩) hHeld ?_
  rotate_left
  · intro w' hSw
    clear hSw
    go_simp
    first | done | with_reducible rfl
  simp only [Act.put, List.getElem_toArray, List.getElem_cons_zero, List.setIfInBounds_toArray, List.set_cons_zero, List.set_cons_succ]
  refine wpAnyH_take (i := 1) (v := ?_) rfl (by kernel_rfl) (by kernel_rfl) (by kernel_rfl) (fun _ _ _ h => h) (Or.inl ⟨by rfl, ?_⟩) hHeld ?_
  rotate_left
  · intro w' hSw
    clear hSw
    go_simp
    first | done | with_reducible rfl
  simp only [Act.put, List.getElem_toArray, List.getElem_cons_succ, List.getElem_cons_zero, List.setIfInBounds_toArray, List.set_cons_zero, List.set_cons_succ]
  refine wpAnyH_take (i := 2) (v := ?_) rfl (by kernel_rfl) (by kernel_rfl) (by kernel_rfl) (fun _ _ _ h => h) (Or.inl ⟨by rfl, ?_⟩) hHeld ?_
  rotate_left
  · intro w' hSw
    clear hSw
    go_simp
    first | done | with_reducible rfl
  simp only [Act.put, List.getElem_toArray, List.getElem_cons_succ, List.getElem_cons_zero, List.setIfInBounds_toArray, List.set_cons_zero, List.set_cons_succ]
  refine wpAnyH_take (i := 3) (v := ?_) rfl (by kernel_rfl) (by kernel_rfl) (by kernel_rfl) (fun _ _ _ h => h) (Or.inl ⟨by rfl, ?_⟩) hHeld ?_
  rotate_left
  · intro w' hSw
    have c := hSw.c
    clear hSw
    go_simp
    first | done | with_reducible rfl
  simp only [Act.put, List.getElem_toArray, List.getElem_cons_succ, List.getElem_cons_zero, List.setIfInBounds_toArray, List.set_cons_zero, List.set_cons_succ]
  refine wpAnyH_take (i := 4) (v := .agg (rlc r u)) rfl (by kernel_rfl) (by kernel_rfl) (by kernel_rfl) (fun _ _ _ h => h) (Or.inl ⟨by rfl, ?_⟩) hHeld ?_
  · intro w' hSw
    exact runLd 35 (.tmp 3) rfl w.heap.size 0 rfl (rlc r u) _ hSw.rr Tryz.underlying35 rfl (size_rl r u)
  simp only [Act.put, List.getElem_toArray, List.getElem_cons_succ, List.getElem_cons_zero, List.setIfInBounds_toArray, List.set_cons_zero, List.set_cons_succ]
  refine wpAnyH_ready (rs := [5]) (by kernel_rfl) (by simp) ?_
  refine AllReadyH.cons rfl (fun K hK => ?_) AllReadyH.nil
  refine stepFnW 121 (.func 121) [.tmp 11, .tmp 12] _ [pv av, .agg (rlc r u)] rfl rfl rfl rfl (fun _ => rfl) _ HA.out ?_
  rintro e w1 ⟨rfl, hO, hTb1⟩
  refine Or.inl ⟨_, rfl, ?_⟩
  obtain ⟨⟨kc, kc2⟩, k1, -, -, -, -, k6⟩ := H1.out w1 hO
  refine hK.out _ _ ⟨kc, kc2, k1⟩ (fun hHeld => ?_)
  clear hK K
  simp only [Act.put, List.getElem_toArray, List.getElem_cons_succ, List.getElem_cons_zero, List.setIfInBounds_toArray, List.set_cons_zero, List.set_cons_succ]
  refine wpAnyH_take (i := 6) (v := ?_) rfl (by kernel_rfl) (by kernel_rfl) (by kernel_rfl) (fun _ _ _ h => h) (Or.inl ⟨by rfl, ?_⟩) hHeld ?_
  rotate_left
  · intro w' hSw
    clear hSw
    go_simp
    first | done | with_reducible rfl
  simp only [Act.put, List.getElem_toArray, List.getElem_cons_succ, List.getElem_cons_zero, List.setIfInBounds_toArray, List.set_cons_zero, List.set_cons_succ]
  refine wpAnyH_take (i := 7) (v := ?_) rfl (by kernel_rfl) (by kernel_rfl) (by kernel_rfl) (fun _ _ _ h => h) (Or.inl ⟨by rfl, ?_⟩) hHeld ?_
  rotate_left
  · intro w' hSw
    clear hSw
    go_simp
    first | done | with_reducible rfl
  simp only [Act.put, List.getElem_toArray, List.getElem_cons_succ, List.getElem_cons_zero, List.setIfInBounds_toArray, List.set_cons_zero, List.set_cons_succ]
  refine wpAnyH_take (i := 8) (v := ?_) rfl (by kernel_rfl) (by kernel_rfl) (by kernel_rfl) (fun _ _ _ h => h) (Or.inl ⟨by rfl, ?_⟩) hHeld ?_
  rotate_left
  · intro w' hSw
    clear hSw
    go_simp
    first | done | with_reducible rfl
  simp only [Act.put, List.getElem_toArray, List.getElem_cons_succ, List.getElem_cons_zero, List.setIfInBounds_toArray, List.set_cons_zero, List.set_cons_succ]
  refine wpAnyH_take (i := 9) (v := ?_) rfl (by kernel_rfl) (by kernel_rfl) (by kernel_rfl) (fun _ _ _ h => h) (Or.inl ⟨by rfl, ?_⟩) hHeld ?_
  rotate_left
  · intro w' hSw
    clear hSw
    go_simp
    first | done | with_reducible rfl
  simp only [Act.put, List.getElem_toArray, List.getElem_cons_succ, List.getElem_cons_zero, List.setIfInBounds_toArray, List.set_cons_zero, List.set_cons_succ]
  refine wpAnyH_take (i := 10) (v := ?_) rfl (by kernel_rfl) (by kernel_rfl) (by kernel_rfl) (fun _ _ _ h => h) (Or.inl ⟨by rfl, ?_⟩) hHeld ?_
  rotate_left
  · intro w' hSw
    clear hSw
    go_simp
    first | done | with_reducible rfl
  simp only [Act.put, List.getElem_toArray, List.getElem_cons_succ, List.getElem_cons_zero, List.setIfInBounds_toArray, List.set_cons_zero, List.set_cons_succ]
  refine wpAnyH_done (by kernel_rfl) ?_ _
  have HFr := hid k6
  have HR1 := hid k1
  have HO := hid hO
  have HTb1 := hid hTb1
  clear k1 k6 hO hTb1 kc kc2 HA
  go_upto_region 3 with (first
    | (refine ldMid 35 (.tmp 3) rfl rfl w.heap.size 0 rfl (rlc r u) _ Tryz.underlying35 rfl (size_rl r u) HR1.out ?_)
    | (go_at_call 37; refine (HFr.out).mono ?_; rintro e w2 ⟨u', rfl, hb2, hC⟩
       obtain ⟨W3, w4, z1, z2, z3, z4, z5, z6⟩ := HZ.out w1 w2 u' HO.out HTb1.out hb2 hC
       have HZ1 := hid z1
       have HZ6 := hid z6
       have HZ4 := hid z4
       clear z1 z4 z6 hb2 hC)
    | (refine bldE (.tmp 16) (.tmp 18) rfl rfl (ad + 1) r u' w2.heap.size rfl rfl ?_)
    | (refine bxAgg 104 (.tmp 19) rfl rfl (fec ⟨w2.heap.size, ad + 1, r, u', 0, 0⟩) rfl W3 HZ1.out ?_))
  go_upto_region 4 with fail
  have HPl := hid (placeOf_any w4.drew r u)
  refine wp_region_held_drew (S := Hpu g w.heap.size bp (pv av) r u) (by kernel_rfl) HZ4.out (fun hHeld => ?_)
  refine wpAnyH_take (i := 0) (v := ?_) rfl (by kernel_rfl) (by kernel_rfl) (by kernel_rfl) (fun _ _ _ h => h) (Or.inl ⟨by rfl, ?_⟩) hHeld ?_
  rotate_left
  · intro w' hSw
    clear hSw
    go_simp
    first | done | with_reducible rfl
  simp only [Act.put, List.getElem_toArray, List.getElem_cons_zero, List.setIfInBounds_toArray, List.set_cons_zero, List.set_cons_succ]
  refine wpAnyH_take (i := 1) (v := ?_) rfl (by kernel_rfl) (by kernel_rfl) (by kernel_rfl) (fun _ _ _ h => h) (Or.inl ⟨by rfl, ?_⟩) hHeld ?_
  rotate_left
  · intro w' hSw
    clear hSw
    go_simp
    first | done | with_reducible rfl
  simp only [Act.put, List.getElem_toArray, List.getElem_cons_succ, List.getElem_cons_zero, List.setIfInBounds_toArray, List.set_cons_zero, List.set_cons_succ]
  refine wpAnyH_take (i := 2) (v := ?_) rfl (by kernel_rfl) (by kernel_rfl) (by kernel_rfl) (fun _ _ _ h => h) (Or.inl ⟨by rfl, ?_⟩) hHeld ?_
  rotate_left
  · intro w' hSw
    clear hSw
    go_simp
    first | done | with_reducible rfl
  simp only [Act.put, List.getElem_toArray, List.getElem_cons_succ, List.getElem_cons_zero, List.setIfInBounds_toArray, List.set_cons_zero, List.set_cons_succ]
  refine wpAnyH_take (i := 3) (v := ?_) rfl (by kernel_rfl) (by kernel_rfl) (by kernel_rfl) (fun _ _ _ h => h) (Or.inl ⟨by rfl, ?_⟩) hHeld ?_
  rotate_left
  · intro w' hSw
    have c2 := hSw.c2
    clear hSw
    go_simp
    first | done | with_reducible rfl
  simp only [Act.put, List.getElem_toArray, List.getElem_cons_succ, List.getElem_cons_zero, List.setIfInBounds_toArray, List.set_cons_zero, List.set_cons_succ]
  refine wpAnyH_take (i := 4) (v := .agg (rlc r u)) rfl (by kernel_rfl) (by kernel_rfl) (by kernel_rfl) (fun _ _ _ h => h) (Or.inl ⟨by rfl, ?_⟩) hHeld ?_
  · intro w' hSw
    exact runLd 35 (.tmp 3) rfl w.heap.size 0 rfl (rlc r u) _ hSw.rr Tryz.underlying35 rfl (size_rl r u)
  simp only [Act.put, List.getElem_toArray, List.getElem_cons_succ, List.getElem_cons_zero, List.setIfInBounds_toArray, List.set_cons_zero, List.set_cons_succ]
  refine wpAnyH_take (i := 6) (v := ?_) rfl (by kernel_rfl) (by kernel_rfl) (by kernel_rfl) (fun _ _ _ h => h) (Or.inl ⟨by rfl, ?_⟩) hHeld ?_
  rotate_left
  · intro w' hSw
    clear hSw
    go_simp
    first | done | with_reducible rfl
  simp only [Act.put, List.getElem_toArray, List.getElem_cons_succ, List.getElem_cons_zero, List.setIfInBounds_toArray, List.set_cons_zero, List.set_cons_succ]
  refine wpAnyH_ready (rs := [5]) (by kernel_rfl) (by simp) ?_
  refine AllReadyH.cons rfl (fun K hK => ?_) AllReadyH.nil
  refine stepFnW 86 (.func 86) [.tmp 31] _ [.agg (rlc r u)] rfl rfl rfl rfl (fun _ => rfl) _ HPl.out ?_
  rintro e w5 ⟨rfl, hb5⟩
  refine Or.inl ⟨_, rfl, ?_⟩
  obtain ⟨y1, y2, y3, y4⟩ := HZ6.out w5 hb5
  refine hK.out _ _ y1 (fun hHeld => ?_)
  clear hK K
  simp only [Act.put, List.getElem_toArray, List.getElem_cons_succ, List.getElem_cons_zero, List.setIfInBounds_toArray, List.set_cons_zero, List.set_cons_succ]
  refine wpAnyH_ready (rs := [7]) (by kernel_rfl) (by simp) ?_
  refine AllReadyH.cons rfl (fun K hK => ?_) AllReadyH.nil
  refine stepStore (.tmp 30) (.tmp 32) (.tmp 33) 87 rfl rfl rfl rfl rfl y3 lawP Tryz.underlying87 hlen (key_p hrk hmt) ?_
  intro w6 hM6 hT6
  obtain ⟨x1, x2⟩ := y4 w6 hM6 hT6
  refine hK.out _ _ x1 (fun hHeld => ?_)
  clear hK K
  simp only [Act.put, List.getElem_toArray, List.getElem_cons_succ, List.getElem_cons_zero]
  refine wpAnyH_done (by kernel_rfl) ?_ _
  have HX2 := hid x2
  clear x1 x2 y1 y2 y3 y4 hM6 hT6 hb5 HZ6 HZ1 HZ4 HPl HZ HFr
  go_wp2
  first | go_end0 | refine bodyPost_ret (results_none rfl _ _ _) rfl ?_
  exact HX2.out
end Go.Proofs.YtdehlnaoehjehaaGreatDoor
