/-
  Proved here: drop of package flows: one rule less. Conditions: it is there; fewer than 2 to 31 were added.
-/
/-
  Proved here: remove of package flows: the rules of a list are gone, their counts to their Cookies. Conditions: the list's rules are there, each once; fewer than 2 to 31 were added, and Cookies gone.
-/
import Derived.Test.YtdehlnaoehjehaaGreatDoorzKC
namespace Go.Proofs.YtdehlnaoehjehaaGreatDoor
set_option maxRecDepth 100000
open Go.RowKit Go.Maps

/-- The rules but one. -/
def rmE (es : List Fe) (k : Int) : List Fe := es.filter fun x => !(x.k == k)
theorem rmE_mem {es : List Fe} {k : Int} {x : Fe} : x ∈ rmE es k ↔ x ∈ es ∧ x.k ≠ k := by simp [rmE, List.mem_filter]
theorem rmE_len : ∀ {es : List Fe} {e : Fe}, (es.Pairwise fun a b => a.k < b.k) → e ∈ es → (rmE es e.k).length + 1 = es.length
  | [], e, _, h => by cases h
  | a :: l, e, hp, h => by
    rw [List.pairwise_cons] at hp
    unfold rmE
    rw [List.filter_cons]
    rcases List.mem_cons.1 h with rfl | h
    · have : l.filter (fun x => !(x.k == e.k)) = l := List.filter_eq_self.2 fun x hx => by
        have := hp.1 x hx
        have h2 : (x.k == e.k) = false := beq_eq_false_iff_ne.2 (by omega)
        rw [h2]; rfl
      simp [this]
    · have h1 := hp.1 e h
      have h2 : (a.k == e.k) = false := beq_eq_false_iff_ne.2 (by omega)
      rw [h2]
      have := rmE_len hp.2 h
      unfold rmE at this
      simp [this]
theorem rmE_ru (es : List Fe) (k : Int) : (rmE es k).map Fe.ru = rmT (es.map Fe.ru) k := by
  unfold rmE rmT
  rw [List.filter_map]
  rfl
theorem uniq_k {es : List Fe} (h : es.Pairwise fun a b => a.k < b.k) {x y : Fe} (hx : x ∈ es) (hy : y ∈ es) (e : x.k = y.k) : x = y := by
  obtain ⟨i, hi, rfl⟩ := List.getElem_of_mem hx
  obtain ⟨j, hj, rfl⟩ := List.getElem_of_mem hy
  rcases Nat.lt_trichotomy i j with h1 | h1 | h1
  · have := List.pairwise_iff_getElem.1 h i j hi hj h1; omega
  · subst h1; rfl
  · have := List.pairwise_iff_getElem.1 h j i hj hi h1; omega
set_option maxRecDepth 100000 in
theorem FInv.drop {Gr Gp Gg : Lit → Option Value} {room : Int} {es : List Fe} {gs : List Ge} {ad : Int} (h : FInv Gr Gp Gg room es gs ad) {e : Fe} (he : e ∈ es) :
    FInv (updL Gr (.int .i64 e.k) none) (updL Gp (kp e.r.rk e.r.mt) none) Gg room (rmE es e.k) gs ad := by
  have hl := rmE_len h.num he
  have hsame : ∀ x ∈ es, kp x.r.rk x.r.mt = kp e.r.rk e.r.mt → x = e := fun x hx h1 => by
    have h2 := (eqP_kp (h.fit x hx).1 (h.fit e he).1).2 h1
    obtain ⟨i, hi, rfl⟩ := List.getElem_of_mem hx
    obtain ⟨j, hj, rfl⟩ := List.getElem_of_mem he
    rcases Nat.lt_trichotomy i j with h3 | h3 | h3
    · have := List.pairwise_iff_getElem.1 h.apart i j hi hj h3
      rw [h2] at this; cases this
    · subst h3; rfl
    · have h4 := List.pairwise_iff_getElem.1 h.apart j i hj hi h3
      have h5 : eqP es[j].r es[i].r = true := eqP_iff.2 ⟨(eqP_iff.1 h2).1.symm, fun k hk => ((eqP_iff.1 h2).2 k hk).symm⟩
      rw [h5] at h4; cases h4
  refine ⟨fun l v => ?_, fun l v => ?_, h.gg, fun x hx => h.fit x (rmE_mem.1 hx).1, h.fig, h.num.filter _, fun x hx => h.bd x (rmE_mem.1 hx).1, h.apart.filter _, h.once, h.ad0, h.rm, by have := h.len; omega⟩
  · by_cases hk : l = .int .i64 e.k
    · rw [hk, updL_same]
      refine ⟨fun h1 => (by cases h1), ?_⟩
      rintro ⟨x, hx, e1, -⟩
      have e2 : e.k = x.k := by simpa using e1
      exact absurd e2.symm (rmE_mem.1 hx).2
    · rw [updL_other _ _ hk, h.gr]
      constructor
      · rintro ⟨x, hx, e1, e2⟩
        exact ⟨x, rmE_mem.2 ⟨hx, fun e3 => hk (by rw [e1, e3])⟩, e1, e2⟩
      · rintro ⟨x, hx, e1, e2⟩
        exact ⟨x, (rmE_mem.1 hx).1, e1, e2⟩
  · by_cases hk : l = kp e.r.rk e.r.mt
    · rw [hk, updL_same]
      refine ⟨fun h1 => (by cases h1), ?_⟩
      rintro ⟨x, hx, e1, -⟩
      have h5 := rmE_mem.1 hx
      exact absurd (congrArg Fe.k (hsame x h5.1 e1.symm)) h5.2
    · rw [updL_other _ _ hk, h.gp]
      constructor
      · rintro ⟨x, hx, e1, e2⟩
        refine ⟨x, rmE_mem.2 ⟨hx, fun e3 => hk ?_⟩, e1, e2⟩
        rw [e1, uniq_k h.num hx he e3]
      · rintro ⟨x, hx, e1, e2⟩
        exact ⟨x, (rmE_mem.1 hx).1, e1, e2⟩
/-- What drop reads. -/
structure Hdq (g p br bp : Nat) (vm : Value) (e : Fe) (w : World) : Prop where
  c0 : w.cell? ⟨g, 0, none⟩ = some vm
  c1 : w.cell? ⟨g, 1, none⟩ = some (.map (some br))
  c2 : w.cell? ⟨g, 2, none⟩ = some (.map (some bp))
  cn : w.cell? ⟨p, 2, none⟩ = some (.int .i64 e.k)
  rr : w.rangeAt p 3 (rlc e.r e.u).toList
theorem Hdq.mk' {S : Nat → Prop} {o : Nat → Fg} {w w' : World} {g : Nat} {vm : Value} {br bp bg : Nat} {Gr Gp Gg : Lit → Option Value} {room : Int} {es : List Fe} {gs : List Ge} {ad : Int} (h : FlM S o w g vm br bp bg Gr Gp Gg room es gs ad) {e : Fe} (he : e ∈ es) (h1 : w'.heap[g]? = w.heap[g]?) (h2 : w'.heap[e.p]? = w.heap[e.p]?) : Hdq g e.p br bp vm e w' := by
  have hE : w'.heap[e.p]? = some (.cells (fec e) 104 (0, 0)) := h2.trans (h.ent e he).h
  refine ⟨(cell_same h1).trans h.cells.1, (cell_same h1).trans h.cells.2.1, (cell_same h1).trans h.cells.2.2.1, by rw [cell_of_row _ _ _ _ _ _ hE]; exact (fec_at e).2.2, range_of fun i hi => ?_⟩
  rw [rc_size] at hi
  rw [cell_of_row _ _ _ _ _ _ hE, fec_rl e i hi]
def DrQ (S : Nat → Prop) (w : World) (g : Nat) (room ad : Int) (es : List Fe) (gs : List Ge) (x : Fe) (e : Ending) (w' : World) : Prop :=
  e = .returned (.tuple #[]) ∧ Only S w w' ∧ Fl S w' g room ad (rmE es x.k) gs
set_option maxHeartbeats 3200000 in
set_option maxRecDepth 100000 in
theorem drop_any {S : Nat → Prop} (w : World) (g : Nat) (room ad : Int) (es : List Fe) (gs : List Ge) (h : Fl S w g room ad es gs) (hf : Fresh S w) (x : Fe) (hx : x ∈ es) (had : ad < 2147483640) : Calls Tryz.prog 82 #[pv g, pv x.p] w (DrQ S w g room ad es gs x) := by
  obtain ⟨o, vm, br, bp, bg, Gr, Gp, Gg, h1, h2⟩ := h
  obtain ⟨o0, ho0⟩ : ∃ o0 : Nat → Fg, o0 = fun b => if b < w.heap.size then o b else .tup := ⟨_, rfl⟩
  obtain ⟨S', hS'⟩ : ∃ S' : Nat → Prop, S' = fun b => S b ∧ o0 b = .tup := ⟨_, rfl⟩
  have o0e : ∀ b, o0 b = if b < w.heap.size then o b else .tup := fun b => by rw [ho0]
  have Si : ∀ b, S' b ↔ S b ∧ o0 b = .tup := fun b => by rw [hS']
  have hTb : Tbl S' w.drew vm (es.map Fe.ru) ad := h1.tb.carry fun b hb hS => ⟨(Si b).2 ⟨hS.1, by rw [o0e, if_pos hb]; exact hS.2⟩, rfl⟩
  have hF0 : Fresh S' w.drew := fun k hk => (Si k).2 ⟨hf k hk, by rw [o0e, if_neg (by have : w.heap.size ≤ k := hk; omega)]⟩
  have hbd := h2.bd x hx
  have hwf : (Lit.int .i64 x.k).wf = true := wf64 (by unfold I64; omega)
  have HD := hid (tDrop_any w.drew vm (es.map Fe.ru) ad x.k hTb hF0 hwf had)
  have nS : ∀ b, b < w.heap.size → o b ≠ .tup → ¬ S' b := fun b hb h5 h6 => by
    have := ((Si b).1 h6).2
    rw [o0e, if_pos hb] at this
    exact h5 this
  have hgl := (Array.getElem?_eq_some_iff.1 h1.hg).1
  have hxe := h1.ent x hx
  have hxl := (Array.getElem?_eq_some_iff.1 hxe.h).1
  have hbrl := h1.mr.lt
  have hbpl := h1.mp.lt
  have hbgl := h1.mg.lt
  have ngr : g ≠ br := fun e => by have h5 := h1.og; rw [e, h1.or] at h5; cases h5
  have ngp : g ≠ bp := fun e => by have h5 := h1.og; rw [e, h1.op] at h5; cases h5
  have nrp : br ≠ bp := fun e => by have h5 := h1.or; rw [e, h1.op] at h5; cases h5
  have nxr : x.p ≠ br := fun e => by have h5 := hxe.t; rw [e, h1.or] at h5; cases h5
  have nxp : x.p ≠ bp := fun e => by have h5 := hxe.t; rw [e, h1.op] at h5; cases h5
  have HH : Hid (Hdq g x.p br bp vm x w.drew) := Hdq.mk' h1 hx rfl rfl
  have hGs : Gr (.int .i64 x.k) = some (pv x.p) := (h2.gr _ _).2 ⟨x, hx, rfl, rfl⟩
  have hPs : Gp (kp x.r.rk x.r.mt) = some (pv x.p) := (h2.gp _ _).2 ⟨x, hx, rfl, rfl⟩
  have hrl := rmE_len h2.num hx
  have HZ : Hid (∀ w1, Only S' w.drew w1 → Tbl S' w1 vm (rmT (es.map Fe.ru) x.k) ad → Hdq g x.p br bp vm x w1.drew ∧ Mp w1.drew 3 br es.length Gr ∧
      ∀ w2, Mp w2 3 br (if (Gr (.int .i64 x.k)).isSome then es.length - 1 else es.length) (updL Gr (.int .i64 x.k) none) → Tur w1.drew w2 br → Hdq g x.p br bp vm x w2 ∧ Hdq g x.p br bp vm x w2.drew ∧
        ∀ w3, Below w2.drew.heap.size w2.drew w3 → Hdq g x.p br bp vm x w3 ∧ Mp w3 174 bp es.length Gp ∧ ∀ w4, Mp w4 174 bp (if (Gp (kp x.r.rk x.r.mt)).isSome then es.length - 1 else es.length) (updL Gp (kp x.r.rk x.r.mt) none) → Tur w3 w4 bp → Hdq g x.p br bp vm x w4 ∧ DrQ S w g room ad es gs x (.returned (.tuple #[])) w4) := fun w1 hO hTb1 => by
    have o1 : ∀ b, b < w.heap.size → o b ≠ .tup → w1.heap[b]? = w.heap[b]? := fun b hb h5 => hO.block b (nS b hb h5)
    have hs1 : w.heap.size ≤ w1.heap.size := hO.size
    refine ⟨Hdq.mk' h1 hx (o1 g hgl (by rw [h1.og]; simp)) (o1 x.p hxl (by rw [hxe.t]; simp)), h1.mr.carry (o1 br hbrl (by rw [h1.or]; simp)), fun w2 hM2 hT2 => ?_⟩
    rw [hGs] at hM2
    simp only [Option.isSome_some, if_true] at hM2
    have hs2 : w2.heap.size = w1.heap.size := hT2.size
    have o2 : ∀ b, b < w1.heap.size → b ≠ br → w2.heap[b]? = w1.heap[b]? := fun b _ hne => hT2.block b hne
    have hg2 : w2.heap[g]? = w.heap[g]? := by rw [o2 g (by omega) ngr, o1 g hgl (by rw [h1.og]; simp)]
    have hx2 : w2.heap[x.p]? = w.heap[x.p]? := by rw [o2 x.p (by omega) nxr, o1 x.p hxl (by rw [hxe.t]; simp)]
    refine ⟨Hdq.mk' h1 hx hg2 hx2, Hdq.mk' h1 hx hg2 hx2, fun w3 hb3 => ?_⟩
    have hs3 : w2.heap.size ≤ w3.heap.size := hb3.size
    have o3 : ∀ b, b < w2.heap.size → w3.heap[b]? = w2.heap[b]? := fun b hb => hb3.block b hb
    have hg3 : w3.heap[g]? = w.heap[g]? := by rw [o3 g (by omega), hg2]
    have hx3 : w3.heap[x.p]? = w.heap[x.p]? := by rw [o3 x.p (by omega), hx2]
    refine ⟨Hdq.mk' h1 hx hg3 hx3, h1.mp.carry (by rw [o3 bp (by omega), o2 bp (by omega) nrp.symm, o1 bp hbpl (by rw [h1.op]; simp)]), fun w4 hM4 hT4 => ?_⟩
    rw [hPs] at hM4
    simp only [Option.isSome_some, if_true] at hM4
    have hs4 : w4.heap.size = w3.heap.size := hT4.size
    have o4 : ∀ b, b < w1.heap.size → b ≠ br → b ≠ bp → w4.heap[b]? = w1.heap[b]? := fun b hb n1 n2 => by rw [hT4.block b n2, o3 b (by omega), o2 b hb n1]
    have old : ∀ b, b < w.heap.size → o b ≠ .tup → b ≠ br → b ≠ bp → w4.heap[b]? = w.heap[b]? := fun b hb h5 n1 n2 => by rw [o4 b (by omega) n1 n2, o1 b hb h5]
    have hg4 := old g hgl (by rw [h1.og]; simp) ngr ngp
    refine ⟨Hdq.mk' h1 hx hg4 (old x.p hxl (by rw [hxe.t]; simp) nxr nxp), rfl, ?_, o0, vm, br, bp, bg, _, _, Gg, ?_, h2.drop hx⟩
    · refine ⟨hT4.os.trans (hb3.os.trans (hT2.os.trans hO.os)), hT4.tape.trans (hb3.tape.trans (hT2.tape.trans hO.tape)), hT4.output.trans (hb3.output.trans (hT2.output.trans hO.output)), by omega, fun k hk => ?_⟩
      rcases Nat.lt_or_ge k w.heap.size with h5 | h5
      · rw [o4 k (by omega) (fun e => hk (e ▸ h1.sr)) (fun e => hk (e ▸ h1.sp))]
        exact hO.block k fun h6 => hk ((Si k).1 h6).1
      · exact absurd (hf k h5) hk
    have tg : ∀ b, b < w.heap.size → o0 b = o b := fun b hb => by rw [o0e, if_pos hb]
    refine ⟨h1.sg, (tg g hgl).trans h1.og, hg4.trans h1.hg, ?_, h1.sr, (tg br hbrl).trans h1.or, ?_, h1.sp, (tg bp hbpl).trans h1.op, ?_, h1.sn, (tg bg hbgl).trans h1.on, ?_, fun e he => ?_, fun y hy => ?_, ?_, h1.nt⟩
    · rw [rmE_ru]
      refine hTb1.carry fun b hb hS => ⟨(Si b).1 hS, ?_⟩
      obtain ⟨hS1, hS2⟩ := (Si b).1 hS
      have ne : ∀ c, c < w.heap.size → o c ≠ .tup → b ≠ c := fun c hc h5 e => by rw [e, tg c hc] at hS2; exact h5 hS2
      exact o4 b hb (ne br hbrl (by rw [h1.or]; simp)) (ne bp hbpl (by rw [h1.op]; simp))
    · rw [show (rmE es x.k).length = es.length - 1 by omega]
      exact hM2.carry (by rw [hT4.block br nrp, o3 br (by omega)])
    · rw [show (rmE es x.k).length = es.length - 1 by omega]
      exact hM4
    · exact h1.mg.carry (old bg hbgl (by rw [h1.on]; simp) (fun e => by have h5 := h1.on; rw [e, h1.or] at h5; cases h5) (fun e => by have h5 := h1.on; rw [e, h1.op] at h5; cases h5))
    · have h6 := h1.ent e (rmE_mem.1 he).1
      refine h6.carry fun b hb hS hb' => ⟨hS, tg b hb, old b hb ?_ ?_ ?_⟩
      · rcases hb' with rfl | h7
        · rw [h6.t]; simp
        · rw [h7]; simp
      · rcases hb' with rfl | h7
        · intro e1; have h8 := h6.t; rw [e1, h1.or] at h8; cases h8
        · intro e1; rw [e1, h1.or] at h7; cases h7
      · rcases hb' with rfl | h7
        · intro e1; have h8 := h6.t; rw [e1, h1.op] at h8; cases h8
        · intro e1; rw [e1, h1.op] at h7; cases h7
    · have h6 := h1.tal y hy
      have h7 := (Array.getElem?_eq_some_iff.1 h6.h).1
      exact h6.carry ⟨h6.s, tg y.p h7, old y.p h7 (by rw [h6.t]; simp) (fun e1 => by have h8 := h6.t; rw [e1, h1.or] at h8; cases h8) (fun e1 => by have h8 := h6.t; rw [e1, h1.op] at h8; cases h8)⟩
    · exact h1.ne.filter _
  obtain ⟨av, hav⟩ : ∃ av, vm = pv av := h1.tb.form
  subst hav
  have hrk := (h2.fit x hx).1.rk
  have hmt := (h2.fit x hx).1.mt
  clear h1 h2 hf hTb hF0 nS hgl hbrl hbpl hbgl ngr ngp nrp nxr nxp hS' ho0 o0e Si hxe hxl hGs hPs hrl hx
  go_enter Tryz.func82, Tryz.ntmps82
  go_upto_region 0 with fail
  refine wp_region_held_drew (S := Hdq g x.p br bp (pv av) x) (by kernel_rfl) HH.out (fun hHeld => ?_)
  refine wpAnyH_take (i := 0) (v := ?_) rfl (by kernel_rfl) (by kernel_rfl) (by kernel_rfl) (fun _ _ _ h => h) (Or.inl ⟨by rfl, ?_⟩) hHeld ?_
  rotate_left
  · intro w' hSw
    clear hSw
    go_simp
    first | done | with_reducible rfl
  simp only [Act.put, List.getElem_toArray, List.getElem_cons_zero, List.setIfInBounds_toArray, List.set_cons_zero, List.set_cons_succ]
  refine wpAnyH_take (i := 1) (v := ?_) rfl (by kernel_rfl) (by kernel_rfl) (by kernel_rfl) (fun _ _ _ h => h) (Or.inl ⟨by rfl, ?_⟩) hHeld ?_
  rotate_left
  · intro w' hSw
    clear hSw
    go_simp
    first | done | with_reducible rfl
  simp only [Act.put, List.getElem_toArray, List.getElem_cons_succ, List.getElem_cons_zero, List.setIfInBounds_toArray, List.set_cons_zero, List.set_cons_succ]
  refine wpAnyH_take (i := 2) (v := ?_) rfl (by kernel_rfl) (by kernel_rfl) (by kernel_rfl) (fun _ _ _ h => h) (Or.inl ⟨by rfl, ?_⟩) hHeld ?_
  rotate_left
  · intro w' hSw
    clear hSw
    go_simp
    first | done | with_reducible rfl
  simp only [Act.put, List.getElem_toArray, List.getElem_cons_succ, List.getElem_cons_zero, List.setIfInBounds_toArray, List.set_cons_zero, List.set_cons_succ]
  refine wpAnyH_take (i := 3) (v := ?_) rfl (by kernel_rfl) (by kernel_rfl) (by kernel_rfl) (fun _ _ _ h => h) (Or.inl ⟨by rfl, ?_⟩) hHeld ?_
  rotate_left
  · intro w' hSw
    have c0 := hSw.c0
    clear hSw
    go_simp
    first | done | with_reducible rfl
  simp only [Act.put, List.getElem_toArray, List.getElem_cons_succ, List.getElem_cons_zero, List.setIfInBounds_toArray, List.set_cons_zero, List.set_cons_succ]
  refine wpAnyH_take (i := 4) (v := ?_) rfl (by kernel_rfl) (by kernel_rfl) (by kernel_rfl) (fun _ _ _ h => h) (Or.inl ⟨by rfl, ?_⟩) hHeld ?_
  rotate_left
  · intro w' hSw
    clear hSw
    go_simp
    first | done | with_reducible rfl
  simp only [Act.put, List.getElem_toArray, List.getElem_cons_succ, List.getElem_cons_zero, List.setIfInBounds_toArray, List.set_cons_zero, List.set_cons_succ]
  refine wpAnyH_take (i := 5) (v := ?_) rfl (by kernel_rfl) (by kernel_rfl) (by kernel_rfl) (fun _ _ _ h => h) (Or.inl ⟨by rfl, ?_⟩) hHeld ?_
  rotate_left
  · intro w' hSw
    clear hSw
    go_simp
    first | done | with_reducible rfl
  simp only [Act.put, List.getElem_toArray, List.getElem_cons_succ, List.getElem_cons_zero, List.setIfInBounds_toArray, List.set_cons_zero, List.set_cons_succ]
  refine wpAnyH_take (i := 6) (v := ?_) rfl (by kernel_rfl) (by kernel_rfl) (by kernel_rfl) (fun _ _ _ h => h) (Or.inl ⟨by rfl, ?_⟩) hHeld ?_
  rotate_left
  · intro w' hSw
    clear hSw
    go_simp
    first | done | with_reducible rfl
  simp only [Act.put, List.getElem_toArray, List.getElem_cons_succ, List.getElem_cons_zero, List.setIfInBounds_toArray, List.set_cons_zero, List.set_cons_succ]
  refine wpAnyH_take (i := 7) (v := ?_) rfl (by kernel_rfl) (by kernel_rfl) (by kernel_rfl) (fun _ _ _ h => h) (Or.inl ⟨by rfl, ?_⟩) hHeld ?_
  rotate_left
  · intro w' hSw
    have cn := hSw.cn
    clear hSw
    go_simp
    first | done | with_reducible rfl
  simp only [Act.put, List.getElem_toArray, List.getElem_cons_succ, List.getElem_cons_zero, List.setIfInBounds_toArray, List.set_cons_zero, List.set_cons_succ]
  refine wpAnyH_ready (rs := [8]) (by kernel_rfl) (by simp) ?_
  refine AllReadyH.cons rfl (fun K hK => ?_) AllReadyH.nil
  refine stepFnW 123 (.func 123) [.tmp 7, .tmp 11] _ [pv av, .int .i64 x.k] rfl rfl rfl rfl (fun _ => rfl) _ HD.out ?_
  rintro e w1 ⟨rfl, hO, hTb1⟩
  refine Or.inl ⟨_, rfl, ?_⟩
  obtain ⟨z1, z2, z3⟩ := HZ.out w1 hO hTb1
  refine hK.out _ _ ⟨z1.c0, z1.c1, z1.c2, z1.cn, z1.rr⟩ (fun hHeld => ?_)
  clear hK K
  simp only [Act.put, List.getElem_toArray, List.getElem_cons_succ, List.getElem_cons_zero, List.setIfInBounds_toArray, List.set_cons_zero, List.set_cons_succ]
  refine wpAnyH_done (by kernel_rfl) ?_ _
  have HZ1 := hid z1
  have HZ2 := hid z2
  have HZ3 := hid z3
  clear z1 z2 z3 hO hTb1 HD HZ HH
  go_upto_region 1 with fail
  refine wp_region_held_drew (S := Hdq g x.p br bp (pv av) x) (by kernel_rfl) HZ1.out (fun hHeld => ?_)
  refine wpAnyH_take (i := 0) (v := ?_) rfl (by kernel_rfl) (by kernel_rfl) (by kernel_rfl) (fun _ _ _ h => h) (Or.inl ⟨by rfl, ?_⟩) hHeld ?_
  rotate_left
  · intro w' hSw
    clear hSw
    go_simp
    first | done | with_reducible rfl
  simp only [Act.put, List.getElem_toArray, List.getElem_cons_zero, List.setIfInBounds_toArray, List.set_cons_zero, List.set_cons_succ]
  refine wpAnyH_take (i := 1) (v := ?_) rfl (by kernel_rfl) (by kernel_rfl) (by kernel_rfl) (fun _ _ _ h => h) (Or.inl ⟨by rfl, ?_⟩) hHeld ?_
  rotate_left
  · intro w' hSw
    clear hSw
    go_simp
    first | done | with_reducible rfl
  simp only [Act.put, List.getElem_toArray, List.getElem_cons_succ, List.getElem_cons_zero, List.setIfInBounds_toArray, List.set_cons_zero, List.set_cons_succ]
  refine wpAnyH_take (i := 2) (v := ?_) rfl (by kernel_rfl) (by kernel_rfl) (by kernel_rfl) (fun _ _ _ h => h) (Or.inl ⟨by rfl, ?_⟩) hHeld ?_
  rotate_left
  · intro w' hSw
    clear hSw
    go_simp
    first | done | with_reducible rfl
  simp only [Act.put, List.getElem_toArray, List.getElem_cons_succ, List.getElem_cons_zero, List.setIfInBounds_toArray, List.set_cons_zero, List.set_cons_succ]
  refine wpAnyH_take (i := 3) (v := ?_) rfl (by kernel_rfl) (by kernel_rfl) (by kernel_rfl) (fun _ _ _ h => h) (Or.inl ⟨by rfl, ?_⟩) hHeld ?_
  rotate_left
  · intro w' hSw
    have c1 := hSw.c1
    clear hSw
    go_simp
    first | done | with_reducible rfl
  simp only [Act.put, List.getElem_toArray, List.getElem_cons_succ, List.getElem_cons_zero, List.setIfInBounds_toArray, List.set_cons_zero, List.set_cons_succ]
  refine wpAnyH_take (i := 4) (v := ?_) rfl (by kernel_rfl) (by kernel_rfl) (by kernel_rfl) (fun _ _ _ h => h) (Or.inl ⟨by rfl, ?_⟩) hHeld ?_
  rotate_left
  · intro w' hSw
    clear hSw
    go_simp
    first | done | with_reducible rfl
  simp only [Act.put, List.getElem_toArray, List.getElem_cons_succ, List.getElem_cons_zero, List.setIfInBounds_toArray, List.set_cons_zero, List.set_cons_succ]
  refine wpAnyH_take (i := 5) (v := ?_) rfl (by kernel_rfl) (by kernel_rfl) (by kernel_rfl) (fun _ _ _ h => h) (Or.inl ⟨by rfl, ?_⟩) hHeld ?_
  rotate_left
  · intro w' hSw
    clear hSw
    go_simp
    first | done | with_reducible rfl
  simp only [Act.put, List.getElem_toArray, List.getElem_cons_succ, List.getElem_cons_zero, List.setIfInBounds_toArray, List.set_cons_zero, List.set_cons_succ]
  refine wpAnyH_take (i := 6) (v := ?_) rfl (by kernel_rfl) (by kernel_rfl) (by kernel_rfl) (fun _ _ _ h => h) (Or.inl ⟨by rfl, ?_⟩) hHeld ?_
  rotate_left
  · intro w' hSw
    clear hSw
    go_simp
    first | done | with_reducible rfl
  simp only [Act.put, List.getElem_toArray, List.getElem_cons_succ, List.getElem_cons_zero, List.setIfInBounds_toArray, List.set_cons_zero, List.set_cons_succ]
  refine wpAnyH_take (i := 7) (v := ?_) rfl (by kernel_rfl) (by kernel_rfl) (by kernel_rfl) (fun _ _ _ h => h) (Or.inl ⟨by rfl, ?_⟩) hHeld ?_
  rotate_left
  · intro w' hSw
    have cn := hSw.cn
    clear hSw
    go_simp
    first | done | with_reducible rfl
  simp only [Act.put, List.getElem_toArray, List.getElem_cons_succ, List.getElem_cons_zero, List.setIfInBounds_toArray, List.set_cons_zero, List.set_cons_succ]
  refine wpAnyH_ready (rs := [8]) (by kernel_rfl) (by simp) ?_
  refine AllReadyH.cons rfl (fun K hK => ?_) AllReadyH.nil
  refine stepDel (.tmp 16) (.tmp 20) 86 rfl rfl rfl rfl HZ2.out lawI Tryz.underlying86 (key_i hwf) ?_
  intro w2 hM2 hT2
  obtain ⟨y1, y2, y3⟩ := HZ3.out w2 hM2 hT2
  refine hK.out _ _ y1 (fun hHeld => ?_)
  clear hK K
  simp only [Act.put, List.getElem_toArray, List.getElem_cons_succ, List.getElem_cons_zero]
  refine wpAnyH_done (by kernel_rfl) ?_ _
  have HY2 := hid y2
  have HY3 := hid y3
  clear y1 y2 y3 hM2 hT2 HZ1 HZ2 HZ3
  go_upto_region 2 with fail
  have HPl := hid (placeOf_any w2.drew x.r x.u)
  refine wp_region_held_drew (S := Hdq g x.p br bp (pv av) x) (by kernel_rfl) HY2.out (fun hHeld => ?_)
  refine wpAnyH_take (i := 0) (v := ?_) rfl (by kernel_rfl) (by kernel_rfl) (by kernel_rfl) (fun _ _ _ h => h) (Or.inl ⟨by rfl, ?_⟩) hHeld ?_
  rotate_left
  · intro w' hSw
    clear hSw
    go_simp
    first | done | with_reducible rfl
  simp only [Act.put, List.getElem_toArray, List.getElem_cons_zero, List.setIfInBounds_toArray, List.set_cons_zero, List.set_cons_succ]
  refine wpAnyH_take (i := 1) (v := ?_) rfl (by kernel_rfl) (by kernel_rfl) (by kernel_rfl) (fun _ _ _ h => h) (Or.inl ⟨by rfl, ?_⟩) hHeld ?_
  rotate_left
  · intro w' hSw
    clear hSw
    go_simp
    first | done | with_reducible rfl
  simp only [Act.put, List.getElem_toArray, List.getElem_cons_succ, List.getElem_cons_zero, List.setIfInBounds_toArray, List.set_cons_zero, List.set_cons_succ]
  refine wpAnyH_take (i := 2) (v := ?_) rfl (by kernel_rfl) (by kernel_rfl) (by kernel_rfl) (fun _ _ _ h => h) (Or.inl ⟨by rfl, ?_⟩) hHeld ?_
  rotate_left
  · intro w' hSw
    clear hSw
    go_simp
    first | done | with_reducible rfl
  simp only [Act.put, List.getElem_toArray, List.getElem_cons_succ, List.getElem_cons_zero, List.setIfInBounds_toArray, List.set_cons_zero, List.set_cons_succ]
  refine wpAnyH_take (i := 3) (v := ?_) rfl (by kernel_rfl) (by kernel_rfl) (by kernel_rfl) (fun _ _ _ h => h) (Or.inl ⟨by rfl, ?_⟩) hHeld ?_
  rotate_left
  · intro w' hSw
    have c2 := hSw.c2
    clear hSw
    go_simp
    first | done | with_reducible rfl
  simp only [Act.put, List.getElem_toArray, List.getElem_cons_succ, List.getElem_cons_zero, List.setIfInBounds_toArray, List.set_cons_zero, List.set_cons_succ]
  refine wpAnyH_take (i := 4) (v := ?_) rfl (by kernel_rfl) (by kernel_rfl) (by kernel_rfl) (fun _ _ _ h => h) (Or.inl ⟨by rfl, ?_⟩) hHeld ?_
  rotate_left
  · intro w' hSw
    clear hSw
    go_simp
    first | done | with_reducible rfl
  simp only [Act.put, List.getElem_toArray, List.getElem_cons_succ, List.getElem_cons_zero, List.setIfInBounds_toArray, List.set_cons_zero, List.set_cons_succ]
  refine wpAnyH_take (i := 5) (v := ?_) rfl (by kernel_rfl) (by kernel_rfl) (by kernel_rfl) (fun _ _ _ h => h) (Or.inl ⟨by rfl, ?_⟩) hHeld ?_
  rotate_left
  · intro w' hSw
    clear hSw
    go_simp
    first | done | with_reducible rfl
  simp only [Act.put, List.getElem_toArray, List.getElem_cons_succ, List.getElem_cons_zero, List.setIfInBounds_toArray, List.set_cons_zero, List.set_cons_succ]
  refine wpAnyH_take (i := 6) (v := ?_) rfl (by kernel_rfl) (by kernel_rfl) (by kernel_rfl) (fun _ _ _ h => h) (Or.inl ⟨by rfl, ?_⟩) hHeld ?_
  rotate_left
  · intro w' hSw
    clear hSw
    go_simp
    first | done | with_reducible rfl
  simp only [Act.put, List.getElem_toArray, List.getElem_cons_succ, List.getElem_cons_zero, List.setIfInBounds_toArray, List.set_cons_zero, List.set_cons_succ]
  refine wpAnyH_take (i := 7) (v := .agg (rlc x.r x.u)) rfl (by kernel_rfl) (by kernel_rfl) (by kernel_rfl) (fun _ _ _ h => h) (Or.inl ⟨by rfl, ?_⟩) hHeld ?_
  · intro w' hSw
    exact runLd 35 (.tmp 27) rfl x.p 3 rfl (rlc x.r x.u) _ hSw.rr Tryz.underlying35 rfl (size_rl x.r x.u)
  simp only [Act.put, List.getElem_toArray, List.getElem_cons_succ, List.getElem_cons_zero, List.setIfInBounds_toArray, List.set_cons_zero, List.set_cons_succ]
  refine wpAnyH_ready (rs := [8]) (by kernel_rfl) (by simp) ?_
  refine AllReadyH.cons rfl (fun K hK => ?_) AllReadyH.nil
  refine stepFnW 86 (.func 86) [.tmp 28] _ [.agg (rlc x.r x.u)] rfl rfl rfl rfl (fun _ => rfl) _ HPl.out ?_
  rintro e w3 ⟨rfl, hb3⟩
  refine Or.inl ⟨_, rfl, ?_⟩
  obtain ⟨x1, x2, x3⟩ := HY3.out w3 hb3
  refine hK.out _ _ x1 (fun hHeld => ?_)
  clear hK K
  simp only [Act.put, List.getElem_toArray, List.getElem_cons_succ, List.getElem_cons_zero, List.setIfInBounds_toArray, List.set_cons_zero, List.set_cons_succ]
  refine wpAnyH_ready (rs := [9]) (by kernel_rfl) (by simp) ?_
  refine AllReadyH.cons rfl (fun K hK => ?_) AllReadyH.nil
  refine stepDel (.tmp 24) (.tmp 29) 87 rfl rfl rfl rfl x2 lawP Tryz.underlying87 (key_p hrk hmt) ?_
  intro w4 hM4 hT4
  obtain ⟨v1, v2⟩ := x3 w4 hM4 hT4
  refine hK.out _ _ v1 (fun hHeld => ?_)
  clear hK K
  simp only [Act.put, List.getElem_toArray, List.getElem_cons_succ, List.getElem_cons_zero]
  refine wpAnyH_done (by kernel_rfl) ?_ _
  have HV := hid v2
  clear v1 v2 x1 x2 x3 hM4 hT4 hb3 HY2 HY3 HPl
  go_wp2
  first | go_end0 | refine bodyPost_ret (results_none rfl _ _ _) rfl ?_
  exact HV.out
end Go.Proofs.YtdehlnaoehjehaaGreatDoor
namespace Go.Proofs.YtdehlnaoehjehaaGreatDoor
set_option maxRecDepth 100000
open Go.RowKit Go.Maps

/-- The rules but those of a list. -/
def rmL (es l : List Fe) : List Fe := l.foldl (fun es x => rmE es x.k) es
/-- What a list of rules has counted is gone. -/
def loL (G : Int → Option (Int × Int)) (l : List Fe) : Int → Option (Int × Int) := l.foldl (fun G x => adG G x.r.ck x.pk x.bt) G
theorem rmL_mem : ∀ {l es : List Fe} {x : Fe}, x ∈ rmL es l ↔ x ∈ es ∧ ∀ y ∈ l, x.k ≠ y.k
  | [], es, x => by simp [rmL]
  | a :: l, es, x => by
    have := rmL_mem (l := l) (es := rmE es a.k) (x := x)
    show x ∈ rmL (rmE es a.k) l ↔ _
    rw [this, rmE_mem]
    simp [and_assoc]
theorem rmL_snoc (es l : List Fe) (x : Fe) : rmL es (l ++ [x]) = rmE (rmL es l) x.k := by simp [rmL, List.foldl_append]
theorem loL_snoc (G : Int → Option (Int × Int)) (l : List Fe) (x : Fe) : loL G (l ++ [x]) = adG (loL G l) x.r.ck x.pk x.bt := by simp [loL, List.foldl_append]
/-- Where remove is, i rules being gone. -/
structure Rmv (S : Nat → Prop) (w : World) (g : Nat) (room ad : Int) (es : List Fe) (gs : List Ge) (l : List Fe) (i : Nat) (wr : World) : Prop where
  only : Only S w wr
  st : ∃ gs', Fl S wr g room ad (rmL es (l.take i)) gs' ∧ gfn gs' = loL (gfn gs) (l.take i) ∧ gs'.length ≤ gs.length + i
def RmP (S : Nat → Prop) (w : World) (g : Nat) (room ad : Int) (es : List Fe) (gs : List Ge) (l : List Fe) (e : Ending) (w' : World) : Prop :=
  e = .returned (.int .i64 (l.length : Nat)) ∧ Rmv S w g room ad es gs l l.length w'
theorem take_next {l : List Fe} {i : Nat} (hi : i < l.length) : l.take (i + 1) = l.take i ++ [l[i]] := by rw [List.take_add_one, List.getElem?_eq_getElem hi]; rfl
set_option maxHeartbeats 1600000 in
set_option maxRecDepth 100000 in
theorem remove_any {S R : Nat → Prop} (w : World) (g : Nat) (room ad : Int) (es : List Fe) (gs : List Ge) (h : Fl S w g room ad es gs) (hf : Fresh S w) (l : List Fe) (v : Value) (hR : Rw R 1 96 w v l.length (eps l)) (hRS : ∀ b, R b → ¬ S b) (hl : ∀ x ∈ l, x ∈ es) (hd : l.Pairwise fun a b => a.k ≠ b.k) (had : ad < 2147483640) (hgl : gs.length + l.length < 2147483648) :
    Calls Tryz.prog 44 #[pv g, v] w (RmP S w g room ad es gs l) := by
  obtain ⟨ao, cap, rfl⟩ := hR.form
  have HR := hid hR
  have HF0 : Hid (Rmv S w g room ad es gs l 0 w) := ⟨Only.refl _ _, gs, by simpa [rmL] using h, by simp [loL], by omega⟩
  have HL := hid (And.intro hl hd)
  have HD := hid hRS
  have HFr := hid hf
  have hlen : (l.length : Int) < 9223372036854775807 := by omega
  clear h hf hR hl hd hRS
  go_enter Tryz.func44, Tryz.ntmps44
  go_upto_region 2 with fail
  go_loopw [9] (fun i wr => ∃ k : Nat, k ≤ l.length ∧ i = .int .i64 k ∧ Rmv S w g room ad es gs l k wr) (fun i _ => l.length - (intOf i).toNat)
  case atStart => exact ⟨0, by omega, rfl, HF0.out⟩
  case round =>
    obtain ⟨k, hk, rfl, hrel⟩ := hrel
    generalize wr = wx at *
    have HV := hid hrel
    clear hrel HF0
    by_cases hlt : k < l.length
    · obtain ⟨x, hx⟩ : ∃ x, x = l[k] := ⟨_, rfl⟩
      have hxl : x ∈ l := hx ▸ List.getElem_mem hlt
      rcases HR.out with ⟨hxx, ⟨_, hz0⟩ | ⟨gl, o, cap', cur, he, hb1, hb2, hb3, hb4, hb5⟩⟩
      · omega
      obtain ⟨rfl, rfl⟩ : ao = some ⟨gl, o, none⟩ ∧ cap = cap' := by simpa using he
      have hgx : wx.heap[gl]? = some (.cells cur 96 (0, 0)) := (HV.out.only.block gl (HD.out gl hb1)).trans hb2
      have d0 : wx.cell? ⟨gl, o + k, none⟩ = some (pv x.p) := by
        rw [cell_of_row _ _ _ _ _ _ hgx]
        have := cells_at hb5 (j := k) (by omega)
        rw [eps_at l k hlt, ← hx] at this
        exact this
      obtain ⟨gs1, q1, q2, q3⟩ := HV.out.st
      have hxm : x ∈ rmL es (l.take k) := rmL_mem.2 ⟨HL.out.1 x hxl, fun y hy e => by
        obtain ⟨j, hj, rfl⟩ := List.getElem_of_mem hy
        rw [List.length_take] at hj
        rw [List.getElem_take] at e
        have := List.pairwise_iff_getElem.1 HL.out.2 j k (by omega) hlt (by omega)
        rw [← hx] at this
        exact this e.symm⟩
      have hfx : Fresh S wx := HFr.out.on HV.out.only.size
      have HLo := hid (lose_any wx g room ad _ gs1 q1 hfx x hxm (by omega))
      have HN : Hid (∀ w1 gs2, Only S wx w1 → Fl S w1 g room ad (rmL es (l.take k)) gs2 → gfn gs2 = adG (gfn gs1) x.r.ck x.pk x.bt → gs2.length ≤ gs1.length + 1 → Calls Tryz.prog 82 #[pv g, pv x.p] w1 fun e w2 => e = .returned (.tuple #[]) ∧ Rmv S w g room ad es gs l (k + 1) w2) := fun w1 gs2 hO1 hF1 hg1 hl1 =>
        (drop_any w1 g room ad _ gs2 hF1 (hfx.on hO1.size) x hxm had).mono fun e w2 ⟨h1, h2, h3⟩ => ⟨h1, (HV.out.only.trans hO1).trans h2, gs2, by rw [take_next hlt, ← hx, rmL_snoc]; exact h3, by rw [take_next hlt, ← hx, loL_snoc, hg1, q2], by omega⟩
      clear hxx he hb1 hb2 hb3 hb4 hb5 hgx q1 q2 q3 hxm hxl hx hfx
      go_wp2_with (first
        | (go_at_call 81; refine (HLo.out).mono ?_; rintro e w1 ⟨rfl, n1, gs2, n2, n3, n4⟩; have HNN := hid (HN.out w1 gs2 n1 n2 n3 n4); clear n1 n2 n3 n4 HLo)
        | (go_at_call 82; refine (HNN.out).mono ?_; rintro e w2 ⟨rfl, hv2⟩; have HV2 := hid hv2; clear hv2 HNN))
      go_roundw
      case rel => exact ⟨k + 1, by omega, by go_num, HV2.out⟩
      case measure => simp [intOf]; omega
    · obtain rfl : k = l.length := by omega
      go_wp2
      go_ret
      exact ⟨rfl, HV.out⟩
end Go.Proofs.YtdehlnaoehjehaaGreatDoor
