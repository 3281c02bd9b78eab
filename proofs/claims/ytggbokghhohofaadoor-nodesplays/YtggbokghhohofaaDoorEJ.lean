/-
  Proved here: NodesPlays answers true: the store and the document's, side by side. Conditions: the acts lie where they are said to; the tables hold their numbers.
-/
import Derived.Test.YtggbokghhohofaaDoorEI
import Derived.Test.YtggbokghhohofaaDoorEE
import Derived.Test.YtggbokghhohofaaDoorDC
namespace Go.Proofs.YtggbokghhohofaaDoor
open Go.RowKit Go.Maps
set_option maxRecDepth 100000

theorem run_bR (w : World) : (Instr.build 30 #[]).run Tryd.prog w = .ok (.agg #[nilS]) w := by kernel_rfl
theorem atc_one {u : Value} (hu : u.oneCell' = true) (x : At) : (atc x u).all (·.oneCell') = true := by
  rw [Array.all_eq_true]
  intro i hi
  have hi : i < 6 := hi
  have : i = 0 ∨ i = 1 ∨ i = 2 ∨ i = 3 ∨ i = 4 ∨ i = 5 := by omega
  rcases this with rfl | rfl | rfl | rfl | rfl | rfl
  · rfl
  · exact hu
  · rfl
  · rfl
  · rfl
  · rfl
/-- The store and the document's, side by side. -/
structure TwoQ (w0 : World) (p q : Nat) (D : Nat → Prop) (all : List Nd) (w : World) : Prop where
  st : StD D w0.heap.size p w all
  rs : RSt D q w all
  dB : ∀ b, D b → w0.heap.size ≤ b ∧ b < w.heap.size
  low : Below w0.heap.size w0 w
  tab : Tabs w0.heap.size w
theorem StD.ok {D : Nat → Prop} {B p : Nat} {w : World} {all : List Nd} (h : StD D B p w all) : (∀ y ∈ all, Kd y.lf) ∧ all.length ≤ 65536 := by
  obtain ⟨va, bt, bl, nt, nl, Gt, Gl, d, h, _⟩ := h
  exact ⟨fun y hy => kd_of (h.ok y hy).oks, h.len⟩
theorem GoodN.fd {all : List Nd} (h : GoodN all) : ∀ y ∈ all, y.fd = -1 ∨ 0 ≤ y.fd := fun y hy => by
  obtain ⟨i, hi, rfl⟩ := List.getElem_of_mem hy
  exact (h.ok i hi).imp id And.left
theorem TwoQ.on {w0 w w' : World} {p q : Nat} {D : Nat → Prop} {all : List Nd} (h : TwoQ w0 p q D all w) (hb : Below w.heap.size w w') : TwoQ w0 p q D all w' :=
  ⟨h.st.on hb, h.rs.keep fun b hd => hb.block b (h.dB b hd).2, fun b hd => ⟨(h.dB b hd).1, Nat.lt_of_lt_of_le (h.dB b hd).2 hb.size⟩, h.low.trans (hb.mono h.low.size), h.tab.on (hb.mono h.low.size)⟩
/-- One of the two was done, then the other. -/
theorem TwoQ.act {w0 w w1 w2 : World} {p q : Nat} {D : Nat → Prop} {all all' : List Nd} (h : TwoQ w0 p q D all w) (hs : StD D w0.heap.size p w1 all') (hf : StFr w0.heap.size w w1) (hr : RSt (fun b => D b ∨ w1.heap.size ≤ b) q w2 all') (ho : Only (fun b => D b ∨ w1.heap.size ≤ b) w1 w2) : TwoQ w0 p q (fun b => (D b ∨ w1.heap.size ≤ b) ∧ b < w2.heap.size) all' w2 := by
  have hz := h.low.size
  have hz1 := hf.size
  have hlow : Below w0.heap.size w1 w2 := ho.below fun b hb => by
    rcases hb with hb | hb
    · exact (h.dB b hb).1
    · omega
  have hl1 := hf.below hz
  refine ⟨((hs.ext (D' := fun b => D b ∨ w1.heap.size ≤ b) fun b hb => hb).keep fun b hb hd => ho.block b hd).ext fun b hb => Or.inl hb.1, ?_, fun b hb => ⟨?_, hb.2⟩, (h.low.trans hl1).trans hlow, (h.tab.on hl1).on hlow⟩
  · obtain ⟨va, d, h1, h2, h3, h4, h5, h6⟩ := hr
    exact ⟨va, d, h1, h2, ⟨h3, (Array.getElem?_eq_some_iff.1 h2).1⟩, h4.carry fun b hb hS => ⟨⟨hS, hb⟩, rfl⟩, h5, fun x hx => (h6 x hx).carry fun b hb hS => ⟨⟨⟨hS.1, hb⟩, hS.2⟩, rfl⟩⟩
  · rcases hb.1 with hb | hb
    · exact (h.dB b hb).1
    · omega
/-- What Get tells. -/
def gy (all : List Nd) (j : Int) : Nd := if inL all j then nd all j else zNd
theorem getN {B p : Nat} {w : World} {all : List Nd} (h : St B p w all) (j : Int) : Calls Tryd.prog 15 #[ptr p, .int .i64 j] w fun e w' => ∃ a0 n0 k0, e = .returned (.tuple #[.agg (ndc (.slice a0 n0 k0, gy all j)), .bool (inL all j)]) ∧ Below w.heap.size w w' ∧ Cps (fun b => b < w'.heap.size) w' (.slice a0 n0 k0) (gy all j).lf := by
  cases e : inL all j
  · unfold gy
    rw [e]
    exact (get_no h j e).mono fun e w' ⟨h1, h2⟩ => ⟨none, 0, 0, h1, h2, Lst.nil _ _ _ _⟩
  · unfold gy
    rw [e]
    have hj := e
    simp only [inL, Bool.and_eq_true, decide_eq_true_eq] at hj
    obtain ⟨i, rfl⟩ : ∃ i : Nat, j = (i : Int) := ⟨j.toNat, by omega⟩
    have hi : i < all.length := by omega
    simp only [if_true]
    rw [nd_atI i hi]
    refine (get_ok h i hi).mono ?_
    rintro e w' ⟨u, he, hb, hcp⟩
    obtain ⟨a0, k0, rfl, -⟩ := Lst.form hcp
    exact ⟨a0, _, k0, he, hb, hcp.carry fun b hb' _ => ⟨hb', rfl⟩⟩
theorem getR {D : Nat → Prop} {p : Nat} {w : World} {all : List Nd} (h : RSt D p w all) (j : Int) : Calls Tryd.prog 16 #[ptr p, .int .i64 j] w fun e w' => ∃ a0 n0 k0, e = .returned (.tuple #[.agg (ndc (.slice a0 n0 k0, gy all j)), .bool (inL all j)]) ∧ Below w.heap.size w w' ∧ Cps (fun b => b < w'.heap.size) w' (.slice a0 n0 k0) (gy all j).lf := by
  cases e : inL all j
  · unfold gy
    rw [e]
    exact (rget_no h j e).mono fun e w' ⟨h1, h2⟩ => ⟨none, 0, 0, h1, h2, Lst.nil _ _ _ _⟩
  · unfold gy
    rw [e]
    have hj := e
    simp only [inL, Bool.and_eq_true, decide_eq_true_eq] at hj
    obtain ⟨i, rfl⟩ : ∃ i : Nat, j = (i : Int) := ⟨j.toNat, by omega⟩
    have hi : i < all.length := by omega
    simp only [if_true]
    rw [nd_atI i hi]
    refine (rget_ok h i hi).mono ?_
    rintro e w' ⟨u, he, hb, hcp⟩
    obtain ⟨a0, k0, rfl, -⟩ := Lst.form hcp
    exact ⟨a0, _, k0, he, hb, (hcp.on hb).carry fun b hb' _ => ⟨hb', rfl⟩⟩
theorem alike_yes {T T' : Nat → Prop} (w : World) (u v : Value) (a : Nd) (ha : Cps T w u a.lf) (hb : Cps T' w v a.lf) : Calls Tryd.prog 17 #[.agg (ndc (u, a)), .agg (ndc (v, a))] w fun e w' => e = .returned (.bool true) ∧ Below w.heap.size w w' :=
  (alike_any w u v a a ha hb).mono fun e w' ⟨r, h1, h2, h3⟩ => ⟨by rw [h1, h2.2 rfl], h3⟩
/-- What the compare of the numbers reads. -/
structure Hq0 (q : Nat) (va : Value) (w : World) : Prop where
  c0 : w.cell? ⟨q, 0, none⟩ = some va
/-- What the compare of the nodes reads. -/
structure Hq1 (q P g j : Nat) (va : Value) (x y : Nv) (w : World) : Prop where
  c0 : w.cell? ⟨q, 0, none⟩ = some va
  rp : w.rangeAt P 0 (ndc x).toList
  rg : w.rangeAt g j (ndc y).toList
set_option maxHeartbeats 25600000 in
theorem nodesPlays_any {T : Nat → Prop} (w : World) (v : Value) (l : List At) (h : Ats T w v l) (hTl : ∀ b, T b → b < w.heap.size) (hT : Tabs w.heap.size w) : Calls Tryd.prog 3 #[v] w fun e w' => e = .returned (.bool true) ∧ Below w.heap.size w w' := by
  have hg := great_any w v l h
  have HWk := hid (wakes_any w.heap.size w hT (Nat.le_refl _))
  by_cases hbig : l.length ≤ 200 ∧ totA l ≤ 8192
  case neg =>
    have HG : Hid (Calls Tryd.prog 8 #[v] w fun e w' => e = .returned (.bool true) ∧ w' = w) := hg.mono fun e w' ⟨h1, h2⟩ => ⟨by rw [h1, decide_eq_false hbig]; rfl, h2⟩
    obtain ⟨ao, cap, rfl, hcap⟩ := h.form
    clear hg hbig h hT
    go_enter Tryd.func3, Tryd.ntmps3
    go_wp2_with (first
      | (go_at_call 8; refine (HG.out).mono ?_; rintro e w' ⟨rfl, hw⟩; obtain rfl : w = w' := hw.symm)
      | (go_at_call 9; refine (HWk.out).mono ?_; rintro e W2 ⟨rfl, hb⟩; have HB := hid hb; clear hb HWk))
    go_ret
    exact ⟨rfl, HB.out⟩
  have HG : Hid (Calls Tryd.prog 8 #[v] w fun e w' => e = .returned (.bool false) ∧ w' = w) := hg.mono fun e w' ⟨h1, h2⟩ => ⟨by rw [h1, decide_eq_true hbig]; rfl, h2⟩
  have HTot := hid hbig.2
  have HL2 := hid hbig.1
  have HA := hid (And.intro h hTl)
  obtain ⟨ao, cap, rfl, hcap⟩ := h.form
  have HT := hid hT
  have hbR := fun W => run_bR W
  clear hg hbig h hT HWk hTl
  go_enter Tryd.func3, Tryd.ntmps3
  go_upto_region 5 with (first
    | (go_at_call 8; refine (HG.out).mono ?_; rintro e w' ⟨rfl, hw⟩; obtain rfl : w = w' := hw.symm; clear HG)
    | (go_at_call 10; refine (new_any _).mono ?_; rintro e W1 ⟨p, rfl, hb, hs⟩; have HN1 := hid (And.intro hb hs); clear hb hs))
  clear hbR
  have hal : Below W1.heap.size W1 (W1.alloc (.cells #[nilS] 30)) := (Below.refl _ _).alloc (Nat.le_refl _) _
  have HQ0 : Hid (TwoQ w p W1.heap.size (fun b => b = W1.heap.size) [] (W1.alloc (.cells #[nilS] 30))) := ⟨(HN1.out.2.off.ext fun b hb => Or.inr (by omega)).on hal, ⟨nilS, [], rfl, heap_alloc_new _ _, rfl, Rw.nil _ _ _ _, by simp [Value.ownBlock], fun x hx => by cases hx⟩, fun b hb => by
    have := HN1.out.1.size
    subst hb
    exact ⟨this, by simp⟩, HN1.out.1.trans (hal.mono HN1.out.1.size), HT.out.on (HN1.out.1.trans (hal.mono HN1.out.1.size))⟩
  clear hal HN1
  generalize W1.alloc (.cells #[nilS] 30) = W2 at HQ0 ⊢
  generalize W1.heap.size = q at HQ0 ⊢
  go_upto_region 6 with fail
  go_loopw [5] (fun si wr => ∃ (i : Nat) (D : Nat → Prop) (all : List Nd), si = .int .i64 ((i : Nat) : Int) ∧ i ≤ l.length ∧ Hid (TwoQ w p q D all wr) ∧ Hid (GoodN all ∧ all.length ≤ i)) (fun si _ => l.length - (intOf si).toNat)
  case atStart => exact ⟨0, _, [], rfl, Nat.zero_le _, HQ0.out, ⟨List.nodup_nil, fun i hi => absurd hi (by simp)⟩, Nat.le_refl _⟩
  case round =>
    clear HQ0
    obtain ⟨i, D, all, rfl, hi1, HQ, HGd⟩ := hrel
    by_cases hi : i < l.length
    · have hd : decide ((i : Int) < (l.length : Int)) = true := by simp; omega
      have hiw : IntKind.i64.wrap ((i : Int) + 1) = (i : Int) + 1 := by rw [IntKind.wrap_i64]; have := HL2.out; omega
      have hic : i < cap := by omega
      have ha : Ats (fun b => b < w.heap.size) wr (.slice ao l.length cap) l := Ats.carry (fun b hb hT => ⟨hb, HQ.out.low.block b hb⟩) HA.out.1
      have htx := Nat.le_trans (totA_mem (List.getElem_mem hi)) HTot.out
      obtain ⟨b, o, rfl, hTb, h0, ⟨u, hu, hcp⟩, h2, h3, h4, h5, hTf, -⟩ := ha.cell i hi
      have hra : wr.rangeAt b (o + i * 6) (atc l[i] u).toList := range_of fun j hj => by
        have hj : j = 0 ∨ j = 1 ∨ j = 2 ∨ j = 3 ∨ j = 4 ∨ j = 5 := by simp at hj; omega
        rcases hj with rfl | rfl | rfl | rfl | rfl | rfl
        · exact h0
        · exact hu
        · exact h2
        · exact h3
        · exact h4
        · exact h5
      obtain ⟨a1, k1, rfl, -⟩ := hcp.form
      have HRA := hid hra
      have HTF := hid hTf
      have HCP := hid hcp
      clear ha h0 hu hcp h2 h3 h4 h5 hTf hra
      generalize l[i] = x at htx HRA HTF HCP
      go_upto_region 9 with (first
        | (refine ldMid 35 (.tmp 32) rfl rfl b (o + i * 6) rfl (atc x (.slice a1 x.rows.length k1)) _ Tryd.underlying35 rfl (infoLACT _ _) HRA.out ?_)
        | (refine stNew 35 (.tmp 6) (.tmp 33) rfl rfl _ 35 (atc ⟨0, [], 0, 0, 0, 0⟩ nilS) (atc x (.slice a1 x.rows.length k1)) rfl rfl rfl (infoLACT _ _) rfl (atc_one rfl _) ?_))
      have hal : Below wr.heap.size wr (wr.alloc (.cells (atc x (.slice a1 x.rows.length k1)) 35)) := (Below.refl _ _).alloc (Nat.le_refl _) _
      have HQ3 := hid (HQ.out.on hal)
      have HCP3 := hid (HCP.out.on hal)
      have hnew := heap_alloc_new wr (.cells (atc x (.slice a1 x.rows.length k1)) 35)
      have hP6 := HQ.out.low.size
      clear hal HQ HCP HRA hd hic
      generalize wr.alloc (.cells (atc x (.slice a1 x.rows.length k1)) 35) = W3 at HQ3 HCP3 hnew ⊢
      generalize wr.heap.size = P6 at hnew hP6 ⊢
      have HX := hid hnew
      have HacOf : Hid (∀ W : World, W.heap[P6]? = some (.cells (atc x (.slice a1 x.rows.length k1)) 35 (0, 0)) → Hac P6 x (.slice a1 x.rows.length k1) W) := fun W hW => ⟨(cell_of_row _ _ _ _ _ _ hW).trans rfl, (cell_of_row _ _ _ _ _ _ hW).trans rfl, (cell_of_row _ _ _ _ _ _ hW).trans rfl, (cell_of_row _ _ _ _ _ _ hW).trans rfl, (cell_of_row _ _ _ _ _ _ hW).trans rfl, (cell_of_row _ _ _ _ _ _ hW).trans rfl⟩
      obtain ⟨c0, c1, c2, c3, c4, c5⟩ := HacOf.out W3 hnew
      clear hnew
      by_cases hx0 : x.dw = 0
      · have hq0 : (x.dw == 0) = true := by simp [hx0]
        have C1 := hid (leafE HQ3.out.st (fun b hb => (HQ3.out.dB b hb).2) (.slice a1 x.rows.length k1) x.rows HCP3.out (fun b hb => Nat.lt_of_lt_of_le hb HQ3.out.low.size) (by omega) HQ3.out.tab.tab HQ3.out.tab.pow HQ3.out.low.size)
        clear c2 c3 c4 c5 hx0
        go_upto_region 18 with (go_at_call 11; refine (C1.out).mono ?_; rintro e W4 ⟨id, er, all2, rfl, hr, hs, hf, hk⟩; have HR := hid hr; have HS4 := hid (And.intro hs (And.intro hf hk)); clear hr hs hf hk C1)
        clear c0 c1
        have hlow4 := HS4.out.2.1.below HQ3.out.low.size
        have c1 := (HacOf.out W4 ((HS4.out.2.1.blk P6 (Array.getElem?_eq_some_iff.1 HX.out).1 (Or.inr ⟨_, _, _, HX.out, by decide, by decide⟩)).trans HX.out)).c1
        have C2 := hid (rleaf_any (HQ3.out.rs.keep HS4.out.2.2) (fun b hb => Nat.lt_of_lt_of_le (HQ3.out.dB b hb).2 HS4.out.2.1.size) (.slice a1 x.rows.length k1) x.rows (HCP3.out.carry fun b _ hS => ⟨hS, hlow4.block b hS⟩) (fun b hb => Nat.lt_of_lt_of_le (Nat.lt_of_lt_of_le hb HQ3.out.low.size) HS4.out.2.1.size) (by omega) HQ3.out.st.ok.1 HQ3.out.st.ok.2)
        clear hlow4
        go_upto_region 22 with (go_at_call 12; refine (C2.out).mono ?_; rintro e W5 ⟨id2, er2, all3, rfl, hr2, hs2, ho⟩; obtain ⟨e1, e2, e3⟩ := leafR_fn HGd.out.1.nd HR.out hr2; subst e1 e2 e3; have HQ5 := hid (HQ3.out.act HS4.out.1 HS4.out.2.1 hs2 ho); have HG5 : Hid (GoodN all2 ∧ all2.length ≤ i + 1) := (by have hg := GoodN.leaf HGd.out.1 hr2; exact ⟨hg.1, by have := HGd.out.2; have := hg.2; omega⟩); clear hr2 hs2 ho C2 HR HS4 HQ3 HGd)
        clear c1 hq0
        have tn : (id != id) = false := by simp
        have te : (er != er) = false := by simp
        obtain ⟨vb, db, hb1, hb2, -, hb4, -, -⟩ := HQ5.out.rs
        obtain ⟨ab, cb, rfl⟩ := hb4.form
        have HC0 : Hid (Hq0 q (.slice ab db.length cb) W5) := ⟨(cell_of_row _ _ _ _ _ _ hb2).trans rfl⟩
        have hcl := len_any (HQ5.out.on (Gro.refl _).drew.below).st.st
        rw [show all2.length = db.length by rw [← hb1]; simp] at hcl
        have HCL := hid hcl
        have tl : (((db.length : Nat) : Int) != ((db.length : Nat) : Int)) = false := by simp
        clear hb1 hb2 hb4 hcl
        refine wp_region_held_drew (S := Hq0 q (.slice ab db.length cb)) (by kernel_rfl) ⟨HC0.out.c0⟩ (fun hHeld => ?_)
        refine wpAnyH_take (i := 0) (v := ?_) rfl (by kernel_rfl) (by kernel_rfl) (by kernel_rfl) (fun _ _ _ h => h) (Or.inl ⟨by rfl, ?_⟩) hHeld ?_
        rotate_left
        · intro w' hSw
          clear hSw
          go_simp
          first | done | with_reducible rfl
        simp only [Act.put, List.getElem_toArray, List.getElem_cons_zero, List.setIfInBounds_toArray, List.set_cons_zero, List.set_cons_succ]
        refine wpAnyH_take (i := 1) (v := ?_) rfl (by kernel_rfl) (by kernel_rfl) (by kernel_rfl) (fun _ _ _ h => h) (Or.inl ⟨by rfl, ?_⟩) hHeld ?_
        rotate_left
        · intro w' hSw
          clear hSw
          go_simp
          first | done | with_reducible rfl
        simp only [Act.put, List.getElem_toArray, List.getElem_cons_succ, List.getElem_cons_zero, List.setIfInBounds_toArray, List.set_cons_zero, List.set_cons_succ]
        refine wpAnyH_take (i := 2) (v := ?_) rfl (by kernel_rfl) (by kernel_rfl) (by kernel_rfl) (fun _ _ _ h => h) (Or.inl ⟨by rfl, ?_⟩) hHeld ?_
        rotate_left
        · intro w' hSw
          clear hSw
          go_simp
          first | done | with_reducible rfl
        simp only [Act.put, List.getElem_toArray, List.getElem_cons_succ, List.getElem_cons_zero, List.setIfInBounds_toArray, List.set_cons_zero, List.set_cons_succ]
        refine wpAnyH_take (i := 3) (v := ?_) rfl (by kernel_rfl) (by kernel_rfl) (by kernel_rfl) (fun _ _ _ h => h) (Or.inl ⟨by rfl, ?_⟩) hHeld ?_
        rotate_left
        · intro w' hSw
          clear hSw
          go_simp
          first | done | with_reducible rfl
        simp only [Act.put, List.getElem_toArray, List.getElem_cons_succ, List.getElem_cons_zero, List.setIfInBounds_toArray, List.set_cons_zero, List.set_cons_succ]
        refine wpAnyH_take (i := 4) (v := ?_) rfl (by kernel_rfl) (by kernel_rfl) (by kernel_rfl) (fun _ _ _ h => h) (Or.inl ⟨by rfl, ?_⟩) hHeld ?_
        rotate_left
        · intro w' hSw
          clear hSw
          go_simp
          first | done | with_reducible rfl
        simp only [Act.put, List.getElem_toArray, List.getElem_cons_succ, List.getElem_cons_zero, List.setIfInBounds_toArray, List.set_cons_zero, List.set_cons_succ]
        refine wpAnyH_take (i := 5) (v := ?_) rfl (by kernel_rfl) (by kernel_rfl) (by kernel_rfl) (fun _ _ _ h => h) (Or.inl ⟨by rfl, ?_⟩) hHeld ?_
        rotate_left
        · intro w' hSw
          clear hSw
          go_simp
          first | done | with_reducible rfl
        simp only [Act.put, List.getElem_toArray, List.getElem_cons_succ, List.getElem_cons_zero, List.setIfInBounds_toArray, List.set_cons_zero, List.set_cons_succ]
        refine wpAnyH_take (i := 6) (v := ?_) rfl (by kernel_rfl) (by kernel_rfl) (by kernel_rfl) (fun _ _ _ h => h) (Or.inl ⟨by rfl, ?_⟩) hHeld ?_
        rotate_left
        · intro w' hSw
          clear hSw
          go_simp
          first | done | with_reducible rfl
        simp only [Act.put, List.getElem_toArray, List.getElem_cons_succ, List.getElem_cons_zero, List.setIfInBounds_toArray, List.set_cons_zero, List.set_cons_succ]
        refine wpAnyH_take (i := 7) (v := ?_) rfl (by kernel_rfl) (by kernel_rfl) (by kernel_rfl) (fun _ _ _ h => h) (Or.inl ⟨by rfl, ?_⟩) hHeld ?_
        rotate_left
        · intro w' hSw
          clear hSw
          go_simp
          first | done | with_reducible rfl
        simp only [Act.put, List.getElem_toArray, List.getElem_cons_succ, List.getElem_cons_zero, List.setIfInBounds_toArray, List.set_cons_zero, List.set_cons_succ]
        refine wpAnyH_take (i := 8) (v := ?_) rfl (by kernel_rfl) (by kernel_rfl) (by kernel_rfl) (fun _ _ _ h => h) (Or.inl ⟨by rfl, ?_⟩) hHeld ?_
        rotate_left
        · intro w' hSw
          clear hSw
          go_simp
          first | done | with_reducible rfl
        simp only [Act.put, List.getElem_toArray, List.getElem_cons_succ, List.getElem_cons_zero, List.setIfInBounds_toArray, List.set_cons_zero, List.set_cons_succ]
        refine wpAnyH_take (i := 9) (v := ?_) rfl (by kernel_rfl) (by kernel_rfl) (by kernel_rfl) (fun _ _ _ h => h) (Or.inl ⟨by rfl, ?_⟩) hHeld ?_
        rotate_left
        · intro w' hSw
          clear hSw
          go_simp
          first | done | with_reducible rfl
        simp only [Act.put, List.getElem_toArray, List.getElem_cons_succ, List.getElem_cons_zero, List.setIfInBounds_toArray, List.set_cons_zero, List.set_cons_succ]
        refine wpAnyH_take (i := 11) (v := ?_) rfl (by kernel_rfl) (by kernel_rfl) (by kernel_rfl) (fun _ _ _ h => h) (Or.inl ⟨by rfl, ?_⟩) hHeld ?_
        rotate_left
        · intro w' hSw
          clear hSw
          go_simp
          first | done | with_reducible rfl
        simp only [Act.put, List.getElem_toArray, List.getElem_cons_succ, List.getElem_cons_zero, List.setIfInBounds_toArray, List.set_cons_zero, List.set_cons_succ]
        refine wpAnyH_take (i := 12) (v := ?_) rfl (by kernel_rfl) (by kernel_rfl) (by kernel_rfl) (fun _ _ _ h => h) (Or.inl ⟨by rfl, ?_⟩) hHeld ?_
        rotate_left
        · intro w' hSw
          clear hSw
          go_simp
          first | done | with_reducible rfl
        simp only [Act.put, List.getElem_toArray, List.getElem_cons_succ, List.getElem_cons_zero, List.setIfInBounds_toArray, List.set_cons_zero, List.set_cons_succ]
        refine wpAnyH_take (i := 13) (v := ?_) rfl (by kernel_rfl) (by kernel_rfl) (by kernel_rfl) (fun _ _ _ h => h) (Or.inl ⟨by rfl, ?_⟩) hHeld ?_
        rotate_left
        · intro w' hSw
          clear hSw
          go_simp
          first | done | with_reducible rfl
        simp only [Act.put, List.getElem_toArray, List.getElem_cons_succ, List.getElem_cons_zero, List.setIfInBounds_toArray, List.set_cons_zero, List.set_cons_succ]
        refine wpAnyH_take (i := 14) (v := ?_) rfl (by kernel_rfl) (by kernel_rfl) (by kernel_rfl) (fun _ _ _ h => h) (Or.inl ⟨by rfl, ?_⟩) hHeld ?_
        rotate_left
        · intro w' hSw
          have c0 := hSw.c0
          clear hSw
          go_simp
          first | done | with_reducible rfl
        simp only [Act.put, List.getElem_toArray, List.getElem_cons_succ, List.getElem_cons_zero, List.setIfInBounds_toArray, List.set_cons_zero, List.set_cons_succ]
        refine wpAnyH_take (i := 15) (v := ?_) rfl (by kernel_rfl) (by kernel_rfl) (by kernel_rfl) (fun _ _ _ h => h) (Or.inl ⟨by rfl, ?_⟩) hHeld ?_
        rotate_left
        · intro w' hSw
          clear hSw
          go_simp
          first | done | with_reducible rfl
        simp only [Act.put, List.getElem_toArray, List.getElem_cons_succ, List.getElem_cons_zero, List.setIfInBounds_toArray, List.set_cons_zero, List.set_cons_succ]
        refine wpAnyH_ready (rs := [10]) (by kernel_rfl) (by simp) ?_
        refine AllReadyH.cons rfl (fun K hK => ?_) AllReadyH.nil
        refine stepFnW 18 (.func 18) [.tmp 112] _ [ptr p] [] rfl (by simp [Region.wanted, yielded]) rfl rfl (fun _ _ => rfl) _ HCL.out ?_
        rintro e w1 ⟨rfl, hw1⟩
        refine Or.inl ⟨_, rfl, ?_⟩
        rw [hw1]
        refine hK.out _ _ hHeld (fun hHeld => ?_)
        clear hK K
        simp only [Act.put, List.getElem_toArray, List.getElem_cons_succ, List.getElem_cons_zero, List.setIfInBounds_toArray, List.set_cons_zero, List.set_cons_succ]
        clear hw1
        refine wpAnyH_take (i := 16) (v := ?_) rfl (by kernel_rfl) (by kernel_rfl) (by kernel_rfl) (fun _ _ _ h => h) (Or.inl ⟨by rfl, ?_⟩) hHeld ?_
        rotate_left
        · intro w' hSw
          clear hSw
          go_simp
          first | done | with_reducible rfl
        simp only [Act.put, List.getElem_toArray, List.getElem_cons_succ, List.getElem_cons_zero, List.setIfInBounds_toArray, List.set_cons_zero, List.set_cons_succ]
        refine wpAnyH_take (i := 17) (v := ?_) rfl (by kernel_rfl) (by kernel_rfl) (by kernel_rfl) (fun _ _ _ h => h) (Or.inl ⟨by rfl, ?_⟩) hHeld ?_
        rotate_left
        · intro w' hSw
          clear hSw
          go_simp
          first | done | with_reducible rfl
        simp only [Act.put, List.getElem_toArray, List.getElem_cons_succ, List.getElem_cons_zero, List.setIfInBounds_toArray, List.set_cons_zero, List.set_cons_succ]
        refine wpAnyH_done (by kernel_rfl) ?_ _
        have HQ6 := hid (HQ5.out.on (Gro.refl _).drew.below)
        clear hHeld HCL HC0 HQ5
        go_wp2
        go_roundw
        case rel => exact ⟨i + 1, _, _, by rw [show (((i + 1 : Nat) : Nat) : Int) = (i : Int) + 1 by omega], hi, HQ6.out, HG5.out⟩
        case measure => simp [intOf]; omega
      · have hq0 : (x.dw == 0) = false := beq_eq_false_iff_ne.2 hx0
        by_cases hx1 : x.dw = 1
        · have hq1 : (x.dw == 1) = true := by simp [hx1]
          have C1 := hid (testE HQ3.out.st (fun b hb => (HQ3.out.dB b hb).2) x.fd x.n x.hi x.lo HTF.out HQ3.out.tab.tab)
          clear c1 hx0 hx1
          go_upto_region 21 with (go_at_call 13; refine (C1.out).mono ?_; rintro e W4 ⟨id, er, all2, rfl, hr, hs, hf, hk⟩; have HR := hid hr; have HS4 := hid (And.intro hs (And.intro hf hk)); clear hr hs hf hk C1)
          clear c0 c2 c3 c4 c5
          obtain ⟨-, -, c2, c3, c4, c5⟩ := HacOf.out W4 ((HS4.out.2.1.blk P6 (Array.getElem?_eq_some_iff.1 HX.out).1 (Or.inr ⟨_, _, _, HX.out, by decide, by decide⟩)).trans HX.out)
          have C2 := hid (rtest_any (HQ3.out.rs.keep HS4.out.2.2) (fun b hb => Nat.lt_of_lt_of_le (HQ3.out.dB b hb).2 HS4.out.2.1.size) x.fd x.n x.hi x.lo HTF.out HQ3.out.st.ok.1 HGd.out.1.fd HQ3.out.st.ok.2)
          go_upto_region 22 with (go_at_call 14; refine (C2.out).mono ?_; rintro e W5 ⟨id2, er2, all3, rfl, hr2, hs2, ho⟩; obtain ⟨e1, e2, e3⟩ := testR_fn HGd.out.1.nd HR.out hr2; subst e1 e2 e3; have HQ5 := hid (HQ3.out.act HS4.out.1 HS4.out.2.1 hs2 ho); have HG5 : Hid (GoodN all2 ∧ all2.length ≤ i + 1) := (by have hg := GoodN.test HGd.out.1 hr2; exact ⟨hg.1, by have := HGd.out.2; have := hg.2; omega⟩); clear hr2 hs2 ho C2 HR HS4 HQ3 HGd)
          clear c2 c3 c4 c5 hq0 hq1
          have tn : (id != id) = false := by simp
          have te : (er != er) = false := by simp
          obtain ⟨vb, db, hb1, hb2, -, hb4, -, -⟩ := HQ5.out.rs
          obtain ⟨ab, cb, rfl⟩ := hb4.form
          have HC0 : Hid (Hq0 q (.slice ab db.length cb) W5) := ⟨(cell_of_row _ _ _ _ _ _ hb2).trans rfl⟩
          have hcl := len_any (HQ5.out.on (Gro.refl _).drew.below).st.st
          rw [show all2.length = db.length by rw [← hb1]; simp] at hcl
          have HCL := hid hcl
          have tl : (((db.length : Nat) : Int) != ((db.length : Nat) : Int)) = false := by simp
          clear hb1 hb2 hb4 hcl
          refine wp_region_held_drew (S := Hq0 q (.slice ab db.length cb)) (by kernel_rfl) ⟨HC0.out.c0⟩ (fun hHeld => ?_)
          refine wpAnyH_take (i := 0) (v := ?_) rfl (by kernel_rfl) (by kernel_rfl) (by kernel_rfl) (fun _ _ _ h => h) (Or.inl ⟨by rfl, ?_⟩) hHeld ?_
          rotate_left
          · intro w' hSw
            clear hSw
            go_simp
            first | done | with_reducible rfl
          simp only [Act.put, List.getElem_toArray, List.getElem_cons_zero, List.setIfInBounds_toArray, List.set_cons_zero, List.set_cons_succ]
          refine wpAnyH_take (i := 1) (v := ?_) rfl (by kernel_rfl) (by kernel_rfl) (by kernel_rfl) (fun _ _ _ h => h) (Or.inl ⟨by rfl, ?_⟩) hHeld ?_
          rotate_left
          · intro w' hSw
            clear hSw
            go_simp
            first | done | with_reducible rfl
          simp only [Act.put, List.getElem_toArray, List.getElem_cons_succ, List.getElem_cons_zero, List.setIfInBounds_toArray, List.set_cons_zero, List.set_cons_succ]
          refine wpAnyH_take (i := 2) (v := ?_) rfl (by kernel_rfl) (by kernel_rfl) (by kernel_rfl) (fun _ _ _ h => h) (Or.inl ⟨by rfl, ?_⟩) hHeld ?_
          rotate_left
          · intro w' hSw
            clear hSw
            go_simp
            first | done | with_reducible rfl
          simp only [Act.put, List.getElem_toArray, List.getElem_cons_succ, List.getElem_cons_zero, List.setIfInBounds_toArray, List.set_cons_zero, List.set_cons_succ]
          refine wpAnyH_take (i := 3) (v := ?_) rfl (by kernel_rfl) (by kernel_rfl) (by kernel_rfl) (fun _ _ _ h => h) (Or.inl ⟨by rfl, ?_⟩) hHeld ?_
          rotate_left
          · intro w' hSw
            clear hSw
            go_simp
            first | done | with_reducible rfl
          simp only [Act.put, List.getElem_toArray, List.getElem_cons_succ, List.getElem_cons_zero, List.setIfInBounds_toArray, List.set_cons_zero, List.set_cons_succ]
          refine wpAnyH_take (i := 4) (v := ?_) rfl (by kernel_rfl) (by kernel_rfl) (by kernel_rfl) (fun _ _ _ h => h) (Or.inl ⟨by rfl, ?_⟩) hHeld ?_
          rotate_left
          · intro w' hSw
            clear hSw
            go_simp
            first | done | with_reducible rfl
          simp only [Act.put, List.getElem_toArray, List.getElem_cons_succ, List.getElem_cons_zero, List.setIfInBounds_toArray, List.set_cons_zero, List.set_cons_succ]
          refine wpAnyH_take (i := 5) (v := ?_) rfl (by kernel_rfl) (by kernel_rfl) (by kernel_rfl) (fun _ _ _ h => h) (Or.inl ⟨by rfl, ?_⟩) hHeld ?_
          rotate_left
          · intro w' hSw
            clear hSw
            go_simp
            first | done | with_reducible rfl
          simp only [Act.put, List.getElem_toArray, List.getElem_cons_succ, List.getElem_cons_zero, List.setIfInBounds_toArray, List.set_cons_zero, List.set_cons_succ]
          refine wpAnyH_take (i := 6) (v := ?_) rfl (by kernel_rfl) (by kernel_rfl) (by kernel_rfl) (fun _ _ _ h => h) (Or.inl ⟨by rfl, ?_⟩) hHeld ?_
          rotate_left
          · intro w' hSw
            clear hSw
            go_simp
            first | done | with_reducible rfl
          simp only [Act.put, List.getElem_toArray, List.getElem_cons_succ, List.getElem_cons_zero, List.setIfInBounds_toArray, List.set_cons_zero, List.set_cons_succ]
          refine wpAnyH_take (i := 7) (v := ?_) rfl (by kernel_rfl) (by kernel_rfl) (by kernel_rfl) (fun _ _ _ h => h) (Or.inl ⟨by rfl, ?_⟩) hHeld ?_
          rotate_left
          · intro w' hSw
            clear hSw
            go_simp
            first | done | with_reducible rfl
          simp only [Act.put, List.getElem_toArray, List.getElem_cons_succ, List.getElem_cons_zero, List.setIfInBounds_toArray, List.set_cons_zero, List.set_cons_succ]
          refine wpAnyH_take (i := 8) (v := ?_) rfl (by kernel_rfl) (by kernel_rfl) (by kernel_rfl) (fun _ _ _ h => h) (Or.inl ⟨by rfl, ?_⟩) hHeld ?_
          rotate_left
          · intro w' hSw
            clear hSw
            go_simp
            first | done | with_reducible rfl
          simp only [Act.put, List.getElem_toArray, List.getElem_cons_succ, List.getElem_cons_zero, List.setIfInBounds_toArray, List.set_cons_zero, List.set_cons_succ]
          refine wpAnyH_take (i := 9) (v := ?_) rfl (by kernel_rfl) (by kernel_rfl) (by kernel_rfl) (fun _ _ _ h => h) (Or.inl ⟨by rfl, ?_⟩) hHeld ?_
          rotate_left
          · intro w' hSw
            clear hSw
            go_simp
            first | done | with_reducible rfl
          simp only [Act.put, List.getElem_toArray, List.getElem_cons_succ, List.getElem_cons_zero, List.setIfInBounds_toArray, List.set_cons_zero, List.set_cons_succ]
          refine wpAnyH_take (i := 11) (v := ?_) rfl (by kernel_rfl) (by kernel_rfl) (by kernel_rfl) (fun _ _ _ h => h) (Or.inl ⟨by rfl, ?_⟩) hHeld ?_
          rotate_left
          · intro w' hSw
            clear hSw
            go_simp
            first | done | with_reducible rfl
          simp only [Act.put, List.getElem_toArray, List.getElem_cons_succ, List.getElem_cons_zero, List.setIfInBounds_toArray, List.set_cons_zero, List.set_cons_succ]
          refine wpAnyH_take (i := 12) (v := ?_) rfl (by kernel_rfl) (by kernel_rfl) (by kernel_rfl) (fun _ _ _ h => h) (Or.inl ⟨by rfl, ?_⟩) hHeld ?_
          rotate_left
          · intro w' hSw
            clear hSw
            go_simp
            first | done | with_reducible rfl
          simp only [Act.put, List.getElem_toArray, List.getElem_cons_succ, List.getElem_cons_zero, List.setIfInBounds_toArray, List.set_cons_zero, List.set_cons_succ]
          refine wpAnyH_take (i := 13) (v := ?_) rfl (by kernel_rfl) (by kernel_rfl) (by kernel_rfl) (fun _ _ _ h => h) (Or.inl ⟨by rfl, ?_⟩) hHeld ?_
          rotate_left
          · intro w' hSw
            clear hSw
            go_simp
            first | done | with_reducible rfl
          simp only [Act.put, List.getElem_toArray, List.getElem_cons_succ, List.getElem_cons_zero, List.setIfInBounds_toArray, List.set_cons_zero, List.set_cons_succ]
          refine wpAnyH_take (i := 14) (v := ?_) rfl (by kernel_rfl) (by kernel_rfl) (by kernel_rfl) (fun _ _ _ h => h) (Or.inl ⟨by rfl, ?_⟩) hHeld ?_
          rotate_left
          · intro w' hSw
            have c0 := hSw.c0
            clear hSw
            go_simp
            first | done | with_reducible rfl
          simp only [Act.put, List.getElem_toArray, List.getElem_cons_succ, List.getElem_cons_zero, List.setIfInBounds_toArray, List.set_cons_zero, List.set_cons_succ]
          refine wpAnyH_take (i := 15) (v := ?_) rfl (by kernel_rfl) (by kernel_rfl) (by kernel_rfl) (fun _ _ _ h => h) (Or.inl ⟨by rfl, ?_⟩) hHeld ?_
          rotate_left
          · intro w' hSw
            clear hSw
            go_simp
            first | done | with_reducible rfl
          simp only [Act.put, List.getElem_toArray, List.getElem_cons_succ, List.getElem_cons_zero, List.setIfInBounds_toArray, List.set_cons_zero, List.set_cons_succ]
          refine wpAnyH_ready (rs := [10]) (by kernel_rfl) (by simp) ?_
          refine AllReadyH.cons rfl (fun K hK => ?_) AllReadyH.nil
          refine stepFnW 18 (.func 18) [.tmp 112] _ [ptr p] [] rfl (by simp [Region.wanted, yielded]) rfl rfl (fun _ _ => rfl) _ HCL.out ?_
          rintro e w1 ⟨rfl, hw1⟩
          refine Or.inl ⟨_, rfl, ?_⟩
          rw [hw1]
          refine hK.out _ _ hHeld (fun hHeld => ?_)
          clear hK K
          simp only [Act.put, List.getElem_toArray, List.getElem_cons_succ, List.getElem_cons_zero, List.setIfInBounds_toArray, List.set_cons_zero, List.set_cons_succ]
          clear hw1
          refine wpAnyH_take (i := 16) (v := ?_) rfl (by kernel_rfl) (by kernel_rfl) (by kernel_rfl) (fun _ _ _ h => h) (Or.inl ⟨by rfl, ?_⟩) hHeld ?_
          rotate_left
          · intro w' hSw
            clear hSw
            go_simp
            first | done | with_reducible rfl
          simp only [Act.put, List.getElem_toArray, List.getElem_cons_succ, List.getElem_cons_zero, List.setIfInBounds_toArray, List.set_cons_zero, List.set_cons_succ]
          refine wpAnyH_take (i := 17) (v := ?_) rfl (by kernel_rfl) (by kernel_rfl) (by kernel_rfl) (fun _ _ _ h => h) (Or.inl ⟨by rfl, ?_⟩) hHeld ?_
          rotate_left
          · intro w' hSw
            clear hSw
            go_simp
            first | done | with_reducible rfl
          simp only [Act.put, List.getElem_toArray, List.getElem_cons_succ, List.getElem_cons_zero, List.setIfInBounds_toArray, List.set_cons_zero, List.set_cons_succ]
          refine wpAnyH_done (by kernel_rfl) ?_ _
          have HQ6 := hid (HQ5.out.on (Gro.refl _).drew.below)
          clear hHeld HCL HC0 HQ5
          go_wp2
          go_roundw
          case rel => exact ⟨i + 1, _, _, by rw [show (((i + 1 : Nat) : Nat) : Int) = (i : Int) + 1 by omega], hi, HQ6.out, HG5.out⟩
          case measure => simp [intOf]; omega
        · have hq1 : (x.dw == 1) = false := beq_eq_false_iff_ne.2 hx1
          have C1 := hid (getN HQ3.out.st.st x.hi)
          clear c1 c2 c3 c5 hx0 hx1
          have HGy : Hid (∃ y bb, gy all x.hi = y ∧ inL all x.hi = bb) := ⟨_, _, rfl, rfl⟩
          obtain ⟨y, bb, ey, eb⟩ := HGy.out
          rw [ey, eb] at C1
          go_upto_region 13 with (first
            | (go_at_call 15; refine (C1.out).mono ?_; rintro e W4 ⟨a2, n2, k2, rfl, hb, hcy⟩; have H4 := hid (And.intro hb hcy); clear hb hcy C1)
            | (refine stNew 41 (.tmp 11) (.tmp 41) rfl rfl _ 41 (ndc (nilS, zNd)) (ndc (.slice a2 n2 k2, y)) rfl rfl rfl (infoNODE _) rfl (ndc_one rfl _) ?_))
          have hal : Below W4.heap.size W4 (W4.alloc (.cells (ndc (.slice a2 n2 k2, y)) 41)) := (Below.refl _ _).alloc (Nat.le_refl _) _
          have hB4 := H4.out.1.trans (hal.mono H4.out.1.size)
          have HQ4 := hid (HQ3.out.on hB4)
          have HY4 := hid (H4.out.2.on hal)
          have hnew := heap_alloc_new W4 (.cells (ndc (.slice a2 n2 k2, y)) 41)
          have hx4 := (hB4.block P6 (Array.getElem?_eq_some_iff.1 HX.out).1).trans HX.out
          clear hal hB4 H4 HQ3 c0 c4 hq0 hq1
          generalize W4.alloc (.cells (ndc (.slice a2 n2 k2, y)) 41) = W6 at HQ4 HY4 hnew hx4 ⊢
          generalize W4.heap.size = P11 at HY4 hnew ⊢
          obtain ⟨-, -, -, -, c4, -⟩ := HacOf.out W6 hx4
          have H11 := hid hnew
          have C2 := hid (getR HQ4.out.rs x.hi)
          rw [ey, eb] at C2
          clear hnew hx4
          go_upto_region 14 with (first
            | (go_at_call 16; refine (C2.out).mono ?_; rintro e W7 ⟨a3, n3, k3, rfl, hb, hcy⟩; have H7 := hid (And.intro hb hcy); clear hb hcy C2)
            | (refine stNew 41 (.tmp 13) (.tmp 48) rfl rfl _ 41 (ndc (nilS, zNd)) (ndc (.slice a3 n3 k3, y)) rfl rfl rfl (infoNODE _) rfl (ndc_one rfl _) ?_))
          have hal : Below W7.heap.size W7 (W7.alloc (.cells (ndc (.slice a3 n3 k3, y)) 41)) := (Below.refl _ _).alloc (Nat.le_refl _) _
          have hB7 := H7.out.1.trans (hal.mono H7.out.1.size)
          have HQ7 := hid (HQ4.out.on hB7)
          have HY7 := hid (And.intro (HY4.out.on hB7) (H7.out.2.on hal))
          have hnew := heap_alloc_new W7 (.cells (ndc (.slice a3 n3 k3, y)) 41)
          have H11b := hid ((hB7.block _ (Array.getElem?_eq_some_iff.1 H11.out).1).trans H11.out)
          clear hal hB7 H7 HQ4 HY4 H11 c4
          generalize W7.alloc (.cells (ndc (.slice a3 n3 k3, y)) 41) = W8 at HQ7 HY7 hnew H11b ⊢
          generalize W7.heap.size = P13 at HY7 hnew ⊢
          have H13 := hid hnew
          have tb : (bb != bb) = false := by simp
          have CA := hid (alike_yes W8 _ _ y HY7.out.1 HY7.out.2)
          clear hnew ey eb
          go_upto_region 22 with (first
            | (refine ldRow 41 (.tmp 11) rfl rfl P11 rfl 41 (ndc (.slice a2 n2 k2, y)) _ Tryd.underlying41 rfl (infoNODE _) H11b.out ?_)
            | (refine ldRow 41 (.tmp 13) rfl rfl P13 rfl 41 (ndc (.slice a3 n3 k3, y)) _ Tryd.underlying41 rfl (infoNODE _) H13.out ?_)
            | (go_at_call 17; refine (CA.out).mono ?_; rintro e W5 ⟨rfl, hb⟩; have HQ5 := hid (HQ7.out.on hb); clear hb CA HQ7))
          have HG5 : Hid (GoodN all ∧ all.length ≤ i + 1) := ⟨HGd.out.1, by have := HGd.out.2; omega⟩
          clear tb HY7 H11b H13
          obtain ⟨vb, db, hb1, hb2, -, hb4, -, -⟩ := HQ5.out.rs
          obtain ⟨ab, cb, rfl⟩ := hb4.form
          have HC0 : Hid (Hq0 q (.slice ab db.length cb) W5) := ⟨(cell_of_row _ _ _ _ _ _ hb2).trans rfl⟩
          have hcl := len_any (HQ5.out.on (Gro.refl _).drew.below).st.st
          rw [show all.length = db.length by rw [← hb1]; simp] at hcl
          have HCL := hid hcl
          have tl : (((db.length : Nat) : Int) != ((db.length : Nat) : Int)) = false := by simp
          clear hb1 hb2 hb4 hcl
          refine wp_region_held_drew (S := Hq0 q (.slice ab db.length cb)) (by kernel_rfl) ⟨HC0.out.c0⟩ (fun hHeld => ?_)
          refine wpAnyH_take (i := 0) (v := ?_) rfl (by kernel_rfl) (by kernel_rfl) (by kernel_rfl) (fun _ _ _ h => h) (Or.inl ⟨by rfl, ?_⟩) hHeld ?_
          rotate_left
          · intro w' hSw
            clear hSw
            go_simp
            first | done | with_reducible rfl
          simp only [Act.put, List.getElem_toArray, List.getElem_cons_zero, List.setIfInBounds_toArray, List.set_cons_zero, List.set_cons_succ]
          refine wpAnyH_take (i := 1) (v := ?_) rfl (by kernel_rfl) (by kernel_rfl) (by kernel_rfl) (fun _ _ _ h => h) (Or.inl ⟨by rfl, ?_⟩) hHeld ?_
          rotate_left
          · intro w' hSw
            clear hSw
            go_simp
            first | done | with_reducible rfl
          simp only [Act.put, List.getElem_toArray, List.getElem_cons_succ, List.getElem_cons_zero, List.setIfInBounds_toArray, List.set_cons_zero, List.set_cons_succ]
          refine wpAnyH_take (i := 2) (v := ?_) rfl (by kernel_rfl) (by kernel_rfl) (by kernel_rfl) (fun _ _ _ h => h) (Or.inl ⟨by rfl, ?_⟩) hHeld ?_
          rotate_left
          · intro w' hSw
            clear hSw
            go_simp
            first | done | with_reducible rfl
          simp only [Act.put, List.getElem_toArray, List.getElem_cons_succ, List.getElem_cons_zero, List.setIfInBounds_toArray, List.set_cons_zero, List.set_cons_succ]
          refine wpAnyH_take (i := 3) (v := ?_) rfl (by kernel_rfl) (by kernel_rfl) (by kernel_rfl) (fun _ _ _ h => h) (Or.inl ⟨by rfl, ?_⟩) hHeld ?_
          rotate_left
          · intro w' hSw
            clear hSw
            go_simp
            first | done | with_reducible rfl
          simp only [Act.put, List.getElem_toArray, List.getElem_cons_succ, List.getElem_cons_zero, List.setIfInBounds_toArray, List.set_cons_zero, List.set_cons_succ]
          refine wpAnyH_take (i := 4) (v := ?_) rfl (by kernel_rfl) (by kernel_rfl) (by kernel_rfl) (fun _ _ _ h => h) (Or.inl ⟨by rfl, ?_⟩) hHeld ?_
          rotate_left
          · intro w' hSw
            clear hSw
            go_simp
            first | done | with_reducible rfl
          simp only [Act.put, List.getElem_toArray, List.getElem_cons_succ, List.getElem_cons_zero, List.setIfInBounds_toArray, List.set_cons_zero, List.set_cons_succ]
          refine wpAnyH_take (i := 5) (v := ?_) rfl (by kernel_rfl) (by kernel_rfl) (by kernel_rfl) (fun _ _ _ h => h) (Or.inl ⟨by rfl, ?_⟩) hHeld ?_
          rotate_left
          · intro w' hSw
            clear hSw
            go_simp
            first | done | with_reducible rfl
          simp only [Act.put, List.getElem_toArray, List.getElem_cons_succ, List.getElem_cons_zero, List.setIfInBounds_toArray, List.set_cons_zero, List.set_cons_succ]
          refine wpAnyH_take (i := 6) (v := ?_) rfl (by kernel_rfl) (by kernel_rfl) (by kernel_rfl) (fun _ _ _ h => h) (Or.inl ⟨by rfl, ?_⟩) hHeld ?_
          rotate_left
          · intro w' hSw
            clear hSw
            go_simp
            first | done | with_reducible rfl
          simp only [Act.put, List.getElem_toArray, List.getElem_cons_succ, List.getElem_cons_zero, List.setIfInBounds_toArray, List.set_cons_zero, List.set_cons_succ]
          refine wpAnyH_take (i := 7) (v := ?_) rfl (by kernel_rfl) (by kernel_rfl) (by kernel_rfl) (fun _ _ _ h => h) (Or.inl ⟨by rfl, ?_⟩) hHeld ?_
          rotate_left
          · intro w' hSw
            clear hSw
            go_simp
            first | done | with_reducible rfl
          simp only [Act.put, List.getElem_toArray, List.getElem_cons_succ, List.getElem_cons_zero, List.setIfInBounds_toArray, List.set_cons_zero, List.set_cons_succ]
          refine wpAnyH_take (i := 8) (v := ?_) rfl (by kernel_rfl) (by kernel_rfl) (by kernel_rfl) (fun _ _ _ h => h) (Or.inl ⟨by rfl, ?_⟩) hHeld ?_
          rotate_left
          · intro w' hSw
            clear hSw
            go_simp
            first | done | with_reducible rfl
          simp only [Act.put, List.getElem_toArray, List.getElem_cons_succ, List.getElem_cons_zero, List.setIfInBounds_toArray, List.set_cons_zero, List.set_cons_succ]
          refine wpAnyH_take (i := 9) (v := ?_) rfl (by kernel_rfl) (by kernel_rfl) (by kernel_rfl) (fun _ _ _ h => h) (Or.inl ⟨by rfl, ?_⟩) hHeld ?_
          rotate_left
          · intro w' hSw
            clear hSw
            go_simp
            first | done | with_reducible rfl
          simp only [Act.put, List.getElem_toArray, List.getElem_cons_succ, List.getElem_cons_zero, List.setIfInBounds_toArray, List.set_cons_zero, List.set_cons_succ]
          refine wpAnyH_take (i := 11) (v := ?_) rfl (by kernel_rfl) (by kernel_rfl) (by kernel_rfl) (fun _ _ _ h => h) (Or.inl ⟨by rfl, ?_⟩) hHeld ?_
          rotate_left
          · intro w' hSw
            clear hSw
            go_simp
            first | done | with_reducible rfl
          simp only [Act.put, List.getElem_toArray, List.getElem_cons_succ, List.getElem_cons_zero, List.setIfInBounds_toArray, List.set_cons_zero, List.set_cons_succ]
          refine wpAnyH_take (i := 12) (v := ?_) rfl (by kernel_rfl) (by kernel_rfl) (by kernel_rfl) (fun _ _ _ h => h) (Or.inl ⟨by rfl, ?_⟩) hHeld ?_
          rotate_left
          · intro w' hSw
            clear hSw
            go_simp
            first | done | with_reducible rfl
          simp only [Act.put, List.getElem_toArray, List.getElem_cons_succ, List.getElem_cons_zero, List.setIfInBounds_toArray, List.set_cons_zero, List.set_cons_succ]
          refine wpAnyH_take (i := 13) (v := ?_) rfl (by kernel_rfl) (by kernel_rfl) (by kernel_rfl) (fun _ _ _ h => h) (Or.inl ⟨by rfl, ?_⟩) hHeld ?_
          rotate_left
          · intro w' hSw
            clear hSw
            go_simp
            first | done | with_reducible rfl
          simp only [Act.put, List.getElem_toArray, List.getElem_cons_succ, List.getElem_cons_zero, List.setIfInBounds_toArray, List.set_cons_zero, List.set_cons_succ]
          refine wpAnyH_take (i := 14) (v := ?_) rfl (by kernel_rfl) (by kernel_rfl) (by kernel_rfl) (fun _ _ _ h => h) (Or.inl ⟨by rfl, ?_⟩) hHeld ?_
          rotate_left
          · intro w' hSw
            have c0 := hSw.c0
            clear hSw
            go_simp
            first | done | with_reducible rfl
          simp only [Act.put, List.getElem_toArray, List.getElem_cons_succ, List.getElem_cons_zero, List.setIfInBounds_toArray, List.set_cons_zero, List.set_cons_succ]
          refine wpAnyH_take (i := 15) (v := ?_) rfl (by kernel_rfl) (by kernel_rfl) (by kernel_rfl) (fun _ _ _ h => h) (Or.inl ⟨by rfl, ?_⟩) hHeld ?_
          rotate_left
          · intro w' hSw
            clear hSw
            go_simp
            first | done | with_reducible rfl
          simp only [Act.put, List.getElem_toArray, List.getElem_cons_succ, List.getElem_cons_zero, List.setIfInBounds_toArray, List.set_cons_zero, List.set_cons_succ]
          refine wpAnyH_ready (rs := [10]) (by kernel_rfl) (by simp) ?_
          refine AllReadyH.cons rfl (fun K hK => ?_) AllReadyH.nil
          refine stepFnW 18 (.func 18) [.tmp 112] _ [ptr p] [] rfl (by simp [Region.wanted, yielded]) rfl rfl (fun _ _ => rfl) _ HCL.out ?_
          rintro e w1 ⟨rfl, hw1⟩
          refine Or.inl ⟨_, rfl, ?_⟩
          rw [hw1]
          refine hK.out _ _ hHeld (fun hHeld => ?_)
          clear hK K
          simp only [Act.put, List.getElem_toArray, List.getElem_cons_succ, List.getElem_cons_zero, List.setIfInBounds_toArray, List.set_cons_zero, List.set_cons_succ]
          clear hw1
          refine wpAnyH_take (i := 16) (v := ?_) rfl (by kernel_rfl) (by kernel_rfl) (by kernel_rfl) (fun _ _ _ h => h) (Or.inl ⟨by rfl, ?_⟩) hHeld ?_
          rotate_left
          · intro w' hSw
            clear hSw
            go_simp
            first | done | with_reducible rfl
          simp only [Act.put, List.getElem_toArray, List.getElem_cons_succ, List.getElem_cons_zero, List.setIfInBounds_toArray, List.set_cons_zero, List.set_cons_succ]
          refine wpAnyH_take (i := 17) (v := ?_) rfl (by kernel_rfl) (by kernel_rfl) (by kernel_rfl) (fun _ _ _ h => h) (Or.inl ⟨by rfl, ?_⟩) hHeld ?_
          rotate_left
          · intro w' hSw
            clear hSw
            go_simp
            first | done | with_reducible rfl
          simp only [Act.put, List.getElem_toArray, List.getElem_cons_succ, List.getElem_cons_zero, List.setIfInBounds_toArray, List.set_cons_zero, List.set_cons_succ]
          refine wpAnyH_done (by kernel_rfl) ?_ _
          have HQ6 := hid (HQ5.out.on (Gro.refl _).drew.below)
          clear hHeld HCL HC0 HQ5
          go_wp2
          go_roundw
          case rel => exact ⟨i + 1, _, _, by rw [show (((i + 1 : Nat) : Nat) : Int) = (i : Int) + 1 by omega], hi, HQ6.out, HG5.out⟩
          case measure => simp [intOf]; omega
    · have hd : decide ((i : Int) < (l.length : Int)) = false := by simp; omega
      obtain ⟨vb, db, hb1, hb2, hb3, hb4, hb5, hb6⟩ := HQ.out.rs
      obtain ⟨ab, cb, rfl⟩ := hb4.form
      have hdl : db.length = all.length := by rw [← hb1]; simp
      have HRQ : Hid (RQ D q (.slice ab db.length cb) db wr) := ⟨hb2, hb4, hb6⟩
      have HAl := hid hb1
      have hlen : db.length ≤ 200 := by have := HGd.out.2; have := HL2.out; omega
      have HDL := hid (And.intro hdl hlen)
      clear hb1 hb2 hb3 hb4 hb5 hb6 hdl hlen
      go_upto_region 24 with fail
      clear hd
      obtain ⟨W3, hW3⟩ : ∃ W3, W3 = wr := ⟨_, rfl⟩
      subst hW3
      go_upto_region 25 with fail
      go_loopw [15] (fun si wr => ∃ k : Nat, si = .int .i64 ((k : Nat) : Int) ∧ k ≤ db.length ∧ Hid (Below W3.heap.size W3 wr)) (fun si _ => db.length - (intOf si).toNat)
      case atStart => exact ⟨0, rfl, Nat.zero_le _, Below.refl _ _⟩
      case round =>
        obtain ⟨k, rfl, hk1, HB⟩ := hrel
        have HQr := hid (HQ.out.on HB.out)
        have HRr := hid (HRQ.out.on HB.out)
        have cq : wr.cell? ⟨q, 0, none⟩ = some (.slice ab db.length cb) := (cell_of_row _ _ _ _ _ _ HRr.out.hp).trans rfl
        by_cases hk : k < db.length
        · have hdk : decide ((k : Int) < (db.length : Int)) = true := by simp; omega
          have hkw : IntKind.i64.wrap ((k : Int) + 1) = (k : Int) + 1 := by rw [IntKind.wrap_i64]; have := HDL.out.2; omega
          have hka : k < all.length := by have := HDL.out.1; omega
          have C1 := hid (getN HQr.out.st.st ((k : Nat) : Int))
          have e1 : inL all ((k : Nat) : Int) = true := by simp only [inL, Bool.and_eq_true, decide_eq_true_eq]; omega
          have e2 : gy all ((k : Nat) : Int) = db[k].2 := by
            unfold gy
            rw [e1, if_pos rfl, nd_atI k hka]
            simp [← HAl.out]
          rw [e1, e2] at C1
          have hlf := HRr.out.lf _ (List.getElem_mem hk)
          obtain ⟨g, o, rfl, -, hcap2, hgl, hra⟩ := HRr.out.rw.rg flN5 rfl k hk
          have hkc : k < cb := by omega
          have hra : wr.rangeAt g (o + k * 5) (ndc (db[k].1, db[k].2)).toList := hra
          clear e1 e2 hcap2 hka
          generalize db[k].1 = u0 at hlf hra
          generalize db[k].2 = y at hlf hra C1
          obtain ⟨a0, k0, rfl, -⟩ := hlf.form
          have HRg := hid (And.intro hgl hra)
          have HLF := hid hlf
          clear hra hlf hgl
          go_upto_region 28 with (first
            | (go_at_call 15; refine (C1.out).mono ?_; rintro e W4 ⟨a2, n2, k2, rfl, hb, hcy⟩; have H4 := hid (And.intro hb hcy); clear hb hcy C1)
            | (refine stNew 41 (.tmp 16) (.tmp 134) rfl rfl _ 41 (ndc (nilS, zNd)) (ndc (.slice a2 n2 k2, y)) rfl rfl rfl (infoNODE _) rfl (ndc_one rfl _) ?_))
          have hal : Below W4.heap.size W4 (W4.alloc (.cells (ndc (.slice a2 n2 k2, y)) 41)) := (Below.refl _ _).alloc (Nat.le_refl _) _
          have hB4 := H4.out.1.trans (hal.mono H4.out.1.size)
          have HB4 := hid (HB.out.trans (hB4.mono HB.out.size))
          have HY4 := hid (And.intro (H4.out.2.on hal) (HLF.out.on hB4))
          have hnew := heap_alloc_new W4 (.cells (ndc (.slice a2 n2 k2, y)) 41)
          have HH : Hid (Hq1 q W4.heap.size g (o + k * 5) (.slice (some ⟨g, o, none⟩) db.length cb) (.slice a2 n2 k2, y) (.slice a0 y.lf.length k0, y) (W4.alloc (.cells (ndc (.slice a2 n2 k2, y)) 41))) := ⟨cell_on hB4 cq, range_of fun i hi => by rw [Nat.zero_add, cell_of_row _ _ _ _ _ _ hnew], fun q z hz => (cell_same (hB4.block _ HRg.out.1)).trans (HRg.out.2 q z hz)⟩
          clear hal hB4 H4 HB HQr HRr HLF HRg cq hdk hnew
          generalize W4.alloc (.cells (ndc (.slice a2 n2 k2, y)) 41) = W6 at HB4 HY4 HH ⊢
          generalize W4.heap.size = P16 at HY4 HH ⊢
          have hdr : Below W6.heap.size W6 W6.drew := (Gro.refl _).drew.below
          have CA := hid (alike_yes W6.drew _ _ y (HY4.out.1.on hdr) (HY4.out.2.on hdr))
          have HB6 := hid (HB4.out.trans (hdr.mono HB4.out.size))
          have HG6 : Hid (P16 < W6.drew.heap.size ∧ g < W6.drew.heap.size ∧ q < W6.drew.heap.size) := ⟨cell_lt (HH.out.rp 0 _ rfl), cell_lt (HH.out.rg 0 _ rfl), cell_lt HH.out.c0⟩
          clear hdr HY4 HB4
          refine wp_region_held_drew (S := Hq1 q P16 g (o + k * 5) (.slice (some ⟨g, o, none⟩) db.length cb) (.slice a2 n2 k2, y) (.slice a0 y.lf.length k0, y)) (by kernel_rfl) ⟨HH.out.c0, HH.out.rp, HH.out.rg⟩ (fun hHeld => ?_)
          refine wpAnyH_take (i := 0) (v := ?_) rfl (by kernel_rfl) (by kernel_rfl) (by kernel_rfl) (fun _ _ _ h => h) (Or.inl ⟨by rfl, ?_⟩) hHeld ?_
          rotate_left
          · intro w' hSw
            clear hSw
            go_simp
            first | done | with_reducible rfl
          simp only [Act.put, List.getElem_toArray, List.getElem_cons_zero, List.setIfInBounds_toArray, List.set_cons_zero, List.set_cons_succ]
          refine wpAnyH_take (i := 1) (v := ?_) rfl (by kernel_rfl) (by kernel_rfl) (by kernel_rfl) (fun _ _ _ h => h) (Or.inl ⟨by rfl, ?_⟩) hHeld ?_
          rotate_left
          · intro w' hSw
            clear hSw
            go_simp
            first | done | with_reducible rfl
          simp only [Act.put, List.getElem_toArray, List.getElem_cons_succ, List.getElem_cons_zero, List.setIfInBounds_toArray, List.set_cons_zero, List.set_cons_succ]
          refine wpAnyH_take (i := 2) (v := ?_) rfl (by kernel_rfl) (by kernel_rfl) (by kernel_rfl) (fun _ _ _ h => h) (Or.inl ⟨by rfl, ?_⟩) hHeld ?_
          rotate_left
          · intro w' hSw
            clear hSw
            go_simp
            first | done | with_reducible rfl
          simp only [Act.put, List.getElem_toArray, List.getElem_cons_succ, List.getElem_cons_zero, List.setIfInBounds_toArray, List.set_cons_zero, List.set_cons_succ]
          refine wpAnyH_take (i := 3) (v := .agg (ndc (.slice a2 n2 k2, y))) rfl (by kernel_rfl) (by kernel_rfl) (by kernel_rfl) (fun _ _ _ h => h) (Or.inl ⟨by rfl, ?_⟩) hHeld ?_
          · intro w' hSw
            exact runLd 41 (.tmp 16) rfl P16 0 rfl (ndc (.slice a2 n2 k2, y)) _ hSw.rp Tryd.underlying41 rfl (infoNODE _)
          simp only [Act.put, List.getElem_toArray, List.getElem_cons_succ, List.getElem_cons_zero, List.setIfInBounds_toArray, List.set_cons_zero, List.set_cons_succ]
          refine wpAnyH_take (i := 4) (v := ?_) rfl (by kernel_rfl) (by kernel_rfl) (by kernel_rfl) (fun _ _ _ h => h) (Or.inl ⟨by rfl, ?_⟩) hHeld ?_
          rotate_left
          · intro w' hSw
            clear hSw
            go_simp
            first | done | with_reducible rfl
          simp only [Act.put, List.getElem_toArray, List.getElem_cons_succ, List.getElem_cons_zero, List.setIfInBounds_toArray, List.set_cons_zero, List.set_cons_succ]
          refine wpAnyH_take (i := 5) (v := ?_) rfl (by kernel_rfl) (by kernel_rfl) (by kernel_rfl) (fun _ _ _ h => h) (Or.inl ⟨by rfl, ?_⟩) hHeld ?_
          rotate_left
          · intro w' hSw
            clear hSw
            go_simp
            first | done | with_reducible rfl
          simp only [Act.put, List.getElem_toArray, List.getElem_cons_succ, List.getElem_cons_zero, List.setIfInBounds_toArray, List.set_cons_zero, List.set_cons_succ]
          refine wpAnyH_take (i := 6) (v := ?_) rfl (by kernel_rfl) (by kernel_rfl) (by kernel_rfl) (fun _ _ _ h => h) (Or.inl ⟨by rfl, ?_⟩) hHeld ?_
          rotate_left
          · intro w' hSw
            clear hSw
            go_simp
            first | done | with_reducible rfl
          simp only [Act.put, List.getElem_toArray, List.getElem_cons_succ, List.getElem_cons_zero, List.setIfInBounds_toArray, List.set_cons_zero, List.set_cons_succ]
          refine wpAnyH_take (i := 7) (v := ?_) rfl (by kernel_rfl) (by kernel_rfl) (by kernel_rfl) (fun _ _ _ h => h) (Or.inl ⟨by rfl, ?_⟩) hHeld ?_
          rotate_left
          · intro w' hSw
            have c0 := hSw.c0
            clear hSw
            go_simp
            first | done | with_reducible rfl
          simp only [Act.put, List.getElem_toArray, List.getElem_cons_succ, List.getElem_cons_zero, List.setIfInBounds_toArray, List.set_cons_zero, List.set_cons_succ]
          refine wpAnyH_take (i := 8) (v := ?_) rfl (by kernel_rfl) (by kernel_rfl) (by kernel_rfl) (fun _ _ _ h => h) (Or.inl ⟨by rfl, ?_⟩) hHeld ?_
          rotate_left
          · intro w' hSw
            clear hSw
            go_simp
            first | done | with_reducible rfl
          simp only [Act.put, List.getElem_toArray, List.getElem_cons_succ, List.getElem_cons_zero, List.setIfInBounds_toArray, List.set_cons_zero, List.set_cons_succ]
          refine wpAnyH_take (i := 9) (v := ?_) rfl (by kernel_rfl) (by kernel_rfl) (by kernel_rfl) (fun _ _ _ h => h) (Or.inl ⟨by rfl, ?_⟩) hHeld ?_
          rotate_left
          · intro w' hSw
            clear hSw
            go_simp
            first | done | with_reducible rfl
          simp only [Act.put, List.getElem_toArray, List.getElem_cons_succ, List.getElem_cons_zero, List.setIfInBounds_toArray, List.set_cons_zero, List.set_cons_succ]
          refine wpAnyH_take (i := 10) (v := .agg (ndc (.slice a0 y.lf.length k0, y))) rfl (by kernel_rfl) (by kernel_rfl) (by kernel_rfl) (fun _ _ _ h => h) (Or.inl ⟨by rfl, ?_⟩) hHeld ?_
          · intro w' hSw
            exact runLd 41 (.tmp 145) rfl g (o + k * 5) rfl (ndc (.slice a0 y.lf.length k0, y)) _ hSw.rg Tryd.underlying41 rfl (infoNODE _)
          simp only [Act.put, List.getElem_toArray, List.getElem_cons_succ, List.getElem_cons_zero, List.setIfInBounds_toArray, List.set_cons_zero, List.set_cons_succ]
          refine wpAnyH_ready (rs := [11]) (by kernel_rfl) (by simp) ?_
          refine AllReadyH.cons rfl (fun K hK => ?_) AllReadyH.nil
          refine stepFnW 17 (.func 17) [.tmp 139, .tmp 146] _ [.agg (ndc (.slice a2 n2 k2, y)), .agg (ndc (.slice a0 y.lf.length k0, y))] [] rfl (by simp [Region.wanted, yielded]) rfl rfl (fun _ _ => rfl) _ CA.out ?_
          rintro e w1 ⟨rfl, hb⟩
          refine Or.inl ⟨_, rfl, ?_⟩
          have HB7 := hid (HB6.out.trans (hb.mono HB6.out.size))
          have HH7 : Hid (Hq1 q P16 g (o + k * 5) (.slice (some ⟨g, o, none⟩) db.length cb) (.slice a2 n2 k2, y) (.slice a0 y.lf.length k0, y) w1) := ⟨(cell_same (hb.block _ HG6.out.2.2)).trans HH.out.c0, fun q z hz => (cell_same (hb.block _ HG6.out.1)).trans (HH.out.rp q z hz), fun q z hz => (cell_same (hb.block _ HG6.out.2.1)).trans (HH.out.rg q z hz)⟩
          clear hb hHeld HH CA HB6
          refine hK.out _ _ HH7.out (fun hHeld => ?_)
          clear hK K
          simp only [Act.put, List.getElem_toArray, List.getElem_cons_succ, List.getElem_cons_zero, List.setIfInBounds_toArray, List.set_cons_zero, List.set_cons_succ]
          refine wpAnyH_take (i := 12) (v := ?_) rfl (by kernel_rfl) (by kernel_rfl) (by kernel_rfl) (fun _ _ _ h => h) (Or.inl ⟨by rfl, ?_⟩) hHeld ?_
          rotate_left
          · intro w' hSw
            clear hSw
            go_simp
            first | done | with_reducible rfl
          simp only [Act.put, List.getElem_toArray, List.getElem_cons_succ, List.getElem_cons_zero, List.setIfInBounds_toArray, List.set_cons_zero, List.set_cons_succ]
          refine wpAnyH_take (i := 13) (v := ?_) rfl (by kernel_rfl) (by kernel_rfl) (by kernel_rfl) (fun _ _ _ h => h) (Or.inl ⟨by rfl, ?_⟩) hHeld ?_
          rotate_left
          · intro w' hSw
            clear hSw
            go_simp
            first | done | with_reducible rfl
          simp only [Act.put, List.getElem_toArray, List.getElem_cons_succ, List.getElem_cons_zero, List.setIfInBounds_toArray, List.set_cons_zero, List.set_cons_succ]
          refine wpAnyH_done (by kernel_rfl) ?_ _
          clear hHeld HH7
          go_wp2
          go_roundw
          case rel => exact ⟨k + 1, by rw [show (((k + 1 : Nat) : Nat) : Int) = (k : Int) + 1 by omega], hk, HB7⟩
          case measure => simp [intOf]; omega
        · have hdk : decide ((k : Int) < (db.length : Int)) = false := by simp; omega
          have HWk := hid (wakes_any w.heap.size wr HQr.out.tab HQr.out.low.size)
          go_wp2_with (go_at_call 9; refine (HWk.out).mono ?_; rintro e W4 ⟨rfl, hb⟩; have HB4 := hid (HQr.out.low.trans (hb.mono HQr.out.low.size)); clear hb HWk)
          go_ret
          exact ⟨rfl, HB4.out⟩
end Go.Proofs.YtggbokghhohofaaDoor
