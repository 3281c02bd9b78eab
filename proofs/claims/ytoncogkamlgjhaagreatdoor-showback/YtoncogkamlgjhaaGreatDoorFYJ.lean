/-
  Proved here: tellFilter, tell of package show. Conditions: the tables.
-/
import Derived.Test.YtoncogkamlgjhaaGreatDoorFYI
namespace Go.Proofs.YtoncogkamlgjhaaGreatDoor
set_option maxRecDepth 100000
open Go.RowKit
set_option maxRecDepth 100000

theorem tks_op {op fd n : Nat} {ks : List Tm} (h : op = 4 ∨ op = 5 ∨ op = 8 ∨ op = 9) : tks (.mk op fd n ks) = tkk op true ks := by
  rw [tks]
  rcases h with rfl | rfl | rfl | rfl <;> rfl
theorem tks_6 (fd n : Nat) (ks : List Tm) : tks (.mk 6 fd n ks) = tkF ks (tkk 6 true ks) := by
  rw [tks, if_neg (by decide), if_neg (by decide), if_neg (by decide), if_neg (by decide), if_pos rfl]
/-- what tell's own turn holds -/
theorem tmv_alloc {S : Nat → Prop} {w : World} {t : Tm} {cs : Array Value} (ht : UmV (fun b => ¬ S b ∧ b < w.heap.size) w t cs) (o : Obj) : UmV (fun b => ¬ S b ∧ b < (w.alloc o).heap.size) (w.alloc o) t cs := um_on ht fun b hb hS => ⟨⟨hS.1, by simp; omega⟩, heap_alloc_old _ _ hb⟩
set_option maxHeartbeats 12800000 in
theorem filt_any (N : Nat) (hIH : Tl N) (fd n : Nat) (k : Tm) (cs : Array Value) (S : Nat → Prop) (R : Nat) (ws : List ByteArray) (w : World) (hN : szs [k] ≤ N) (hN4 : N ≤ 4096) (hok : okT true k = true) (ht : UmV (fun b => ¬ S b ∧ b < w.heap.size) w (.mk 6 fd n [k]) cs) (hW : Ws S R ws w) (hT : TabS w) (hl : ws.length + 6 * szs [k] + 5 ≤ 1000000) : Calls Tryz.prog 42 #[.agg cs, sayV R] w (TlP S R ws (tkF [k] (tkk 6 true [k])) w) := by
  have ht' := ht
  obtain ⟨v, xs, rfl, h2, h3⟩ := ht.get
  obtain ⟨ao, cap, rfl⟩ := h2.form
  obtain ⟨g, p, rfl, hcap, -, hgl, ds, hk, hra⟩ := tmL_at h2 h3 (j := 0) (by simp)
  have hcap1 : 1 ≤ cap := hcap
  obtain ⟨kop, kfd, kn, kks⟩ := k
  obtain ⟨kv, kxs, e, -, -⟩ := UmV.get (show UmV _ _ (.mk kop kfd kn kks) ds from hk)
  subst e
  have hc0 : w.cell? ⟨g, p, none⟩ = some (.int .i8 ((kop : Nat) : Int)) := by
    have := hra 0 (.int .i8 ((kop : Nat) : Int)) rfl
    simpa using this
  have hgz : 9 ≤ w.heap.size := by have := hW.gl R hW.r; have := hW.lt R hW.r; omega
  have hb1 : Below w.heap.size w (w.alloc (.cells (tmc 6 fd n (.slice (some ⟨g, p, none⟩) 1 cap)) 26)) := (Below.refl _ _).alloc (Nat.le_refl _) _
  have hN1 : (w.alloc (.cells (tmc 6 fd n (.slice (some ⟨g, p, none⟩) 1 cap)) 26)).heap[w.heap.size]? = some (.cells (tmc 6 fd n (.slice (some ⟨g, p, none⟩) 1 cap)) 26 (0, 0)) := heap_alloc_new _ _
  have hc1 : (w.alloc (.cells (tmc 6 fd n (.slice (some ⟨g, p, none⟩) 1 cap)) 26)).cell? ⟨g, p, none⟩ = some (.int .i8 ((kop : Nat) : Int)) := (cell_same (hb1.block g hgl)).trans hc0
  have d3 := (four_cells hN1).2.2.2
  have HTm := hid (tmv_alloc ht' (.cells (tmc 6 fd n (.slice (some ⟨g, p, none⟩) 1 cap)) 26))
  have HWs := hid (hW.bel hb1)
  have HTb := hid (hT.on hb1 hgz)
  have HB := hid hb1
  have HN1 := hid hN1
  have HIH := hid hIH
  have HOK := hid hok
  have HNg : Hid (¬ S w.heap.size) := fun e => by have := hW.lt _ e; omega
  have HE : Hid (tkF [Tm.mk kop kfd kn kks] (tkk 6 true [Tm.mk kop kfd kn kks]) = if kop = 1 then [tN Qid] else if kop = 0 then [tN Qdrop] else tN Qfilter :: tkk 6 true [Tm.mk kop kfd kn kks]) := by show _ = _; rw [tkF]; rfl
  clear ht ht' h2 h3 hk hra hW hT hIH hok hb1 hN1 hc0
  go_enter Tryz.func42, Tryz.ntmps42
  go_upto_region 1 with fail
  generalize w.alloc (.cells #[.int .i8 ((6 : Nat) : Int), .int .i8 ((fd : Nat) : Int), .int .u64 ((n : Nat) : Int), .slice (some ⟨g, p, none⟩) 1 cap] 26) = W1 at hc1 d3 HTm HWs HTb HB HN1 ⊢
  by_cases h1 : kop = 1
  · have e1 : (((kop : Nat) : Int) == 1) = true := by rw [h1]; rfl
    have HSy := hid (say1 HWs.out Qid (by omega))
    have HE1 : Hid (tkF [Tm.mk kop kfd kn kks] (tkk 6 true [Tm.mk kop kfd kn kks]) = [tN Qid]) := by show _ = _; rw [HE.out, if_pos h1]
    clear h1 HE HTm
    go_wp2_with (go_at_call 23; refine (HSy.out).mono ?_; rintro e w6 ⟨rfl, S6, q1, q2⟩; have HX := hid (And.intro q1 (((Sw.refl S w).bel HB.out).trans q2)); clear q1 q2)
    first | go_end0 | refine bodyPost_ret (results_none rfl _ _ _) rfl ?_
    exact ⟨rfl, S6, by rw [HE1.out]; exact HX.out.1, HX.out.2⟩
  · have e1 : (((kop : Nat) : Int) == 1) = false := beq_eq_false_iff_ne.2 (by omega)
    by_cases h0 : kop = 0
    · have e0 : (((kop : Nat) : Int) == 0) = true := by rw [h0]; rfl
      have HSy := hid (say1 HWs.out Qdrop (by omega))
      have HE1 : Hid (tkF [Tm.mk kop kfd kn kks] (tkk 6 true [Tm.mk kop kfd kn kks]) = [tN Qdrop]) := by show _ = _; rw [HE.out, if_neg h1, if_pos h0]
      clear h1 h0 HE HTm
      go_wp2_with (go_at_call 23; refine (HSy.out).mono ?_; rintro e w6 ⟨rfl, S6, q1, q2⟩; have HX := hid (And.intro q1 (((Sw.refl S w).bel HB.out).trans q2)); clear q1 q2)
      first | go_end0 | refine bodyPost_ret (results_none rfl _ _ _) rfl ?_
      exact ⟨rfl, S6, by rw [HE1.out]; exact HX.out.1, HX.out.2⟩
    · have e0 : (((kop : Nat) : Int) == 0) = false := beq_eq_false_iff_ne.2 (by omega)
      have HSy := hid (say1 HWs.out Qfilter (by omega))
      have HE1 : Hid (tkF [Tm.mk kop kfd kn kks] (tkk 6 true [Tm.mk kop kfd kn kks]) = tN Qfilter :: tkk 6 true [Tm.mk kop kfd kn kks]) := by show _ = _; rw [HE.out, if_neg h1, if_neg h0]
      clear h1 h0 HE
      go_upto_region 3 with (go_at_call 23; refine (HSy.out).mono ?_; rintro e w6 ⟨rfl, S6, q1, q2⟩; have HX := hid (And.intro q1 q2); clear q1 q2)
      have HG6 := hid ((HX.out.2.block HNg.out (Array.getElem?_eq_some_iff.1 HN1.out).1).trans HN1.out)
      have hz1 := HX.out.2.only.size
      have HK := hid (kids_any N HIH.out true 6 fd n [Tm.mk kop kfd kn kks] _ S6 R (ws ++ [Qfilter]) w6 hN hN4 (by decide) (by rw [okK, okK, HOK.out]; rfl) (um_on HTm.out fun b hb hS => ⟨⟨fun e => by rcases HX.out.2.sub b e with e | e; exact hS.1 e; omega, by omega⟩, HX.out.2.block hS.1 hb⟩) HX.out.1 (HTb.out.keep fun k hk => HX.out.2.block (fun e => by have := HWs.out.gl k e; omega) (by have := HB.out.size; omega)) (by rw [List.length_append, List.length_singleton]; omega))
      go_wp2_with (first
        | (refine ldRow 26 (.tmp 2) rfl rfl w.heap.size rfl 26 (tmc 6 fd n (.slice (some ⟨g, p, none⟩) 1 cap)) _ Tryz.underlying26 rfl sizeTM HG6.out ?_)
        | (go_at_call 41; refine (HK.out).mono ?_; rintro e w7 ⟨rfl, S7, q1, q2⟩; have HY := hid (And.intro q1 ((((Sw.refl S w).bel HB.out).trans HX.out.2).trans q2)); clear q1 q2))
      first | go_end0 | refine bodyPost_ret (results_none rfl _ _ _) rfl ?_
      exact ⟨rfl, S7, by rw [HE1.out]; simpa [wdB] using HY.out.1, HY.out.2⟩
/-- a slice of three words is made, in a region that draws -/
theorem ready_b3 {md : Region.Mode} {ops : Array Oper} {Q : Exit → Act → World → Prop} {S : World → Prop} {fuel : Nat} {listed : Array Bool} {a : Act} {w : World} (i : Nat) (o : Oper) (hr : Region.ready md ops listed = [i]) (ho : ops[i]? = some o) (x y z : Operand) (hop : o.op = .buildSlice 63 3 #[(0, x), (1, y), (2, z)]) (hg : o.guard = none) (s0 s1 s2 : ByteArray) (hx : a.eval x = .string s0) (hy : a.eval y = .string s1) (hz' : a.eval z = .string s2)
    (hk : S (w.alloc (.cells #[.string s0, .string s1, .string s2] 9)) ∧ wpAnyH Tryz.prog md ops Q S fuel (listed.setIfInBounds i true) (a.put o.dst (.slice (some ⟨w.heap.size, 0, none⟩) 3 3)) (w.alloc (.cells #[.string s0, .string s1, .string s2] 9))) : wpAnyH Tryz.prog md ops Q S (fuel + 1) listed a w := by
  refine ready_one i o hr ho ?_
  have hw : Region.wanted o (yielded ops a.tmps) = true := by simp [Region.wanted, hg]
  rw [if_pos hw]
  obtain ⟨ie, hie, hz0, hz1, hz2⟩ := info_parts infoST
  refine wp_buildSlice 63 9 3 _ hop #[.string s0, .string s1, .string s2] ie (.string ⟨#[]⟩) Tryz.underlying63 hie hz0 (by rw [hz1]; decide) (by rw [hz1]; decide) ?_ hk
  rw [hz1]
  have : (Array.map (fun (x : Nat × Operand) => (x.1, a.eval x.2)) #[(0, x), (1, y), (2, z)]).toList = [(0, .string s0), (1, .string s1), (2, .string s2)] := by simp [hx, hy, hz']
  show Instr.fill _ _ (Array.map (fun (x : Nat × Operand) => (x.1, a.eval x.2)) #[(0, x), (1, y), (2, z)]).toList = _
  rw [this]
  simp [Instr.fill, Value.cells]
  apply Array.ext_getElem?
  intro k
  rcases k with _ | _ | _ | k <;> simp
structure PrR (G op fd : Nat) (n : Nat) (W : World) : Prop where
  c0 : W.cell? ⟨G, 0, none⟩ = some (.int .i8 ((op : Nat) : Int))
  c1 : W.cell? ⟨G, 1, none⟩ = some (.int .i8 ((fd : Nat) : Int))
  c2 : W.cell? ⟨G, 2, none⟩ = some (.int .u64 ((n : Nat) : Int))
  fn : W.cell? ⟨1, fd, none⟩ = some (.string (fnm fd))
  sh : W.cell? ⟨0, op * 5 + 2, none⟩ = some (.string (sgT op))
theorem PrR.on {G op fd n : Nat} {W W' : World} (h : PrR G op fd n W) (hb : ∀ b, b < W.heap.size → b = G ∨ b < 9 → W'.heap[b]? = W.heap[b]?) : PrR G op fd n W' :=
  ⟨(cell_same (hb _ (cell_lt h.c0) (Or.inl rfl))).trans h.c0, (cell_same (hb _ (cell_lt h.c1) (Or.inl rfl))).trans h.c1, (cell_same (hb _ (cell_lt h.c2) (Or.inl rfl))).trans h.c2, (cell_same (hb _ (cell_lt h.fn) (Or.inr (by decide)))).trans h.fn, (cell_same (hb _ (cell_lt h.sh) (Or.inr (by decide)))).trans h.sh⟩
theorem runIxF {o : Oper} {a : Act} {w' : World} (x y : Operand) (ho : o.op = .indexAddr 84 x y) (b f : Nat) (hx : a.eval x = .pointer (some ⟨b, 0, none⟩)) (hy : a.eval y = .int .i8 (f : Int)) (hf : f < 11) : (execOp a.eval o).run Tryz.prog w' = .ok (.value (.pointer (some ⟨b, f, none⟩))) w' := by
  have hf' : (f : Int) < 11 := by omega
  unfold execOp
  simp only [ho, hx, hy]
  go_simp
theorem wd1_three (w : World) (x y z : ByteArray) : Wd1 (w.alloc (.cells #[.string x, .string y, .string z] 9)) (some ⟨w.heap.size, 0, none⟩) [x, y, z] := fun _ => ⟨_, rfl, fun j u hj => by
  rw [Addr.add_lit, cell_of_row _ _ _ _ _ _ (heap_alloc_new w _), Nat.zero_add]
  simpa using hj⟩
set_option maxHeartbeats 12800000 in
theorem tell_any : ∀ N, Tl N
  | 0 => fun b t cs S R ws w hN => by have := sz_pos t; omega
  | N + 1 => by
    intro b t cs S R ws w hN hN4 hok ht hW hT hl
    have HIH := hid (tell_any N)
    obtain ⟨op, fd, n, ks⟩ := t
    obtain ⟨hk1, hk2, hk3⟩ := okT_shape hok
    have hop11 : op < 11 := okT_op hok
    have ht' := ht
    obtain ⟨v, xs, rfl, h2, h3⟩ := ht.get
    obtain ⟨ao, cap, rfl⟩ := h2.form
    obtain ⟨len, hlen⟩ : ∃ len, len = ks.length := ⟨_, rfl⟩
    rw [← hlen] at ht' ⊢
    rw [sz_mk] at hN hl
    clear h2 h3 ht hlen
    have hgz : 9 ≤ w.heap.size := by have := hW.gl R hW.r; have := hW.lt R hW.r; omega
    have hb1 : Below w.heap.size w (w.alloc (.cells (tmc op fd n (.slice ao len cap)) 26)) := (Below.refl _ _).alloc (Nat.le_refl _) _
    have hN1 : (w.alloc (.cells (tmc op fd n (.slice ao len cap)) 26)).heap[w.heap.size]? = some (.cells (tmc op fd n (.slice ao len cap)) 26 (0, 0)) := heap_alloc_new _ _
    have HTm := hid (tmv_alloc ht' (.cells (tmc op fd n (.slice ao len cap)) 26))
    have HWs := hid (hW.bel hb1)
    have HTb := hid (hT.on hb1 hgz)
    have HB := hid hb1
    have HN1 := hid hN1
    have HNg : Hid (¬ S w.heap.size) := fun e => by have := hW.lt _ e; omega
    have c0 := (four_cells hN1).1
    clear ht' hW hT hb1 hN1 hok
    go_enter Tryz.func24, Tryz.ntmps24
    go_upto_region 1 with fail
    generalize w.alloc (.cells #[.int .i8 ((op : Nat) : Int), .int .i8 ((fd : Nat) : Int), .int .u64 ((n : Nat) : Int), .slice ao len cap] 26) = W1 at c0 HTm HWs HTb HB HN1 ⊢
    have hG1 := (Array.getElem?_eq_some_iff.1 HN1.out).1
    rcases hk3 with ⟨ho, hf, hn, rfl⟩ | ⟨rfl, rfl, ⟨ho, rfl⟩ | ⟨ho, k, rfl⟩ | ⟨ho, k1, k2, r, rfl⟩⟩
    · have HTS : Hid (tks (.mk op fd n []) = [tN (fnm fd), tS (sgT op), tM fd n]) := by
        show _ = _
        rw [tks]
        rcases ho with rfl | rfl <;> rfl
      have hn64 : n < 18446744073709551616 := Nat.lt_of_lt_of_le hn (Nat.le_trans (Nat.pow_le_pow_right (by decide) (show wdt fd ≤ 64 by unfold wdt; split <;> decide)) (by decide))
      have e0 : (((op : Nat) : Int) == 0) = false := beq_eq_false_iff_ne.2 (by omega)
      have e1 : (((op : Nat) : Int) == 1) = false := beq_eq_false_iff_ne.2 (by omega)
      have hR0 : PrR w.heap.size op fd n W1 := ⟨(four_cells HN1.out).1, (four_cells HN1.out).2.1, (four_cells HN1.out).2.2.1, HTb.out.fn fd (by omega), HTb.out.sh op hop11 2 _ rfl⟩
      have HR0 := hid hR0
      have hf11 : fd < 11 := by omega
      have HNb : Hid (Calls Tryz.prog 40 #[.int .i8 ((fd : Nat) : Int), .int .u64 ((n : Nat) : Int)] W1.drew fun e w' => e = .returned (.string (nbr fd n)) ∧ Below W1.heap.size W1.drew w') := number_txt fd n W1.drew (HTb.out.keep fun k hk => rfl) (by have := HB.out.size; show _ ≤ W1.heap.size; omega) hf hn64
      clear hn hk1 hk2 hf hR0
      have hgo : ∀ h2 : True, True := fun _ => trivial
      clear hgo
      rcases ho with rfl | rfl
      · go_upto_region 9 with fail
        clear c0
        have hHeld0 : PrR w.heap.size 2 fd n W1.drew := HR0.out.on fun b _ _ => rfl
        refine wp_region_held_drew (S := PrR w.heap.size 2 fd n) (by kernel_rfl) hHeld0 (fun hHeld => ?_)
        refine wpAnyH_take (i := 0) (v := ?_) rfl (by kernel_rfl) (by kernel_rfl) (by kernel_rfl) (fun _ _ _ h => h) (Or.inl ⟨by rfl, ?_⟩) hHeld ?_
        rotate_left
        · intro w' hSw
          have c0 := hSw.c0
          have c1 := hSw.c1
          clear hSw
          go_simp
          first | done | with_reducible rfl
        simp only [Act.put, List.getElem_toArray, List.getElem_cons_zero, List.setIfInBounds_toArray, List.set_cons_zero, List.set_cons_succ]
        refine wpAnyH_take (i := 1) (v := ?_) rfl (by kernel_rfl) (by kernel_rfl) (by kernel_rfl) (fun _ _ _ h => h) (Or.inl ⟨by rfl, ?_⟩) hHeld ?_
        rotate_left
        · intro w' hSw
          have c0 := hSw.c0
          have c1 := hSw.c1
          clear hSw
          go_simp
          first | done | with_reducible rfl
        simp only [Act.put, List.getElem_toArray, List.getElem_cons_succ, List.getElem_cons_zero, List.setIfInBounds_toArray, List.set_cons_zero, List.set_cons_succ]
        refine wpAnyH_take (i := 2) (v := ?_) rfl (by kernel_rfl) (by kernel_rfl) (by kernel_rfl) (fun _ _ _ h => h) (Or.inl ⟨by rfl, ?_⟩) hHeld ?_
        rotate_left
        · intro w' hSw
          have c0 := hSw.c0
          have c1 := hSw.c1
          clear hSw
          go_simp
          first | done | with_reducible rfl
        simp only [Act.put, List.getElem_toArray, List.getElem_cons_succ, List.getElem_cons_zero, List.setIfInBounds_toArray, List.set_cons_zero, List.set_cons_succ]
        refine wpAnyH_take (i := 3) (v := .pointer (some ⟨1, fd, none⟩)) rfl (by kernel_rfl) (by kernel_rfl) (by kernel_rfl) (fun _ _ _ h => h) (Or.inl ⟨by rfl, ?_⟩) hHeld ?_
        · intro w' hSw
          exact runIxF (.global 1) (.tmp 24) rfl 1 fd rfl rfl hf11
        simp only [Act.put, List.getElem_toArray, List.getElem_cons_succ, List.getElem_cons_zero, List.setIfInBounds_toArray, List.set_cons_zero, List.set_cons_succ]
        refine wpAnyH_take (i := 4) (v := ?_) rfl (by kernel_rfl) (by kernel_rfl) (by kernel_rfl) (fun _ _ _ h => h) (Or.inl ⟨by rfl, ?_⟩) hHeld ?_
        rotate_left
        · intro w' hSw
          have c0 := hSw.c0
          have c1 := hSw.c1
          have c2 := hSw.c2
          have fn := hSw.fn
          have sh := hSw.sh
          clear hSw
          go_simp
          first | done | with_reducible rfl
        simp only [Act.put, List.getElem_toArray, List.getElem_cons_succ, List.getElem_cons_zero, List.setIfInBounds_toArray, List.set_cons_zero, List.set_cons_succ]
        refine wpAnyH_take (i := 5) (v := ?_) rfl (by kernel_rfl) (by kernel_rfl) (by kernel_rfl) (fun _ _ _ h => h) (Or.inl ⟨by rfl, ?_⟩) hHeld ?_
        rotate_left
        · intro w' hSw
          have c0 := hSw.c0
          have c1 := hSw.c1
          have c2 := hSw.c2
          have fn := hSw.fn
          have sh := hSw.sh
          clear hSw
          go_simp
          first | done | with_reducible rfl
        simp only [Act.put, List.getElem_toArray, List.getElem_cons_succ, List.getElem_cons_zero, List.setIfInBounds_toArray, List.set_cons_zero, List.set_cons_succ]
        refine wpAnyH_take (i := 6) (v := ?_) rfl (by kernel_rfl) (by kernel_rfl) (by kernel_rfl) (fun _ _ _ h => h) (Or.inl ⟨by rfl, ?_⟩) hHeld ?_
        rotate_left
        · intro w' hSw
          have c0 := hSw.c0
          have c1 := hSw.c1
          have c2 := hSw.c2
          have fn := hSw.fn
          have sh := hSw.sh
          clear hSw
          go_simp
          first | done | with_reducible rfl
        simp only [Act.put, List.getElem_toArray, List.getElem_cons_succ, List.getElem_cons_zero, List.setIfInBounds_toArray, List.set_cons_zero, List.set_cons_succ]
        refine wpAnyH_take (i := 7) (v := ?_) rfl (by kernel_rfl) (by kernel_rfl) (by kernel_rfl) (fun _ _ _ h => h) (Or.inl ⟨by rfl, ?_⟩) hHeld ?_
        rotate_left
        · intro w' hSw
          have c0 := hSw.c0
          have c1 := hSw.c1
          have c2 := hSw.c2
          have fn := hSw.fn
          have sh := hSw.sh
          clear hSw
          go_simp
          first | done | with_reducible rfl
        simp only [Act.put, List.getElem_toArray, List.getElem_cons_succ, List.getElem_cons_zero, List.setIfInBounds_toArray, List.set_cons_zero, List.set_cons_succ]
        refine wpAnyH_take (i := 8) (v := ?_) rfl (by kernel_rfl) (by kernel_rfl) (by kernel_rfl) (fun _ _ _ h => h) (Or.inl ⟨by rfl, ?_⟩) hHeld ?_
        rotate_left
        · intro w' hSw
          have c0 := hSw.c0
          have c1 := hSw.c1
          have c2 := hSw.c2
          have fn := hSw.fn
          have sh := hSw.sh
          clear hSw
          go_simp
          first | done | with_reducible rfl
        simp only [Act.put, List.getElem_toArray, List.getElem_cons_succ, List.getElem_cons_zero, List.setIfInBounds_toArray, List.set_cons_zero, List.set_cons_succ]
        refine wpAnyH_take (i := 9) (v := ?_) rfl (by kernel_rfl) (by kernel_rfl) (by kernel_rfl) (fun _ _ _ h => h) (Or.inl ⟨by rfl, ?_⟩) hHeld ?_
        rotate_left
        · intro w' hSw
          have c0 := hSw.c0
          have c1 := hSw.c1
          have c2 := hSw.c2
          have fn := hSw.fn
          have sh := hSw.sh
          clear hSw
          go_simp
          first | done | with_reducible rfl
        simp only [Act.put, List.getElem_toArray, List.getElem_cons_succ, List.getElem_cons_zero, List.setIfInBounds_toArray, List.set_cons_zero, List.set_cons_succ]
        refine wpAnyH_take (i := 10) (v := ?_) rfl (by kernel_rfl) (by kernel_rfl) (by kernel_rfl) (fun _ _ _ h => h) (Or.inl ⟨by rfl, ?_⟩) hHeld ?_
        rotate_left
        · intro w' hSw
          have c0 := hSw.c0
          have c1 := hSw.c1
          have c2 := hSw.c2
          have fn := hSw.fn
          have sh := hSw.sh
          clear hSw
          go_simp
          first | done | with_reducible rfl
        simp only [Act.put, List.getElem_toArray, List.getElem_cons_succ, List.getElem_cons_zero, List.setIfInBounds_toArray, List.set_cons_zero, List.set_cons_succ]
        refine wpAnyH_take (i := 11) (v := ?_) rfl (by kernel_rfl) (by kernel_rfl) (by kernel_rfl) (fun _ _ _ h => h) (Or.inl ⟨by rfl, ?_⟩) hHeld ?_
        rotate_left
        · intro w' hSw
          have c0 := hSw.c0
          have c1 := hSw.c1
          have c2 := hSw.c2
          have fn := hSw.fn
          have sh := hSw.sh
          clear hSw
          go_simp
          first | done | with_reducible rfl
        simp only [Act.put, List.getElem_toArray, List.getElem_cons_succ, List.getElem_cons_zero, List.setIfInBounds_toArray, List.set_cons_zero, List.set_cons_succ]
        refine wpAnyH_take (i := 12) (v := ?_) rfl (by kernel_rfl) (by kernel_rfl) (by kernel_rfl) (fun _ _ _ h => h) (Or.inl ⟨by rfl, ?_⟩) hHeld ?_
        rotate_left
        · intro w' hSw
          have c0 := hSw.c0
          have c1 := hSw.c1
          have c2 := hSw.c2
          have fn := hSw.fn
          have sh := hSw.sh
          clear hSw
          go_simp
          first | done | with_reducible rfl
        simp only [Act.put, List.getElem_toArray, List.getElem_cons_succ, List.getElem_cons_zero, List.setIfInBounds_toArray, List.set_cons_zero, List.set_cons_succ]
        refine wpAnyH_take (i := 13) (v := ?_) rfl (by kernel_rfl) (by kernel_rfl) (by kernel_rfl) (fun _ _ _ h => h) (Or.inl ⟨by rfl, ?_⟩) hHeld ?_
        rotate_left
        · intro w' hSw
          have c0 := hSw.c0
          have c1 := hSw.c1
          have c2 := hSw.c2
          have fn := hSw.fn
          have sh := hSw.sh
          clear hSw
          go_simp
          first | done | with_reducible rfl
        simp only [Act.put, List.getElem_toArray, List.getElem_cons_succ, List.getElem_cons_zero, List.setIfInBounds_toArray, List.set_cons_zero, List.set_cons_succ]
        refine ready_one 14 _ (by kernel_rfl) rfl (stepFnW 40 (.func 40) [.tmp 33, .tmp 35] _ [.int .i8 ((fd : Nat) : Int), .int .u64 ((n : Nat) : Int)] rfl rfl rfl rfl (fun _ => rfl) _ HNb.out ?_)
        rintro e w4 ⟨rfl, hw⟩
        refine Or.inl ⟨_, rfl, ?_⟩
        replace hHeld := hHeld.on fun b hb _ => hw.block b hb
        have HW4 := hid (HWs.out.bel (bel_drew (Below.refl _ _)) |>.bel hw)
        have HS4 := hid ((((Sw.refl S w).bel HB.out).drew).bel hw)
        have hz4 := hw.size
        clear hw hHeld0
        refine ⟨hHeld, ?_⟩
        simp only [Act.put, List.getElem_toArray, List.getElem_cons_succ, List.getElem_cons_zero, List.setIfInBounds_toArray, List.set_cons_zero, List.set_cons_succ]
        refine ready_b3 15 _ (by kernel_rfl) rfl (.tmp 26) (.tmp 31) (.tmp 36) rfl rfl (fnm fd) (sgT 2) (nbr fd n) rfl rfl rfl ?_
        have HB5 : Hid (Below w4.heap.size w4 (w4.alloc (.cells #[.string (fnm fd), .string (sgT 2), .string (nbr fd n)] 9))) := (Below.refl _ _).alloc (Nat.le_refl _) _
        replace hHeld := hHeld.on fun b hb _ => HB5.out.block b hb
        refine ⟨hHeld, ?_⟩
        simp only [Act.put, List.getElem_toArray, List.getElem_cons_succ, List.getElem_cons_zero, List.setIfInBounds_toArray, List.set_cons_zero, List.set_cons_succ]
        have HSy := hid (say_any (us := [fnm fd, sgT 2, nbr fd n]) (c := 3) (HW4.out.bel HB5.out) (wd1_three w4 _ _ _) (by simp; omega))
        refine ready_one 16 _ (by kernel_rfl) rfl (stepC 23 (.tmp 22) [.tmp 37] _ [.slice (some ⟨w4.heap.size, 0, none⟩) 3 3] [ptr R] rfl rfl rfl rfl (fun _ _ => rfl) _ HSy.out ?_)
        rintro e w6 ⟨rfl, S6, q1, q2⟩
        refine Or.inl ⟨_, rfl, ?_⟩
        have HX := hid (And.intro q1 ((HS4.out.bel HB5.out).trans q2))
        replace hHeld := hHeld.on fun b hb hh => q2.block (fun e => by rcases hh with e2 | e2; exact absurd e (by rw [e2]; exact HNg.out); have := HWs.out.gl b e; omega) hb
        clear q1 q2 HSy
        refine ⟨hHeld, ?_⟩
        simp only [Act.put, List.getElem_toArray, List.getElem_cons_succ, List.getElem_cons_zero, List.setIfInBounds_toArray, List.set_cons_zero, List.set_cons_succ]
        refine wpAnyH_done (by kernel_rfl) ?_ _
        clear hHeld
        go_wp2
        first | go_end0 | refine bodyPost_ret (results_none rfl _ _ _) rfl ?_
        exact ⟨rfl, S6, by rw [HTS.out]; exact HX.out.1, HX.out.2⟩
      · have e2 : (((7 : Nat) : Int) == 2) = false := by decide
        go_upto_region 9 with fail
        clear c0
        have hHeld0 : PrR w.heap.size 7 fd n W1.drew := HR0.out.on fun b _ _ => rfl
        refine wp_region_held_drew (S := PrR w.heap.size 7 fd n) (by kernel_rfl) hHeld0 (fun hHeld => ?_)
        refine wpAnyH_take (i := 0) (v := ?_) rfl (by kernel_rfl) (by kernel_rfl) (by kernel_rfl) (fun _ _ _ h => h) (Or.inl ⟨by rfl, ?_⟩) hHeld ?_
        rotate_left
        · intro w' hSw
          have c0 := hSw.c0
          have c1 := hSw.c1
          clear hSw
          go_simp
          first | done | with_reducible rfl
        simp only [Act.put, List.getElem_toArray, List.getElem_cons_zero, List.setIfInBounds_toArray, List.set_cons_zero, List.set_cons_succ]
        refine wpAnyH_take (i := 1) (v := ?_) rfl (by kernel_rfl) (by kernel_rfl) (by kernel_rfl) (fun _ _ _ h => h) (Or.inl ⟨by rfl, ?_⟩) hHeld ?_
        rotate_left
        · intro w' hSw
          have c0 := hSw.c0
          have c1 := hSw.c1
          clear hSw
          go_simp
          first | done | with_reducible rfl
        simp only [Act.put, List.getElem_toArray, List.getElem_cons_succ, List.getElem_cons_zero, List.setIfInBounds_toArray, List.set_cons_zero, List.set_cons_succ]
        refine wpAnyH_take (i := 2) (v := ?_) rfl (by kernel_rfl) (by kernel_rfl) (by kernel_rfl) (fun _ _ _ h => h) (Or.inl ⟨by rfl, ?_⟩) hHeld ?_
        rotate_left
        · intro w' hSw
          have c0 := hSw.c0
          have c1 := hSw.c1
          clear hSw
          go_simp
          first | done | with_reducible rfl
        simp only [Act.put, List.getElem_toArray, List.getElem_cons_succ, List.getElem_cons_zero, List.setIfInBounds_toArray, List.set_cons_zero, List.set_cons_succ]
        refine wpAnyH_take (i := 3) (v := .pointer (some ⟨1, fd, none⟩)) rfl (by kernel_rfl) (by kernel_rfl) (by kernel_rfl) (fun _ _ _ h => h) (Or.inl ⟨by rfl, ?_⟩) hHeld ?_
        · intro w' hSw
          exact runIxF (.global 1) (.tmp 24) rfl 1 fd rfl rfl hf11
        simp only [Act.put, List.getElem_toArray, List.getElem_cons_succ, List.getElem_cons_zero, List.setIfInBounds_toArray, List.set_cons_zero, List.set_cons_succ]
        refine wpAnyH_take (i := 4) (v := ?_) rfl (by kernel_rfl) (by kernel_rfl) (by kernel_rfl) (fun _ _ _ h => h) (Or.inl ⟨by rfl, ?_⟩) hHeld ?_
        rotate_left
        · intro w' hSw
          have c0 := hSw.c0
          have c1 := hSw.c1
          have c2 := hSw.c2
          have fn := hSw.fn
          have sh := hSw.sh
          clear hSw
          go_simp
          first | done | with_reducible rfl
        simp only [Act.put, List.getElem_toArray, List.getElem_cons_succ, List.getElem_cons_zero, List.setIfInBounds_toArray, List.set_cons_zero, List.set_cons_succ]
        refine wpAnyH_take (i := 5) (v := ?_) rfl (by kernel_rfl) (by kernel_rfl) (by kernel_rfl) (fun _ _ _ h => h) (Or.inl ⟨by rfl, ?_⟩) hHeld ?_
        rotate_left
        · intro w' hSw
          have c0 := hSw.c0
          have c1 := hSw.c1
          have c2 := hSw.c2
          have fn := hSw.fn
          have sh := hSw.sh
          clear hSw
          go_simp
          first | done | with_reducible rfl
        simp only [Act.put, List.getElem_toArray, List.getElem_cons_succ, List.getElem_cons_zero, List.setIfInBounds_toArray, List.set_cons_zero, List.set_cons_succ]
        refine wpAnyH_take (i := 6) (v := ?_) rfl (by kernel_rfl) (by kernel_rfl) (by kernel_rfl) (fun _ _ _ h => h) (Or.inl ⟨by rfl, ?_⟩) hHeld ?_
        rotate_left
        · intro w' hSw
          have c0 := hSw.c0
          have c1 := hSw.c1
          have c2 := hSw.c2
          have fn := hSw.fn
          have sh := hSw.sh
          clear hSw
          go_simp
          first | done | with_reducible rfl
        simp only [Act.put, List.getElem_toArray, List.getElem_cons_succ, List.getElem_cons_zero, List.setIfInBounds_toArray, List.set_cons_zero, List.set_cons_succ]
        refine wpAnyH_take (i := 7) (v := ?_) rfl (by kernel_rfl) (by kernel_rfl) (by kernel_rfl) (fun _ _ _ h => h) (Or.inl ⟨by rfl, ?_⟩) hHeld ?_
        rotate_left
        · intro w' hSw
          have c0 := hSw.c0
          have c1 := hSw.c1
          have c2 := hSw.c2
          have fn := hSw.fn
          have sh := hSw.sh
          clear hSw
          go_simp
          first | done | with_reducible rfl
        simp only [Act.put, List.getElem_toArray, List.getElem_cons_succ, List.getElem_cons_zero, List.setIfInBounds_toArray, List.set_cons_zero, List.set_cons_succ]
        refine wpAnyH_take (i := 8) (v := ?_) rfl (by kernel_rfl) (by kernel_rfl) (by kernel_rfl) (fun _ _ _ h => h) (Or.inl ⟨by rfl, ?_⟩) hHeld ?_
        rotate_left
        · intro w' hSw
          have c0 := hSw.c0
          have c1 := hSw.c1
          have c2 := hSw.c2
          have fn := hSw.fn
          have sh := hSw.sh
          clear hSw
          go_simp
          first | done | with_reducible rfl
        simp only [Act.put, List.getElem_toArray, List.getElem_cons_succ, List.getElem_cons_zero, List.setIfInBounds_toArray, List.set_cons_zero, List.set_cons_succ]
        refine wpAnyH_take (i := 9) (v := ?_) rfl (by kernel_rfl) (by kernel_rfl) (by kernel_rfl) (fun _ _ _ h => h) (Or.inl ⟨by rfl, ?_⟩) hHeld ?_
        rotate_left
        · intro w' hSw
          have c0 := hSw.c0
          have c1 := hSw.c1
          have c2 := hSw.c2
          have fn := hSw.fn
          have sh := hSw.sh
          clear hSw
          go_simp
          first | done | with_reducible rfl
        simp only [Act.put, List.getElem_toArray, List.getElem_cons_succ, List.getElem_cons_zero, List.setIfInBounds_toArray, List.set_cons_zero, List.set_cons_succ]
        refine wpAnyH_take (i := 10) (v := ?_) rfl (by kernel_rfl) (by kernel_rfl) (by kernel_rfl) (fun _ _ _ h => h) (Or.inl ⟨by rfl, ?_⟩) hHeld ?_
        rotate_left
        · intro w' hSw
          have c0 := hSw.c0
          have c1 := hSw.c1
          have c2 := hSw.c2
          have fn := hSw.fn
          have sh := hSw.sh
          clear hSw
          go_simp
          first | done | with_reducible rfl
        simp only [Act.put, List.getElem_toArray, List.getElem_cons_succ, List.getElem_cons_zero, List.setIfInBounds_toArray, List.set_cons_zero, List.set_cons_succ]
        refine wpAnyH_take (i := 11) (v := ?_) rfl (by kernel_rfl) (by kernel_rfl) (by kernel_rfl) (fun _ _ _ h => h) (Or.inl ⟨by rfl, ?_⟩) hHeld ?_
        rotate_left
        · intro w' hSw
          have c0 := hSw.c0
          have c1 := hSw.c1
          have c2 := hSw.c2
          have fn := hSw.fn
          have sh := hSw.sh
          clear hSw
          go_simp
          first | done | with_reducible rfl
        simp only [Act.put, List.getElem_toArray, List.getElem_cons_succ, List.getElem_cons_zero, List.setIfInBounds_toArray, List.set_cons_zero, List.set_cons_succ]
        refine wpAnyH_take (i := 12) (v := ?_) rfl (by kernel_rfl) (by kernel_rfl) (by kernel_rfl) (fun _ _ _ h => h) (Or.inl ⟨by rfl, ?_⟩) hHeld ?_
        rotate_left
        · intro w' hSw
          have c0 := hSw.c0
          have c1 := hSw.c1
          have c2 := hSw.c2
          have fn := hSw.fn
          have sh := hSw.sh
          clear hSw
          go_simp
          first | done | with_reducible rfl
        simp only [Act.put, List.getElem_toArray, List.getElem_cons_succ, List.getElem_cons_zero, List.setIfInBounds_toArray, List.set_cons_zero, List.set_cons_succ]
        refine wpAnyH_take (i := 13) (v := ?_) rfl (by kernel_rfl) (by kernel_rfl) (by kernel_rfl) (fun _ _ _ h => h) (Or.inl ⟨by rfl, ?_⟩) hHeld ?_
        rotate_left
        · intro w' hSw
          have c0 := hSw.c0
          have c1 := hSw.c1
          have c2 := hSw.c2
          have fn := hSw.fn
          have sh := hSw.sh
          clear hSw
          go_simp
          first | done | with_reducible rfl
        simp only [Act.put, List.getElem_toArray, List.getElem_cons_succ, List.getElem_cons_zero, List.setIfInBounds_toArray, List.set_cons_zero, List.set_cons_succ]
        refine ready_one 14 _ (by kernel_rfl) rfl (stepFnW 40 (.func 40) [.tmp 33, .tmp 35] _ [.int .i8 ((fd : Nat) : Int), .int .u64 ((n : Nat) : Int)] rfl rfl rfl rfl (fun _ => rfl) _ HNb.out ?_)
        rintro e w4 ⟨rfl, hw⟩
        refine Or.inl ⟨_, rfl, ?_⟩
        replace hHeld := hHeld.on fun b hb _ => hw.block b hb
        have HW4 := hid (HWs.out.bel (bel_drew (Below.refl _ _)) |>.bel hw)
        have HS4 := hid ((((Sw.refl S w).bel HB.out).drew).bel hw)
        have hz4 := hw.size
        clear hw hHeld0
        refine ⟨hHeld, ?_⟩
        simp only [Act.put, List.getElem_toArray, List.getElem_cons_succ, List.getElem_cons_zero, List.setIfInBounds_toArray, List.set_cons_zero, List.set_cons_succ]
        refine ready_b3 15 _ (by kernel_rfl) rfl (.tmp 26) (.tmp 31) (.tmp 36) rfl rfl (fnm fd) (sgT 7) (nbr fd n) rfl rfl rfl ?_
        have HB5 : Hid (Below w4.heap.size w4 (w4.alloc (.cells #[.string (fnm fd), .string (sgT 7), .string (nbr fd n)] 9))) := (Below.refl _ _).alloc (Nat.le_refl _) _
        replace hHeld := hHeld.on fun b hb _ => HB5.out.block b hb
        refine ⟨hHeld, ?_⟩
        simp only [Act.put, List.getElem_toArray, List.getElem_cons_succ, List.getElem_cons_zero, List.setIfInBounds_toArray, List.set_cons_zero, List.set_cons_succ]
        have HSy := hid (say_any (us := [fnm fd, sgT 7, nbr fd n]) (c := 3) (HW4.out.bel HB5.out) (wd1_three w4 _ _ _) (by simp; omega))
        refine ready_one 16 _ (by kernel_rfl) rfl (stepC 23 (.tmp 22) [.tmp 37] _ [.slice (some ⟨w4.heap.size, 0, none⟩) 3 3] [ptr R] rfl rfl rfl rfl (fun _ _ => rfl) _ HSy.out ?_)
        rintro e w6 ⟨rfl, S6, q1, q2⟩
        refine Or.inl ⟨_, rfl, ?_⟩
        have HX := hid (And.intro q1 ((HS4.out.bel HB5.out).trans q2))
        replace hHeld := hHeld.on fun b hb hh => q2.block (fun e => by rcases hh with e2 | e2; exact absurd e (by rw [e2]; exact HNg.out); have := HWs.out.gl b e; omega) hb
        clear q1 q2 HSy
        refine ⟨hHeld, ?_⟩
        simp only [Act.put, List.getElem_toArray, List.getElem_cons_succ, List.getElem_cons_zero, List.setIfInBounds_toArray, List.set_cons_zero, List.set_cons_succ]
        refine wpAnyH_done (by kernel_rfl) ?_ _
        clear hHeld
        go_wp2
        first | go_end0 | refine bodyPost_ret (results_none rfl _ _ _) rfl ?_
        exact ⟨rfl, S6, by rw [HTS.out]; exact HX.out.1, HX.out.2⟩
    · have HSt : ∀ x : ByteArray, tks (.mk op 0 0 []) = [tN x] → Hid (Calls Tryz.prog 23 #[.slice (some ⟨W1.heap.size, 0, none⟩) 1 1, ptr R] (W1.alloc (.cells #[.string x] 9)) fun e w' => e = .returned (.tuple #[]) ∧ TlP S R ws (tks (.mk op 0 0 [])) w (.returned (.tuple #[])) w') := fun x hx => (say1 HWs.out x (by omega)).mono fun e w' ⟨h1, S6, q1, q2⟩ => ⟨h1, rfl, S6, by rw [hx]; exact q1, ((Sw.refl S w).bel HB.out).trans q2⟩
      have : op = 0 ∨ op = 1 := by omega
      rcases this with rfl | rfl
      · have HSy := HSt Qfalse (by rw [tks]; rfl)
        clear HSt
        go_wp2_with (go_at_call 23; refine (HSy.out).mono ?_; rintro e w6 ⟨rfl, q1⟩; have HX := hid q1; clear q1)
        first | go_end0 | refine bodyPost_ret (results_none rfl _ _ _) rfl ?_
        exact HX.out
      · have HSy := HSt Qtrue (by rw [tks]; rfl)
        clear HSt
        go_wp2_with (go_at_call 23; refine (HSy.out).mono ?_; rintro e w6 ⟨rfl, q1⟩; have HX := hid q1; clear q1)
        first | go_end0 | refine bodyPost_ret (results_none rfl _ _ _) rfl ?_
        exact HX.out
    · rcases ho with rfl | rfl | rfl
      · have HTS : Hid (tks (.mk 3 0 0 [k]) = tS Snot :: tkk 3 true [k]) := by show _ = _; rw [tks]; rfl
        have HSy := hid (say1 HWs.out Snot (by omega))
        go_upto_region 12 with (go_at_call 23; refine (HSy.out).mono ?_; rintro e w6 ⟨rfl, S6, q1, q2⟩; have HX := hid (And.intro q1 q2); clear q1 q2)
        have HG6 := hid ((HX.out.2.block HNg.out hG1).trans HN1.out)
        have hz1 := HX.out.2.only.size
        have HK := hid (kids_any N HIH.out true 3 0 0 [k] _ S6 R (ws ++ [Snot]) w6 (by omega) (by omega) (by decide) hk2 (um_on HTm.out fun b hb hS => ⟨⟨fun e => by rcases HX.out.2.sub b e with e | e; exact hS.1 e; omega, by omega⟩, HX.out.2.block hS.1 hb⟩) HX.out.1 (HTb.out.keep fun k hk => HX.out.2.block (fun e => by have := HWs.out.gl k e; omega) (by have := HB.out.size; omega)) (by rw [List.length_append, List.length_singleton]; omega))
        go_wp2_with (first
          | (refine ldRow 26 (.tmp 2) rfl rfl w.heap.size rfl 26 (tmc 3 0 0 (.slice ao len cap)) _ Tryz.underlying26 rfl sizeTM HG6.out ?_)
          | (go_at_call 41; refine (HK.out).mono ?_; rintro e w7 ⟨rfl, S7, q1, q2⟩; have HY := hid (And.intro q1 ((((Sw.refl S w).bel HB.out).trans HX.out.2).trans q2)); clear q1 q2))
        first | go_end0 | refine bodyPost_ret (results_none rfl _ _ _) rfl ?_
        exact ⟨rfl, S7, by rw [HTS.out]; simpa [wdB] using HY.out.1, HY.out.2⟩
      · have HTS : Hid (tks (.mk 6 0 0 [k]) = tkF [k] (tkk 6 true [k])) := tks_6 0 0 [k]
        have HK := hid (filt_any N HIH.out 0 0 k _ S R ws W1 (by omega) (by omega) (okK_mem hk2 k (List.mem_singleton.2 rfl)) HTm.out HWs.out HTb.out (by omega))
        go_wp2_with (first
          | (refine ldRow 26 (.tmp 2) rfl rfl w.heap.size rfl 26 (tmc 6 0 0 (.slice ao len cap)) _ Tryz.underlying26 rfl sizeTM HN1.out ?_)
          | (go_at_call 42; refine (HK.out).mono ?_; rintro e w7 ⟨rfl, S7, q1, q2⟩; have HY := hid (And.intro q1 (((Sw.refl S w).bel HB.out).trans q2)); clear q1 q2))
        first | go_end0 | refine bodyPost_ret (results_none rfl _ _ _) rfl ?_
        exact ⟨rfl, S7, by rw [HTS.out]; exact HY.out.1, HY.out.2⟩
      · have HTS : Hid (tks (.mk 10 0 0 [k]) = tkk 10 true [k] ++ [tS Sstar]) := by show _ = _; rw [tks, if_neg (by decide), if_neg (by decide), if_neg (by decide), if_neg (by decide), if_neg (by decide), if_pos rfl]
        have HK := hid (kids_any N HIH.out false 10 0 0 [k] _ S R ws W1 (by omega) (by omega) (by decide) hk2 HTm.out HWs.out HTb.out (by omega))
        have htl := tkk_len 10 true [k]
        go_upto_region 17 with (first
          | (refine ldRow 26 (.tmp 2) rfl rfl w.heap.size rfl 26 (tmc 10 0 0 (.slice ao len cap)) _ Tryz.underlying26 rfl sizeTM HN1.out ?_)
          | (go_at_call 41; refine (HK.out).mono ?_; rintro e w7 ⟨rfl, S7, q1, q2⟩; have HX := hid q1; have HY := hid (((Sw.refl S w).bel HB.out).trans q2); clear q1 q2))
        have HSy := hid (say1 HX.out Sstar (by rw [List.length_append]; unfold wdB; rw [List.length_map]; omega))
        go_wp2_with (go_at_call 23; refine (HSy.out).mono ?_; rintro e w8 ⟨rfl, S8, q1, q2⟩; have HZ := hid (And.intro q1 (HY.out.trans q2)); clear q1 q2)
        first | go_end0 | refine bodyPost_ret (results_none rfl _ _ _) rfl ?_
        exact ⟨rfl, S8, by rw [HTS.out]; simpa [wdB] using HZ.out.1, HZ.out.2⟩
    · have HTS : Hid (tks (.mk op 0 0 (k1 :: k2 :: r)) = tkk op true (k1 :: k2 :: r)) := tks_op ho
      have HK := hid (kids_any N HIH.out (decide (op ≤ 6)) op 0 0 (k1 :: k2 :: r) _ S R ws W1 (by omega) (by omega) hop11 hk2 HTm.out HWs.out HTb.out (by omega))
      have HF : Hid (∀ w7, TlP S R ws (tkk op true (k1 :: k2 :: r)) W1 (.returned (.tuple #[])) w7 → TlP S R ws (tks (.mk op 0 0 (k1 :: k2 :: r))) w (.returned (.tuple #[])) w7) := fun w7 ⟨_, S7, q1, q2⟩ => ⟨rfl, S7, by rw [HTS.out]; exact q1, ((Sw.refl S w).bel HB.out).trans q2⟩
      clear HTm
      rcases ho with rfl | rfl | rfl | rfl <;>
      · go_wp2_with (first
          | (refine ldRow 26 (.tmp 2) rfl rfl w.heap.size rfl 26 (tmc _ 0 0 (.slice ao len cap)) _ Tryz.underlying26 rfl sizeTM HN1.out ?_)
          | (go_at_call 41; refine (HK.out).mono ?_; rintro e w7 hq; obtain rfl := hq.1; have HY := hid (HF.out w7 hq); clear hq))
        first | go_end0 | refine bodyPost_ret (results_none rfl _ _ _) rfl ?_
        exact HY.out
end Go.Proofs.YtoncogkamlgjhaaGreatDoor
