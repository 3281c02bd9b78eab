/-
  Proved here: Add of the document's table. Condition: fewer than 2 to 31 were added.
-/
import Derived.Test.YtimenbkfkdpdcaaDoorRB
namespace Go.Proofs.YtimenbkfkdpdcaaDoor
open Go.RowKit

theorem ready_one {P : Program} {md : Region.Mode} {ops : Array Oper} {Q : Exit → Act → World → Prop} {S : World → Prop} {fuel : Nat} {listed : Array Bool} {a : Act} {w : World} (i : Nat) (o : Oper) (hr : Region.ready md ops listed = [i]) (ho : ops[i]? = some o)
    (h : if Region.wanted o (yielded ops a.tmps) = true then Oper.wp P o a w (fun a' w' => S w' ∧ wpAnyH P md ops Q S fuel (listed.setIfInBounds i true) a' w') Q else S w ∧ wpAnyH P md ops Q S fuel (listed.setIfInBounds i true) (a.put o.dst undef) w) : wpAnyH P md ops Q S (fuel + 1) listed a w := by
  refine wpAnyH_all hr (by simp) fun j hj => ?_
  obtain rfl : j = i := by simpa using hj
  unfold wpOp
  rw [ho]
  show if Region.wanted o (yielded ops a.tmps) = true then _ else _
  split
  · rename_i hw
    rw [if_pos hw] at h
    exact Or.inl h
  · rename_i hw
    rw [if_neg hw] at h
    exact h
section
variable {md : Region.Mode} {ops : Array Oper} {Q : Exit → Act → World → Prop} {S : World → Prop} {fuel : Nat} {listed : Array Bool} {a : Act} {w : World}
/-- The one operation that is ready makes a slice of one thing. -/
theorem ready_bs (i : Nat) (o : Oper) (hr : Region.ready md ops listed = [i]) (ho : ops[i]? = some o) (t e : TypeId) (y : Operand) (hop : o.op = .buildSlice t 1 #[(0, y)]) (hg : o.guard = none) (cs : Array Value) (hy : a.eval y = .agg cs) (hu : Tryd.prog.underlying t = some (.slice e)) (ie : TypeInfo) (z : Value) (n : Nat) (hie : Tryd.prog.info? e = some ie) (hz : ie.zero = some z) (hsz : ie.size = n) (hn : cs.size = n) (hn0 : 0 < n) (hn1 : n ≤ 1000)
    (hk : S (w.alloc (.cells cs e)) ∧ wpAnyH Tryd.prog md ops Q S fuel (listed.setIfInBounds i true) (a.put o.dst (.slice (some ⟨w.heap.size, 0, none⟩) 1 1)) (w.alloc (.cells cs e))) : wpAnyH Tryd.prog md ops Q S (fuel + 1) listed a w := by
  refine ready_one i o hr ho ?_
  have hw : Region.wanted o (yielded ops a.tmps) = true := by simp [Region.wanted, hg]
  rw [if_pos hw]
  refine wp_buildSlice t e 1 _ hop cs ie z hu hie hz (by rw [hsz, Nat.one_mul]; omega) (by rw [hsz, Nat.one_mul]; omega) ?_ hk
  rw [hsz]
  have : (Array.map (fun (x : Nat × Operand) => (x.1, a.eval x.2)) #[(0, y)]).toList = [(0, .agg cs)] := by simp [hy]
  show Instr.fill _ _ (Array.map (fun (x : Nat × Operand) => (x.1, a.eval x.2)) #[(0, y)]).toList = _
  rw [this]
  exact fill_one n _ cs (by simp) hn
theorem run_ld1 {o : Oper} (x : Operand) (hop : o.op = .load 26 x) (hgd : o.guard = none) (b j : Nat) (ao : Option Addr) (n c : Nat) (hx : a.eval x = .pointer (some ⟨b, j, none⟩)) (hc : w.cell? ⟨b, j, none⟩ = some (.slice ao n c)) {Kt : Act → World → Prop} {E : Prop}
    (hk : Kt (a.put o.dst (.slice ao n c)) w) : if Region.wanted o (yielded ops a.tmps) = true then Oper.wp Tryd.prog o a w Kt Q else E := by
  have hw : Region.wanted o (yielded ops a.tmps) = true := by simp [Region.wanted, hgd]
  rw [if_pos hw]
  unfold Oper.wp execOp
  simp only [hop, hx]
  go_simp
  exact hk
/-- The one operation that is ready loads a slice. -/
theorem ready_ld (i : Nat) (o : Oper) (hr : Region.ready md ops listed = [i]) (ho : ops[i]? = some o) (x : Operand) (hop : o.op = .load 26 x) (hgd : o.guard = none) (b j : Nat) (ao : Option Addr) (n c : Nat) (hx : a.eval x = .pointer (some ⟨b, j, none⟩)) (hc : w.cell? ⟨b, j, none⟩ = some (.slice ao n c))
    (hk : S w ∧ wpAnyH Tryd.prog md ops Q S fuel (listed.setIfInBounds i true) (a.put o.dst (.slice ao n c)) w) : wpAnyH Tryd.prog md ops Q S (fuel + 1) listed a w :=
  ready_one i o hr ho (run_ld1 x hop hgd b j ao n c hx hc hk)
/-- Two are ready: a load of a slice, and the making of a slice of one thing. -/
theorem ready_two (i i' : Nat) (o o' : Oper) (hr : Region.ready md ops listed = [i, i']) (ho : ops[i]? = some o) (ho' : ops[i']? = some o') (x : Operand) (hop : o.op = .load 26 x) (hgd : o.guard = none) (b j : Nat) (ao : Option Addr) (n c : Nat) (hx : a.eval x = .pointer (some ⟨b, j, none⟩)) (hc : w.cell? ⟨b, j, none⟩ = some (.slice ao n c))
    (t e : TypeId) (y : Operand) (hop' : o'.op = .buildSlice t 1 #[(0, y)]) (hg : o'.guard = none) (cs : Array Value) (hy : a.eval y = .agg cs) (hu : Tryd.prog.underlying t = some (.slice e)) (ie : TypeInfo) (z : Value) (k : Nat) (hie : Tryd.prog.info? e = some ie) (hz : ie.zero = some z) (hsz : ie.size = k) (hn : cs.size = k) (hn0 : 0 < k) (hn1 : k ≤ 1000)
    (hk : S w ∧ wpAnyH Tryd.prog md ops Q S fuel (listed.setIfInBounds i true) (a.put o.dst (.slice ao n c)) w)
    (hk' : S (w.alloc (.cells cs e)) ∧ wpAnyH Tryd.prog md ops Q S fuel (listed.setIfInBounds i' true) (a.put o'.dst (.slice (some ⟨w.heap.size, 0, none⟩) 1 1)) (w.alloc (.cells cs e))) : wpAnyH Tryd.prog md ops Q S (fuel + 1) listed a w := by
  refine wpAnyH_all hr (by simp) fun q hq => ?_
  have hq' : q = i ∨ q = i' := by simpa using hq
  rcases hq' with rfl | rfl
  · exact wpOp_step ho fun K' hK => run_ld1 x hop hgd b j ao n c hx hc (hK _ _ hk)
  · refine wpOp_step ho' fun K' hK => ?_
    have hw : Region.wanted o' (yielded ops a.tmps) = true := by simp [Region.wanted, hg]
    rw [if_pos hw]
    refine wp_buildSlice t e 1 _ hop' cs ie z hu hie hz (by rw [hsz, Nat.one_mul]; omega) (by rw [hsz, Nat.one_mul]; omega) ?_ (hK _ _ hk')
    rw [hsz]
    have : (Array.map (fun (x : Nat × Operand) => (x.1, a.eval x.2)) #[(0, y)]).toList = [(0, .agg cs)] := by simp [hy]
    show Instr.fill _ _ (Array.map (fun (x : Nat × Operand) => (x.1, a.eval x.2)) #[(0, y)]).toList = _
    rw [this]
    exact fill_one k _ cs (by simp) hn
/-- The one operation that is ready appends. -/
theorem ready_rw (i : Nat) (o : Oper) (hr : Region.ready md ops listed = [i]) (ho : ops[i]? = some o) (s x : Operand) (tt : TypeId) (hop : o.op = .call { callee := .builtin .append, args := #[s, x], argTypes := #[tt, tt] }) (hgd : o.guard = none)
    {T : Nat → Prop} {k t by' n m c : Nat} {v z : Value} {xs us : List Value} {ad : Addr} (hs : a.eval s = v) (hx : a.eval x = .slice (some ad) m c) (hu : Tryd.prog.underlying tt = some (.slice t)) (hinfo : (Tryd.prog.info? t).map (fun i => (i.zero, i.size, i.bytes)) = some (some z, k, by')) (hzs : z.cells.size = k) (hk : 0 < k) (hby : by' ≤ 4096)
    (h : Rw T k t w v n xs) (hul : us.length = m * k) (hnews : ∀ j x, us[j]? = some x → w.cell? (ad.add j) = some x) (h1 : ∀ x ∈ us, x.oneCell' = true) (hl : n + m < 2147483648) (hm : m ≠ 0 ∨ n ≠ 0)
    (hK : ∀ v' w', Apd w v w' → Rw (fun b => T b ∨ w.heap.size ≤ b) k t w' v' (n + m) (xs ++ us) → S w' ∧ wpAnyH Tryd.prog md ops Q S fuel (listed.setIfInBounds i true) (a.put o.dst v') w') : wpAnyH Tryd.prog md ops Q S (fuel + 1) listed a w :=
  ready_one i o hr ho (stepRw s x tt hop hgd hs hx hu hinfo hzs hk hby h hul hnews h1 hl hm hK)
theorem run_st1 {o : Oper} (x y : Operand) (hop : o.op = .store 26 x y) (hgd : o.guard = none) (b j : Nat) (ao : Option Addr) (n c : Nat) (u : Value) (hx : a.eval x = .pointer (some ⟨b, j, none⟩)) (hy : a.eval y = .slice ao n c) (hc : w.cell? ⟨b, j, none⟩ = some u) (hz : w.frozen? ⟨b, j, none⟩ = false) {Kt : Act → World → Prop} {E : Prop}
    (hk : Kt (a.put o.dst undef) (w.setCell ⟨b, j, none⟩ (.slice ao n c))) : if Region.wanted o (yielded ops a.tmps) = true then Oper.wp Tryd.prog o a w Kt Q else E := by
  have hw : Region.wanted o (yielded ops a.tmps) = true := by simp [Region.wanted, hgd]
  rw [if_pos hw]
  unfold Oper.wp execOp
  simp only [hop, hx, hy]
  go_simp
  exact hk
theorem ready_stS (i : Nat) (o : Oper) (hr : Region.ready md ops listed = [i]) (ho : ops[i]? = some o) (x y : Operand) (hop : o.op = .store 26 x y) (hgd : o.guard = none) (b j : Nat) (ao : Option Addr) (n c : Nat) (u : Value) (hx : a.eval x = .pointer (some ⟨b, j, none⟩)) (hy : a.eval y = .slice ao n c) (hc : w.cell? ⟨b, j, none⟩ = some u) (hz : w.frozen? ⟨b, j, none⟩ = false)
    (hk : S (w.setCell ⟨b, j, none⟩ (.slice ao n c)) ∧ wpAnyH Tryd.prog md ops Q S fuel (listed.setIfInBounds i true) (a.put o.dst undef) (w.setCell ⟨b, j, none⟩ (.slice ao n c))) : wpAnyH Tryd.prog md ops Q S (fuel + 1) listed a w :=
  ready_one i o hr ho (run_st1 x y hop hgd b j ao n c u hx hy hc hz hk)
end
theorem runBldIn {o : Oper} {a : Act} {w : World} (x y : Operand) (ho : o.op = .build 64 #[(0, x), (1, y)]) (e : Ie) (hx : a.eval x = .int .i64 e.k) (hy : a.eval y = .agg (rvc e.x)) : (execOp a.eval o).run Tryd.prog w = .ok (.value (.agg (ic e))) w := by
  obtain ⟨k, ⟨r, m, cp, ck⟩⟩ := e
  unfold execOp
  simp only [ho, hx, hy, List.map_toArray, List.map_cons, List.map_nil, Sem.run_bind, Sem.run_pure]
  show _ = _
  kernel_rfl
theorem sizeRul (x : RuV) : (Tryd.prog.info? 36).map (·.size) = some (rvc x).size := by rw [rvc_size]; kernel_rfl
/-- What Add of the document's table reads. -/
structure Hd9 (g : Nat) (last : Int) (b : Nat) (x : RuV) (w : World) : Prop where
  c1 : w.cell? ⟨g, 1, none⟩ = some (.int .i64 last)
  rr : w.rangeAt b 0 (rvc x).toList
theorem Hd9.on {g : Nat} {last : Int} {b : Nat} {x : RuV} {w w' : World} (h : Hd9 g last b x w) (h1 : w'.heap[g]? = w.heap[g]?) (h2 : w'.heap[b]? = w.heap[b]?) : Hd9 g last b x w' := ⟨(cell_same h1).trans h.c1, fun j v hj => (cell_same h2).trans (h.rr j v hj)⟩
def raL (L : List Ie) (last : Int) (x : RuV) : List Ie := if adE (ruI L) x.m = 0 then L ++ [⟨last + 1, x⟩] else L
theorem ruI_len (L : List Ie) : (ruI L).length = L.length := by simp [ruI]
theorem raL_ru (L : List Ie) (last : Int) (x : RuV) : ruI (raL L last x) = adT (ruI L) last x.r x.m := by
  unfold raL adT
  split
  · simp [ruI]
  · rfl
def RaP (S : Nat → Prop) (w : World) (g : Nat) (L : List Ie) (last : Int) (x : RuV) (e : Ending) (w' : World) : Prop := e = .returned (.tuple #[.int .i64 (adN (ruI L) last x.m), .int .i64 (adE (ruI L) x.m)]) ∧ Only S w w' ∧ RTab S w' g (raL L last x) (adA (ruI L) last x.m)
theorem range_mat0 {w : World} {b t : Nat} {x : RuV} (h : w.heap[b]? = some (.cells (rvc x) t (0, 0))) : w.rangeAt b 1 (row 22 x.m).toList := range_of fun i hi => by
  rw [row_size] at hi
  rw [cell_of_row _ _ _ _ _ _ h, Nat.add_comm, rvc_mat _ _ hi]
set_option maxHeartbeats 3200000 in
set_option maxRecDepth 100000 in
theorem radd_any {S : Nat → Prop} (w : World) (g : Nat) (L : List Ie) (last : Int) (x : RuV) (hT : RTab S w g L last) (hf : Fresh S w) (hx1 : x.cp.oneCell' = true) (hl0 : 0 ≤ last) (hl1 : last < 2147483640) :
    Calls Tryd.prog 9 #[pv g, .agg (rvc x)] w (RaP S w g L last x) := by
  obtain ⟨vl, hg, hR⟩ := hT.ex
  obtain ⟨ao, cap, rfl⟩ := hR.form
  obtain ⟨W0, hW0⟩ : ∃ W0, W0 = w.alloc (.cells (rvc x) 36) := ⟨_, rfl⟩
  have hB0 : Below w.heap.size w W0 := by rw [hW0]; exact (Below.refl _ _).alloc (Nat.le_refl _) _
  have hs0 : W0.heap.size = w.heap.size + 1 := by rw [hW0]; simp
  have hG0 : W0.heap[w.heap.size]? = some (.cells (rvc x) 36 (0, 0)) := by rw [hW0]; exact heap_alloc_new _ _
  have HRm := hid (range_mat0 hG0)
  obtain ⟨m, hm⟩ : ∃ z, z = x.m := ⟨_, rfl⟩
  rw [← hm] at HRm
  have HC := hid (rcheck_any m W0)
  have HW0 := hid hW0
  have HT := hid hT
  have HFs := hid hf
  have hgl := (Array.getElem?_eq_some_iff.1 hg).1
  cases hok : mOk m with
  | false =>
    rw [chk_bad hok] at HC
    have HP : Hid (∀ y, Below W0.heap.size W0 y → RaP S w g L last x (.returned (.tuple #[.int .i64 0, .int .i64 20])) y) := fun y hb => by
      have hb' : Below w.heap.size w y := hB0.trans (hb.mono hB0.size)
      have e0 : adE (ruI L) x.m = 20 := by simp [adE, ← hm, hok]
      unfold RaP raL adN adA
      rw [e0]
      exact ⟨rfl, Only.of hb' HFs.out, HT.out.carry fun b hb1 hS => ⟨hS, hb'.block b hb1⟩⟩
    clear hT hg hR hW0 hB0 hs0 hG0 hm hok
    go_enter Tryd.func9, Tryd.ntmps9
    go_upto_region 1 with fail
    rw [← HW0.out]
    clear HW0
    go_wp2_with (first
      | (refine ldMid 33 (.tmp 6) rfl rfl w.heap.size 1 rfl (row 22 m) _ Tryd.underlying33 rfl (size26 m) HRm.out ?_)
      | (go_at_call 22; refine (HC.out).mono ?_; rintro e w1 ⟨rfl, hb1⟩; have HB1 := hid hb1; clear hb1 HC))
    refine bodyPost_ret (results_tmp2 rfl _ _ _) rfl ?_
    exact HP.out w1 HB1.out
  | true =>
    rw [chk_ok hok] at HC
    by_cases hfull : 1024 ≤ L.length
    · have hd : decide ((1024 : Int) ≤ (L.length : Int)) = true := decide_eq_true (by omega)
      have HK : Hid (∀ y, Below W0.heap.size W0 y → y.cell? ⟨g, 0, none⟩ = some (.slice ao L.length cap) ∧ RaP S w g L last x (.returned (.tuple #[.int .i64 0, .int .i64 4])) y) := fun y hb => by
        have hb' : Below w.heap.size w y := hB0.trans (hb.mono hB0.size)
        have e0 : adE (ruI L) x.m = 4 := by simp [adE, ← hm, hok, ruI_len, hfull]
        unfold RaP raL adN adA
        rw [e0]
        exact ⟨(cells_two ((hb'.block g hgl).trans hg)).1, rfl, Only.of hb' HFs.out, HT.out.carry fun b hb1 hS => ⟨hS, hb'.block b hb1⟩⟩
      clear hT hg hR hW0 hB0 hs0 hG0 hm hok
      go_enter Tryd.func9, Tryd.ntmps9
      go_upto_region 1 with fail
      rw [← HW0.out]
      clear HW0
      go_wp2_with (first
        | (refine ldMid 33 (.tmp 6) rfl rfl w.heap.size 1 rfl (row 22 m) _ Tryd.underlying33 rfl (size26 m) HRm.out ?_)
        | (go_at_call 22; refine (HC.out).mono ?_; rintro e w1 ⟨rfl, hb1⟩; obtain ⟨k1, k2⟩ := HK.out w1 hb1; have HP := hid k2; clear hb1 HC HK k2))
      refine bodyPost_ret (results_tmp2 rfl _ _ _) rfl ?_
      exact HP.out
    · have hd : decide ((1024 : Int) ≤ (L.length : Int)) = false := decide_eq_false (by omega)
      have hw1 : IntKind.i64.wrap (last + 1) = last + 1 := by rw [IntKind.wrap_i64]; omega
      have HK : Hid (∀ y, Below W0.heap.size W0 y → y.cell? ⟨g, 0, none⟩ = some (.slice ao L.length cap) ∧ y.cell? ⟨g, 1, none⟩ = some (.int .i64 last) ∧ y.frozen? ⟨g, 1, none⟩ = false) := fun y hb => by
        have hb' : Below w.heap.size w y := hB0.trans (hb.mono hB0.size)
        obtain ⟨b0, b1, b2⟩ := cells_two ((hb'.block g hgl).trans hg)
        exact ⟨b0, b1, b2 1⟩
      have HBB := hid (And.intro hB0 (And.intro hs0 (And.intro hG0 (And.intro hg (And.intro hR (And.intro hm hok))))))
      clear hT hg hR hW0 hB0 hs0 hG0 hm hok
      go_enter Tryd.func9, Tryd.ntmps9
      go_upto_region 1 with fail
      rw [← HW0.out]
      clear HW0
      go_upto_region 6 with (first
        | (refine ldMid 33 (.tmp 6) rfl rfl w.heap.size 1 rfl (row 22 m) _ Tryd.underlying33 rfl (size26 m) HRm.out ?_)
        | (go_at_call 22; refine (HC.out).mono ?_; rintro e w1 ⟨rfl, hb1⟩; obtain ⟨k1, k2, k3⟩ := HK.out w1 hb1; have HB1 := hid hb1; clear hb1 HC HK))
      clear k1 k2 k3
      obtain ⟨hB0, hs0, hG0, hg, hR, hm, hok⟩ := HBB.out
      have hb1w : Below w.heap.size w w1 := hB0.trans (HB1.out.mono hB0.size)
      obtain ⟨w2, hw2⟩ : ∃ z, z = w1.setCell ⟨g, 1, none⟩ (.int .i64 (last + 1)) := ⟨_, rfl⟩
      have hg1 : w1.heap[g]? = some (.cells #[.slice ao L.length cap, .int .i64 last] 28 (0, 0)) := (hb1w.block g hgl).trans hg
      have hg2 : w2.heap[g]? = some (.cells #[.slice ao L.length cap, .int .i64 (last + 1)] 28 (0, 0)) := by rw [hw2, heap_setCell_same w1 g 1 _ _ _ hg1]; rfl
      have hoth : ∀ b, b ≠ g → w2.heap[b]? = w1.heap[b]? := fun b hb => by rw [hw2]; exact heap_setCell_other w1 ⟨g, 1, none⟩ b _ hb
      have hs2 : w2.heap.size = w1.heap.size := by rw [hw2]; simp
      have hsw : w.heap.size + 1 ≤ w1.heap.size := by have := HB1.out.size; omega
      have hO2 : Only S w w2 := by rw [hw2]; exact (Only.of hb1w HFs.out).setCell (p := ⟨g, 1, none⟩) HT.out.sg _
      have hG2 : w2.heap[w.heap.size]? = some (.cells (rvc x) 36 (0, 0)) := (hoth _ (by omega)).trans ((HB1.out.block _ (by omega)).trans hG0)
      have hR2 : Rw (fun b => S b ∧ b ≠ g ∧ b < w2.heap.size) 26 64 w2.drew (.slice ao L.length cap) L.length (ics L) := hR.carry fun b hb hS => ⟨⟨hS.1, hS.2, by have := hb1w.size; omega⟩, (hoth b hS.2).trans (hb1w.block b hb)⟩
      obtain ⟨e, he⟩ : ∃ e : Ie, e = ⟨last + 1, x⟩ := ⟨_, rfl⟩
      obtain ⟨w3, hw3⟩ : ∃ z, z = w2.drew.alloc (.cells (ic e) 64) := ⟨_, rfl⟩
      have hB3 : Below w2.heap.size w2 w3 := by rw [hw3]; exact (Below.refl _ _).drew.alloc (Nat.le_refl _) _
      have hR3 : Rw (fun b => S b ∧ b ≠ g ∧ b < w2.heap.size) 26 64 w3 (.slice ao L.length cap) L.length (ics L) := hR2.carry fun b hb hS => ⟨hS, hB3.block b hb⟩
      have hnw : ∀ j z, (ic e).toList[j]? = some z → w3.cell? (Addr.add ⟨w2.drew.heap.size, 0, none⟩ j) = some z := fun j z hz => by
        rw [Addr.add_lit, Nat.zero_add, hw3, cell_of_row _ _ _ _ _ _ (heap_alloc_new _ _), ← hz]; simp
      have hone : (ic e).all (·.oneCell') = true := ic_one (by rw [he]; exact hx1)
      have h1c : ∀ z ∈ (ic e).toList, z.oneCell' = true := fun z hz => Array.all_eq_true'.1 hone z (by simpa using hz)
      have hd2 : Hd9 g (last + 1) w.heap.size x w2 := ⟨(cells_two hg2).2.1, range_of fun i _ => by rw [Nat.zero_add, cell_of_row _ _ _ _ _ _ hG2]⟩
      have HD2 : Hid (Hd9 g (last + 1) w.heap.size x w2.drew) := hd2.on rfl rfl
      have hg2l := (Array.getElem?_eq_some_iff.1 hg2).1
      have HD3 : Hid (Hd9 g (last + 1) w.heap.size x w3) := hd2.on (hB3.block _ hg2l) (hB3.block _ (by omega))
      have hxsl : ∀ z, (Value.slice ao L.length cap).ownBlock = some z → z ≠ g ∧ z ≠ w.heap.size := fun z hz => by
        have h1 := (hR.own z hz)
        have h2 := hR.ownLt z hz
        exact ⟨h1.2, by omega⟩
      have HAp : Hid (∀ w4, Apd w3 (.slice ao L.length cap) w4 → (w4.heap[g]? = w3.heap[g]?) ∧ (w4.heap[w.heap.size]? = w3.heap[w.heap.size]?)) := fun w4 hA => by
        have := hB3.size
        exact ⟨hA.block g (by omega) fun e => (hxsl g e).1 rfl, hA.block _ (by omega) fun e => (hxsl _ e).2 rfl⟩
      have HFin : Hid (∀ w4 s4 c4, Apd w3 (.slice ao L.length cap) w4 → Rw (fun b => (S b ∧ b ≠ g ∧ b < w2.heap.size) ∨ w3.heap.size ≤ b) 26 64 w4 (.slice s4 (L.length + 1) c4) (L.length + 1) (ics L ++ (ic e).toList) → RaP S w g L last x (.returned (.tuple #[.int .i64 (last + 1), .int .i64 0])) (w4.setCell ⟨g, 0, none⟩ (.slice s4 (L.length + 1) c4))) := fun w4 s4 c4 hA hR4 => by
        have e0 : adE (ruI L) x.m = 0 := by simp [adE, ← hm, hok, ruI_len, hfull]
        unfold RaP raL adN adA
        rw [e0]
        have hg3 : w3.heap[g]? = some (.cells #[.slice ao L.length cap, .int .i64 (last + 1)] 28 (0, 0)) := (hB3.block _ hg2l).trans hg2
        have hg4 : w4.heap[g]? = some (.cells #[.slice ao L.length cap, .int .i64 (last + 1)] 28 (0, 0)) := ((HAp.out w4 hA).1).trans hg3
        have hO4 : Only S w w4 := (hO2.trans (Only.of hB3 (HFs.out.on hO2.size))).trans (hA.only (HFs.out.on (Nat.le_trans hO2.size hB3.size)) fun k hk => (hR3.own k hk).1)
        refine ⟨rfl, hO4.setCell (p := ⟨g, 0, none⟩) HT.out.sg _, HT.out.sg, ⟨.slice s4 (L.length + 1) c4, by rw [heap_setCell_same w4 g 0 _ _ _ hg4]; rfl, ?_⟩, fun y hy => ?_⟩
        · have e1 : ics (L ++ [⟨last + 1, x⟩]) = ics L ++ (ic e).toList := by rw [ics_app, ics_one, he]
          rw [if_pos rfl, e1, List.length_append]
          refine hR4.carry fun b hb hS => ?_
          have hbg : b ≠ g := by
            rcases hS with hS | hS
            · exact hS.2.1
            · have := hB3.size; omega
          refine ⟨⟨?_, hbg⟩, heap_setCell_other w4 ⟨g, 0, none⟩ b _ hbg⟩
          rcases hS with hS | hS
          · exact hS.1
          · exact HFs.out b (Nat.le_trans (Nat.le_trans hO2.size hB3.size) hS)
        · rw [if_pos rfl] at hy
          rcases List.mem_append.1 hy with hy | hy
          · exact HT.out.one y hy
          · simp at hy; rw [hy]; exact hx1
      have HD4 : Hid (∀ w4, Apd w3 (.slice ao L.length cap) w4 → Hd9 g (last + 1) w.heap.size x w4 ∧ w4.cell? ⟨g, 0, none⟩ = some (.slice ao L.length cap) ∧ w4.frozen? ⟨g, 0, none⟩ = false ∧ ∀ u, Hd9 g (last + 1) w.heap.size x (w4.setCell ⟨g, 0, none⟩ u)) := fun w4 hA => by
        obtain ⟨a1, a2⟩ := HAp.out w4 hA
        have hg3 : w3.heap[g]? = some (.cells #[.slice ao L.length cap, .int .i64 (last + 1)] 28 (0, 0)) := (hB3.block _ hg2l).trans hg2
        have hg4 := a1.trans hg3
        obtain ⟨b0, b1, b2⟩ := cells_two hg4
        have h4 := HD3.out.on a1 a2
        refine ⟨h4, b0, b2 0, fun u => ⟨?_, fun j v hj => (cell_same (heap_setCell_other w4 ⟨g, 0, none⟩ _ u (by show w.heap.size ≠ g; omega))).trans (h4.rr j v hj)⟩⟩
        rw [cell_of_row _ _ _ _ _ _ (heap_setCell_same w4 g 0 _ _ u hg4)]; rfl
      have k0 : w2.drew.cell? ⟨g, 0, none⟩ = some (.slice ao L.length cap) := (cells_two hg2).1
      have k0' : w3.cell? ⟨g, 0, none⟩ = some (.slice ao L.length cap) := (cell_same (hB3.block _ hg2l)).trans (cells_two hg2).1
      have HK0 := hid (And.intro k0 k0')
      have HR3 := hid hR3
      have HNw := hid hnw
      have H1c := hid h1c
      have HEe := hid he
      have HW3 := hid hw3.symm
      obtain ⟨iR, hiR, hiz, his, -⟩ := info_parts infoIN
      rw [← hw2]
      clear hB0 hs0 hG0 hg hR hm hok hb1w hg1 hg2 hoth hs2 hsw hO2 hG2 hR2 he hw3 hB3 hR3 hnw hone h1c hd2 hg2l hxsl k0 k0' HBB HAp hw2 HRm
      refine wp_region_held_drew (S := Hd9 g (last + 1) w.heap.size x) (by kernel_rfl) HD2.out (fun hHeld => ?_)
      refine wpAnyH_take (i := 0) (v := ?_) rfl (by kernel_rfl) (by kernel_rfl) (by kernel_rfl) (fun _ _ _ h => h) (Or.inl ⟨by rfl, ?_⟩) hHeld ?_
      rotate_left
      · intro w' hSw
        clear hSw
        go_simp
        first | done | with_reducible rfl
      simp only [Act.put, List.getElem_toArray, List.getElem_cons_zero, List.setIfInBounds_toArray, List.set_cons_zero, List.set_cons_succ]
      refine wpAnyH_take (i := 1) (v := ?_) rfl (by kernel_rfl) (by kernel_rfl) (by kernel_rfl) (fun _ _ _ h => h) (Or.inl ⟨by rfl, ?_⟩) hHeld ?_
      rotate_left
      · intro w' hSw
        clear hSw
        go_simp
        first | done | with_reducible rfl
      simp only [Act.put, List.getElem_toArray, List.getElem_cons_succ, List.getElem_cons_zero, List.setIfInBounds_toArray, List.set_cons_zero, List.set_cons_succ]
      refine wpAnyH_take (i := 2) (v := ?_) rfl (by kernel_rfl) (by kernel_rfl) (by kernel_rfl) (fun _ _ _ h => h) (Or.inl ⟨by rfl, ?_⟩) hHeld ?_
      rotate_left
      · intro w' hSw
        clear hSw
        go_simp
        first | done | with_reducible rfl
      simp only [Act.put, List.getElem_toArray, List.getElem_cons_succ, List.getElem_cons_zero, List.setIfInBounds_toArray, List.set_cons_zero, List.set_cons_succ]
      refine wpAnyH_take (i := 3) (v := ?_) rfl (by kernel_rfl) (by kernel_rfl) (by kernel_rfl) (fun _ _ _ h => h) (Or.inl ⟨by rfl, ?_⟩) hHeld ?_
      rotate_left
      · intro w' hSw
        clear hSw
        go_simp
        first | done | with_reducible rfl
      simp only [Act.put, List.getElem_toArray, List.getElem_cons_succ, List.getElem_cons_zero, List.setIfInBounds_toArray, List.set_cons_zero, List.set_cons_succ]
      refine wpAnyH_take (i := 5) (v := ?_) rfl (by kernel_rfl) (by kernel_rfl) (by kernel_rfl) (fun _ _ _ h => h) (Or.inl ⟨by rfl, ?_⟩) hHeld ?_
      rotate_left
      · intro w' hSw
        clear hSw
        go_simp
        first | done | with_reducible rfl
      simp only [Act.put, List.getElem_toArray, List.getElem_cons_succ, List.getElem_cons_zero, List.setIfInBounds_toArray, List.set_cons_zero, List.set_cons_succ]
      refine wpAnyH_take (i := 6) (v := ?_) rfl (by kernel_rfl) (by kernel_rfl) (by kernel_rfl) (fun _ _ _ h => h) (Or.inl ⟨by rfl, ?_⟩) hHeld ?_
      rotate_left
      · intro w' hSw
        clear hSw
        go_simp
        first | done | with_reducible rfl
      simp only [Act.put, List.getElem_toArray, List.getElem_cons_succ, List.getElem_cons_zero, List.setIfInBounds_toArray, List.set_cons_zero, List.set_cons_succ]
      refine wpAnyH_take (i := 7) (v := ?_) rfl (by kernel_rfl) (by kernel_rfl) (by kernel_rfl) (fun _ _ _ h => h) (Or.inl ⟨by rfl, ?_⟩) hHeld ?_
      rotate_left
      · intro w' hSw
        clear hSw
        go_simp
        first | done | with_reducible rfl
      simp only [Act.put, List.getElem_toArray, List.getElem_cons_succ, List.getElem_cons_zero, List.setIfInBounds_toArray, List.set_cons_zero, List.set_cons_succ]
      refine wpAnyH_take (i := 8) (v := ?_) rfl (by kernel_rfl) (by kernel_rfl) (by kernel_rfl) (fun _ _ _ h => h) (Or.inl ⟨by rfl, ?_⟩) hHeld ?_
      rotate_left
      · intro w' hSw
        have c1 := hSw.c1
        clear hSw
        go_simp
        first | done | with_reducible rfl
      simp only [Act.put, List.getElem_toArray, List.getElem_cons_succ, List.getElem_cons_zero, List.setIfInBounds_toArray, List.set_cons_zero, List.set_cons_succ]
      refine wpAnyH_take (i := 9) (v := (.agg (rvc x))) rfl (by kernel_rfl) (by kernel_rfl) (by kernel_rfl) (fun _ _ _ h => h) (Or.inl ⟨by rfl, ?_⟩) hHeld ?_
      · intro w' hSw
        exact runLd 36 (.tmp 3) rfl w.heap.size 0 rfl (rvc x) _ hSw.rr Tryd.underlying36 rfl (sizeRul x)
      simp only [Act.put, List.getElem_toArray, List.getElem_cons_succ, List.getElem_cons_zero, List.setIfInBounds_toArray, List.set_cons_zero, List.set_cons_succ]
      refine wpAnyH_take (i := 10) (v := (.agg (ic e))) rfl (by kernel_rfl) (by kernel_rfl) (by kernel_rfl) (fun _ _ _ h => h) (Or.inl ⟨by rfl, ?_⟩) hHeld ?_
      · intro w' hSw
        exact runBldIn (.tmp 31) (.tmp 32) rfl e (by rw [HEe.out]; rfl) (by rw [HEe.out]; rfl)
      simp only [Act.put, List.getElem_toArray, List.getElem_cons_succ, List.getElem_cons_zero, List.setIfInBounds_toArray, List.set_cons_zero, List.set_cons_succ]
      refine ready_two 4 11 _ _ (by kernel_rfl) rfl rfl (.tmp 26) rfl rfl g 0 ao L.length cap rfl HK0.out.1 26 64 (.tmp 33) rfl rfl (ic e) rfl Tryd.underlying26 iR _ 26 hiR hiz his (ic_size e) (by omega) (by omega) ?_ ?_
      · skip
        refine ⟨HD2.out, ?_⟩
        simp only [Act.put, List.getElem_toArray, List.getElem_cons_succ, List.getElem_cons_zero, List.setIfInBounds_toArray, List.set_cons_zero, List.set_cons_succ]
        refine ready_bs 11 _ (by kernel_rfl) rfl 26 64 (.tmp 33) rfl rfl (ic e) rfl Tryd.underlying26 iR _ 26 hiR hiz his (ic_size e) (by omega) (by omega) ?_
        rw [HW3.out]
        refine ⟨HD3.out, ?_⟩
        simp only [Act.put, List.getElem_toArray, List.getElem_cons_succ, List.getElem_cons_zero, List.setIfInBounds_toArray, List.set_cons_zero, List.set_cons_succ]
        refine ready_rw 12 _ (by kernel_rfl) rfl (.tmp 27) (.tmp 34) 26 rfl rfl (k := 26) (t := 64) (n := L.length) (m := 1) (c := 1) (us := (ic e).toList) (ad := ⟨w2.drew.heap.size, 0, none⟩) rfl rfl Tryd.underlying26 infoIN (ic_size _) (by omega) (by omega) HR3.out (ic_len e) HNw.out H1c.out (by omega) (Or.inl (by omega)) ?_
        intro v4 w4 hA4 hR4
        obtain ⟨s4, c4, rfl⟩ : ∃ s4 c4, v4 = .slice s4 (L.length + 1) c4 := hR4.form
        have HA4 := hid hA4
        have HR4 := hid hR4
        obtain ⟨f1, f2⟩ := HD4.out w4 hA4
        have HF2 := hid f2
        clear hA4 hR4 f2
        refine ⟨f1, ?_⟩
        simp only [Act.put, List.getElem_toArray, List.getElem_cons_succ, List.getElem_cons_zero, List.setIfInBounds_toArray, List.set_cons_zero, List.set_cons_succ]
        have hHeld := f1
        refine wpAnyH_take (i := 13) (v := ?_) rfl (by kernel_rfl) (by kernel_rfl) (by kernel_rfl) (fun _ _ _ h => h) (Or.inl ⟨by rfl, ?_⟩) hHeld ?_
        rotate_left
        · intro w' hSw
          clear hSw
          go_simp
          first | done | with_reducible rfl
        simp only [Act.put, List.getElem_toArray, List.getElem_cons_succ, List.getElem_cons_zero, List.setIfInBounds_toArray, List.set_cons_zero, List.set_cons_succ]
        refine wpAnyH_take (i := 14) (v := ?_) rfl (by kernel_rfl) (by kernel_rfl) (by kernel_rfl) (fun _ _ _ h => h) (Or.inl ⟨by rfl, ?_⟩) hHeld ?_
        rotate_left
        · intro w' hSw
          clear hSw
          go_simp
          first | done | with_reducible rfl
        simp only [Act.put, List.getElem_toArray, List.getElem_cons_succ, List.getElem_cons_zero, List.setIfInBounds_toArray, List.set_cons_zero, List.set_cons_succ]
        refine ready_stS 15 _ (by kernel_rfl) rfl (.tmp 37) (.tmp 35) rfl rfl g 0 s4 (L.length + 1) c4 _ rfl rfl HF2.out.1 HF2.out.2.1 ?_
        refine ⟨(HF2.out.2.2 _), ?_⟩
        simp only [Act.put, List.getElem_toArray, List.getElem_cons_succ, List.getElem_cons_zero]
        refine wpAnyH_done (by kernel_rfl) ?_ _
        have z1 := (HF2.out.2.2 (.slice s4 (L.length + 1) c4)).c1
        go_wp2
        refine bodyPost_ret (results_tmp2 rfl _ _ _) rfl ?_
        exact HFin.out w4 s4 c4 HA4.out HR4.out
      · rw [HW3.out]
        refine ⟨HD3.out, ?_⟩
        simp only [Act.put, List.getElem_toArray, List.getElem_cons_succ, List.getElem_cons_zero, List.setIfInBounds_toArray, List.set_cons_zero, List.set_cons_succ]
        refine ready_ld 4 _ (by kernel_rfl) rfl (.tmp 26) rfl rfl g 0 ao L.length cap rfl HK0.out.2 ?_
        refine ⟨HD3.out, ?_⟩
        simp only [Act.put, List.getElem_toArray, List.getElem_cons_succ, List.getElem_cons_zero, List.setIfInBounds_toArray, List.set_cons_zero, List.set_cons_succ]
        refine ready_rw 12 _ (by kernel_rfl) rfl (.tmp 27) (.tmp 34) 26 rfl rfl (k := 26) (t := 64) (n := L.length) (m := 1) (c := 1) (us := (ic e).toList) (ad := ⟨w2.drew.heap.size, 0, none⟩) rfl rfl Tryd.underlying26 infoIN (ic_size _) (by omega) (by omega) HR3.out (ic_len e) HNw.out H1c.out (by omega) (Or.inl (by omega)) ?_
        intro v4 w4 hA4 hR4
        obtain ⟨s4, c4, rfl⟩ : ∃ s4 c4, v4 = .slice s4 (L.length + 1) c4 := hR4.form
        have HA4 := hid hA4
        have HR4 := hid hR4
        obtain ⟨f1, f2⟩ := HD4.out w4 hA4
        have HF2 := hid f2
        clear hA4 hR4 f2
        refine ⟨f1, ?_⟩
        simp only [Act.put, List.getElem_toArray, List.getElem_cons_succ, List.getElem_cons_zero, List.setIfInBounds_toArray, List.set_cons_zero, List.set_cons_succ]
        have hHeld := f1
        refine wpAnyH_take (i := 13) (v := ?_) rfl (by kernel_rfl) (by kernel_rfl) (by kernel_rfl) (fun _ _ _ h => h) (Or.inl ⟨by rfl, ?_⟩) hHeld ?_
        rotate_left
        · intro w' hSw
          clear hSw
          go_simp
          first | done | with_reducible rfl
        simp only [Act.put, List.getElem_toArray, List.getElem_cons_succ, List.getElem_cons_zero, List.setIfInBounds_toArray, List.set_cons_zero, List.set_cons_succ]
        refine wpAnyH_take (i := 14) (v := ?_) rfl (by kernel_rfl) (by kernel_rfl) (by kernel_rfl) (fun _ _ _ h => h) (Or.inl ⟨by rfl, ?_⟩) hHeld ?_
        rotate_left
        · intro w' hSw
          clear hSw
          go_simp
          first | done | with_reducible rfl
        simp only [Act.put, List.getElem_toArray, List.getElem_cons_succ, List.getElem_cons_zero, List.setIfInBounds_toArray, List.set_cons_zero, List.set_cons_succ]
        refine ready_stS 15 _ (by kernel_rfl) rfl (.tmp 37) (.tmp 35) rfl rfl g 0 s4 (L.length + 1) c4 _ rfl rfl HF2.out.1 HF2.out.2.1 ?_
        refine ⟨(HF2.out.2.2 _), ?_⟩
        simp only [Act.put, List.getElem_toArray, List.getElem_cons_succ, List.getElem_cons_zero]
        refine wpAnyH_done (by kernel_rfl) ?_ _
        have z1 := (HF2.out.2.2 (.slice s4 (L.length + 1) c4)).c1
        go_wp2
        refine bodyPost_ret (results_tmp2 rfl _ _ _) rfl ?_
        exact HFin.out w4 s4 c4 HA4.out HR4.out
end Go.Proofs.YtimenbkfkdpdcaaDoor
