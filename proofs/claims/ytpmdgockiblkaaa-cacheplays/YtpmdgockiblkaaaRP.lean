/-
  Proved here: Put of the document's cache. Conditions: fewer than 2 to 31 places; the hand is at one of them, if there are some.
-/
import Derived.Test.YtpmdgockiblkaaaRG
import Derived.Deep.LoopGhost
namespace Go.Proofs.Ytpmdgockiblkaaa
open Go.RowKit

section
variable {ops : Array Oper} {o : Oper} {a : Act} {w : World} {Kt : Act → World → Prop} {Q : Exit → Act → World → Prop} {E : Prop}
theorem stepStB (x y : Operand) (hop : o.op = .store 4 x y) (hgd : o.guard = none) (b i : Nat) (t : Bool) (u : Value) (hx : a.eval x = .pointer (some ⟨b, i, none⟩)) (hy : a.eval y = .bool t) (hc : w.cell? ⟨b, i, none⟩ = some u) (hz : w.frozen? ⟨b, i, none⟩ = false)
    (hk : Kt (a.put o.dst undef) (w.setCell ⟨b, i, none⟩ (.bool t))) : if Region.wanted o (yielded ops a.tmps) = true then Oper.wp Try.prog o a w Kt Q else E := by
  have hw : Region.wanted o (yielded ops a.tmps) = true := by simp [Region.wanted, hgd]
  rw [if_pos hw]
  unfold Oper.wp execOp
  simp only [hop, hx, hy]
  go_simp
  exact hk
theorem stepStI (x y : Operand) (hop : o.op = .store 3 x y) (hgd : o.guard = none) (b i : Nat) (n : Int) (u : Value) (hx : a.eval x = .pointer (some ⟨b, i, none⟩)) (hy : a.eval y = .int .i64 n) (hc : w.cell? ⟨b, i, none⟩ = some u) (hz : w.frozen? ⟨b, i, none⟩ = false)
    (hk : Kt (a.put o.dst undef) (w.setCell ⟨b, i, none⟩ (.int .i64 n))) : if Region.wanted o (yielded ops a.tmps) = true then Oper.wp Try.prog o a w Kt Q else E := by
  have hw : Region.wanted o (yielded ops a.tmps) = true := by simp [Region.wanted, hgd]
  rw [if_pos hw]
  unfold Oper.wp execOp
  simp only [hop, hx, hy]
  go_simp
  exact hk
theorem stepStM (ty : TypeId) (x y : Operand) (hop : o.op = .store ty x y) (hgd : o.guard = none) (g p : Nat) (cs : Array Value) (hx : a.eval x = .pointer (some ⟨g, p, none⟩)) (hy : a.eval y = .agg cs) (ht : w.there g p cs.size) (hi : (Try.prog.info? ty).map (·.size) = some cs.size) (h1 : cs.all (·.oneCell') = true)
    (hk : Kt (a.put o.dst undef) (w.setCells g p cs.toList)) : if Region.wanted o (yielded ops a.tmps) = true then Oper.wp Try.prog o a w Kt Q else E := by
  have hw : Region.wanted o (yielded ops a.tmps) = true := by simp [Region.wanted, hgd]
  rw [if_pos hw]
  exact wp_store_mid ty x y hop g p cs hx hy ht hi h1 hk
theorem stepStN (ty : TypeId) (x y : Operand) (hop : o.op = .store ty x y) (hgd : o.guard = none) (w0 : World) (t : TypeId) (zs cs : Array Value) (hW : w = w0.alloc (.cells zs t)) (hx : a.eval x = .pointer (some ⟨w0.heap.size, 0, none⟩)) (hy : a.eval y = .agg cs) (hi : (Try.prog.info? ty).map (·.size) = some cs.size) (hz : zs.size = cs.size) (h1 : cs.all (·.oneCell') = true)
    (hk : Kt (a.put o.dst undef) (w0.alloc (.cells cs t))) : if Region.wanted o (yielded ops a.tmps) = true then Oper.wp Try.prog o a w Kt Q else E := by
  have hw : Region.wanted o (yielded ops a.tmps) = true := by simp [Region.wanted, hgd]
  rw [if_pos hw]
  subst hW
  refine wp_store_row ty x y hop _ cs hx hy t zs (heap_alloc_new _ _) hi hz h1 ?_
  rw [World.setRow_alloc_new]
  exact hk
theorem stepAlR (hop : o.op = .alloc 58) (hgd : o.guard = none)
    (hk : Kt (a.put o.dst (pv w.heap.size)) (w.alloc (.cells (rco none) 58))) : if Region.wanted o (yielded ops a.tmps) = true then Oper.wp Try.prog o a w Kt Q else E := by
  have hw : Region.wanted o (yielded ops a.tmps) = true := by simp [Region.wanted, hgd]
  rw [if_pos hw]
  have hrun : (execOp a.eval o).run Try.prog w = .ok (.value (pv w.heap.size)) (w.alloc (.cells (rco none) 58)) := by
    unfold execOp
    simp only [hop]
    show _ = _
    first | kernel_rfl | (go_simp; first | done | rfl)
  unfold Oper.wp
  rw [hrun]
  exact hk
end
theorem runBldR {o : Oper} {a : Act} {w : World} (x y z : Operand) (ho : o.op = .build 58 #[(0, .const (.bool true)), (1, x), (2, y), (3, z)]) (e : Et) (hm : e.mark = false) (hx : a.eval x = hv e.h.f) (hy : a.eval y = .int .i64 e.id) (hz : a.eval z = .int .i64 e.gen) : (execOp a.eval o).run Try.prog w = .ok (.value (.agg (rco (some e)))) w := by
  have he : rco (some e) = rco (some { e with mark := false }) := by rw [← hm]
  rw [he]
  obtain ⟨h, i, gn, m⟩ := e
  have hc : a.eval (.const (.bool true)) = .bool true := rfl
  unfold execOp
  simp only [ho, hx, hy, hz, hc, List.map_toArray, List.map_cons, List.map_nil, Sem.run_bind, Sem.run_pure]
  show _ = _
  kernel_rfl
def RpP (S : Nat → Prop) (w : World) (v : Value) (c : Cs) (h : Hdr) (id : Int) (r : Ending) (w' : World) : Prop := r = .returned (.tuple #[]) ∧ Only S w w' ∧ Rc S w' v (putS c h id)
set_option maxHeartbeats 1600000 in
set_option maxRecDepth 100000 in
theorem rput_nil {S : Nat → Prop} (w : World) (v : Value) (c : Cs) (h : Hdr) (id : Int) (hC : Rc S w v c) (hf : Fresh S w) (hc : c.es = []) : Calls Try.prog 14 #[v, hv h.f, .int .i64 id] w (RpP S w v c h id) := by
  have HC := hid hC
  obtain ⟨g, bl, cur, rfl, hM⟩ := hC
  obtain ⟨x, hx⟩ : ∃ z, z = h.f := ⟨_, rfl⟩
  obtain ⟨W0, hW0⟩ : ∃ W0, W0 = w.alloc (.cells (row 11 h.f) 30) := ⟨_, rfl⟩
  have hB0 : Below w.heap.size w W0 := by rw [hW0]; exact (Below.refl _ _).alloc (Nat.le_refl _) _
  have hM0 : RcM S W0 g c bl cur := hM.carry fun b hb hS => ⟨hS, hB0.block b hb⟩
  obtain ⟨c0, -, -⟩ := hM0.cells
  rw [hc] at c0
  have HP : Hid (RpP S w (pv g) c h id (.returned (.tuple #[])) W0) := by
    unfold RpP
    rw [put_nil h id hc]
    exact ⟨rfl, Only.of hB0 hf, HC.out.on hB0⟩
  have HW0 := hid hW0
  rw [← hx] at HW0
  rw [← hx]
  clear hM hM0 hc hW0 hB0 hx
  go_enter Try.func14, Try.ntmps14
  go_upto_region 1 with fail
  rw [← HW0.out]
  clear HW0
  go_wp2
  first | go_end0 | refine bodyPost_ret (results_none rfl _ _ _) rfl ?_
  exact HP.out
/-- What Put reads. -/
structure Hp (g bl L : Nat) (now : Int) (k i : Nat) (m : Bool) (gn : Int) (eb : Nat) (o : Option Et) (w : World) : Prop where
  c0 : w.cell? ⟨g, 0, none⟩ = some (.slice (some ⟨bl, 0, none⟩) L L)
  c1 : w.cell? ⟨g, 1, none⟩ = some (.int .i64 now)
  c2 : w.cell? ⟨g, 2, none⟩ = some (.int .i64 (k : Int))
  cg : w.cell? ⟨bl, i * 15 + 13, none⟩ = some (.int .i64 gn)
  cm : w.cell? ⟨bl, i * 15 + 14, none⟩ = some (.bool m)
  re : w.rangeAt eb 0 (rco o).toList
theorem RcM.hp {S : Nat → Prop} {w : World} {g : Nat} {c : Cs} {bl : Nat} {cur : Array Value} (h : RcM S w g c bl cur) {i : Nat} {y : Option Et} (hy : c.es[i]? = some y) {eb : Nat} {o : Option Et} (he : w.heap[eb]? = some (.cells (rco o) 58 (0, 0))) : Hp g bl c.es.length c.now c.hand i (om y) (og y) eb o w := by
  obtain ⟨b0, b1, b2⟩ := h.cells
  obtain ⟨d1, d2, d3, d4, d5⟩ := h.at hy
  exact ⟨b0, b1, b2, d4, d5, range_of fun j _ => by rw [Nat.zero_add, cell_of_row _ _ _ _ _ _ he]⟩
set_option maxHeartbeats 1600000 in
set_option maxRecDepth 100000 in
theorem rput_in {S : Nat → Prop} (w : World) (v : Value) (c : Cs) (h : Hdr) (id : Int) (hC : Rc S w v c) (hf : Fresh S w) (hn : c.es.length < 2147483640) (i : Nat) (hfd : fnd c.es h = some i) : Calls Try.prog 14 #[v, hv h.f, .int .i64 id] w (RpP S w v c h id) := by
  have HC := hid hC
  obtain ⟨g, bl, cur, rfl, hM⟩ := hC
  obtain ⟨x, hx⟩ : ∃ z, z = h.f := ⟨_, rfl⟩
  obtain ⟨W0, hW0⟩ : ∃ W0, W0 = w.alloc (.cells (row 11 h.f) 30) := ⟨_, rfl⟩
  have hB0 : Below w.heap.size w W0 := by rw [hW0]; exact (Below.refl _ _).alloc (Nat.le_refl _) _
  have hG0 : Blk W0 w.heap.size 11 30 x := by rw [hW0, hx]; exact Blk.new w 11 30 h.f
  have e0 : fdI c.es h = (i : Int) := by unfold fdI; rw [hfd]
  have HF : Hid (Calls Try.prog 22 #[pv g, hv x] W0 fun r w' => r = .returned (.int .i64 (i : Int)) ∧ Below w.heap.size w w') := by
    show Calls _ _ _ _ _
    rw [hx, ← e0]
    exact (rfind_any W0 (pv g) c h (HC.out.on hB0) hn).mono fun r y ⟨a1, a2⟩ => ⟨a1, hB0.trans (a2.mono hB0.size)⟩
  have hc0 := (hM.carry (T := S) (w' := W0) fun b hb hS => ⟨hS, hB0.block b hb⟩).cells.1
  obtain ⟨e, he, heh⟩ := fnd_some hfd
  obtain ⟨L, hL⟩ : ∃ z, z = c.es.length := ⟨_, rfl⟩
  have hil : i < L := by rw [hL]; exact (List.getElem?_eq_some_iff.1 he).1
  have hge : (0 : Int) ≤ (i : Int) := by omega
  have hLn : ((L : Int) == 0) = false := by simp; omega
  rw [← hL] at hc0
  obtain ⟨eg, heg⟩ : ∃ z, z = e.gen := ⟨_, rfl⟩
  obtain ⟨ei, hei⟩ : ∃ z, z = e.id := ⟨_, rfl⟩
  obtain ⟨now, hnow⟩ : ∃ z, z = c.now := ⟨_, rfl⟩
  have hgb := hM.ne
  have HK : Hid (∀ y, Below w.heap.size w y → y.cell? ⟨g, 0, none⟩ = some (.slice (some ⟨bl, 0, none⟩) L L) ∧ y.cell? ⟨g, 1, none⟩ = some (.int .i64 now) ∧ y.cell? ⟨bl, i * 15 + 13, none⟩ = some (.int .i64 eg) ∧ y.cell? ⟨bl, i * 15 + 12, none⟩ = some (.int .i64 ei) ∧ y.frozen? ⟨bl, i * 15 + 12, none⟩ = false ∧ y.frozen? ⟨bl, i * 15 + 13, none⟩ = false) := fun y hb => by
    have hMy : RcM S y g c bl cur := hM.carry fun b hb' hS => ⟨hS, hb.block b hb'⟩
    obtain ⟨b0, b1, b2⟩ := hMy.cells
    obtain ⟨d1, d2, d3, d4, d5⟩ := hMy.at he
    exact ⟨by rw [hL]; exact b0, by rw [hnow]; exact b1, by rw [heg]; exact d4, by rw [hei]; exact d3, (hMy.frz _).2, (hMy.frz _).2⟩
  have HP : Hid (∀ y, Below w.heap.size w y → RpP S w (pv g) c h id (.returned (.tuple #[])) ((y.setCell ⟨bl, i * 15 + 12, none⟩ (.int .i64 id)).setCell ⟨bl, i * 15 + 13, none⟩ (.int .i64 now)).drew) := fun y hb => by
    unfold RpP
    rw [put_in hfd he, hnow]
    have hMy : RcM S y g c bl cur := hM.carry fun b hb' hS => ⟨hS, hb.block b hb'⟩
    have a1 := hMy.setAt he (some { e with id := id }) 12 (by omega) (.int .i64 id) (by rw [show 12 = 12 + 0 from rfl, rco_t]; rfl) fun k hk hne => rco_same _ _ k hk (fun _ => rfl) rfl (fun h => absurd h hne) (fun _ => rfl) (fun _ => rfl)
    have a2 := a1.setAt (i := i) (o := some { e with id := id }) (by rw [List.getElem?_set_self (by rw [← hL]; exact hil)]) (some { e with id := id, gen := c.now }) 13 (by omega) (.int .i64 c.now) (by rw [show 13 = 12 + 1 from rfl, rco_t]; rfl) fun k hk hne => rco_same _ _ k hk (fun _ => rfl) rfl (fun _ => rfl) (fun h => absurd h hne) (fun _ => rfl)
    rw [List.set_set] at a2
    exact ⟨rfl, (((Only.of hb hf).setCell (p := ⟨bl, i * 15 + 12, none⟩) hMy.sl _).setCell (p := ⟨bl, i * 15 + 13, none⟩) hMy.sl _).drew, g, bl, _, rfl, a2.carry fun b _ hS => ⟨hS, rfl⟩⟩
  have HW0 := hid hW0
  rw [← hx] at HW0
  rw [← hx]
  clear hM hW0 hx hfd he heh hL heg hei hnow hB0 e0 hf hn
  go_enter Try.func14, Try.ntmps14
  go_upto_region 1 with fail
  rw [← HW0.out]
  clear HW0
  go_upto_region 3 with (first
    | (refine ld24 (.tmp 4) rfl _ rfl rfl x hG0 ?_)
    | (go_at_call 22; refine (HF.out).mono ?_; rintro r y1 ⟨rfl, hb1⟩; obtain ⟨z0, z1, z2, z3, z4, z5⟩ := HK.out y1 hb1; have HB1 := hid hb1; clear hb1 HF HK))
  clear hc0 hG0
  go_upto_region 5 with fail
  go_region
  go_wp2
  first | go_end0 | refine bodyPost_ret (results_none rfl _ _ _) rfl ?_
  exact HP.out y1 HB1.out
end Go.Proofs.Ytpmdgockiblkaaa
