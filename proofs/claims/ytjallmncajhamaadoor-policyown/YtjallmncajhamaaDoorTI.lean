/-
  Proved here: Plain of package policy, of a policy that Check takes and of one that it doesn't. Conditions: the tables; the policy lies in old memory.
-/
import Derived.Test.YtjallmncajhamaaDoorTH
import Derived.Test.YtjallmncajhamaaDoorKH
namespace Go.Proofs.YtjallmncajhamaaDoor
open Go.RowKit
set_option maxRecDepth 100000

theorem run_bp0 (x0 x1 x2 x3 : Value) (W : World) : (Instr.build 29 #[(0, .agg #[x0, x1, x2, x3])]).run Tryd.prog W = .ok (.agg #[x0, x1, x2, x3, .slice none 0 0]) W := by kernel_rfl
theorem run_bpz (W : World) : (Instr.build 29 #[]).run Tryd.prog W = .ok (.agg #[.int .i8 0, .int .i8 0, .int .u64 0, .slice none 0 0, .slice none 0 0]) W := by kernel_rfl
theorem run_bq (s : ByteArray) (x0 x1 x2 x3 : Value) (W : World) : (Instr.build 40 #[(0, .string s), (1, .agg #[x0, x1, x2, x3])]).run Tryd.prog W = .ok (.agg #[.string s, x0, x1, x2, x3]) W := by kernel_rfl
theorem runBd {o : Oper} {a : Act} {w' : World} {t : TypeId} (ps : Array (Nat × Operand)) (ho : o.op = .build t ps) {us : Array (Nat × Value)} {v : Value} (hu : (ps.map fun (i, x) => (i, a.eval x)) = us) (h : (Instr.build t us).run Tryd.prog w' = .ok v w') : (execOp a.eval o).run Tryd.prog w' = .ok (.value v) w' := by
  unfold execOp
  simp only [ho, hu, h, Sem.run_bind, Result.andThen_ok, Sem.run_pure]
theorem res_pe {fn : Func} {p u : Tmp} (h : fn.results = #[.cell p 29, .tmp u]) (tmps : Array Value) (w : World) (g : Nat) (cs : Array Value) (hs : (Tryd.prog.info? 29).map (·.size) = some cs.size)
    (hp : tmps.getD p undef = .pointer (some ⟨g, 0, none⟩)) (hg : w.heap[g]? = some (.cells cs 29 (0, 0))) :
    (results fn tmps).run Tryd.prog w = .ok (.tuple #[.agg cs, tmps.getD u undef]) w := by
  rw [results_cell_tmp h, hp]
  simp [asAddr, Result.andThen, run_loadVar_row w g 29 29 cs (0, 0) _ hg Tryd.underlying29 rfl hs]
abbrev pz : Array Value := #[.int .i8 0, .int .i8 0, .int .u64 0, .slice none 0 0, .slice none 0 0]
theorem pz1 : pz.all (·.oneCell') = true := by simp [Value.oneCell']
section
variable {ops : Array Oper} {Q : Exit → Act → World → Prop} {o : Oper} {a : Act} {w : World} {K : Act → World → Prop}
theorem Sp.rw (s x : Operand) (tt : TypeId) (hop : o.op = .call { callee := .builtin .append, args := #[s, x], argTypes := #[tt, tt] }) (hg : o.guard = none)
    {S : Nat → Prop} {k t by' n m c : Nat} {v z : Value} {xs us : List Value} {ad : Addr} (hs : a.eval s = v) (hx : a.eval x = .slice (some ad) m c) (hu : Tryd.prog.underlying tt = some (.slice t)) (hinfo : (Tryd.prog.info? t).map (fun i => (i.zero, i.size, i.bytes)) = some (some z, k, by')) (hzs : z.cells.size = k) (hk : 0 < k) (hby : by' ≤ 4096)
    (h : Rw S k t w v n xs) (hul : us.length = m * k) (hnews : ∀ j x, us[j]? = some x → w.cell? (ad.add j) = some x) (h1 : ∀ x ∈ us, x.oneCell' = true) (hl : n + m < 2147483648) (hm : m ≠ 0 ∨ n ≠ 0)
    (hK : ∀ v' w', Apd w v w' → (∀ S, Rw S k t w v n xs → Rw (fun b => S b ∨ w.heap.size ≤ b) k t w' v' (n + m) (xs ++ us)) → K (a.put o.dst v') w') : Sp ops Q o a w K := by
  obtain ⟨v', w', hr, hA, -⟩ := run_rw_app (c := c) tt o.type hu hinfo hzs hk hby h hul hnews h1 hl hm
  refine ⟨by simp [Region.wanted, hg], ?_⟩
  unfold Oper.wp
  simp [execOp, hop, resolve, invoke, builtin, hs, hx, hr, Result.andThen]
  refine hK v' w' hA fun S' h' => ?_
  obtain ⟨v2, w2, hr2, -, hR2⟩ := run_rw_app (c := c) tt o.type hu hinfo hzs hk hby h' hul hnews h1 hl hm
  have e := hr.symm.trans hr2
  simp only [Result.ok.injEq] at e
  obtain ⟨rfl, rfl⟩ := e
  exact hR2
theorem Sp.stq (x y : Operand) (hop : o.op = .store 27 x y) (hg : o.guard = none) (b j : Nat) (ao : Option Addr) (n c : Nat) (u : Value) (hx : a.eval x = .pointer (some ⟨b, j, none⟩)) (hy : a.eval y = .slice ao n c) (hc : w.cell? ⟨b, j, none⟩ = some u) (hz : w.frozen? ⟨b, j, none⟩ = false) (hk : K (a.put o.dst undef) (w.setCell ⟨b, j, none⟩ (.slice ao n c))) : Sp ops Q o a w K := by
  refine ⟨by simp [Region.wanted, hg], ?_⟩
  unfold Oper.wp execOp
  simp only [hop, hx, hy]
  go_simp
  exact hk
end
theorem row_frozen {W : World} {b t j : Nat} {cs : Array Value} (h : W.heap[b]? = some (.cells cs t (0, 0))) : W.frozen? ⟨b, j, none⟩ = false := by simp [World.frozen?, h]
theorem QiL.snoc {S : Nat → Prop} {w : World} {q : Qi} {cs : Array Value} (ht : TiV S w q.pd cs) : ∀ (qs : List Qi) (xs : List Value), QiL S w qs xs → QiL S w (qs ++ [q]) (xs ++ (.string q.nm :: cs.toList))
  | [], xs, h => by
    have : xs = [] := h
    subst this
    exact ⟨cs, [], by simp, ht, rfl⟩
  | a :: qs, xs, h => by
    obtain ⟨ds, ys, rfl, h2, h3⟩ := h
    exact ⟨ds, ys ++ (.string q.nm :: cs.toList), by simp, h2, QiL.snoc ht qs ys h3⟩
/-- a policy under way: its block M -/
structure MdS (w : World) (M : Nat) (mt : Ti) (x0 x1 x2 x3 : Value) (acc : List Qi) (v : Value) (wr : World) : Prop where
  low : Below w.heap.size w wr
  new : w.heap.size ≤ M
  row : wr.heap[M]? = some (.cells #[x0, x1, x2, x3, v] 29 (0, 0))
  main : TiV (fun b => w.heap.size ≤ b ∧ b ≠ M ∧ v.ownBlock ≠ some b) wr mt #[x0, x1, x2, x3]
  ks : ∃ xs, Rw (fun b => w.heap.size ≤ b ∧ b ≠ M) 5 40 wr v acc.length xs ∧ QiL (fun b => w.heap.size ≤ b ∧ b ≠ M ∧ v.ownBlock ≠ some b) wr acc xs
theorem MdS.on {w : World} {M : Nat} {mt : Ti} {x0 x1 x2 x3 : Value} {acc : List Qi} {v : Value} {wr w' : World} (h : MdS w M mt x0 x1 x2 x3 acc v wr) (hb : Below wr.heap.size wr w') : MdS w M mt x0 x1 x2 x3 acc v w' := by
  obtain ⟨xs, g1, g2⟩ := h.ks
  have hz := h.low.size
  have hB := (Array.getElem?_eq_some_iff.1 h.row).1
  exact ⟨h.low.trans (hb.mono hz), h.new, (hb.block M hB).trans h.row, ti_on h.main fun b hl hS => ⟨hS, hb.block b hl⟩, xs, g1.carry fun b hl hS => ⟨hS, hb.block b hl⟩, QiL.carry (fun b hl hS => ⟨hS, hb.block b hl⟩) _ _ g2⟩
theorem MdS.app {w : World} {M : Nat} {mt : Ti} {x0 x1 x2 x3 : Value} {acc : List Qi} {v v' : Value} {wr w1 w3 : World} {q : Qi} {y0 y1 y2 y3 : Value} {xs : List Value} (h : MdS w M mt x0 x1 x2 x3 acc v wr) (hb1 : Below wr.heap.size wr w1) (ht : TiV (fun b => wr.heap.size ≤ b) w1 q.pd #[y0, y1, y2, y3])
    (hA : Apd (w1.alloc (.cells #[.string q.nm, y0, y1, y2, y3] 40)) v w3) (g1 : Rw (fun b => w.heap.size ≤ b ∧ b ≠ M) 5 40 (w1.alloc (.cells #[.string q.nm, y0, y1, y2, y3] 40)) v acc.length xs) (g2 : QiL (fun b => w.heap.size ≤ b ∧ b ≠ M ∧ v.ownBlock ≠ some b) (w1.alloc (.cells #[.string q.nm, y0, y1, y2, y3] 40)) acc xs)
    (hw : ∀ S, Rw S 5 40 (w1.alloc (.cells #[.string q.nm, y0, y1, y2, y3] 40)) v acc.length xs → Rw (fun b => S b ∨ (w1.alloc (.cells #[.string q.nm, y0, y1, y2, y3] 40)).heap.size ≤ b) 5 40 w3 v' (acc.length + 1) (xs ++ [.string q.nm, y0, y1, y2, y3])) :
    MdS w M mt x0 x1 x2 x3 (acc ++ [q]) v' (w3.setCell ⟨M, 4, none⟩ v') := by
  have hb2 : Below w1.heap.size w1 (w1.alloc (.cells #[.string q.nm, y0, y1, y2, y3] 40)) := (Below.refl _ _).alloc (Nat.le_refl _) _
  have hb12 : Below wr.heap.size wr (w1.alloc (.cells #[.string q.nm, y0, y1, y2, y3] 40)) := hb1.trans (hb2.mono hb1.size)
  have hJ := h.on hb12
  have hz := h.low.size
  have hz1 := hb1.size
  have hz2 := hb2.size
  have hMr := (Array.getElem?_eq_some_iff.1 h.row).1
  have hown : ∀ b, v.ownBlock = some b → w.heap.size ≤ b ∧ b ≠ M := fun b hb => g1.own b hb
  have hownlt : ∀ b, v.ownBlock = some b → b < wr.heap.size := fun b hb => by
    obtain ⟨ys, q1, -⟩ := h.ks
    exact q1.ownLt b hb
  have hself := hw (fun b => v.ownBlock = some b) (g1.self.carry fun b _ hS => ⟨hS.2, rfl⟩)
  generalize w1.alloc (.cells #[.string q.nm, y0, y1, y2, y3] 40) = w2 at hb2 hb12 hJ hz2 hA g1 g2 hw hself
  have hv' : ∀ b, v'.ownBlock = some b → v.ownBlock = some b ∨ w2.heap.size ≤ b := fun b hb => hself.own b hb
  have hM3 : w3.heap[M]? = some (.cells #[x0, x1, x2, x3, v] 29 (0, 0)) := (hA.block M (by omega) (fun e => (hown M e).2 rfl)).trans hJ.row
  have hz3 := hA.size
  have hoth : ∀ b, b ≠ M → (w3.setCell ⟨M, 4, none⟩ v').heap[b]? = w3.heap[b]? := fun b hb => heap_setCell_other w3 ⟨M, 4, none⟩ b v' hb
  have hlow3 : Below w.heap.size w w3 := hJ.low.trans ((hA.only (S := fun b => w.heap.size ≤ b) (fun b hb => by have := hJ.low.size; omega) (fun b hb => (hown b hb).1)).below fun _ h => h)
  have hcar : ∀ b, b < w2.heap.size → (w.heap.size ≤ b ∧ b ≠ M ∧ v.ownBlock ≠ some b) → (w.heap.size ≤ b ∧ b ≠ M ∧ v'.ownBlock ≠ some b) ∧ (w3.setCell ⟨M, 4, none⟩ v').heap[b]? = w2.heap[b]? := fun b hl hS => ⟨⟨hS.1, hS.2.1, fun e => by rcases hv' b e with q | q; exact hS.2.2 q; omega⟩, (hoth b hS.2.1).trans (hA.block b hl hS.2.2)⟩
  refine ⟨hlow3.setCell (p := ⟨M, 4, none⟩) h.new _, h.new, ?_, ti_on hJ.main hcar, xs ++ [.string q.nm, y0, y1, y2, y3], ?_, ?_⟩
  · have := heap_setCell_same w3 M 4 #[x0, x1, x2, x3, v] 29 v' hM3
    simpa using this
  · rw [List.length_append]
    exact (hw _ g1).carry fun b _ hS => by
      have hS' : w.heap.size ≤ b ∧ b ≠ M := by
        rcases hS with q | q
        · exact q
        · exact ⟨by omega, by omega⟩
      exact ⟨hS', hoth b hS'.2⟩
  · have ht2 : TiV (fun b => w.heap.size ≤ b ∧ b ≠ M ∧ v'.ownBlock ≠ some b) (w3.setCell ⟨M, 4, none⟩ v') q.pd #[y0, y1, y2, y3] := ti_on ht fun b hl hS => by
      have h1 := hcar b (by omega) ⟨by omega, by omega, fun e => by have := hownlt b e; omega⟩
      exact ⟨h1.1, h1.2.trans (hb2.block b hl)⟩
    have := QiL.snoc ht2 acc xs (QiL.carry hcar _ _ g2)
    simpa using this
/-- behind two boxes: the argument's, the answer's -/
structure Tp (w : World) (cs : Array Value) (W1 : World) : Prop where
  b : Below w.heap.size w W1
  n : W1.heap[w.heap.size]? = some (.cells cs 29 (0, 0))
  r : W1.heap[w.heap.size + 1]? = some (.cells pz 29 (0, 0))
  sz : w.heap.size + 1 + 1 ≤ W1.heap.size
theorem Tp.new (w : World) (cs : Array Value) : Tp w cs ((w.alloc (.cells cs 29)).alloc (.cells pz 29)) :=
  ⟨((Below.refl _ _).alloc (Nat.le_refl _) _).alloc (by simp) _, (heap_alloc_old _ _ (by simp)).trans (heap_alloc_new _ _), by have := heap_alloc_new (w.alloc (.cells cs 29)) (.cells pz 29); simpa using this, by simp⟩
theorem Tp.on {w : World} {cs : Array Value} {W1 W2 : World} (h : Tp w cs W1) (hb : Below W1.heap.size W1 W2) : Tp w cs W2 :=
  ⟨h.b.trans (hb.mono h.b.size), (hb.block _ (by have := h.sz; omega)).trans h.n, (hb.block _ (by have := h.sz; omega)).trans h.r, by have := h.sz; have := hb.size; omega⟩
set_option maxHeartbeats 12800000 in
theorem plain8_no (p : Pi) (cs : Array Value) (w : World) (hp : PiV (fun b => b < w.heap.size) w p cs) (hwp : Wp p) (hc : chk p ≠ 0) (hT : TabP w) (hz : 3 ≤ w.heap.size) : Calls Tryd.prog 17 #[.agg cs] w fun e w' => e = .returned (.tuple #[.agg pz, .int .i64 ((chk p : Nat) : Int)]) ∧ Below w.heap.size w w' := by
  have HPV := hid hp
  obtain ⟨x0, x1, x2, x3, ao, cap, xs, rfl, h1, h2, h3⟩ := hp.five
  clear hp h1 h2 h3
  obtain ⟨W1, hW1⟩ : ∃ W1, W1 = (w.alloc (.cells #[x0, x1, x2, x3, .slice ao p.qs.length cap] 29)).alloc (.cells pz 29) := ⟨_, rfl⟩
  have HE : Hid ((w.alloc (.cells #[x0, x1, x2, x3, .slice ao p.qs.length cap] 29)).alloc (.cells #[.int .i8 0, .int .i8 0, .int .u64 0, .slice none 0 0, .slice none 0 0] 29) = W1) := hW1.symm
  have HT : Hid (Tp w #[x0, x1, x2, x3, .slice ao p.qs.length cap] W1) := by show Tp _ _ _; rw [hW1]; exact Tp.new _ _
  have HC := hid (check8_any p _ W1 (HPV.out.carry fun b hb hS => ⟨by have := HT.out.b.size; omega, HT.out.b.block b hb⟩) hwp (hT.on HT.out.b hz) (by have := HT.out.sz; omega))
  clear hW1 hT HPV hwp
  generalize chk p = c at hc HC ⊢
  have gc : (((c : Nat) : Int) != 0) = true := by simp; exact hc
  have hbz := fun W => run_bpz W
  clear hc
  go_enter Tryd.func17, Tryd.ntmps17
  go_upto_region 1 with fail
  rw [show (w.alloc (.cells #[x0, x1, x2, x3, .slice ao p.qs.length cap] 29)).alloc (.cells #[.int .i8 0, .int .i8 0, .int .u64 0, .slice none 0 0, .slice none 0 0] 29) = W1 from HE.out]
  clear HE
  go_wp2_with (first
    | (refine ldRow 29 (.tmp 1) rfl rfl w.heap.size rfl 29 #[x0, x1, x2, x3, .slice ao p.qs.length cap] _ Tryd.underlying29 rfl sizePO HT.out.n ?_)
    | (refine stRow 29 (.tmp 2) (.tmp 12) rfl rfl (w.heap.size + 1) pz rfl rfl 29 pz HT2.out.r sizePO rfl pz1 ?_)
    | (go_at_call 12; refine (HC.out).mono ?_; rintro e w2 ⟨rfl, hw⟩; have HT2 := hid (HT.out.on hw); clear hw HC))
  have hbR : Below w.heap.size w (w2.setRow (w.heap.size + 1) pz) := bel_row HT2.out.b (by omega) _
  refine bodyPost_ret (v := .tuple #[.agg pz, .int .i64 ((c : Nat) : Int)]) (res_pe Tryd.results17 _ _ (w.heap.size + 1) _ sizePO rfl (setRow_heap w2 _ _ _ _ _ HT2.out.r)) rfl ?_
  exact ⟨rfl, hbR⟩
end Go.Proofs.YtjallmncajhamaaDoor
