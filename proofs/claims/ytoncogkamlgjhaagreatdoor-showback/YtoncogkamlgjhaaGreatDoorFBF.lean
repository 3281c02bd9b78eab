/-
  Proved here: the reader's method file: what is read is what 'fil' tells. Conditions: the reader stands at the first of its words; no word has more than 65536 bytes.
-/
import Derived.Test.YtoncogkamlgjhaaGreatDoorFBE
namespace Go.Proofs.YtoncogkamlgjhaaGreatDoor
set_option maxRecDepth 100000
open Go.RowKit
set_option maxRecDepth 100000

section
variable {md : Region.Mode} {ops : Array Oper} {Q : Exit → Act → World → Prop} {S : World → Prop} {fuel : Nat} {listed : Array Bool} {o : Oper} {a : Act} {w : World} {K : Act → World → Prop}
/-- A slice is loaded out of a cell. -/
theorem Sp.ldq (x : Operand) (hop : o.op = .load 27 x) (hg : o.guard = none) (b j : Nat) (ao : Option Addr) (n c : Nat) (hx : a.eval x = .pointer (some ⟨b, j, none⟩)) (hc : w.cell? ⟨b, j, none⟩ = some (.slice ao n c)) (hk : K (a.put o.dst (.slice ao n c)) w) : Sp ops Q o a w K := by
  refine ⟨by simp [Region.wanted, hg], ?_⟩
  unfold Oper.wp execOp
  simp only [hop, hx]
  go_simp
  exact hk
/-- A slice is stored into a cell. -/
theorem Sp.stq (x y : Operand) (hop : o.op = .store 27 x y) (hg : o.guard = none) (b j : Nat) (ao : Option Addr) (n c : Nat) (u : Value) (hx : a.eval x = .pointer (some ⟨b, j, none⟩)) (hy : a.eval y = .slice ao n c) (hc : w.cell? ⟨b, j, none⟩ = some u) (hz : w.frozen? ⟨b, j, none⟩ = false) (hk : K (a.put o.dst undef) (w.setCell ⟨b, j, none⟩ (.slice ao n c))) : Sp ops Q o a w K := by
  refine ⟨by simp [Region.wanted, hg], ?_⟩
  unfold Oper.wp execOp
  simp only [hop, hx, hy]
  go_simp
  exact hk
/-- An append, whatever is said of the slice. -/
theorem Sp.rw (s x : Operand) (tt : TypeId) (hop : o.op = .call { callee := .builtin .append, args := #[s, x], argTypes := #[tt, tt] }) (hg : o.guard = none)
    {S : Nat → Prop} {k t by' n m c : Nat} {v z : Value} {xs us : List Value} {ad : Addr} (hs : a.eval s = v) (hx : a.eval x = .slice (some ad) m c) (hu : Tryz.prog.underlying tt = some (.slice t)) (hinfo : (Tryz.prog.info? t).map (fun i => (i.zero, i.size, i.bytes)) = some (some z, k, by')) (hzs : z.cells.size = k) (hk : 0 < k) (hby : by' ≤ 4096)
    (h : Rw S k t w v n xs) (hul : us.length = m * k) (hnews : ∀ j x, us[j]? = some x → w.cell? (ad.add j) = some x) (h1 : ∀ x ∈ us, x.oneCell' = true) (hl : n + m < 2147483648) (hm : m ≠ 0 ∨ n ≠ 0)
    (hK : ∀ v' w', Apd w v w' → (∀ S, Rw S k t w v n xs → Rw (fun b => S b ∨ w.heap.size ≤ b) k t w' v' (n + m) (xs ++ us)) → K (a.put o.dst v') w') : Sp ops Q o a w K := by
  obtain ⟨v', w', hr, hA, -⟩ := run_rw_app (c := c) tt o.type hu hinfo hzs hk hby h hul hnews h1 hl hm
  refine ⟨by simp [Region.wanted, hg], ?_⟩
  unfold Oper.wp
  simp [execOp, hop, resolve, invoke, builtin, hs, hx, hr, Result.andThen]
  refine hK v' w' hA fun S' h' => ?_
  obtain ⟨v2, w2, hr2, -, hR2⟩ := run_rw_app (c := c) tt o.type hu hinfo hzs hk hby h' hul hnews h1 hl hm
  have e := hr.symm.trans hr2
  simp only [Result.ok.injEq] at e
  obtain ⟨rfl, rfl⟩ := e
  exact hR2
end
abbrev pz : Array Value := #[.int .i8 0, .int .i8 0, .int .u64 0, .slice none 0 0, .slice none 0 0]
/-- The method under way: its answer's block is the first new one. -/
structure InP (W : World) (l : List Wd) (r m : Nat) (ws : Value) (j : Nat) (w : World) : Prop where
  only : Only (Rn r W) W w
  rd : RdM l r m ws j w
  res : w.heap[W.heap.size]? = some (.cells pz 29 (0, 0))
  lt : r < W.heap.size
section
variable {W : World} {l : List Wd} {r m : Nat} {ws : Value} {i j : Nat} {w w' : World}
theorem InP.size (h : InP W l r m ws j w) : W.heap.size < w.heap.size := (Array.getElem?_eq_some_iff.1 h.res).1
theorem InP.thn (h : InP W l r m ws i w) (ho : Only (Rn r w) w w') (hr : RdM l r m ws j w') : InP W l r m ws j w' := by
  have h1 := h.size
  have h2 := h.lt
  exact ⟨h.only.thn ho, hr, (ho.block _ (by rintro (e | e) <;> omega)).trans h.res, h2⟩
theorem InP.bel (h : InP W l r m ws i w) (hb : Below w.heap.size w w') : InP W l r m ws i w' := h.thn (Only.of hb fun _ hk => Or.inr hk) (h.rd.on hb)
theorem InP.new (h : RdM l r m ws i W) : InP W l r m ws i (W.alloc (.cells pz 29)) := by
  have hb : Below W.heap.size W (W.alloc (.cells pz 29)) := (Below.refl _ _).alloc (Nat.le_refl _) _
  exact ⟨Only.of hb fun _ hk => Or.inr hk, h.on hb, heap_alloc_new _ _, h.lt⟩
theorem InP.tm (h : InP W l r m ws i w) {t : Tm} {cs : Array Value} (ht : TmV (fun b => w.heap.size ≤ b) w' t cs) : TmV (fun b => W.heap.size < b) w' t cs := tm_on ht fun b _ hS => ⟨by have := h.size; omega, rfl⟩
/-- a policy in a variable of its own -/
structure FiS (W : World) (l : List Wd) (r m : Nat) (ws : Value) (V : Nat) (t : Tm) (x0 x1 x2 x3 : Value) (qs : List Qy) (qv : Value) (j : Nat) (wr : World) : Prop where
  i : InP W l r m ws j wr
  v : wr.heap[V]? = some (.cells #[x0, x1, x2, x3, qv] 29 (0, 0))
  gt : W.heap.size < V
  tm : TmV (fun b => W.heap.size < b ∧ b ≠ V ∧ qv.ownBlock ≠ some b) wr t #[x0, x1, x2, x3]
  ks : ∃ xs, Rw (fun b => W.heap.size < b ∧ b ≠ V) 5 40 wr qv qs.length xs ∧ QyL (fun b => W.heap.size < b ∧ b ≠ V ∧ qv.ownBlock ≠ some b) wr qs xs
variable {V : Nat} {t : Tm} {x0 x1 x2 x3 qv : Value} {qs : List Qy} {k : Nat}
theorem FiS.thn (h : FiS W l r m ws V t x0 x1 x2 x3 qs qv j w) (ho : Only (Rn r w) w w') (hr : RdM l r m ws k w') : FiS W l r m ws V t x0 x1 x2 x3 qs qv k w' := by
  have h1 := (Array.getElem?_eq_some_iff.1 h.v).1
  have h2 := h.i.lt
  have h3 := h.gt
  obtain ⟨xs, g1, g2⟩ := h.ks
  have hc : ∀ b, b < w.heap.size → W.heap.size < b → w'.heap[b]? = w.heap[b]? := fun b hb hS => ho.block b (by rintro (e | e) <;> omega)
  exact ⟨h.i.thn ho hr, (hc _ h1 h3).trans h.v, h3, tm_on h.tm fun b hb hS => ⟨hS, hc b hb hS.1⟩, ⟨xs, g1.carry fun b hb hS => ⟨hS, hc b hb hS.1⟩, QyL.carry (fun b hb hS => ⟨hS, hc b hb hS.1⟩) _ _ g2⟩⟩
theorem FiS.bel (h : FiS W l r m ws V t x0 x1 x2 x3 qs qv j w) (hb : Below w.heap.size w w') : FiS W l r m ws V t x0 x1 x2 x3 qs qv j w' := h.thn (Only.of hb fun _ hk => Or.inr hk) (h.i.rd.on hb)
theorem FiS.new (h : InP W l r m ws k w) (ht : TmV (fun b => W.heap.size < b) w t #[x0, x1, x2, x3]) : FiS W l r m ws w.heap.size t x0 x1 x2 x3 [] nilS k (w.alloc (.cells #[x0, x1, x2, x3, nilS] 29)) := by
  have hb : Below w.heap.size w (w.alloc (.cells #[x0, x1, x2, x3, nilS] 29)) := (Below.refl _ _).alloc (Nat.le_refl _) _
  exact ⟨h.bel hb, heap_alloc_new _ _, h.size, tm_on ht fun b hl hS => ⟨⟨hS, by omega, by simp [Value.ownBlock]⟩, hb.block b hl⟩, ⟨[], Rw.nil _ _ _ _, rfl⟩⟩
theorem FiS.c4 (h : FiS W l r m ws V t x0 x1 x2 x3 qs qv j w) : w.cell? ⟨V, 4, none⟩ = some qv := (cell_of_row _ _ _ _ _ _ h.v).trans rfl
/-- a query more -/
theorem FiS.app {v' : Value} {w1 w2 w3 : World} {q : Qy} {cs : Array Value} (h : FiS W l r m ws V t x0 x1 x2 x3 qs qv j w) (ho : Only (Rn r w) w w1) (hr : RdM l r m ws k w1) (ht : TmV (fun b => w.heap.size ≤ b) w1 q.pd cs) (h2 : w2 = w1.alloc (.cells (#[.string q.nm] ++ cs) 40)) (hA : Apd w2 qv w3)
    {xs : List Value} (g1 : Rw (fun b => W.heap.size < b ∧ b ≠ V) 5 40 w2 qv qs.length xs) (g2 : QyL (fun b => W.heap.size < b ∧ b ≠ V ∧ qv.ownBlock ≠ some b) w2 qs xs)
    (hw : ∀ S, Rw S 5 40 w2 qv qs.length xs → Rw (fun b => S b ∨ w2.heap.size ≤ b) 5 40 w3 v' (qs.length + 1) (xs ++ (.string q.nm :: cs.toList))) :
    w3.cell? ⟨V, 4, none⟩ = some qv ∧ w3.frozen? ⟨V, 4, none⟩ = false ∧ FiS W l r m ws V t x0 x1 x2 x3 (qs ++ [q]) v' k (w3.setCell ⟨V, 4, none⟩ v') := by
  have hlt := h.i.lt
  have hV := h.gt
  have hz := h.i.size
  have hz1 := ho.size
  have hJ1 := h.thn ho hr
  have hb2 : Below w1.heap.size w1 w2 := by rw [h2]; exact (Below.refl _ _).alloc (Nat.le_refl _) _
  have hJ2 := hJ1.bel hb2
  have hz2 := hb2.size
  have hVl := (Array.getElem?_eq_some_iff.1 hJ2.v).1
  have hVl0 := (Array.getElem?_eq_some_iff.1 h.v).1
  have hown : ∀ b, qv.ownBlock = some b → W.heap.size < b ∧ b ≠ V := fun b hb => g1.own b hb
  have hownlt : ∀ b, qv.ownBlock = some b → b < w.heap.size := fun b hb => by
    obtain ⟨ys, q1, -⟩ := h.ks
    exact q1.ownLt b hb
  have ho3 : Only (Rn r W) w2 w3 := hA.only (fun b hb => Or.inr (by omega)) (fun b hb => Or.inr (by have := (hown b hb).1; omega))
  have hself := hw (fun b => qv.ownBlock = some b) (g1.self.carry fun b _ hS => ⟨hS.2, rfl⟩)
  have hv' : ∀ b, v'.ownBlock = some b → qv.ownBlock = some b ∨ w2.heap.size ≤ b := fun b hb => hself.own b hb
  have hne : ∀ b, b < w2.heap.size → qv.ownBlock ≠ some b → v'.ownBlock ≠ some b := fun b hb hn e => by
    rcases hv' b e with q | q
    · exact hn q
    · omega
  have hv3 : w3.heap[V]? = some (.cells #[x0, x1, x2, x3, qv] 29 (0, 0)) := (hA.block V hVl (fun e => (hown V e).2 rfl)).trans hJ2.v
  have hko : ∀ b, b ≠ V → (w3.setCell ⟨V, 4, none⟩ v').heap[b]? = w3.heap[b]? := fun b hb => heap_setCell_other w3 ⟨V, 4, none⟩ b _ hb
  have hk3 : ∀ b, b ≠ V → b < w2.heap.size → qv.ownBlock ≠ some b → (w3.setCell ⟨V, 4, none⟩ v').heap[b]? = w2.heap[b]? := fun b h1 h2 h3 => (hko b h1).trans (hA.block b h2 h3)
  refine ⟨(cell_of_row _ _ _ _ _ _ hv3).trans rfl, by simp [World.frozen?, hv3], ⟨(hJ2.i.only.trans ho3).setCell (p := ⟨V, 4, none⟩) (Or.inr (show W.heap.size ≤ V by omega)) _, hJ2.i.rd.keep fun b hb => hk3 b (by omega) (by omega) (fun e => by have := (hown b e).1; omega), (hk3 _ (by omega) (by omega) (fun e => by have := (hown _ e).1; omega)).trans hJ2.i.res, hlt⟩, by rw [heap_setCell_same w3 V 4 _ _ _ hv3]; rfl, hV, ?_, ⟨xs ++ (.string q.nm :: cs.toList), ?_, ?_⟩⟩
  · exact tm_on hJ2.tm fun b hb hS => ⟨⟨hS.1, hS.2.1, hne b hb hS.2.2⟩, hk3 b hS.2.1 hb hS.2.2⟩
  · rw [List.length_append]
    exact (hw _ g1).carry fun b hb hS => ⟨by rcases hS with q | q; exact q; exact ⟨by omega, by omega⟩, hko b (by rcases hS with q | q; exact q.2; omega)⟩
  · refine QyL.snoc (tm_on ht fun b hb hS => ?_) _ _ (QyL.carry (fun b hb hS => ⟨⟨hS.1, hS.2.1, hne b hb hS.2.2⟩, hk3 b hS.2.1 hb hS.2.2⟩) _ _ g2)
    have hn : qv.ownBlock ≠ some b := fun e => by have := hownlt b e; omega
    have hbV : b ≠ V := by omega
    exact ⟨⟨by omega, hbV, hne b (by omega) hn⟩, (hk3 b hbV (by omega) hn).trans (hb2.block b hb)⟩
end
/-- What file leaves. -/
def FlP (l : List Wd) (r m : Nat) (ws : Value) (R : Rd Po) (w : World) (e : Ending) (w' : World) : Prop :=
  Only (Rn r w) w w' ∧ match R with
  | .bad j => e = .panicked PC ∧ RdM l r m ws j w'
  | .ok p j => ∃ cs, e = .returned (.agg cs) ∧ RdM l r m ws j w' ∧ PoV (fun b => w.heap.size ≤ b) w' p cs
theorem run_bp0 (x0 x1 x2 x3 : Value) (W : World) : (Instr.build 29 #[(0, .agg #[x0, x1, x2, x3])]).run Tryz.prog W = .ok (.agg #[x0, x1, x2, x3, .slice none 0 0]) W := by kernel_rfl
theorem run_bq (s : ByteArray) (x0 x1 x2 x3 : Value) (W : World) : (Instr.build 40 #[(0, .string s), (1, .agg #[x0, x1, x2, x3])]).run Tryz.prog W = .ok (.agg #[.string s, x0, x1, x2, x3]) W := by kernel_rfl
theorem runBd {o : Oper} {a : Act} {w' : World} {t : TypeId} (ps : Array (Nat × Operand)) (ho : o.op = .build t ps) {us : Array (Nat × Value)} {v : Value} (hu : (ps.map fun (i, x) => (i, a.eval x)) = us) (h : (Instr.build t us).run Tryz.prog w' = .ok v w') : (execOp a.eval o).run Tryz.prog w' = .ok (.value v) w' := by
  unfold execOp
  simp only [ho, hu, h, Sem.run_bind, Result.andThen_ok, Sem.run_pure]
theorem res_po {fn : Func} {p : Tmp} (h : fn.results = #[.cell p 29]) (tmps : Array Value) (w : World) (g : Nat) (cs : Array Value) (hs : (Tryz.prog.info? 29).map (·.size) = some cs.size)
    (hp : tmps.getD p undef = .pointer (some ⟨g, 0, none⟩)) (hg : w.heap[g]? = some (.cells cs 29 (0, 0))) : (results fn tmps).run Tryz.prog w = .ok (.agg cs) w :=
  results_cell_row h tmps w g 29 cs (0, 0) _ hp hg Tryz.underlying29 rfl hs
end Go.Proofs.YtoncogkamlgjhaaGreatDoor
