/-
  Laws of our own: steps of a region that draws its order (Stp): a call, a making of a block, a load, a store, a slice of one thing, an append; a message that is read into a block (Dm). No condition beyond what each names.
-/
/-
  Laws of our own: the fields of a message that is read (Dm), and a list of held rules that grows by appends (HdR). No condition beyond what each names.
-/
import Derived.Test.YtllbbbfkdgjffaaGreatDoorDT
import Derived.Great.BuildSlice
namespace Go.Proofs.YtllbbbfkdgjffaaGreatDoor
open Go.RowKit

section
variable {md : Region.Mode} {ops : Array Oper} {Q : Exit → Act → World → Prop} {S : World → Prop} {fuel : Nat} {listed : Array Bool} {a : Act} {w : World} {o : Oper} {K : Act → World → Prop}
/-- An operation is wanted, and leads to K. -/
structure Stp (ops : Array Oper) (Q : Exit → Act → World → Prop) (o : Oper) (a : Act) (w : World) (K : Act → World → Prop) : Prop where
  want : Region.wanted o (yielded ops a.tmps) = true
  wp : Oper.wp Tryz.prog o a w K Q
theorem Stp.run (hw : Region.wanted o (yielded ops a.tmps) = true) {v : Value} {w' : World} (hr : (execOp a.eval o).run Tryz.prog w = .ok (.value v) w') (hk : K (a.put o.dst v) w') : Stp ops Q o a w K := ⟨hw, by unfold Oper.wp; rw [hr, Oper.upon_value]; exact hk⟩
theorem Stp.fn (f : FuncId) (y : Operand) (xs : List Operand) (ts : Array TypeId) (args : List Value) (hop : o.op = .call { callee := .value y, args := xs.toArray, argTypes := ts }) (hw : Region.wanted o (yielded ops a.tmps) = true) (hy : a.eval y = .func (.func f) #[] #[]) (hx : xs.map a.eval = args) (hE : ∀ w, (callFunc f args.toArray).run Tryz.prog w = .ok (.enter f args.toArray) w)
    (Φ : Ending → World → Prop) (hC : Calls Tryz.prog f args.toArray w Φ) (hK : ∀ e w', Φ e w' → (∃ v, e = .returned v ∧ K (a.put o.dst v) w') ∨ ∃ ch, e = .panicked ch ∧ Q (.panic ch) a w') : Stp ops Q o a w K := by
  have := stepFnW7 (ops := ops) (E := False) (K := K) f y xs ts args hop hw hy hx hE Φ hC hK
  rw [if_pos hw] at this
  exact ⟨hw, this⟩
theorem any1 (i : Nat) (o : Oper) (hr : Region.ready md ops listed = [i]) (ho : ops[i]? = some o) (h : Stp ops Q o a w fun a' w' => S w' ∧ wpAnyH Tryz.prog md ops Q S fuel (listed.setIfInBounds i true) a' w') : wpAnyH Tryz.prog md ops Q S (fuel + 1) listed a w := by
  refine wpAnyH_all hr (by simp) fun j hj => ?_
  obtain rfl : j = i := by simpa using hj
  unfold wpOp
  rw [ho]
  show if Region.wanted o (yielded ops a.tmps) = true then _ else _
  rw [if_pos h.want]
  exact Or.inl h.wp
theorem any2 (i i' : Nat) (o o' : Oper) (hr : Region.ready md ops listed = [i, i']) (ho : ops[i]? = some o) (ho' : ops[i']? = some o') (h : Stp ops Q o a w fun a' w' => S w' ∧ wpAnyH Tryz.prog md ops Q S fuel (listed.setIfInBounds i true) a' w') (h' : Stp ops Q o' a w fun a' w' => S w' ∧ wpAnyH Tryz.prog md ops Q S fuel (listed.setIfInBounds i' true) a' w') : wpAnyH Tryz.prog md ops Q S (fuel + 1) listed a w := by
  refine wpAnyH_all hr (by simp) fun q hq => ?_
  have hq' : q = i ∨ q = i' := by simpa using hq
  rcases hq' with rfl | rfl
  · unfold wpOp
    rw [ho]
    show if Region.wanted o (yielded ops a.tmps) = true then _ else _
    rw [if_pos h.want]
    exact Or.inl h.wp
  · unfold wpOp
    rw [ho']
    show if Region.wanted o' (yielded ops a.tmps) = true then _ else _
    rw [if_pos h'.want]
    exact Or.inl h'.wp
theorem allocMs (w : World) : (Instr.alloc 37 true (.tuple #[])).run Tryz.prog w = .ok (ptr w.heap.size) (w.alloc (.cells (msc zMs zSl) 37)) := by
  rw [zero_ms0]
  show _ = _
  kernel_rfl
theorem Stp.alcMs (hop : o.op = .alloc 37) (hw : Region.wanted o (yielded ops a.tmps) = true) (hk : K (a.put o.dst (ptr w.heap.size)) (w.alloc (.cells (msc zMs zSl) 37))) : Stp ops Q o a w K := by
  refine Stp.run hw ?_ hk
  unfold execOp
  have := allocMs w
  simp only [hop, Sem.run_bind, Sem.run_pure, Result.andThen_ok, this]
/-- A whole value is stored into a block from its head. -/
theorem Stp.stRow (ty : TypeId) (x y : Operand) (hop : o.op = .store ty x y) (hw : Region.wanted o (yielded ops a.tmps) = true) (g : Nat) (cs : Array Value) (hx : a.eval x = .pointer (some ⟨g, 0, none⟩)) (hy : a.eval y = .agg cs) (t : TypeId) (zs : Array Value) (hg : w.heap[g]? = some (.cells zs t (0, 0))) (hi : (Tryz.prog.info? ty).map (·.size) = some cs.size) (hz : zs.size = cs.size) (h1 : cs.all (·.oneCell') = true) (hk : K (a.put o.dst undef) (w.setRow g cs)) : Stp ops Q o a w K :=
  ⟨hw, wp_store_row ty x y hop g cs hx hy t zs hg hi hz h1 hk⟩
/-- A slice is loaded out of a cell. -/
theorem Stp.ldS (ty : TypeId) (hty : ty = 34 ∨ ty = 35) (x : Operand) (hop : o.op = .load ty x) (hw : Region.wanted o (yielded ops a.tmps) = true) (b j : Nat) (ao : Option Addr) (n c : Nat) (hx : a.eval x = .pointer (some ⟨b, j, none⟩)) (hc : w.cell? ⟨b, j, none⟩ = some (.slice ao n c)) (hk : K (a.put o.dst (.slice ao n c)) w) : Stp ops Q o a w K := by
  refine ⟨hw, ?_⟩
  rcases hty with rfl | rfl
  all_goals
    unfold Oper.wp execOp
    simp only [hop, hx]
    go_simp
    exact hk
/-- A slice is stored into a cell. -/
theorem Stp.stS (ty : TypeId) (hty : ty = 34 ∨ ty = 35) (x y : Operand) (hop : o.op = .store ty x y) (hw : Region.wanted o (yielded ops a.tmps) = true) (b j : Nat) (ao : Option Addr) (n c : Nat) (u : Value) (hx : a.eval x = .pointer (some ⟨b, j, none⟩)) (hy : a.eval y = .slice ao n c) (hc : w.cell? ⟨b, j, none⟩ = some u) (hz : w.frozen? ⟨b, j, none⟩ = false) (hk : K (a.put o.dst undef) (w.setCell ⟨b, j, none⟩ (.slice ao n c))) : Stp ops Q o a w K := by
  refine ⟨hw, ?_⟩
  rcases hty with rfl | rfl
  all_goals
    unfold Oper.wp execOp
    simp only [hop, hx, hy]
    go_simp
    exact hk
theorem Stp.bsA (t e : TypeId) (y : Operand) (hop : o.op = .buildSlice t 1 #[(0, y)]) (hw : Region.wanted o (yielded ops a.tmps) = true) (cs : Array Value) (hy : a.eval y = .agg cs) (hu : Tryz.prog.underlying t = some (.slice e)) {z : Value} {n by' : Nat} (hinfo : (Tryz.prog.info? e).map (fun i => (i.zero, i.size, i.bytes)) = some (some z, n, by')) (hn : cs.size = n) (hn0 : 0 < n) (hn1 : n ≤ 1000) (hk : K (a.put o.dst (.slice (some ⟨w.heap.size, 0, none⟩) 1 1)) (w.alloc (.cells cs e))) : Stp ops Q o a w K := by
  obtain ⟨ie, hie, hz, hsz, -⟩ := info_parts hinfo
  refine ⟨hw, wp_buildSlice t e 1 _ hop cs ie z hu hie hz (by rw [hsz, Nat.one_mul]; omega) (by rw [hsz, Nat.one_mul]; omega) ?_ hk⟩
  rw [hsz]
  have : (Array.map (fun (x : Nat × Operand) => (x.1, a.eval x.2)) #[(0, y)]).toList = [(0, .agg cs)] := by simp [hy]
  show Instr.fill _ _ (Array.map (fun (x : Nat × Operand) => (x.1, a.eval x.2)) #[(0, y)]).toList = _
  rw [this]
  exact fill_one n _ cs (by simp) hn
theorem info8 : (Tryz.prog.info? 5).map (fun i => (i.zero, i.size, i.bytes)) = some (some (.int .u8 0), 1, 1) := by kernel_rfl
theorem Stp.bs8 (y : Operand) (hop : o.op = .buildSlice 34 1 #[(0, y)]) (hw : Region.wanted o (yielded ops a.tmps) = true) (x : Int) (hy : a.eval y = .int .u8 x) (hk : K (a.put o.dst (.slice (some ⟨w.heap.size, 0, none⟩) 1 1)) (w.alloc (.cells #[.int .u8 x] 5))) : Stp ops Q o a w K := by
  obtain ⟨ie, hie, hz, hsz, -⟩ := info_parts info8
  refine ⟨hw, wp_buildSlice 34 5 1 _ hop #[.int .u8 x] ie _ Tryz.underlying34 hie hz (by rw [hsz]; decide) (by rw [hsz]; decide) ?_ hk⟩
  rw [hsz]
  have : (Array.map (fun (x : Nat × Operand) => (x.1, a.eval x.2)) #[(0, y)]).toList = [(0, .int .u8 x)] := by simp [hy]
  show Instr.fill _ _ (Array.map (fun (x : Nat × Operand) => (x.1, a.eval x.2)) #[(0, y)]).toList = _
  rw [this]
  show _ = _
  kernel_rfl
/-- Whatever is appended. -/
theorem Stp.app (s x : Operand) (tt : TypeId) (hop : o.op = .call { callee := .builtin .append, args := #[s, x], argTypes := #[tt, tt] }) (hw : Region.wanted o (yielded ops a.tmps) = true)
    {R : Nat → Prop} {k t by' n m c : Nat} {v z : Value} {xs us : List Value} {ao : Option Addr} (hs : a.eval s = v) (hx : a.eval x = .slice ao m c) (hu : Tryz.prog.underlying tt = some (.slice t)) (hinfo : (Tryz.prog.info? t).map (fun i => (i.zero, i.size, i.bytes)) = some (some z, k, by')) (hzs : z.cells.size = k) (hk : 0 < k) (hby : by' ≤ 4096)
    (h : Rw R k t w v n xs) (hul : us.length = m * k) (hnews : m ≠ 0 → ∃ a, ao = some a ∧ ∀ j x, us[j]? = some x → w.cell? (a.add j) = some x) (h1 : ∀ x ∈ us, x.oneCell' = true) (hl : n + m < 2147483648)
    (hK : ∀ v' w', Apd w v w' → Rw (fun b => R b ∨ w.heap.size ≤ b) k t w' v' (n + m) (xs ++ us) → K (a.put o.dst v') w') : Stp ops Q o a w K := by
  obtain ⟨v', w', hr, hA, hR⟩ := run_rw_all (c := c) tt o.type hu hinfo hzs hk hby h hul hnews h1 hl
  refine ⟨hw, ?_⟩
  unfold Oper.wp
  simp [execOp, hop, resolve, invoke, builtin, hs, hx, hr, Result.andThen]
  exact hK v' w' hA hR
end
theorem fld_one {bs : List Int} {i : Nat} (h : i < bs.length) : fld bs i 1 = bs.getD i 0 := by
  have := fld_step (bs := bs) (a := i) (i := 0) (by omega)
  rw [show fld bs i 0 = 0 by simp [fld, num]] at this
  simpa using this
/-- A message is read into a block; its lists lie in new memory. -/
structure Dm (T : Nat → Prop) (W : World) (g : Nat) (v : Value) (bs : List Int) (st : Option (List Int)) (m : Ms) (s : Sls) (y : World) : Prop where
  rg : Rg T W g v bs st y
  mb : MB y W.heap.size m s
  ms : Mss (fun b => W.heap.size + 1 ≤ b) y m s
  fit : m.Fit
  two : W.heap.size + 1 ≤ y.heap.size
section
variable {T : Nat → Prop} {W : World} {g : Nat} {v : Value} {bs : List Int} {st st' : Option (List Int)} {m m' : Ms} {s s' : Sls} {y y' : World}
theorem Dm.grow (h : Dm T W g v bs st m s y) (hg : g < W.heap.size) (ho : Only (fun b => b = g ∨ y.heap.size ≤ b) y y') (hr : Rg T W g v bs st' y') : Dm T W g v bs st' m s y' :=
  have h2 := h.two
  ⟨hr, (ho.block _ (by omega)).trans h.mb, h.ms.carry fun b hb hS => ⟨hS, ho.block b (by omega)⟩, h.fit, Nat.le_trans h.two ho.size⟩
theorem Dm.on (h : Dm T W g v bs st m s y) (hg : g < W.heap.size) (ho : Only (fun b => b = g) y y') (hr : Rg T W g v bs st' y') : Dm T W g v bs st' m s y' := h.grow hg (ho.mono fun _b hb => Or.inl hb) hr
theorem Dm.n (h : Dm T W g v bs st m s y) (hg : g < W.heap.size) (k : Nat) (hk : k ≤ 8) : Calls Tryz.prog 23 #[ptr g, .int .i64 (k : Int)] y fun e y' => ∃ (a : Int) (st' : Option (List Int)), e = .returned (.int .u64 a) ∧ (0 ≤ a ∧ a < 2 ^ (8 * k)) ∧ (st' = none → a = 0) ∧ Only (fun b => b = g) y y' ∧ Dm T W g v bs st' m s y' ∧ Got (tk k) st a st' :=
  (h.rg.n k hk).mono fun _e _w' ⟨a, st', h1, h2, h3, h4, h5, h6⟩ => ⟨a, st', h1, h2, h3, h4, h.on hg h4 h5, h6⟩
theorem Dm.mark (h : Dm T W g v bs st m s y) (hg : g < W.heap.size) (c : Bool) (hc : st = none → c = true) : Dm T W g v bs (bif c then none else st) m s (y.setCell ⟨g, 2, none⟩ (.bool c)) :=
  h.on hg ((Only.refl (fun b => b = g) y).setCell (p := ⟨g, 2, none⟩) rfl _) (h.rg.mark c hc)
/-- A field of the message is stored. -/
theorem Dm.set (h : Dm T W g v bs st m s y) (hT : ∀ b, T b → b < W.heap.size) (hg : g < W.heap.size) {j : Nat} {u : Value} (he : (msc m s).setIfInBounds j u = msc m' s') (hms : Mss (fun b => W.heap.size + 1 ≤ b) y m' s') (hf : m'.Fit) : Dm T W g v bs st m' s' (y.setCell ⟨W.heap.size, j, none⟩ u) := by
  have ho : Only (fun b => b = W.heap.size) y (y.setCell ⟨W.heap.size, j, none⟩ u) := (Only.refl (fun b => b = W.heap.size) y).setCell (p := ⟨W.heap.size, j, none⟩) rfl _
  exact ⟨h.rg.more hT hg (ho.mono fun b hb => by omega), mb_set h.mb he, hms.carry fun b _ hS => ⟨hS, ho.block b (by omega)⟩, hf, Nat.le_trans h.two ho.size⟩
/-- The message's rule is stored. -/
theorem Dm.rul (h : Dm T W g v bs st m s y) (hT : ∀ b, T b → b < W.heap.size) (hg : g < W.heap.size) (r : Rl) (u : Value) (hcp : Cps (fun b => W.heap.size + 1 ≤ b) y u r.cp) (hf : r.Fit) : Dm T W g v bs st { m with r := r } { s with cp := u } (y.setCells W.heap.size 3 (rlc r u).toList) := by
  have hq := setCells_below W.heap.size (rlc r u).toList 3 y
  have ho : Only (fun b => b = W.heap.size) y (y.setCells W.heap.size 3 (rlc r u).toList) := ⟨hq.1, hq.2.1, hq.2.2.1, hq.2.2.2.1, fun k hk => hq.2.2.2.2 k hk⟩
  have hm : Mss (fun b => W.heap.size + 1 ≤ b) y { m with r := r } { s with cp := u } := ⟨hcp, h.ms.ps, h.ms.ed, h.ms.fr, h.ms.hs⟩
  have hF := h.fit
  exact ⟨h.rg.more hT hg (ho.mono fun b hb => by omega), set_rl m s r u y W.heap.size h.mb, hm.carry fun b _ hS => ⟨hS, ho.block b (by omega)⟩, ⟨hF.ty, hF.id, hF.dw, hf, hF.po, hF.sw, hF.ps, hF.ed, hF.fr, hF.hs, hF.co⟩, Nat.le_trans h.two ho.size⟩
theorem Dm.there (h : Dm T W g v bs st m s y) : y.there W.heap.size 3 25 := by
  intro i hi
  have hb : y.heap[W.heap.size]? = some (.cells (msc m s) 37 (0, 0)) := h.mb
  refine ⟨?_, mb_free h.mb _⟩
  rw [cell_of_row y W.heap.size (3 + i) _ _ _ hb, Array.getElem?_eq_getElem (by rw [msc_size]; omega)]
  rfl
end
theorem slc_of {S : Nat → Prop} {w : World} {v : Value} {l : List Int} (h : Rw S 1 5 w v l.length (l.map (Value.int .u8))) (hf : IsB l) (hl : l.length ≤ 65535) : SlC S w v l := by
  rcases h.2 with ⟨rfl, h0⟩ | ⟨g, o, cap, cur, rfl, h2, h3, h4, h5, h6⟩
  · obtain rfl : l = [] := List.length_eq_zero_iff.1 h0
    exact SlC.nil _ _
  · refine ⟨_, cap, rfl, h4, by omega, hf, (fun h => by cases h), fun _ => ⟨g, o, h2, rfl, fun j hj => ?_⟩⟩
    rw [cell_of_row _ _ _ _ _ _ h3, cells_at h6 (by omega)]
    simp [hj]
end Go.Proofs.YtllbbbfkdgjffaaGreatDoor
namespace Go.Proofs.YtllbbbfkdgjffaaGreatDoor
open Go.RowKit

section
variable {T : Nat → Prop} {W : World} {g : Nat} {v : Value} {bs : List Int} {st st' : Option (List Int)} {m m' : Ms} {s s' : Sls} {y y' : World}
theorem Dm.sw (h : Dm T W g v bs st m s y) (hT : ∀ b, T b → b < W.heap.size) (hg : g < W.heap.size) (x : Int) (hx : In16 x) : Dm T W g v bs st { m with sw := x } s (y.setCell ⟨W.heap.size, 30, none⟩ (.int .u16 x)) := h.set hT hg (set_sw m s x) ⟨h.ms.cp, h.ms.ps, h.ms.ed, h.ms.fr, h.ms.hs⟩ ⟨h.fit.ty, h.fit.id, h.fit.dw, h.fit.r, h.fit.po, hx, h.fit.ps, h.fit.ed, h.fit.fr, h.fit.hs, h.fit.co⟩
theorem Dm.po (h : Dm T W g v bs st m s y) (hT : ∀ b, T b → b < W.heap.size) (hg : g < W.heap.size) (x : Int) (hx : In16 x) : Dm T W g v bs st { m with po := x } s (y.setCell ⟨W.heap.size, 28, none⟩ (.int .u16 x)) := h.set hT hg (set_po m s x) ⟨h.ms.cp, h.ms.ps, h.ms.ed, h.ms.fr, h.ms.hs⟩ ⟨h.fit.ty, h.fit.id, h.fit.dw, h.fit.r, hx, h.fit.sw, h.fit.ps, h.fit.ed, h.fit.fr, h.fit.hs, h.fit.co⟩
theorem Dm.co (h : Dm T W g v bs st m s y) (hT : ∀ b, T b → b < W.heap.size) (hg : g < W.heap.size) (x : Int) (hx : In16 x) : Dm T W g v bs st { m with co := x } s (y.setCell ⟨W.heap.size, 35, none⟩ (.int .u16 x)) := h.set hT hg (set_co m s x) ⟨h.ms.cp, h.ms.ps, h.ms.ed, h.ms.fr, h.ms.hs⟩ ⟨h.fit.ty, h.fit.id, h.fit.dw, h.fit.r, h.fit.po, h.fit.sw, h.fit.ps, h.fit.ed, h.fit.fr, h.fit.hs, hx⟩
theorem Dm.dw (h : Dm T W g v bs st m s y) (hT : ∀ b, T b → b < W.heap.size) (hg : g < W.heap.size) (x : Int) (hx : -128 ≤ x ∧ x < 128) : Dm T W g v bs st { m with dw := x } s (y.setCell ⟨W.heap.size, 2, none⟩ (.int .i8 x)) := h.set hT hg (set_dw m s x) ⟨h.ms.cp, h.ms.ps, h.ms.ed, h.ms.fr, h.ms.hs⟩ ⟨h.fit.ty, h.fit.id, hx, h.fit.r, h.fit.po, h.fit.sw, h.fit.ps, h.fit.ed, h.fit.fr, h.fit.hs, h.fit.co⟩
theorem Dm.up (h : Dm T W g v bs st m s y) (hT : ∀ b, T b → b < W.heap.size) (hg : g < W.heap.size) (x : Bool) : Dm T W g v bs st { m with up := x } s (y.setCell ⟨W.heap.size, 29, none⟩ (.bool x)) := h.set hT hg (set_up m s x) ⟨h.ms.cp, h.ms.ps, h.ms.ed, h.ms.fr, h.ms.hs⟩ ⟨h.fit.ty, h.fit.id, h.fit.dw, h.fit.r, h.fit.po, h.fit.sw, h.fit.ps, h.fit.ed, h.fit.fr, h.fit.hs, h.fit.co⟩
theorem Dm.ps (h : Dm T W g v bs st m s y) (hT : ∀ b, T b → b < W.heap.size) (hg : g < W.heap.size) (x : List Int) (u : Value) (hm : Shs (fun b => W.heap.size + 1 ≤ b) y u x) (hx : ∀ z ∈ x, In16 z) : Dm T W g v bs st { m with ps := x } { s with ps := u } (y.setCell ⟨W.heap.size, 31, none⟩ u) := h.set hT hg (set_ps m s x u) ⟨h.ms.cp, hm, h.ms.ed, h.ms.fr, h.ms.hs⟩ ⟨h.fit.ty, h.fit.id, h.fit.dw, h.fit.r, h.fit.po, h.fit.sw, hx, h.fit.ed, h.fit.fr, h.fit.hs, h.fit.co⟩
theorem Dm.ed (h : Dm T W g v bs st m s y) (hT : ∀ b, T b → b < W.heap.size) (hg : g < W.heap.size) (x : List Int) (u : Value) (hm : Shs (fun b => W.heap.size + 1 ≤ b) y u x) (hx : ∀ z ∈ x, In16 z) : Dm T W g v bs st { m with ed := x } { s with ed := u } (y.setCell ⟨W.heap.size, 32, none⟩ u) := h.set hT hg (set_ed m s x u) ⟨h.ms.cp, h.ms.ps, hm, h.ms.fr, h.ms.hs⟩ ⟨h.fit.ty, h.fit.id, h.fit.dw, h.fit.r, h.fit.po, h.fit.sw, h.fit.ps, hx, h.fit.fr, h.fit.hs, h.fit.co⟩
theorem Dm.fr (h : Dm T W g v bs st m s y) (hT : ∀ b, T b → b < W.heap.size) (hg : g < W.heap.size) (x : List Int) (u : Value) (hm : SlC (fun b => W.heap.size + 1 ≤ b) y u x) (hx : IsB x) : Dm T W g v bs st { m with fr := x } { s with fr := u } (y.setCell ⟨W.heap.size, 33, none⟩ u) := h.set hT hg (set_fr m s x u) ⟨h.ms.cp, h.ms.ps, h.ms.ed, hm, h.ms.hs⟩ ⟨h.fit.ty, h.fit.id, h.fit.dw, h.fit.r, h.fit.po, h.fit.sw, h.fit.ps, h.fit.ed, hx, h.fit.hs, h.fit.co⟩
theorem Dm.hs (h : Dm T W g v bs st m s y) (hT : ∀ b, T b → b < W.heap.size) (hg : g < W.heap.size) (x : List Hd) (u : Value) (hm : Hds (fun b => W.heap.size + 1 ≤ b) y u x) (hx : ∀ z ∈ x, z.Fit) : Dm T W g v bs st { m with hs := x } { s with hs := u } (y.setCell ⟨W.heap.size, 34, none⟩ u) := h.set hT hg (set_hs m s x u) ⟨h.ms.cp, h.ms.ps, h.ms.ed, h.ms.fr, hm⟩ ⟨h.fit.ty, h.fit.id, h.fit.dw, h.fit.r, h.fit.po, h.fit.sw, h.fit.ps, h.fit.ed, h.fit.fr, hx, h.fit.co⟩
end
theorem shs_in {S : Nat → Prop} {w : World} {v : Value} {l : List Int} (h : Shs S w v l) : ∀ x ∈ l, In16 x := Lst.all h fun _ _ hR => hR.2
def hdl (l : List Hd) (us : List Value) : List Value := (l.zip us).flatMap fun p => (hdc p.1 p.2).toList
theorem hdl_snoc (l : List Hd) (us : List Value) (h : Hd) (u : Value) (hl : us.length = l.length) : hdl (l ++ [h]) (us ++ [u]) = hdl l us ++ (hdc h u).toList := by
  unfold hdl
  rw [List.zip_append hl.symm]
  simp
theorem hdl_at : ∀ (l : List Hd) (us : List Value) (j i : Nat) (hj : j < l.length) (hu : j < us.length), i < 27 → (hdl l us)[j * 27 + i]? = (hdc l[j] us[j])[i]?
  | [], us, j, i, hj, _, _ => by simp at hj
  | h :: l, [], j, i, _, hu, _ => by simp at hu
  | h :: l, u :: us, 0, i, _, _, hi => by
    unfold hdl
    rw [List.zip_cons_cons, List.flatMap_cons, List.getElem?_append_left (by simp [hdc_size]; omega)]
    simp
  | h :: l, u :: us, j + 1, i, hj, hu, hi => by
    have ih := hdl_at l us j i (by simpa using hj) (by simpa using hu) hi
    unfold hdl at ih ⊢
    rw [List.zip_cons_cons, List.flatMap_cons, List.getElem?_append_right (by simp [hdc_size]; omega)]
    rw [show (j + 1) * 27 + i - (hdc h u).toList.length = j * 27 + i by simp [hdc_size]; omega, ih]
    simp
/-- A list of held rules. -/
structure HdR (S : Nat → Prop) (w : World) (v : Value) (l : List Hd) (us : List Value) : Prop where
  ul : us.length = l.length
  rw : Rw S 27 57 w v l.length (hdl l us)
  cp : ∀ (j : Nat) h u, l[j]? = some h → us[j]? = some u → CpR S w u h.r.cp
  fit : ∀ h ∈ l, h.Fit
  len : l.length ≤ 65535
theorem HdR.nil (S : Nat → Prop) (w : World) : HdR S w nilS [] [] := ⟨rfl, Rw.nil _ _ _ _, fun j h u hj => by simp at hj, by simp, by simp⟩
theorem HdR.hds {S : Nat → Prop} {w : World} {v : Value} {l : List Hd} {us : List Value} (h : HdR S w v l us) : Hds S w v l := by
  have hl := h.len
  rcases h.rw.2 with ⟨rfl, h0⟩ | ⟨g, o, cap, cur, rfl, h2, h3, h4, h5, h6⟩
  · obtain rfl : l = [] := List.length_eq_zero_iff.1 h0
    exact Lst.nil _ _ _ _
  · refine ⟨_, cap, rfl, h4, by omega, (fun h => by cases h), fun _ => ⟨g, o, h2, rfl, fun j hj => ?_⟩⟩
    have hju : j < us.length := by have := h.ul; omega
    refine ⟨us[j], fun i hi => ?_, (h.cp j l[j] us[j] (List.getElem?_eq_getElem hj) (List.getElem?_eq_getElem hju)).cps, h.fit _ (List.getElem_mem hj)⟩
    show w.cell? ⟨g, o + j * 27 + i, none⟩ = _
    rw [cell_of_row _ _ _ _ _ _ h3, show o + j * 27 + i = o + (j * 27 + i) by omega, cells_at h6 (by omega)]
    exact hdl_at l us j i hj hju hi
theorem HdR.keep {S : Nat → Prop} {w w' : World} {v : Value} {l : List Hd} {us : List Value} (h : HdR S w v l us) (hk : ∀ b cur t, (t = 93 ∨ t = 87 ∨ t = 57) → S b → w.heap[b]? = some (.cells cur t (0, 0)) → w'.heap[b]? = w.heap[b]?) : HdR S w' v l us :=
  ⟨h.ul, h.rw.keep fun b cur => hk b cur _ (Or.inr (Or.inr rfl)), fun j x u hx hu => (h.cp j x u hx hu).keep fun b cur t ht => hk b cur t (ht.elim Or.inl fun e => Or.inr (Or.inl e)), h.fit, h.len⟩
theorem ne_held : (93 : Nat) ≠ 57 ∧ (87 : Nat) ≠ 57 := by decide
theorem HdR.add {S : Nat → Prop} {w w' : World} {v v' u : Value} {l : List Hd} {us : List Value} {x : Hd} (h : HdR S w v l us) (hc : CpR S w u x.r.cp) (hf : x.Fit) (hA : Apd w v w') (hS : ∀ b, w.heap.size ≤ b → S b) (hR : Rw (fun b => S b ∨ w.heap.size ≤ b) 27 57 w' v' (l.length + 1) (hdl l us ++ (hdc x u).toList)) (hl : l.length < 65535) : HdR S w' v' (l ++ [x]) (us ++ [u]) := by
  have hk : ∀ b cur t, (t = 93 ∨ t = 87) → S b → w.heap[b]? = some (.cells cur t (0, 0)) → w'.heap[b]? = w.heap[b]? := fun b cur t ht _ hb => hA.keep h.rw hb (by rcases ht with rfl | rfl; exact ne_held.1; exact ne_held.2)
  have e := h.ul
  refine ⟨by simp [e], ?_, fun j y z hy hz => ?_, fun y hy => ?_, by simp; omega⟩
  · rw [List.length_append, hdl_snoc l us x u e]
    exact hR.carry fun b _ hb => ⟨hb.elim id (hS b), rfl⟩
  · by_cases hj : j < l.length
    · rw [List.getElem?_append_left hj] at hy
      rw [List.getElem?_append_left (by omega)] at hz
      exact (h.cp j y z hy hz).keep hk
    · have hj2 : j = l.length := by
        have := (List.getElem?_eq_some_iff.1 hy).1
        simp at this; omega
      subst hj2
      rw [List.getElem?_append_right (by omega)] at hy
      rw [← e, List.getElem?_append_right (by omega)] at hz
      simp at hy hz
      subst hy hz
      exact hc.keep hk
  · rcases List.mem_append.1 hy with hy | hy
    · exact h.fit y hy
    · simp at hy; subst hy; exact hf
end Go.Proofs.YtllbbbfkdgjffaaGreatDoor
