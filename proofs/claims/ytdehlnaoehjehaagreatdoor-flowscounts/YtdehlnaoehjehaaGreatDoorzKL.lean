/-
  Proved here: steps of drawn regions: the making of a slice of one thing, an append. No condition.
-/
/-
  Proved here: Helds of package flows: all rules with their counts in their order, in new memory. No condition.
-/
import Derived.Test.YtdehlnaoehjehaaGreatDoorzKK
import Derived.Great.BuildSlice
namespace Go.Proofs.YtdehlnaoehjehaaGreatDoor
set_option maxRecDepth 100000
open Go.RowKit

theorem fold_set : ∀ (l : List Value) (k : Nat) (A : Array Value) (i : Nat), ((l.zipIdx k).foldl (fun (cs : Array Value) (x : Value × Nat) => cs.setIfInBounds (0 + x.2) x.1) A).size = A.size ∧ ((l.zipIdx k).foldl (fun (cs : Array Value) (x : Value × Nat) => cs.setIfInBounds (0 + x.2) x.1) A)[i]? = if k ≤ i ∧ i < k + l.length ∧ i < A.size then l[i - k]? else A[i]?
  | [], k, A, i => by
    simp
    omega
  | c :: l, k, A, i => by
    obtain ⟨h1, h2⟩ := fold_set l (k + 1) (A.setIfInBounds (0 + k) c) i
    simp only [List.zipIdx_cons, List.foldl_cons]
    refine ⟨by rw [h1]; simp, ?_⟩
    rw [h2, Array.getElem?_setIfInBounds, Array.size_setIfInBounds]
    simp only [Nat.zero_add, List.length_cons]
    by_cases h : k = i
    · subst h
      rw [if_neg (by omega), if_pos rfl]
      by_cases hs : k < A.size
      · rw [if_pos hs, if_pos ⟨by omega, by omega, hs⟩]; simp
      · rw [if_neg hs, if_neg (by omega), Array.getElem?_eq_none (by omega)]
    · rw [if_neg h]
      by_cases hq : k + 1 ≤ i ∧ i < k + 1 + l.length ∧ i < A.size
      · rw [if_pos hq, if_pos ⟨by omega, by omega, hq.2.2⟩, show i - k = (i - (k + 1)) + 1 by omega]; simp
      · rw [if_neg hq, if_neg (by omega)]
theorem fill_one (n : Nat) (A cs : Array Value) (hA : A.size = n) (hc : cs.size = n) : Instr.fill (fun i => some (i * n, n)) A [(0, .agg cs)] = some cs := by
  simp only [Instr.fill, Value.cells, Nat.zero_mul, Nat.zero_add]
  rw [if_neg (by simp [hA, hc])]
  refine congrArg some ?_
  apply Array.ext_getElem?
  intro i
  rw [← Array.foldl_toList, Array.toList_zipIdx]
  have h := (fold_set cs.toList 0 A i).2
  simp only [Nat.zero_add] at h
  rw [h, Array.length_toList, Nat.sub_zero]
  by_cases hi : i < n
  · rw [if_pos ⟨by omega, by omega, by omega⟩]; simp
  · rw [if_neg (by omega), Array.getElem?_eq_none (by omega), Array.getElem?_eq_none (by omega)]
/-- A slice of one thing is made. -/
theorem bldSl {ops : Array Oper} {rest : List Oper} {o : Oper} {a : Act} {w : World} {Q : Exit → Act → World → Prop} (t e : TypeId) (y : Operand) (ho : o.op = .buildSlice t 1 #[(0, y)]) (hg : o.guard = none) (cs : Array Value) (hy : a.eval y = .agg cs) (hu : Tryz.prog.underlying t = some (.slice e)) (ie : TypeInfo) (z : Value) (n : Nat) (hie : Tryz.prog.info? e = some ie) (hz : ie.zero = some z) (hsz : ie.size = n) (hn : cs.size = n) (hn0 : 0 < n) (hn1 : n ≤ 1000)
    (h : wpList Tryz.prog ops Q rest (a.put o.dst (.slice (some ⟨w.heap.size, 0, none⟩) 1 1)) (w.alloc (.cells cs e))) : wpList Tryz.prog ops Q (o :: rest) a w := by
  refine wpList_buildSlice hg t e 1 _ ho cs ie z hu hie hz (by rw [hsz, Nat.one_mul]; omega) (by rw [hsz, Nat.one_mul]; omega) ?_ h
  rw [hsz]
  have : (Array.map (fun (x : Nat × Operand) => (x.1, a.eval x.2)) #[(0, y)]).toList = [(0, .agg cs)] := by simp [hy]
  show Instr.fill _ _ (Array.map (fun (x : Nat × Operand) => (x.1, a.eval x.2)) #[(0, y)]).toList = _
  rw [this]
  exact fill_one n _ cs (by simp) hn
theorem ready_one {P : Program} {md : Region.Mode} {ops : Array Oper} {Q : Exit → Act → World → Prop} {S : World → Prop} {fuel : Nat} {listed : Array Bool} {a : Act} {w : World} (i : Nat) (o : Oper) (hr : Region.ready md ops listed = [i]) (ho : ops[i]? = some o)
    (h : if Region.wanted o (yielded ops a.tmps) = true then Oper.wp P o a w (fun a' w' => S w' ∧ wpAnyH P md ops Q S fuel (listed.setIfInBounds i true) a' w') Q else S w ∧ wpAnyH P md ops Q S fuel (listed.setIfInBounds i true) (a.put o.dst undef) w) : wpAnyH P md ops Q S (fuel + 1) listed a w := by
  refine wpAnyH_all hr (by simp) fun j hj => ?_
  obtain rfl : j = i := by simpa using hj
  unfold wpOp
  rw [ho]
  show if Region.wanted o (yielded ops a.tmps) = true then _ else _
  split
  · rename_i hw
    rw [if_pos hw] at h
    exact Or.inl h
  · rename_i hw
    rw [if_neg hw] at h
    exact h
section
variable {md : Region.Mode} {ops : Array Oper} {Q : Exit → Act → World → Prop} {S : World → Prop} {fuel : Nat} {listed : Array Bool} {a : Act} {w : World}
/-- The one operation that is ready makes a slice of one thing. -/
theorem ready_bs (i : Nat) (o : Oper) (hr : Region.ready md ops listed = [i]) (ho : ops[i]? = some o) (t e : TypeId) (y : Operand) (hop : o.op = .buildSlice t 1 #[(0, y)]) (hg : o.guard = none) (cs : Array Value) (hy : a.eval y = .agg cs) (hu : Tryz.prog.underlying t = some (.slice e)) (ie : TypeInfo) (z : Value) (n : Nat) (hie : Tryz.prog.info? e = some ie) (hz : ie.zero = some z) (hsz : ie.size = n) (hn : cs.size = n) (hn0 : 0 < n) (hn1 : n ≤ 1000)
    (hk : S (w.alloc (.cells cs e)) ∧ wpAnyH Tryz.prog md ops Q S fuel (listed.setIfInBounds i true) (a.put o.dst (.slice (some ⟨w.heap.size, 0, none⟩) 1 1)) (w.alloc (.cells cs e))) : wpAnyH Tryz.prog md ops Q S (fuel + 1) listed a w := by
  refine ready_one i o hr ho ?_
  have hw : Region.wanted o (yielded ops a.tmps) = true := by simp [Region.wanted, hg]
  rw [if_pos hw]
  refine wp_buildSlice t e 1 _ hop cs ie z hu hie hz (by rw [hsz, Nat.one_mul]; omega) (by rw [hsz, Nat.one_mul]; omega) ?_ hk
  rw [hsz]
  have : (Array.map (fun (x : Nat × Operand) => (x.1, a.eval x.2)) #[(0, y)]).toList = [(0, .agg cs)] := by simp [hy]
  show Instr.fill _ _ (Array.map (fun (x : Nat × Operand) => (x.1, a.eval x.2)) #[(0, y)]).toList = _
  rw [this]
  exact fill_one n _ cs (by simp) hn
/-- The one operation that is ready appends. -/
theorem ready_rw (i : Nat) (o : Oper) (hr : Region.ready md ops listed = [i]) (ho : ops[i]? = some o) (s x : Operand) (tt : TypeId) (hop : o.op = .call { callee := .builtin .append, args := #[s, x], argTypes := #[tt, tt] }) (hgd : o.guard = none)
    {T : Nat → Prop} {k t by' n m c : Nat} {v z : Value} {xs us : List Value} {ad : Addr} (hs : a.eval s = v) (hx : a.eval x = .slice (some ad) m c) (hu : Tryz.prog.underlying tt = some (.slice t)) (hinfo : (Tryz.prog.info? t).map (fun i => (i.zero, i.size, i.bytes)) = some (some z, k, by')) (hzs : z.cells.size = k) (hk : 0 < k) (hby : by' ≤ 4096)
    (h : Rw T k t w v n xs) (hul : us.length = m * k) (hnews : ∀ j x, us[j]? = some x → w.cell? (ad.add j) = some x) (h1 : ∀ x ∈ us, x.oneCell' = true) (hl : n + m < 2147483648) (hm : m ≠ 0 ∨ n ≠ 0)
    (hK : ∀ v' w', Apd w v w' → Rw (fun b => T b ∨ w.heap.size ≤ b) k t w' v' (n + m) (xs ++ us) → S w' ∧ wpAnyH Tryz.prog md ops Q S fuel (listed.setIfInBounds i true) (a.put o.dst v') w') : wpAnyH Tryz.prog md ops Q S (fuel + 1) listed a w :=
  ready_one i o hr ho (stepRw s x tt hop hgd hs hx hu hinfo hzs hk hby h hul hnews h1 hl hm hK)
end
end Go.Proofs.YtdehlnaoehjehaaGreatDoor
namespace Go.Proofs.YtdehlnaoehjehaaGreatDoor
set_option maxRecDepth 100000
open Go.RowKit Go.Maps

theorem infoHELD : (Tryz.prog.info? 52).map (fun i => (i.zero, i.size, i.bytes)) = some (some (.agg (hdc ⟨zRl, 0, 0⟩ nilS)), 27, 232) := by kernel_rfl
def hen (x : Hel × Value) : List Value := (hdc x.1 x.2).toList
theorem hen_len (x : Hel × Value) : (hen x).length = 27 := by unfold hen; rw [Array.length_toList]; exact hdc_size _ _
theorem hdc_one {h : Hel} {u : Value} (hu : u.oneCell' = true) : (hdc h u).all (·.oneCell') = true := by
  unfold hdc
  rw [Array.all_append, rc_one hu]
  simp [show ∀ k n, (Value.int k n).oneCell' = true from fun _ _ => rfl]
theorem runBldH {o : Oper} {a : Act} {w : World} (x y : Operand) (ho : o.op = .build 52 #[(0, x), (1, y)]) (h : Hel) (u : Value) (hx : a.eval x = .agg (rlc h.r u)) (hy : a.eval y = .agg #[.int .u64 h.pk, .int .u64 h.bt]) : (execOp a.eval o).run Tryz.prog w = .ok (.value (.agg (hdc h u))) w := by
  obtain ⟨⟨rk, mt, cp, ck⟩, pk, bt⟩ := h
  unfold execOp
  simp only [ho, hx, hy, List.map_toArray, List.map_cons, List.map_nil, Sem.run_bind, Sem.run_pure]
  show _ = _
  kernel_rfl
theorem size_cnt (x y : Int) : (Tryz.prog.info? 50).map (·.size) = some (#[Value.int .u64 x, Value.int .u64 y]).size := by kernel_rfl
/-- What the round reads of a rule. -/
structure Hhe (p : Nat) (x : Fe) (w : World) : Prop where
  rr : w.rangeAt p 3 (rlc x.r x.u).toList
  rc : w.rangeAt p 0 (#[Value.int .u64 x.pk, Value.int .u64 x.bt] : Array Value).toList
theorem Hhe.of {x : Fe} {w : World} (h : w.heap[x.p]? = some (.cells (fec x) 104 (0, 0))) : Hhe x.p x w := ⟨range_of fun i hi => by
    rw [rc_size] at hi
    rw [cell_of_row _ _ _ _ _ _ h, fec_rl x i hi], range_of fun i hi => by
    rw [cell_of_row _ _ _ _ _ _ h, Nat.zero_add]
    have : i = 0 ∨ i = 1 := by simp at hi; omega
    rcases this with rfl | rfl
    · exact (fec_at x).1
    · exact (fec_at x).2.1⟩
/-- Where Helds is, i rules being done. -/
structure Hlp (w1 : World) (ds : List Fe) (i : Nat) (v : Value) (wr : World) : Prop where
  low : Below w1.heap.size w1 wr
  st : ∃ xs : List (Hel × Value), xs.map (·.1) = (ds.take i).map Fe.vw ∧ Rw (fun b => w1.heap.size ≤ b) 27 52 wr v i (cel hen xs) ∧ ∀ x ∈ xs, Cps (fun b => w1.heap.size ≤ b ∧ v.ownBlock ≠ some b) wr x.2 x.1.r.cp
/-- The same list, with the room behind it. -/
def HeR (B : Nat) (w' : World) (v : Value) (ds : List Fe) : Prop := ∃ xs : List (Hel × Value), xs.map (·.1) = ds.map Fe.vw ∧ Rw (fun b => B ≤ b) 27 52 w' v ds.length (cel hen xs) ∧ ∀ x ∈ xs, x.2.oneCell' = true
/-- What Helds answers. -/
def HeP (w : World) (es : List Fe) (e : Ending) (w' : World) : Prop := ∃ (v : Value) (ds : List Fe), e = .returned v ∧ ds.Perm es ∧ (ds.Pairwise fun a b => ltE b a = false) ∧ Below w.heap.size w w' ∧ Hels (fun b => w.heap.size ≤ b) w' v (ds.map Fe.vw) ∧ HeR w.heap.size w' v ds
theorem Hlp.fin {w1 : World} {ds : List Fe} {v : Value} {wr : World} (h : Hlp w1 ds ds.length v wr) (hl : ds.length ≤ 1024) : Hels (fun b => w1.heap.size ≤ b) wr v (ds.map Fe.vw) := by
  obtain ⟨xs, e, hR, hC⟩ := h.st
  rw [List.take_length] at e
  have hxl : xs.length = ds.length := by simpa using congrArg List.length e
  rcases hR with ⟨h1, ⟨rfl, h0⟩ | ⟨g, o, cap, cur, rfl, hb, hg, hc1, hc2, hc3⟩⟩
  · obtain rfl : ds = [] := List.eq_nil_of_length_eq_zero h0
    exact Lst.nil _ _ _ _
  · refine ⟨_, cap, by rw [List.length_map], by rw [List.length_map]; exact hc1, by rw [List.length_map]; omega, (fun h => by cases h), fun _ => ⟨g, o, hb, rfl, fun j hj => ?_⟩⟩
    rw [List.length_map] at hj
    have hjx : j < xs.length := by omega
    have ex : (ds.map Fe.vw)[j]'(by rw [List.length_map]; exact hj) = xs[j].1 := by
      have : (xs.map (·.1))[j]'(by rw [List.length_map]; exact hjx) = (ds.map Fe.vw)[j]'(by rw [List.length_map]; exact hj) := by congr 1
      rw [← this]; simp
    refine ⟨xs[j].2, fun i hi => ?_, ?_⟩
    · have hb1 : j * 27 + i < ds.length * 27 := by omega
      show wr.cell? ⟨g, o + j * 27 + i, none⟩ = _
      rw [ex, cell_of_row _ _ _ _ _ _ hg, Nat.add_assoc, cells_at hc3 hb1, cel_at hen_len xs j i hjx hi]
      simp [hen]
    · rw [ex]
      exact Cps.carry (fun b _ hS => ⟨hS.1, rfl⟩) (hC _ (List.getElem_mem hjx))
/-- One rule more. -/
theorem Hlp.next {w1 wr w2 w3 w4 : World} {ds : List Fe} {i : Nat} {v v' u : Value} (hlow : Below w1.heap.size w1 wr) (xs : List (Hel × Value)) (e : xs.map (·.1) = (ds.take i).map Fe.vw) (hR0 : Rw (fun b => w1.heap.size ≤ b) 27 52 wr v i (cel hen xs)) (hC : ∀ x ∈ xs, Cps (fun b => w1.heap.size ≤ b ∧ v.ownBlock ≠ some b) wr x.2 x.1.r.cp) (hi : i < ds.length) (hb : Below wr.heap.size wr w2) (hu : Cps (fun b => wr.heap.size ≤ b) w2 u ds[i].r.cp) (h3 : w3 = w2.alloc (.cells (hdc ds[i].vw u) 52)) (hA : Apd w3 v w4)
    (hR4 : Rw (fun b => (w1.heap.size ≤ b ∧ v.ownBlock = some b) ∨ w3.heap.size ≤ b) 27 52 w4 v' (i + 1) (cel hen xs ++ (hdc ds[i].vw u).toList)) : Hlp w1 ds (i + 1) v' w4 := by
  have hB3 : Below wr.heap.size wr w3 := by rw [h3]; exact hb.alloc hb.size _
  have hs3 : w3.heap.size = w2.heap.size + 1 := by rw [h3]; simp
  have hs2 := hb.size
  have hs1 := hlow.size
  have hown : ∀ b, v.ownBlock = some b → w1.heap.size ≤ b ∧ b < wr.heap.size := fun b hb' => ⟨hR0.own b hb', hR0.ownLt b hb'⟩
  have own4 : ∀ b, v'.ownBlock = some b → v.ownBlock = some b ∨ w3.heap.size ≤ b := fun b hb' => by
    rcases hR4.own b hb' with q | q
    · exact Or.inl q.2
    · exact Or.inr q
  refine ⟨⟨?_, ?_, ?_, ?_, fun b hb' => ?_⟩, xs ++ [(ds[i].vw, u)], ?_, ?_, fun x hx => ?_⟩
  · rw [hA.os, hB3.os, hlow.os]
  · rw [hA.tape, hB3.tape, hlow.tape]
  · rw [hA.output, hB3.output, hlow.output]
  · have := hA.size; omega
  · rw [hA.block b (by omega) (fun e => by have := (hown b e).1; omega), hB3.block b (by omega), hlow.block b hb']
  · rw [take_next hi, List.map_append, List.map_append, e]; rfl
  · have e2 : cel hen (xs ++ [(ds[i].vw, u)]) = cel hen xs ++ (hdc ds[i].vw u).toList := by simp [cel, hen]
    rw [e2]
    exact hR4.carry fun b _ hS => ⟨by
      rcases hS with q | q
      · exact q.1
      · omega, rfl⟩
  · rcases List.mem_append.1 hx with hx | hx
    · refine Cps.carry (fun b hb' hS => ⟨⟨hS.1, fun e' => (own4 b e').elim hS.2 fun q => by omega⟩, ?_⟩) (hC x hx)
      rw [hA.block b (by omega) hS.2, hB3.block b hb']
    · obtain rfl : x = (ds[i].vw, u) := by simpa using hx
      refine Cps.carry (fun b hb' hS => ⟨⟨by omega, fun e' => (own4 b e').elim (fun q => by have := (hown b q).2; omega) fun q => by omega⟩, ?_⟩) hu
      rw [hA.block b (by omega) (fun e => by have := (hown b e).2; omega), h3, heap_alloc_old _ _ hb']
set_option maxHeartbeats 3200000 in
set_option maxRecDepth 100000 in
theorem helds_flows {S : Nat → Prop} (w : World) (g : Nat) (room ad : Int) (es : List Fe) (gs : List Ge) (h : Fl S w g room ad es gs) :
    Calls Tryz.prog 16 #[pv g] w (HeP w es) := by
  obtain ⟨o, vm, br, bp, bg, Gr, Gp, Gg, h1, h2⟩ := h
  have HI := hid (inOrder_any w g vm br bp bg Gr Gp Gg room es gs ad h1 h2)
  have hlen1 : es.length ≤ 1024 := by have := h2.len; have := h2.rm; omega
  have HEn : Hid (∀ x ∈ es, EnM S o w x ∧ x.r.Fit) := fun x hx => ⟨h1.ent x hx, (h2.fit x hx).1⟩
  clear h1 h2
  go_enter Tryz.func16, Tryz.ntmps16
  go_upto_region 5 with (first
    | (go_at_call 54; refine (HI.out).mono ?_; rintro e w1 ⟨v, ds, rfl, hp, hso, hb1, hR⟩; obtain ⟨ao, cap, rfl⟩ := hR.form; have HS := hid (And.intro hp (And.intro hso (And.intro hb1 hR))); clear hp hso hb1 hR HI))
  have hlen : ds.length ≤ 1024 := by rw [HS.out.1.length_eq]; exact hlen1
  go_loopw [3, 13] (fun v i wr => ∃ k : Nat, k ≤ ds.length ∧ i = .int .i64 k ∧ Hlp w1 ds k v wr) (fun _ i _ => ds.length - (intOf i).toNat)
  case atStart => exact ⟨0, by omega, rfl, Below.refl _ _, [], by simp, Rw.nil _ _ _ _, fun x hx => by simp at hx⟩
  case round =>
    obtain ⟨k, hk, rfl, hrel⟩ := hrel
    generalize wr = wx at *
    obtain ⟨ao3, cap3, rfl⟩ : ∃ ao3 cap3, _ = Value.slice ao3 k cap3 := by obtain ⟨_, _, q, _⟩ := hrel.st; exact q.form
    have HV := hid hrel
    clear hrel
    by_cases hlt : k < ds.length
    · obtain ⟨hp, hso, hb1, hR⟩ := HS.out
      obtain ⟨x, hx⟩ : ∃ x, x = ds[k] := ⟨_, rfl⟩
      have hxe : x ∈ es := hp.subset (hx ▸ List.getElem_mem hlt)
      rcases hR with ⟨hxx, ⟨_, hz0⟩ | ⟨gl, oo, cap', cur, he, hq1, hq2, hq3, hq4, hq5⟩⟩
      · omega
      obtain ⟨rfl, rfl⟩ : ao = some ⟨gl, oo, none⟩ ∧ cap = cap' := by simpa using he
      have hL := HV.out.low
      have hgx : wx.heap[gl]? = some (.cells cur 96 (0, 0)) := (hL.block gl (Array.getElem?_eq_some_iff.1 hq2).1).trans hq2
      have d0 : wx.cell? ⟨gl, oo + k, none⟩ = some (pv x.p) := by
        rw [cell_of_row _ _ _ _ _ _ hgx]
        have := cells_at hq5 (j := k) (by omega)
        rw [eps_at ds k hlt, ← hx] at this
        exact this
      obtain ⟨hE, hfit⟩ := HEn.out x hxe
      have hpl := (Array.getElem?_eq_some_iff.1 hE.h).1
      have hBx : Below w.heap.size w wx := hb1.trans (hL.mono hb1.size)
      have hxx1 : wx.heap[x.p]? = some (.cells (fec x) 104 (0, 0)) := (hBx.block _ hpl).trans hE.h
      have HH : Hid (Hhe x.p x wx.drew) := Hhe.of (w := wx.drew) hxx1
      have HFr := hid (fresh_any (T := fun b => (S b ∧ o b = .cop) ∧ b < w.heap.size) wx.drew x.r x.u (Cps.carry (fun b hb hS => ⟨⟨hS, hb⟩, hBx.block b hb⟩) hE.c) (fun b hb => by have := hBx.size; have := hb.2; show b < wx.heap.size; omega) hfit.sm)
      obtain ⟨xs0, hxe0, hRr, hxC⟩ := HV.out.st
      have HN : Hid (∀ w2 u, Below wx.drew.heap.size wx.drew w2 → Cps (fun b => wx.drew.heap.size ≤ b) w2 u x.r.cp → Hhe x.p x w2 ∧ u.oneCell' = true ∧ ∃ w3, w3 = w2.alloc (.cells (hdc x.vw u) 52) ∧ Hhe x.p x w3 ∧ Rw (fun b => w1.heap.size ≤ b ∧ (Value.slice ao3 k cap3).ownBlock = some b) 27 52 w3 (.slice ao3 k cap3) k (cel hen xs0) ∧ (∀ j z, (hdc x.vw u).toList[j]? = some z → w3.cell? (Addr.add ⟨w2.heap.size, 0, none⟩ j) = some z) ∧
          ∀ w4 v4, Apd w3 (.slice ao3 k cap3) w4 → Rw (fun b => (w1.heap.size ≤ b ∧ (Value.slice ao3 k cap3).ownBlock = some b) ∨ w3.heap.size ≤ b) 27 52 w4 v4 (k + 1) (cel hen xs0 ++ (hdc x.vw u).toList) → Hhe x.p x w4 ∧ Hlp w1 ds (k + 1) v4 w4) := fun w2 u q1 q2 => by
        have q1' : Below wx.heap.size wx w2 := ⟨q1.os, q1.tape, q1.output, q1.size, q1.block⟩
        obtain ⟨w3, h3⟩ : ∃ w3, w3 = w2.alloc (.cells (hdc x.vw u) 52) := ⟨_, rfl⟩
        have hB3 : Below wx.heap.size wx w3 := by rw [h3]; exact q1'.alloc q1'.size _
        have hxl : x.p < wx.heap.size := (Array.getElem?_eq_some_iff.1 hxx1).1
        refine ⟨Hhe.of ((q1'.block _ hxl).trans hxx1), Lst.oneC q2, w3, h3, Hhe.of ((hB3.block _ hxl).trans hxx1), hRr.self.carry fun b hb hS => ⟨hS, hB3.block b hb⟩, fun j z hz => ?_, fun w4 v4 hA hR4 => ⟨Hhe.of ?_, ?_⟩⟩
        · rw [Addr.add_lit, Nat.zero_add, h3, cell_of_row _ _ _ _ _ _ (heap_alloc_new _ _), ← hz]; simp
        · rw [hA.block x.p (by have := hB3.size; omega) (fun e => by have := hRr.own _ e; have := hb1.size; omega), hB3.block _ hxl]; exact hxx1
        · rw [hx] at h3 hR4 q2
          exact Hlp.next hL xs0 hxe0 hRr hxC hlt q1' q2 h3 hA hR4
      have Hd0 := hid d0
      obtain ⟨iR, hiR, hiz, his, -⟩ := info_parts infoHELD
      clear hp hso hb1 hxe hxx he hq1 hq2 hq3 hq4 hq5 hL hgx hE hfit hpl hBx hxx1 hRr hx hxe0 hxC HV
      go_upto_region 7 with fail
      refine wp_region_held_drew (S := Hhe x.p x) (by kernel_rfl) HH.out (fun hHeld => ?_)
      refine wpAnyH_take (i := 0) (v := ?_) rfl (by kernel_rfl) (by kernel_rfl) (by kernel_rfl) (fun _ _ _ h => h) (Or.inl ⟨by rfl, ?_⟩) hHeld ?_
      rotate_left
      · intro w' hSw
        clear hSw
        go_simp
        first | done | with_reducible rfl
      simp only [Act.put, List.getElem_toArray, List.getElem_cons_zero, List.setIfInBounds_toArray, List.set_cons_zero, List.set_cons_succ]
      refine wpAnyH_take (i := 1) (v := ?_) rfl (by kernel_rfl) (by kernel_rfl) (by kernel_rfl) (fun _ _ _ h => h) (Or.inl ⟨by rfl, ?_⟩) hHeld ?_
      rotate_left
      · intro w' hSw
        clear hSw
        go_simp
        first | done | with_reducible rfl
      simp only [Act.put, List.getElem_toArray, List.getElem_cons_succ, List.getElem_cons_zero, List.setIfInBounds_toArray, List.set_cons_zero, List.set_cons_succ]
      refine wpAnyH_take (i := 2) (v := ?_) rfl (by kernel_rfl) (by kernel_rfl) (by kernel_rfl) (fun _ _ _ h => h) (Or.inl ⟨by rfl, ?_⟩) hHeld ?_
      rotate_left
      · intro w' hSw
        clear hSw
        go_simp
        first | done | with_reducible rfl
      simp only [Act.put, List.getElem_toArray, List.getElem_cons_succ, List.getElem_cons_zero, List.setIfInBounds_toArray, List.set_cons_zero, List.set_cons_succ]
      refine wpAnyH_take (i := 3) (v := ?_) rfl (by kernel_rfl) (by kernel_rfl) (by kernel_rfl) (fun _ _ _ h => h) (Or.inl ⟨by rfl, ?_⟩) hHeld ?_
      rotate_left
      · intro w' hSw
        clear hSw
        go_simp
        first | done | with_reducible rfl
      simp only [Act.put, List.getElem_toArray, List.getElem_cons_succ, List.getElem_cons_zero, List.setIfInBounds_toArray, List.set_cons_zero, List.set_cons_succ]
      refine wpAnyH_take (i := 4) (v := (.agg (rlc x.r x.u))) rfl (by kernel_rfl) (by kernel_rfl) (by kernel_rfl) (fun _ _ _ h => h) (Or.inl ⟨by rfl, ?_⟩) hHeld ?_
      · intro w' hSw
        exact runLd 35 (.tmp 20) rfl x.p 3 rfl (rlc x.r x.u) _ hSw.rr Tryz.underlying35 rfl (size_rl x.r x.u)
      simp only [Act.put, List.getElem_toArray, List.getElem_cons_succ, List.getElem_cons_zero, List.setIfInBounds_toArray, List.set_cons_zero, List.set_cons_succ]
      refine wpAnyH_take (i := 6) (v := ?_) rfl (by kernel_rfl) (by kernel_rfl) (by kernel_rfl) (fun _ _ _ h => h) (Or.inl ⟨by rfl, ?_⟩) hHeld ?_
      rotate_left
      · intro w' hSw
        clear hSw
        go_simp
        first | done | with_reducible rfl
      simp only [Act.put, List.getElem_toArray, List.getElem_cons_succ, List.getElem_cons_zero, List.setIfInBounds_toArray, List.set_cons_zero, List.set_cons_succ]
      refine wpAnyH_take (i := 7) (v := ?_) rfl (by kernel_rfl) (by kernel_rfl) (by kernel_rfl) (fun _ _ _ h => h) (Or.inl ⟨by rfl, ?_⟩) hHeld ?_
      rotate_left
      · intro w' hSw
        clear hSw
        go_simp
        first | done | with_reducible rfl
      simp only [Act.put, List.getElem_toArray, List.getElem_cons_succ, List.getElem_cons_zero, List.setIfInBounds_toArray, List.set_cons_zero, List.set_cons_succ]
      refine wpAnyH_take (i := 8) (v := ?_) rfl (by kernel_rfl) (by kernel_rfl) (by kernel_rfl) (fun _ _ _ h => h) (Or.inl ⟨by rfl, ?_⟩) hHeld ?_
      rotate_left
      · intro w' hSw
        clear hSw
        go_simp
        first | done | with_reducible rfl
      simp only [Act.put, List.getElem_toArray, List.getElem_cons_succ, List.getElem_cons_zero, List.setIfInBounds_toArray, List.set_cons_zero, List.set_cons_succ]
      refine wpAnyH_take (i := 9) (v := ?_) rfl (by kernel_rfl) (by kernel_rfl) (by kernel_rfl) (fun _ _ _ h => h) (Or.inl ⟨by rfl, ?_⟩) hHeld ?_
      rotate_left
      · intro w' hSw
        clear hSw
        go_simp
        first | done | with_reducible rfl
      simp only [Act.put, List.getElem_toArray, List.getElem_cons_succ, List.getElem_cons_zero, List.setIfInBounds_toArray, List.set_cons_zero, List.set_cons_succ]
      refine wpAnyH_take (i := 10) (v := (.agg #[.int .u64 x.pk, .int .u64 x.bt])) rfl (by kernel_rfl) (by kernel_rfl) (by kernel_rfl) (fun _ _ _ h => h) (Or.inl ⟨by rfl, ?_⟩) hHeld ?_
      · intro w' hSw
        exact runLd 50 (.tmp 26) rfl x.p 0 rfl #[.int .u64 x.pk, .int .u64 x.bt] _ hSw.rc Tryz.underlying50 rfl (size_cnt _ _)
      simp only [Act.put, List.getElem_toArray, List.getElem_cons_succ, List.getElem_cons_zero, List.setIfInBounds_toArray, List.set_cons_zero, List.set_cons_succ]
      refine wpAnyH_ready (rs := [5]) (by kernel_rfl) (by simp) ?_
      refine AllReadyH.cons rfl (fun K hK => ?_) AllReadyH.nil
      refine stepFnW 37 (.func 37) [.tmp 21] _ [.agg (rlc x.r x.u)] rfl rfl rfl rfl (fun _ => rfl) _ HFr.out ?_
      rintro e w2 ⟨u, rfl, q1, q2⟩
      refine Or.inl ⟨_, rfl, ?_⟩
      obtain ⟨y1, y2, w3, y3, y4, y5, y6, y7⟩ := HN.out w2 u q1 q2
      have HY3 := hid y3.symm
      have HY4 := hid y4
      have HY5 := hid y5
      have HY6 := hid y6
      have HY7 := hid y7
      have H1c : Hid (∀ z ∈ (hdc x.vw u).toList, z.oneCell' = true) := fun z hz => Array.all_eq_true'.1 (hdc_one y2) z (by simpa using hz)
      clear q1 q2 y2 y3 y4 y5 y6 y7 HN HFr
      refine hK.out _ _ y1 (fun hHeld => ?_)
      clear hK K
      simp only [Act.put, List.getElem_toArray, List.getElem_cons_succ, List.getElem_cons_zero, List.setIfInBounds_toArray, List.set_cons_zero, List.set_cons_succ]
      refine wpAnyH_take (i := 11) (v := (.agg (hdc x.vw u))) rfl (by kernel_rfl) (by kernel_rfl) (by kernel_rfl) (fun _ _ _ h => h) (Or.inl ⟨by rfl, ?_⟩) hHeld ?_
      · intro w' hSw
        exact runBldH (.tmp 22) (.tmp 27) rfl x.vw u rfl rfl
      simp only [Act.put, List.getElem_toArray, List.getElem_cons_succ, List.getElem_cons_zero, List.setIfInBounds_toArray, List.set_cons_zero, List.set_cons_succ]
      refine ready_bs 12 _ (by kernel_rfl) rfl 45 52 (.tmp 28) rfl rfl (hdc x.vw u) rfl Tryz.underlying45 iR _ 27 hiR hiz his (hdc_size _ _) (by omega) (by omega) ?_
      rw [HY3.out]
      refine ⟨HY4.out, ?_⟩
      simp only [Act.put, List.getElem_toArray, List.getElem_cons_succ, List.getElem_cons_zero, List.setIfInBounds_toArray, List.set_cons_zero, List.set_cons_succ]
      refine ready_rw 13 _ (by kernel_rfl) rfl (.tmp 17) (.tmp 29) 45 rfl rfl (k := 27) (t := 52) (n := k) (m := 1) (c := 1) (us := (hdc x.vw u).toList) (ad := ⟨w2.heap.size, 0, none⟩) rfl rfl Tryz.underlying45 infoHELD (hdc_size _ _) (by omega) (by omega) HY5.out (hen_len (x.vw, u)) HY6.out H1c.out (by omega) (Or.inl (by omega)) ?_
      intro v4 w4 hA4 hR4
      obtain ⟨f1, f2⟩ := HY7.out w4 v4 hA4 hR4
      obtain ⟨s4, c4, rfl⟩ : ∃ s4 c4, v4 = .slice s4 (k + 1) c4 := by obtain ⟨_, _, q, _⟩ := f2.st; exact q.form
      have HF2 := hid f2
      clear hA4 hR4 f2 HY7
      refine ⟨f1, ?_⟩
      simp only [Act.put, List.getElem_toArray, List.getElem_cons_succ, List.getElem_cons_zero, List.setIfInBounds_toArray, List.set_cons_zero, List.set_cons_succ]
      have hHeld := f1
      refine wpAnyH_take (i := 14) (v := ?_) rfl (by kernel_rfl) (by kernel_rfl) (by kernel_rfl) (fun _ _ _ h => h) (Or.inl ⟨by rfl, ?_⟩) hHeld ?_
      rotate_left
      · intro w' hSw
        clear hSw
        go_simp
        first | done | with_reducible rfl
      simp only [Act.put, List.getElem_toArray, List.getElem_cons_succ, List.getElem_cons_zero, List.setIfInBounds_toArray, List.set_cons_zero, List.set_cons_succ]
      refine wpAnyH_done (by kernel_rfl) ?_ _
      clear HY3 HY4 HY5 HY6 H1c y1 f1
      go_wp2
      go_roundw
      case rel => exact ⟨k + 1, by omega, by go_num, HF2.out⟩
      case measure => simp [intOf]; omega
    · obtain rfl : k = ds.length := by omega
      obtain ⟨hp, hso, hb1, hR⟩ := HS.out
      have HE : Hid (HeP w es (.returned (.slice ao3 ds.length cap3)) wx) := by
        refine ⟨_, ds, rfl, hp, hso, hb1.trans (HV.out.low.mono hb1.size), ?_⟩
        refine ⟨Hels.carry (fun b _ hS => ⟨by have := hb1.size; omega, rfl⟩) (HV.out.fin hlen), ?_⟩
        obtain ⟨xs, q1, q2, q3⟩ := HV.out.st
        rw [List.take_length] at q1
        exact ⟨xs, q1, q2.carry fun b _ hS => ⟨by have := hb1.size; omega, rfl⟩, fun x hx => Lst.oneC (q3 x hx)⟩
      clear hp hso hb1 hR HV HS
      go_wp2
      go_ret
      exact HE.out
end Go.Proofs.YtdehlnaoehjehaaGreatDoor
