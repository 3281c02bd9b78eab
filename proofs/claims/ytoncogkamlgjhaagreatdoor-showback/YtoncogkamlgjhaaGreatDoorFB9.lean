/-
  Proved here: the reader's method star, over atom. Conditions: the reader stands at one of its words; what atom reads is told.
-/
/-
  Laws of our own: steps of a region that draws its order (Sp); terms made of terms there. No condition.
-/
import Derived.Test.YtoncogkamlgjhaaGreatDoorFB7
namespace Go.Proofs.YtoncogkamlgjhaaGreatDoor
set_option maxRecDepth 100000
open Go.RowKit
set_option maxRecDepth 100000

theorem InS.row {W : World} {l : List Wd} {r m : Nat} {ws : Value} {j V : Nat} {w : World} (h : InS W l r m ws j w) (hV : W.heap.size < V) (cs : Array Value) : InS W l r m ws j (w.setRow V cs) := by
  have hko : ∀ k, k ≠ V → (w.setRow V cs).heap[k]? = w.heap[k]? := fun k hk => setRow_other w V k _ hk
  have hsz : (w.setRow V cs).heap.size = w.heap.size := by simp [World.setRow]
  have hlt := h.lt
  exact ⟨h.only.trans ⟨rfl, rfl, rfl, by omega, fun k hk => hko k (fun e => hk (Or.inr (by omega)))⟩, h.rd.keep fun b hb => hko b (by omega), (hko _ (by omega)).trans h.res, hlt⟩
/-- a term in a variable of its own -/
structure StS (W : World) (l : List Wd) (r m : Nat) (ws : Value) (V : Nat) (t : Tm) (cs : Array Value) (k : Nat) (wr : World) : Prop where
  i : InS W l r m ws k wr
  v : wr.heap[V]? = some (.cells cs 26 (0, 0))
  gt : W.heap.size < V
  tm : TmV (fun b => W.heap.size < b ∧ b ≠ V) wr t cs
section
variable {W : World} {l : List Wd} {r m : Nat} {ws : Value} {V : Nat} {t : Tm} {cs : Array Value} {k k' : Nat} {w w' : World}
theorem StS.thn (h : StS W l r m ws V t cs k w) (ho : Only (Rn r w) w w') (hr : RdM l r m ws k' w') : StS W l r m ws V t cs k' w' := by
  have h1 := (Array.getElem?_eq_some_iff.1 h.v).1
  have h2 := h.i.lt
  have h3 := h.gt
  exact ⟨h.i.thn ho hr, (ho.block _ (by rintro (e | e) <;> omega)).trans h.v, h3, tm_on h.tm fun b hb hS => ⟨hS, ho.block b (by rintro (e | e) <;> omega)⟩⟩
theorem StS.new (h : InS W l r m ws k w) (ht : TmV (fun b => W.heap.size < b) w t cs) : StS W l r m ws w.heap.size t cs k (w.alloc (.cells cs 26)) := by
  have hb : Below w.heap.size w (w.alloc (.cells cs 26)) := (Below.refl _ _).alloc (Nat.le_refl _) _
  exact ⟨h.bel hb, heap_alloc_new _ _, h.size, tm_on ht fun b hl hS => ⟨⟨hS, by omega⟩, hb.block b hl⟩⟩
theorem StS.ov (h : StS W l r m ws V t cs k w) (op : Nat) (hb : Below (w.alloc (.cells cs 26)).heap.size (w.alloc (.cells cs 26)) w') :
    w'.heap[V]? = some (.cells cs 26 (0, 0)) ∧ StS W l r m ws V (ov op [t]) (tmc op 0 0 (.slice (some ⟨w.heap.size, 0, none⟩) 1 1)) k (w'.setRow V (tmc op 0 0 (.slice (some ⟨w.heap.size, 0, none⟩) 1 1))) := by
  have hV := (Array.getElem?_eq_some_iff.1 h.v).1
  have hb1 : Below w.heap.size w (w.alloc (.cells cs 26)) := (Below.refl _ _).alloc (Nat.le_refl _) _
  have hz1 : (w.alloc (.cells cs 26)).heap.size = w.heap.size + 1 := by simp
  have hv' : w'.heap[V]? = some (.cells cs 26 (0, 0)) := ((hb.block _ (by omega)).trans (hb1.block _ hV)).trans h.v
  refine ⟨hv', ((h.i.bel hb1).bel hb).row h.gt _, setRow_heap w' V cs _ 26 _ hv', h.gt, ?_⟩
  have h2 : TmV (fun b => (W.heap.size < b ∧ b ≠ V)) (w.alloc (.cells cs 26)) (YtoncogkamlgjhaaGreatDoor.ov op [t]) (tmc op 0 0 (.slice (some ⟨w.heap.size, 0, none⟩) 1 1)) := h.tm.bld op fun b hb => ⟨by have := h.i.size; omega, by omega⟩
  exact tm_on h2 fun b hl hS => ⟨hS, (setRow_other w' V b _ hS.2).trans (hb.block b hl)⟩
end
set_option maxHeartbeats 6400000 in
theorem star_any {l : List Wd} {r m : Nat} {ws : Value} {i : Nat} {W : World} (h : RdM l r m ws i W) (hi : i < l.length) (hb : l.length ≤ 100000) (hcl : Cl l) (at' : Nat → Rd Tm) (haa : Adv l at')
    (hA : ∀ w, RdM l r m ws i w → Calls Tryz.prog 82 #[ptr r] w (RdP l r m ws (at' i) w)) : Calls Tryz.prog 58 #[ptr r] W (RdP l r m ws (starF l at' i) W) := by
  obtain ⟨iR, hiR, hiz, his, -⟩ := info_parts infoTM
  have HI0 := hid (InS.new h)
  obtain ⟨W1, hW1⟩ : ∃ W1, W1 = W.alloc (.cells (tmc 0 0 0 nilS) 26) := ⟨_, rfl⟩
  rw [← hW1] at HI0
  have HE : Hid (W.alloc (.cells #[.int .i8 0, .int .i8 0, .int .u64 0, .slice none 0 0] 26) = W1) := hW1.symm
  have HC := hid (hA W1 HI0.out.rd)
  have HCl := hid hcl
  have HAd := hid (haa i hi)
  clear h hA hcl hW1 haa
  have hb' : l.length ≤ 2147483648 := by omega
  go_enter Tryz.func58, Tryz.ntmps58
  go_upto_region 1 with fail
  rw [show W.alloc (.cells #[.int .i8 0, .int .i8 0, .int .u64 0, .slice none 0 0] 26) = W1 from HE.out]
  clear HE
  cases hp : at' i with
  | bad j =>
    have HJ : Hid (starF l at' i = .bad j) := by show _ = _; unfold starF; rw [hp]
    rw [hp] at HC
    clear hp
    go_wp2_with (go_at_call 82; refine (HC.out).mono ?_; intro e w3 h9; obtain ⟨rfl, a1, a2⟩ := h9.isBad; have HX := hid (HI0.out.bad a1 a2); clear a1 a2 h9)
    refine ⟨rfl, (show RdP l r m ws (starF l at' i) W _ _ from ?_)⟩
    rw [HJ.out]; exact HX.out
  | ok t j =>
    have HJ : Hid (starF l at' i = starL l l.length j t) := by show _ = _; unfold starF; rw [hp]
    have hj := HAd.out.1 t j hp
    rw [hp] at HC
    clear hp
    go_upto_region 2 with (first
      | (go_at_call 82; refine (HC.out).mono ?_; intro e w2 h9; obtain ⟨cs, rfl, a1, a2, a3⟩ := h9.isOk; have HI2 := hid (HI0.out.thn a1 a2); have HT2 := hid (HI0.out.tm a3); clear a1 a2 a3 h9)
      | (refine stNew 26 (.tmp 3) (.tmp 5) rfl rfl w2 26 (tmc 0 0 0 nilS) cs rfl rfl rfl HT2.out.info (by rw [HT2.out.size]; rfl) HT2.out.one ?_))
    have HS0 := hid (StS.new HI2.out HT2.out)
    clear HI2 HT2 HC HI0
    generalize w2.alloc (.cells cs 26) = w3 at HS0 ⊢
    generalize w2.heap.size = V at HS0 ⊢
    simp only [Act.put]
    go_loopw [6] (fun _ wr => ∃ (u : Tm) (ds : Array Value) (k fu : Nat), k < l.length ∧ l.length - k ≤ fu ∧ Hid (StS W l r m ws V u ds k wr) ∧ Hid (starL l fu k u = starL l l.length j t)) (fun _ wr => l.length - rAt r wr)
    case atStart => exact ⟨t, cs, j, l.length, hj.2, by omega, HS0, rfl⟩
    case round =>
      clear HS0
      obtain ⟨u, ds, k, fu, hk1, hk2, HS, HL⟩ := hrel
      obtain ⟨fu, rfl⟩ : ∃ f', fu = f' + 1 := ⟨fu - 1, by omega⟩
      have HRA := hid HS.out.i.rd.rAt
      cases ht : tk l k Sstar with
      | true =>
        have HTy := hid (takes_yes HS.out.i.rd hk1 hb' ht)
        have hkk := tk_lt HCl.out hk1 (by decide) ht
        have HL2 : Hid (starL l fu (k + 1) (ov 10 [u]) = starL l l.length j t) := by
          show _ = _
          rw [← HL.out, starL, if_pos ht]
        clear ht HL
        go_wp2_with (first
          | (go_at_call 30; refine (HTy.out).mono ?_; rintro e w5 ⟨rfl, a1, a2⟩; have HS5 := hid (HS.out.thn a1 a2); clear a1 a2)
          | (refine ldRow 26 (.tmp 3) rfl rfl V rfl 26 ds _ Tryz.underlying26 rfl HS5.out.tm.info HS5.out.v ?_)
          | (refine bldSl 24 26 (.tmp 8) rfl rfl ds rfl Tryz.underlying24 iR _ 4 hiR hiz his HS5.out.tm.size (by omega) (by omega) ?_)
          | (go_at_call 83; refine (over_any 10 (some ⟨w5.heap.size, 0, none⟩) 1 1 _).mono ?_; rintro e w6 ⟨rfl, hw⟩; have HX := hid (HS5.out.ov 10 hw); clear hw)
          | (refine stRow 26 (.tmp 3) (.tmp 10) rfl rfl V _ rfl rfl 26 _ HX.out.1 HX.out.2.tm.info (by rw [HS5.out.tm.size]; rfl) HX.out.2.tm.one ?_))
        refine ⟨?_, ?_⟩
        · first
            | exact ⟨ov 10 [u], _, k + 1, fu, hkk, by omega, HX.out.2, HL2⟩
            | ((repeat apply Exists.intro); refine ⟨?_, rfl⟩; exact ⟨ov 10 [u], _, k + 1, fu, hkk, by omega, HX.out.2, HL2⟩)
        · show l.length - rAt r _ < l.length - rAt r wr
          rw [HX.out.2.i.rd.rAt, HRA.out]; omega
      | false =>
        have HTn := hid (takes_no HS.out.i.rd hk1 hb' ht)
        have HL2 : Hid (starL l l.length j t = .ok u k) := by
          show _ = _
          rw [← HL.out, starL, if_neg (by rw [ht]; decide)]
        clear ht HL
        go_wp2_with (first
          | (go_at_call 30; refine (HTn.out).mono ?_; rintro e w5 ⟨rfl, a1, a2⟩; have HS5 := hid (HS.out.thn a1 a2); clear a1 a2)
          | (refine ldRow 26 (.tmp 3) rfl rfl V rfl 26 ds _ Tryz.underlying26 rfl HS5.out.tm.info HS5.out.v ?_)
          | (refine stRow 26 (.tmp 2) (.tmp 11) rfl rfl W.heap.size ds rfl rfl 26 _ HS5.out.i.res HS5.out.tm.info (by rw [HS5.out.tm.size]; rfl) HS5.out.tm.one ?_))
        have hF := HS5.out.i.fin (tm_on HS5.out.tm fun b _ hS => ⟨hS.1, rfl⟩)
        refine bodyPost_ret (res_tm Tryz.results58 _ _ W.heap.size _ HS5.out.tm.info rfl hF.1) rfl (show RdP l r m ws (starF l at' i) W _ _ from ?_)
        rw [HJ.out, HL2.out]; exact hF.2
end Go.Proofs.YtoncogkamlgjhaaGreatDoor
namespace Go.Proofs.YtoncogkamlgjhaaGreatDoor
set_option maxRecDepth 100000
open Go.RowKit
set_option maxRecDepth 100000

section
variable {md : Region.Mode} {ops : Array Oper} {Q : Exit → Act → World → Prop} {S : World → Prop} {fuel : Nat} {listed : Array Bool} {o : Oper} {a : Act} {w : World} {K : Act → World → Prop}
/-- A step of a region that draws its order. -/
structure Sp (ops : Array Oper) (Q : Exit → Act → World → Prop) (o : Oper) (a : Act) (w : World) (K : Act → World → Prop) : Prop where
  want : Region.wanted o (yielded ops a.tmps) = true
  wp : Oper.wp Tryz.prog o a w K Q
theorem Sp.of (hg : o.guard = none) (h : if Region.wanted o (yielded ops a.tmps) = true then Oper.wp Tryz.prog o a w K Q else False) : Sp ops Q o a w K := by
  have hw : Region.wanted o (yielded ops a.tmps) = true := by simp [Region.wanted, hg]
  rw [if_pos hw] at h
  exact ⟨hw, h⟩
theorem Sp.run (hg : o.guard = none) (v : Value) (w' : World) (hr : (execOp a.eval o).run Tryz.prog w = .ok (.value v) w') (hk : K (a.put o.dst v) w') : Sp ops Q o a w K := ⟨by simp [Region.wanted, hg], by unfold Oper.wp; rw [hr, Oper.upon_value]; exact hk⟩
theorem an1 (i : Nat) (o : Oper) (hr : Region.ready md ops listed = [i]) (ho : ops[i]? = some o) (h : Sp ops Q o a w fun a' w' => S w' ∧ wpAnyH Tryz.prog md ops Q S fuel (listed.setIfInBounds i true) a' w') : wpAnyH Tryz.prog md ops Q S (fuel + 1) listed a w := by
  refine wpAnyH_all hr (by simp) fun j hj => ?_
  obtain rfl : j = i := by simpa using hj
  unfold wpOp
  rw [ho]
  show if Region.wanted o (yielded ops a.tmps) = true then _ else _
  rw [if_pos h.want]
  exact Or.inl h.wp
theorem an2 (i i' : Nat) (o o' : Oper) (hr : Region.ready md ops listed = [i, i']) (ho : ops[i]? = some o) (ho' : ops[i']? = some o') (h : Sp ops Q o a w fun a' w' => S w' ∧ wpAnyH Tryz.prog md ops Q S fuel (listed.setIfInBounds i true) a' w') (h' : Sp ops Q o' a w fun a' w' => S w' ∧ wpAnyH Tryz.prog md ops Q S fuel (listed.setIfInBounds i' true) a' w') : wpAnyH Tryz.prog md ops Q S (fuel + 1) listed a w := by
  refine wpAnyH_all hr (by simp) fun q hq => ?_
  have hq' : q = i ∨ q = i' := by simpa using hq
  rcases hq' with rfl | rfl
  · unfold wpOp
    rw [ho]
    show if Region.wanted o (yielded ops a.tmps) = true then _ else _
    rw [if_pos h.want]
    exact Or.inl h.wp
  · unfold wpOp
    rw [ho']
    show if Region.wanted o' (yielded ops a.tmps) = true then _ else _
    rw [if_pos h'.want]
    exact Or.inl h'.wp
theorem Sp.bs (t e : TypeId) (y : Operand) (hop : o.op = .buildSlice t 1 #[(0, y)]) (hg : o.guard = none) (cs : Array Value) (hy : a.eval y = .agg cs) (hu : Tryz.prog.underlying t = some (.slice e)) {z : Value} {n by' : Nat} (hinfo : (Tryz.prog.info? e).map (fun i => (i.zero, i.size, i.bytes)) = some (some z, n, by')) (hn : cs.size = n) (hn0 : 0 < n) (hn1 : n ≤ 1000) (hk : K (a.put o.dst (.slice (some ⟨w.heap.size, 0, none⟩) 1 1)) (w.alloc (.cells cs e))) : Sp ops Q o a w K := by
  obtain ⟨ie, hie, hz, hsz, -⟩ := info_parts hinfo
  refine ⟨by simp [Region.wanted, hg], wp_buildSlice t e 1 _ hop cs ie z hu hie hz (by rw [hsz, Nat.one_mul]; omega) (by rw [hsz, Nat.one_mul]; omega) ?_ hk⟩
  rw [hsz]
  have : (Array.map (fun (x : Nat × Operand) => (x.1, a.eval x.2)) #[(0, y)]).toList = [(0, .agg cs)] := by simp [hy]
  show Instr.fill _ _ (Array.map (fun (x : Nat × Operand) => (x.1, a.eval x.2)) #[(0, y)]).toList = _
  rw [this]
  exact fill_one n _ cs (by simp) hn

theorem arr4 {c : Array Value} (h : c.size = 4) : ∃ x0 x1 x2 x3, c = #[x0, x1, x2, x3] := by
  obtain ⟨l⟩ := c
  match l, h with
  | [x0, x1, x2, x3], _ => exact ⟨x0, x1, x2, x3, rfl⟩
theorem fill_two (c d : Array Value) (hc : c.size = 4) (hd : d.size = 4) : Instr.fill (fun i => some (i * 4, 4)) ((Array.range (2 * 4)).map ((Value.agg (tmc 0 0 0 nilS)).cells[· % (Value.agg (tmc 0 0 0 nilS)).cells.size]!)) [(0, .agg c), (1, .agg d)] = some (c ++ d) := by
  obtain ⟨x0, x1, x2, x3, rfl⟩ := arr4 hc
  obtain ⟨y0, y1, y2, y3, rfl⟩ := arr4 hd
  clear hc hd
  kernel_rfl
theorem Sp.bs2 (y y2 : Operand) (hop : o.op = .buildSlice 24 2 #[(0, y), (1, y2)]) (hg : o.guard = none) (c d : Array Value) (hy : a.eval y = .agg c) (hy2 : a.eval y2 = .agg d) (hc : c.size = 4) (hd : d.size = 4) (hk : K (a.put o.dst (.slice (some ⟨w.heap.size, 0, none⟩) 2 2)) (w.alloc (.cells (c ++ d) 26))) : Sp ops Q o a w K := by
  obtain ⟨ie, hie, hz, hsz, -⟩ := info_parts infoTM
  refine ⟨by simp [Region.wanted, hg], wp_buildSlice 24 26 2 _ hop (c ++ d) ie _ Tryz.underlying24 hie hz (by rw [hsz]; omega) (by rw [hsz]; omega) ?_ hk⟩
  rw [hsz]
  have : (Array.map (fun (x : Nat × Operand) => (x.1, a.eval x.2)) #[(0, y), (1, y2)]).toList = [(0, .agg c), (1, .agg d)] := by simp [hy, hy2]
  show Instr.fill _ _ (Array.map (fun (x : Nat × Operand) => (x.1, a.eval x.2)) #[(0, y), (1, y2)]).toList = _
  rw [this]
  exact fill_two c d hc hd
end
/-- A slice of two terms, just made. -/
theorem TmV.bld2 {S : Nat → Prop} {w : World} {t u : Tm} {c d : Array Value} (h : TmV S w t c) (k : TmV S w u d) (op : Nat) (hf : ∀ b, w.heap.size ≤ b → S b) : TmV S (w.alloc (.cells (c ++ d) 26)) (ov op [t, u]) (tmc op 0 0 (.slice (some ⟨w.heap.size, 0, none⟩) 2 2)) := by
  have hs := h.size
  have hs2 := k.size
  have hcar : ∀ b, b < w.heap.size → S b → S b ∧ (w.alloc (.cells (c ++ d) 26)).heap[b]? = w.heap[b]? := fun b hb hS => ⟨hS, heap_alloc_old _ _ hb⟩
  refine TmV.of (xs := (c ++ d).toList) ⟨by simp [hs, hs2], Or.inr ⟨w.heap.size, 0, 2, c ++ d, rfl, hf _ (Nat.le_refl _), heap_alloc_new _ _, Nat.le_refl _, by simp [hs, hs2], ?_⟩⟩ ?_
  · simp only [List.length_cons, List.length_nil, List.drop_zero]
    rw [List.take_of_length_le (by simp [hs, hs2])]
  · have := TmL.snoc (TmV.carry hcar _ _ k) _ _ (TmL.one (TmV.carry hcar _ _ h))
    simpa using this
/-- four terms in variables -/
structure Vs (V4 V5 V6 V7 : Nat) (c4 c5 c6 c7 : Array Value) (w : World) : Prop where
  v4 : w.heap[V4]? = some (.cells c4 26 (0, 0))
  v5 : w.heap[V5]? = some (.cells c5 26 (0, 0))
  v6 : w.heap[V6]? = some (.cells c6 26 (0, 0))
  v7 : w.heap[V7]? = some (.cells c7 26 (0, 0))
theorem range_blk {w : World} {b t : Nat} {cs : Array Value} (h : w.heap[b]? = some (.cells cs t (0, 0))) : w.rangeAt b 0 cs.toList := range_of fun i _ => by rw [Nat.zero_add, cell_of_row _ _ _ _ _ _ h]
/-- terms made so far -/
structure ChS (W : World) (l : List Wd) (r m : Nat) (ws : Value) (j : Nat) (V4 V5 V6 V7 : Nat) (c4 c5 c6 c7 : Array Value) (L : List (Tm × Array Value)) (w : World) : Prop where
  i : InS W l r m ws j w
  s : Vs V4 V5 V6 V7 c4 c5 c6 c7 w
  ts : ∀ x ∈ L, TmV (fun b => W.heap.size < b) w x.1 x.2
section
variable {W : World} {l : List Wd} {r m : Nat} {ws : Value} {j : Nat} {V4 V5 V6 V7 : Nat} {c4 c5 c6 c7 : Array Value} {L : List (Tm × Array Value)} {w w' : World}
theorem Vs.on (h : Vs V4 V5 V6 V7 c4 c5 c6 c7 w) (hb : Below w.heap.size w w') : Vs V4 V5 V6 V7 c4 c5 c6 c7 w' :=
  ⟨(hb.block _ (Array.getElem?_eq_some_iff.1 h.v4).1).trans h.v4, (hb.block _ (Array.getElem?_eq_some_iff.1 h.v5).1).trans h.v5, (hb.block _ (Array.getElem?_eq_some_iff.1 h.v6).1).trans h.v6, (hb.block _ (Array.getElem?_eq_some_iff.1 h.v7).1).trans h.v7⟩
theorem ChS.on (h : ChS W l r m ws j V4 V5 V6 V7 c4 c5 c6 c7 L w) (hb : Below w.heap.size w w') : ChS W l r m ws j V4 V5 V6 V7 c4 c5 c6 c7 L w' :=
  ⟨h.i.bel hb, h.s.on hb, fun x hx => tm_on (h.ts x hx) fun b hl hS => ⟨hS, hb.block b hl⟩⟩
theorem ChS.put (h : ChS W l r m ws j V4 V5 V6 V7 c4 c5 c6 c7 L w) {t : Tm} {c : Array Value} (ht : TmV (fun b => W.heap.size < b) w t c) : ChS W l r m ws j V4 V5 V6 V7 c4 c5 c6 c7 ((t, c) :: L) w :=
  ⟨h.i, h.s, fun x hx => by
    rcases List.mem_cons.1 hx with rfl | hx
    · exact ht
    · exact h.ts x hx⟩
variable {ops : Array Oper} {Q : Exit → Act → World → Prop} {o : Oper} {a : Act} {K : Act → World → Prop}
theorem Sp.cbs (op : Nat) (h : ChS W l r m ws j V4 V5 V6 V7 c4 c5 c6 c7 L w) {t : Tm} {c : Array Value} (hm : (t, c) ∈ L) (y : Operand) (hop : o.op = .buildSlice 24 1 #[(0, y)]) (hg : o.guard = none) (hy : a.eval y = .agg c)
    (hk : ∀ g w', ChS W l r m ws j V4 V5 V6 V7 c4 c5 c6 c7 ((ov op [t], tmc op 0 0 (.slice (some ⟨g, 0, none⟩) 1 1)) :: L) w' → K (a.put o.dst (.slice (some ⟨g, 0, none⟩) 1 1)) w') : Sp ops Q o a w K := by
  have ht := h.ts _ hm
  have hb : Below w.heap.size w (w.alloc (.cells c 26)) := (Below.refl _ _).alloc (Nat.le_refl _) _
  exact Sp.bs 24 26 y hop hg c hy Tryz.underlying24 infoTM ht.size (by omega) (by omega) (hk _ _ ((h.on hb).put (ht.bld op fun b hb => by have := h.i.size; omega)))
theorem Sp.cbs2 (op : Nat) (h : ChS W l r m ws j V4 V5 V6 V7 c4 c5 c6 c7 L w) {t u : Tm} {c d : Array Value} (hm : (t, c) ∈ L) (hm2 : (u, d) ∈ L) (y y2 : Operand) (hop : o.op = .buildSlice 24 2 #[(0, y), (1, y2)]) (hg : o.guard = none) (hy : a.eval y = .agg c) (hy2 : a.eval y2 = .agg d)
    (hk : ∀ g w', ChS W l r m ws j V4 V5 V6 V7 c4 c5 c6 c7 ((ov op [t, u], tmc op 0 0 (.slice (some ⟨g, 0, none⟩) 2 2)) :: L) w' → K (a.put o.dst (.slice (some ⟨g, 0, none⟩) 2 2)) w') : Sp ops Q o a w K := by
  have ht := h.ts _ hm
  have hu := h.ts _ hm2
  have hb : Below w.heap.size w (w.alloc (.cells (c ++ d) 26)) := (Below.refl _ _).alloc (Nat.le_refl _) _
  exact Sp.bs2 y y2 hop hg c d hy hy2 ht.size hu.size (hk _ _ ((h.on hb).put (ht.bld2 hu op fun b hb => by have := h.i.size; omega)))
theorem Sp.cov (op : Nat) (h : ChS W l r m ws j V4 V5 V6 V7 c4 c5 c6 c7 L w) (y : Operand) (ts : Array TypeId) (hop : o.op = .call { callee := .value (.func 83), args := #[.const (.int .i8 ((op : Nat) : Int)), y], argTypes := ts }) (hg : o.guard = none) (ao : Option Addr) (n c : Nat) (hy : a.eval y = .slice ao n c)
    (hk : ∀ w', ChS W l r m ws j V4 V5 V6 V7 c4 c5 c6 c7 L w' → K (a.put o.dst (.agg (tmc op 0 0 (.slice ao n c)))) w') : Sp ops Q o a w K := by
  refine Sp.of hg (stepFnW 83 (.func 83) [.const (.int .i8 ((op : Nat) : Int)), y] ts [.int .i8 ((op : Nat) : Int), .slice ao n c] hop (by simp [Region.wanted, hg]) rfl (by simp [hy]; rfl) (fun _ => rfl) _ (over_any op ao n c w) ?_)
  rintro e w' ⟨rfl, hb⟩
  exact Or.inl ⟨_, rfl, hk _ (h.on hb)⟩
end
end Go.Proofs.YtoncogkamlgjhaaGreatDoor
