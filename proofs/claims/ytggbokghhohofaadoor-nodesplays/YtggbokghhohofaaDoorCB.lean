/-
  Proved here: New, Len, has, full and add of package nodes, over a store in memory. Condition: fewer than 65537 nodes.
-/
import Derived.Test.YtggbokghhohofaaDoorCA
namespace Go.Proofs.YtggbokghhohofaaDoor
open Go.RowKit Go.Maps
set_option maxRecDepth 100000

section
variable {md : Region.Mode} {ops : Array Oper} {Q : Exit → Act → World → Prop} {S : World → Prop} {fuel : Nat} {listed : Array Bool} {o : Oper} {a : Act} {w : World} {K : Act → World → Prop}
/-- A step of a region that draws its order. -/
structure Sp (ops : Array Oper) (Q : Exit → Act → World → Prop) (o : Oper) (a : Act) (w : World) (K : Act → World → Prop) : Prop where
  want : Region.wanted o (yielded ops a.tmps) = true
  wp : Oper.wp Tryd.prog o a w K Q
theorem Sp.of (hg : o.guard = none) (h : if Region.wanted o (yielded ops a.tmps) = true then Oper.wp Tryd.prog o a w K Q else False) : Sp ops Q o a w K := by
  have hw : Region.wanted o (yielded ops a.tmps) = true := by simp [Region.wanted, hg]
  rw [if_pos hw] at h
  exact ⟨hw, h⟩
theorem an1 (i : Nat) (o : Oper) (hr : Region.ready md ops listed = [i]) (ho : ops[i]? = some o) (h : Sp ops Q o a w fun a' w' => S w' ∧ wpAnyH Tryd.prog md ops Q S fuel (listed.setIfInBounds i true) a' w') : wpAnyH Tryd.prog md ops Q S (fuel + 1) listed a w := by
  refine wpAnyH_all hr (by simp) fun j hj => ?_
  obtain rfl : j = i := by simpa using hj
  unfold wpOp
  rw [ho]
  show if Region.wanted o (yielded ops a.tmps) = true then _ else _
  rw [if_pos h.want]
  exact Or.inl h.wp
theorem an2 (i i' : Nat) (o o' : Oper) (hr : Region.ready md ops listed = [i, i']) (ho : ops[i]? = some o) (ho' : ops[i']? = some o') (h : Sp ops Q o a w fun a' w' => S w' ∧ wpAnyH Tryd.prog md ops Q S fuel (listed.setIfInBounds i true) a' w') (h' : Sp ops Q o' a w fun a' w' => S w' ∧ wpAnyH Tryd.prog md ops Q S fuel (listed.setIfInBounds i' true) a' w') : wpAnyH Tryd.prog md ops Q S (fuel + 1) listed a w := by
  refine wpAnyH_all hr (by simp) fun q hq => ?_
  have hq' : q = i ∨ q = i' := by simpa using hq
  rcases hq' with rfl | rfl
  · unfold wpOp
    rw [ho]
    show if Region.wanted o (yielded ops a.tmps) = true then _ else _
    rw [if_pos h.want]
    exact Or.inl h.wp
  · unfold wpOp
    rw [ho']
    show if Region.wanted o' (yielded ops a.tmps) = true then _ else _
    rw [if_pos h'.want]
    exact Or.inl h'.wp
theorem Sp.bs (t e : TypeId) (y : Operand) (hop : o.op = .buildSlice t 1 #[(0, y)]) (hg : o.guard = none) (cs : Array Value) (hy : a.eval y = .agg cs) (hu : Tryd.prog.underlying t = some (.slice e)) {z : Value} {n by' : Nat} (hinfo : (Tryd.prog.info? e).map (fun i => (i.zero, i.size, i.bytes)) = some (some z, n, by')) (hn : cs.size = n) (hn0 : 0 < n) (hn1 : n ≤ 1000) (hk : K (a.put o.dst (.slice (some ⟨w.heap.size, 0, none⟩) 1 1)) (w.alloc (.cells cs e))) : Sp ops Q o a w K := by
  obtain ⟨ie, hie, hz, hsz, -⟩ := info_parts hinfo
  refine ⟨by simp [Region.wanted, hg], wp_buildSlice t e 1 _ hop cs ie z hu hie hz (by rw [hsz, Nat.one_mul]; omega) (by rw [hsz, Nat.one_mul]; omega) ?_ hk⟩
  rw [hsz]
  have : (Array.map (fun (x : Nat × Operand) => (x.1, a.eval x.2)) #[(0, y)]).toList = [(0, .agg cs)] := by simp [hy]
  show Instr.fill _ _ (Array.map (fun (x : Nat × Operand) => (x.1, a.eval x.2)) #[(0, y)]).toList = _
  rw [this]
  exact fill_one n _ cs (by simp) hn
theorem Sp.rw (s x : Operand) (tt : TypeId) (hop : o.op = .call { callee := .builtin .append, args := #[s, x], argTypes := #[tt, tt] }) (hg : o.guard = none)
    {S : Nat → Prop} {k t by' n m c : Nat} {v z : Value} {xs us : List Value} {ad : Addr} (hs : a.eval s = v) (hx : a.eval x = .slice (some ad) m c) (hu : Tryd.prog.underlying tt = some (.slice t)) (hinfo : (Tryd.prog.info? t).map (fun i => (i.zero, i.size, i.bytes)) = some (some z, k, by')) (hzs : z.cells.size = k) (hk : 0 < k) (hby : by' ≤ 4096)
    (h : Rw S k t w v n xs) (hul : us.length = m * k) (hnews : ∀ j x, us[j]? = some x → w.cell? (ad.add j) = some x) (h1 : ∀ x ∈ us, x.oneCell' = true) (hl : n + m < 2147483648) (hm : m ≠ 0 ∨ n ≠ 0)
    (hK : ∀ v' w', Apd w v w' → (∀ S xs, Rw S k t w v n xs → Rw (fun b => S b ∨ w.heap.size ≤ b) k t w' v' (n + m) (xs ++ us)) → K (a.put o.dst v') w') : Sp ops Q o a w K := by
  obtain ⟨v', w', hr, hA, -⟩ := run_rw_app (c := c) tt o.type hu hinfo hzs hk hby h hul hnews h1 hl hm
  refine ⟨by simp [Region.wanted, hg], ?_⟩
  unfold Oper.wp
  simp [execOp, hop, resolve, invoke, builtin, hs, hx, hr, Result.andThen]
  refine hK v' w' hA fun S' xs' h' => ?_
  obtain ⟨v2, w2, hr2, -, hR2⟩ := run_rw_app (c := c) tt o.type hu hinfo hzs hk hby h' hul hnews h1 hl hm
  have e := hr.symm.trans hr2
  simp only [Result.ok.injEq] at e
  obtain ⟨rfl, rfl⟩ := e
  exact hR2
/-- A slice of nodes is loaded, stored. -/
theorem Sp.ldN (x : Operand) (hop : o.op = .load 28 x) (hg : o.guard = none) (b j : Nat) (ao : Option Addr) (n c : Nat) (hx : a.eval x = .pointer (some ⟨b, j, none⟩)) (hc : w.cell? ⟨b, j, none⟩ = some (.slice ao n c)) (hk : K (a.put o.dst (.slice ao n c)) w) : Sp ops Q o a w K := by
  refine ⟨by simp [Region.wanted, hg], ?_⟩
  unfold Oper.wp execOp
  simp only [hop, hx]
  go_simp
  exact hk
theorem Sp.stN (x y : Operand) (hop : o.op = .store 28 x y) (hg : o.guard = none) (b j : Nat) (ao : Option Addr) (n c : Nat) (u : Value) (hx : a.eval x = .pointer (some ⟨b, j, none⟩)) (hy : a.eval y = .slice ao n c) (hc : w.cell? ⟨b, j, none⟩ = some u) (hz : w.frozen? ⟨b, j, none⟩ = false) (hk : K (a.put o.dst undef) (w.setCell ⟨b, j, none⟩ (.slice ao n c))) : Sp ops Q o a w K := by
  refine ⟨by simp [Region.wanted, hg], ?_⟩
  unfold Oper.wp execOp
  simp only [hop, hx, hy]
  go_simp
  exact hk
end
theorem infNODE : (Tryd.prog.info? 41).map (fun i => (i.zero, i.size, i.bytes)) = some (some (.agg (ndc (nilS, ⟨0, 0, 0, 0, []⟩))), 5, 56) := by kernel_rfl
theorem infoNODE (x : Nv) : (Tryd.prog.info? 41).map (·.size) = some (ndc x).size := by show _ = some 5; kernel_rfl
theorem flN_one {u : Value} (hu : u.oneCell' = true) (x : Nv) (hx : x.1 = u := by rfl) : ∀ v ∈ flN x, v.oneCell' = true := by
  subst hx
  intro v hv
  simp only [flN, List.mem_cons, List.not_mem_nil, or_false] at hv
  rcases hv with rfl | rfl | rfl | rfl | rfl
  · rfl
  · rfl
  · rfl
  · rfl
  · exact hu
theorem new_any (w : World) : Calls Tryd.prog 10 #[] w fun e w' => ∃ p, e = .returned (ptr p) ∧ Below w.heap.size w w' ∧ St w.heap.size p w' [] := by
  have hmm := @run_makeMap Tryd.prog
  go_enter Tryd.func10, Tryd.ntmps10
  go_wp2
  go_ret
  have hz : ((w.alloc (.map #[] 0)).alloc (.map #[] 0)).heap.size = w.heap.size + 2 := by simp
  have hB : Below w.heap.size w ((w.alloc (.map #[] 0)).alloc (.map #[] 0)) := ((Below.refl _ _).alloc (Nat.le_refl _) _).alloc (by simp) _
  have h0 := Mp.new w 70
  have h1 := Mp.new (w.alloc (.map #[] 0)) 9
  rw [show (w.alloc (.map #[] 0)).heap.size = w.heap.size + 1 by simp] at h1
  have h2 := heap_alloc_new ((w.alloc (.map #[] 0)).alloc (.map #[] 0)) (.cells #[nilS, .map (some w.heap.size), .map (some (w.heap.size + 1))] 59)
  rw [hz] at h2
  have hst : StM w.heap.size (w.heap.size + 1 + 1) (((w.alloc (.map #[] 0)).alloc (.map #[] 0)).alloc (.cells #[nilS, .map (some w.heap.size), .map (some (w.heap.size + 1))] 59)) [] nilS w.heap.size (w.heap.size + 1) 0 0 (fun _ => none) (fun _ => none) [] :=
    ⟨rfl, ⟨by omega, Nat.le_refl _, by omega, by omega⟩, h2, Rw.nil _ _ _ _, (h0.carry (heap_alloc_old _ _ (by simp))).carry (heap_alloc_old _ _ (by rw [hz]; omega)), h1.carry (heap_alloc_old _ _ (by simp)), Nat.le_refl _, Nat.le_refl _, (fun x hx => by cases hx), (fun x hx => by cases hx), (fun k v => ⟨(fun h => by cases h), (fun ⟨i, hi, _⟩ => by simp at hi)⟩), (fun k v => ⟨(fun h => by cases h), (fun ⟨i, hi, _⟩ => by simp at hi)⟩), by simp⟩
  exact ⟨_, rfl, hB.alloc (by rw [hz]; omega) _, _, _, _, _, _, _, _, _, hst⟩
theorem len_any {B p : Nat} {w : World} {all : List Nd} (h : St B p w all) : Calls Tryd.prog 18 #[ptr p] w fun e w' => e = .returned (.int .i64 ((all.length : Nat) : Int)) ∧ w' = w := by
  obtain ⟨va, bt, bl, nt, nl, Gt, Gl, d, h⟩ := h
  obtain ⟨c0, -, -⟩ := h.cells
  obtain ⟨ao, cap, rfl⟩ := h.rw.form
  have hdl := h.dl
  rw [← hdl]
  clear h hdl
  go_enter Tryd.func18, Tryd.ntmps18
  go_wp2
  go_ret
  exact ⟨rfl, rfl⟩
def inL (all : List Nd) (i : Int) : Bool := decide (0 ≤ i) && decide (i < ((all.length : Nat) : Int))
theorem has_any {B p : Nat} {w : World} {all : List Nd} (h : St B p w all) (i : Int) : Calls Tryd.prog 28 #[ptr p, .int .i64 i] w fun e w' => e = .returned (.bool (inL all i)) ∧ w' = w := by
  have HC := hid (len_any h)
  clear h
  unfold inL
  generalize all.length = n at HC ⊢
  by_cases h0 : 0 ≤ i
  · have d1 : decide ((0 : Int) ≤ i) = true := decide_eq_true h0
    clear h0
    go_enter Tryd.func28, Tryd.ntmps28
    go_wp2_with (go_at_call 18; refine (HC.out).mono ?_; rintro e w' ⟨rfl, rfl⟩)
    go_ret
    exact ⟨by rw [d1]; rfl, rfl⟩
  · have d1 : decide ((0 : Int) ≤ i) = false := decide_eq_false h0
    clear h0
    go_enter Tryd.func28, Tryd.ntmps28
    go_wp2
    go_ret
    exact ⟨by rw [d1]; rfl, rfl⟩
theorem full_any {B p : Nat} {w : World} {all : List Nd} (h : St B p w all) : Calls Tryd.prog 23 #[ptr p] w fun e w' => e = .returned (.bool (decide (65536 ≤ all.length))) ∧ w' = w := by
  obtain ⟨va, bt, bl, nt, nl, Gt, Gl, d, h⟩ := h
  obtain ⟨c0, -, -⟩ := h.cells
  obtain ⟨ao, cap, rfl⟩ := h.rw.form
  have hdl := h.dl
  rw [← hdl]
  clear h hdl
  have hq : decide ((65536 : Int) ≤ ((d.length : Nat) : Int)) = decide (65536 ≤ d.length) := by
    by_cases hh : 65536 ≤ d.length
    · rw [decide_eq_true hh, decide_eq_true (by omega)]
    · rw [decide_eq_false hh, decide_eq_false (by omega)]
  rw [← hq]
  clear hq
  go_enter Tryd.func23, Tryd.ntmps23
  go_wp2
  go_ret
  exact ⟨rfl, rfl⟩
/-- A store after a node more stands in its list, the maps not yet. -/
structure AddP (B p : Nat) (w : World) (va : Value) (bt bl : Nat) (d : List Nv) (x : Nv) (va' : Value) (w' : World) : Prop where
  hp : w'.heap[p]? = some (.cells #[va', .map (some bt), .map (some bl)] 59 (0, 0))
  rw : Rw (fun b => B ≤ b) 5 41 w' va' (d.length + 1) (fl flN (d ++ [x]))
  own : ∀ k, va'.ownBlock = some k → va.ownBlock = some k ∨ w.heap.size ≤ k
  only : Only (fun b => b = p ∨ va.ownBlock = some b ∨ w.heap.size ≤ b) w w'
theorem addQ_of {B p : Nat} {w W1 w4 : World} {all : List Nd} {va : Value} {bt bl nt nl : Nat} {Gt Gl : Lit → Option Value} {d : List Nv} {u : Value} {x : Nd} {va' : Value} {W3 : World} (h : StM B p w all va bt bl nt nl Gt Gl d) (hz : W1 = w.alloc (.cells (ndc (u, x)) 41)) (hW3 : W3 = W1.drew.alloc (.cells (ndc (u, x)) 41)) (_hR3 : Rw (fun b => B ≤ b) 5 41 W3 va d.length (fl flN d)) (hA : Apd W3 va w4)
    (h2 : Rw (fun b => (B ≤ b ∧ va.ownBlock = some b) ∨ W3.heap.size ≤ b) 5 41 w4 va' (d.length + 1) (fl flN d ++ flN (u, x))) :
    w4.rangeAt w.heap.size 0 (ndc (u, x)).toList ∧ w4.cell? ⟨p, 0, none⟩ = some va ∧ w4.frozen? ⟨p, 0, none⟩ = false ∧ (w4.setCell ⟨p, 0, none⟩ va').rangeAt w.heap.size 0 (ndc (u, x)).toList ∧ (w4.setCell ⟨p, 0, none⟩ va').cell? ⟨p, 0, none⟩ = some va' ∧ AddP B p w va bt bl d (u, x) va' (w4.setCell ⟨p, 0, none⟩ va') := by
  have hlp := (Array.getElem?_eq_some_iff.1 h.hp).1
  have hpv : va.ownBlock ≠ some p := fun e => by
    rcases h.rw.ge with ⟨e1, _⟩ | ⟨g, o, cap, cur, e1, -, h3, -⟩
    · rw [e1] at e; simp [Value.ownBlock] at e
    · rw [e1] at e
      simp [Value.ownBlock] at e
      subst e
      rw [h.hp] at h3
      simp at h3
  have hvl : ∀ k, va.ownBlock = some k → k < w.heap.size := fun k hk => h.rw.ownLt k hk
  have hzW1 : W1.heap.size = w.heap.size + 1 := by rw [hz]; simp
  have hzW3 : W3.heap.size = w.heap.size + 2 := by rw [hW3]; simp [hzW1]
  have hold : ∀ k, k < w.heap.size → W3.heap[k]? = w.heap[k]? := fun k hk => by
    rw [hW3, heap_alloc_old _ _ (by simp [hzW1]; omega)]
    show W1.heap[k]? = _
    rw [hz, heap_alloc_old _ _ hk]
  have hbox : w4.heap[w.heap.size]? = some (.cells (ndc (u, x)) 41 (0, 0)) := by
    rw [hA.block _ (by omega) (fun e => by have := hvl _ e; omega), hW3, heap_alloc_old _ _ (by simp [hzW1])]
    show W1.heap[w.heap.size]? = _
    rw [hz, heap_alloc_new]
  have hrg : ∀ W : World, W.heap[w.heap.size]? = some (.cells (ndc (u, x)) 41 (0, 0)) → W.rangeAt w.heap.size 0 (ndc (u, x)).toList := fun W hW => range_of fun i hi => by rw [Nat.zero_add, cell_of_row _ _ _ _ _ _ hW]
  have hp4 : w4.heap[p]? = some (.cells #[va, .map (some bt), .map (some bl)] 59 (0, 0)) := by
    rw [hA.block _ (by omega) hpv, hold _ hlp]; exact h.hp
  have hp5 := heap_setCell_same w4 p 0 _ _ va' hp4
  have e5 : (#[va, Value.map (some bt), .map (some bl)] : Array Value).setIfInBounds 0 va' = #[va', .map (some bt), .map (some bl)] := rfl
  rw [e5] at hp5
  have hne : w.heap.size ≠ p := by omega
  refine ⟨hrg _ hbox, (cell_of_row _ _ _ _ _ _ hp4).trans rfl, by simp [World.frozen?, hp4], hrg _ (by rw [heap_setCell_other _ ⟨p, 0, none⟩ _ _ hne]; exact hbox), (cell_of_row _ _ _ _ _ _ hp5).trans rfl, hp5, ?_, fun k hk => ?_, ?_⟩
  · have e : fl flN (d ++ [(u, x)]) = fl flN d ++ flN (u, x) := by simp [fl]
    rw [e]
    have hB := h.hB.1
    refine h2.carry fun b hb hS => ⟨by omega, heap_setCell_other _ ⟨p, 0, none⟩ _ _ fun e => ?_⟩
    have e : b = p := e
    subst e
    rcases hS with ⟨_, h3⟩ | h3
    · exact hpv h3
    · omega
  · rcases h2.own k hk with ⟨_, h3⟩ | h3
    · exact Or.inl h3
    · exact Or.inr (by omega)
  · refine (⟨hA.os.trans ?_, hA.tape.trans ?_, hA.output.trans ?_, ?_, fun k hk => ?_⟩ : Only _ w w4).setCell (p := ⟨p, 0, none⟩) (Or.inl rfl) va'
    · rw [hW3, hz]; rfl
    · rw [hW3, hz]; rfl
    · rw [hW3, hz]; rfl
    · have := hA.size; omega
    · rcases Nat.lt_or_ge k w.heap.size with h3 | h3
      · rw [hA.block k (by omega) (fun e => hk (Or.inr (Or.inl e))), hold k h3]
      · exact absurd (Or.inr (Or.inr h3)) hk
set_option maxHeartbeats 6400000 in
theorem add_any {B p : Nat} {w : World} {all : List Nd} {va : Value} {bt bl nt nl : Nat} {Gt Gl : Lit → Option Value} {d : List Nv} (u : Value) (x : Nd) (h : StM B p w all va bt bl nt nl Gt Gl d) (hu0 : u.oneCell' = true) (hl : all.length < 65536) :
    Calls Tryd.prog 24 #[ptr p, .agg (ndc (u, x))] w fun e w' => e = .returned (.int .i64 ((all.length : Nat) : Int)) ∧ ∃ va', AddP B p w va bt bl d (u, x) va' w' := by
  have HLn : Hid (d.length < 65536) := by show _ < _; rw [h.dl]; exact hl
  rw [← h.dl]
  obtain ⟨W1, hW1⟩ : ∃ W1, W1 = w.alloc (.cells (ndc (u, x)) 41) := ⟨_, rfl⟩
  have hz := hid hW1
  have HW : Hid (w.alloc (.cells (ndc (u, x)) 41) = W1) := hW1.symm
  have HS := hid h
  have hu := hid hu0
  obtain ⟨ao, cap, rfl⟩ := h.rw.form
  have hB1 : Below w.heap.size w W1.drew := by
    have hB0 : Below w.heap.size w (w.alloc (.cells (ndc (u, x)) 41)) := (Below.refl _ _).alloc (Nat.le_refl _) _
    rw [hW1]; exact ⟨hB0.os, hB0.tape, hB0.output, hB0.size, hB0.block⟩
  have c0 : W1.drew.cell? ⟨p, 0, none⟩ = some (.slice ao d.length cap) := cell_on hB1 h.cells.1
  have C0 := hid c0
  have hbx : W1.drew.rangeAt w.heap.size 0 (ndc (u, x)).toList := range_of fun i hi => by
    have : W1.drew.heap[w.heap.size]? = some (.cells (ndc (u, x)) 41 (0, 0)) := by rw [hW1]; exact heap_alloc_new _ _
    rw [Nat.zero_add, cell_of_row _ _ _ _ _ _ this]
  have HBX := hid hbx
  have hB3 : Below W1.drew.heap.size W1.drew (W1.drew.alloc (.cells (ndc (u, x)) 41)) := (Below.refl _ _).alloc (Nat.le_refl _) _
  have hHeld3 : (W1.drew.alloc (.cells (ndc (u, x)) 41)).rangeAt w.heap.size 0 (ndc (u, x)).toList := fun k v hk => (cell_same (hB3.block _ (by rw [hW1]; simp))).trans (hbx k v hk)
  have c3 : (W1.drew.alloc (.cells (ndc (u, x)) 41)).cell? ⟨p, 0, none⟩ = some (.slice ao d.length cap) := cell_on hB3 c0
  have C3 := hid c3
  have hR1 : Rw (fun b => B ≤ b) 5 41 (W1.drew.alloc (.cells (ndc (u, x)) 41)) (.slice ao d.length cap) d.length (fl flN d) := (h.rw.carry fun b hb hS => ⟨hS, hB1.block b hb⟩).carry fun b hb hS => ⟨hS, hB3.block b hb⟩
  have HR3 := hid hR1
  have HN3 : Hid (∀ (j : Nat) (v : Value), (flN (u, x))[j]? = some v → (W1.drew.alloc (.cells (ndc (u, x)) 41)).cell? (Addr.add ⟨W1.drew.heap.size, 0, none⟩ j) = some v) := fun j v hv => by
    rw [Addr.add_lit, Nat.zero_add, cell_of_row _ _ _ _ _ _ (heap_alloc_new _ _), ← hv]; simp
  have HX : Hid (W1.drew.alloc (.cells (ndc (u, x)) 41) = W1.drew.alloc (.cells (ndc (u, x)) 41) ∧ Rw (fun b => B ≤ b) 5 41 (W1.drew.alloc (.cells (ndc (u, x)) 41)) (.slice ao d.length cap) d.length (fl flN d)) := ⟨rfl, hR1⟩
  clear hW1 h c0 hbx hB1 hB3 c3 hR1 hu0
  go_enter Tryd.func24, Tryd.ntmps24
  go_upto_region 1 with fail
  rw [show w.alloc (.cells (ndc (u, x)) 41) = W1 from HW.out]
  clear HW
  refine wp_region_held_drew (S := (fun w' => w'.rangeAt w.heap.size 0 (ndc (u, x)).toList)) (by kernel_rfl) HBX.out (fun hHeld => ?_)
  refine wpAnyH_take (i := 0) (v := ?_) rfl (by kernel_rfl) (by kernel_rfl) (by kernel_rfl) (fun _ _ _ h => h) (Or.inl ⟨by rfl, ?_⟩) hHeld ?_
  rotate_left
  · intro w' hSw
    clear hSw
    go_simp
    first | done | with_reducible rfl
  simp only [Act.put, List.getElem_toArray, List.getElem_cons_zero, List.setIfInBounds_toArray, List.set_cons_zero, List.set_cons_succ]
  refine wpAnyH_take (i := 1) (v := ?_) rfl (by kernel_rfl) (by kernel_rfl) (by kernel_rfl) (fun _ _ _ h => h) (Or.inl ⟨by rfl, ?_⟩) hHeld ?_
  rotate_left
  · intro w' hSw
    clear hSw
    go_simp
    first | done | with_reducible rfl
  simp only [Act.put, List.getElem_toArray, List.getElem_cons_succ, List.getElem_cons_zero, List.setIfInBounds_toArray, List.set_cons_zero, List.set_cons_succ]
  refine wpAnyH_take (i := 2) (v := ?_) rfl (by kernel_rfl) (by kernel_rfl) (by kernel_rfl) (fun _ _ _ h => h) (Or.inl ⟨by rfl, ?_⟩) hHeld ?_
  rotate_left
  · intro w' hSw
    clear hSw
    go_simp
    first | done | with_reducible rfl
  simp only [Act.put, List.getElem_toArray, List.getElem_cons_succ, List.getElem_cons_zero, List.setIfInBounds_toArray, List.set_cons_zero, List.set_cons_succ]
  refine wpAnyH_take (i := 3) (v := ?_) rfl (by kernel_rfl) (by kernel_rfl) (by kernel_rfl) (fun _ _ _ h => h) (Or.inl ⟨by rfl, ?_⟩) hHeld ?_
  rotate_left
  · intro w' hSw
    clear hSw
    go_simp
    first | done | with_reducible rfl
  simp only [Act.put, List.getElem_toArray, List.getElem_cons_succ, List.getElem_cons_zero, List.setIfInBounds_toArray, List.set_cons_zero, List.set_cons_succ]
  refine wpAnyH_take (i := 5) (v := .agg (ndc (u, x))) rfl (by kernel_rfl) (by kernel_rfl) (by kernel_rfl) (fun _ _ _ h => h) (Or.inl ⟨by rfl, ?_⟩) hHeld ?_
  · intro w' hSw
    exact runLd 41 (.tmp 3) rfl w.heap.size 0 rfl (ndc (u, x)) _ hSw Tryd.underlying41 rfl (infoNODE _)
  simp only [Act.put, List.getElem_toArray, List.getElem_cons_succ, List.getElem_cons_zero, List.setIfInBounds_toArray, List.set_cons_zero, List.set_cons_succ]
  refine an2 4 6 _ _ (by kernel_rfl) rfl rfl ?_ ?_
  · skip
    refine Sp.ldN (.tmp 8) rfl rfl p 0 ao d.length cap rfl C0.out ?_
    refine ⟨HBX.out, ?_⟩
    simp only [Act.put, List.getElem_toArray, List.getElem_cons_succ, List.getElem_cons_zero, List.setIfInBounds_toArray, List.set_cons_zero, List.set_cons_succ]
    refine an1 6 _ (by kernel_rfl) rfl ?_
    refine Sp.bs 28 41 (.tmp 10) rfl rfl (ndc (u, x)) rfl Tryd.underlying28 infNODE rfl (by omega) (by omega) ?_
    have HS3 := hid (hHeld3)
    refine ⟨hHeld3, ?_⟩
    simp only [Act.put, List.getElem_toArray, List.getElem_cons_succ, List.getElem_cons_zero, List.setIfInBounds_toArray, List.set_cons_zero, List.set_cons_succ]
    refine an1 7 _ (by kernel_rfl) rfl ?_
    refine Sp.rw (.tmp 9) (.tmp 11) 28 rfl rfl (S := fun b => B ≤ b) (k := 5) (t := 41) (n := d.length) (m := 1) (c := 1) (xs := fl flN d) (us := flN (u, x)) (ad := ⟨W1.drew.heap.size, 0, none⟩) rfl rfl Tryd.underlying28 infNODE rfl (by omega) (by omega) HR3.out (by rfl) HN3.out (flN_one hu.out (u, x)) (by have := HLn.out; omega) (Or.inl (by omega)) ?_
    intro va' w4 hA hW
    have HQ := hid (addQ_of HS.out hz.out HX.out.1 HX.out.2 hA (hW _ _ HR3.out.self))
    obtain ⟨s4, c4, rfl⟩ : ∃ s4 c4, va' = .slice s4 (d.length + 1) c4 := (hW _ _ HR3.out).form
    clear hA hW
    refine ⟨HQ.out.1, ?_⟩
    simp only [Act.put, List.getElem_toArray, List.getElem_cons_succ, List.getElem_cons_zero, List.setIfInBounds_toArray, List.set_cons_zero, List.set_cons_succ]
    have hHeld := HQ.out.1
    refine wpAnyH_take (i := 8) (v := ?_) rfl (by kernel_rfl) (by kernel_rfl) (by kernel_rfl) (fun _ _ _ h => h) (Or.inl ⟨by rfl, ?_⟩) hHeld ?_
    rotate_left
    · intro w' hSw
      clear hSw
      go_simp
      first | done | with_reducible rfl
    simp only [Act.put, List.getElem_toArray, List.getElem_cons_succ, List.getElem_cons_zero, List.setIfInBounds_toArray, List.set_cons_zero, List.set_cons_succ]
    refine wpAnyH_take (i := 9) (v := ?_) rfl (by kernel_rfl) (by kernel_rfl) (by kernel_rfl) (fun _ _ _ h => h) (Or.inl ⟨by rfl, ?_⟩) hHeld ?_
    rotate_left
    · intro w' hSw
      clear hSw
      go_simp
      first | done | with_reducible rfl
    simp only [Act.put, List.getElem_toArray, List.getElem_cons_succ, List.getElem_cons_zero, List.setIfInBounds_toArray, List.set_cons_zero, List.set_cons_succ]
    refine an1 10 _ (by kernel_rfl) rfl ?_
    refine Sp.stN (.tmp 14) (.tmp 12) rfl rfl p 0 s4 (d.length + 1) c4 _ rfl rfl HQ.out.2.1 HQ.out.2.2.1 ?_
    refine ⟨HQ.out.2.2.2.1, ?_⟩
    simp only [Act.put, List.getElem_toArray, List.getElem_cons_succ, List.getElem_cons_zero]
    refine wpAnyH_done (by kernel_rfl) ?_ _
    have hc0 := HQ.out.2.2.2.2.1
    clear HS HX HR3 HN3 HS3 hHeld hHeld3
    have HF := hid HQ.out.2.2.2.2.2
    clear HQ
    generalize w4.setCell ⟨p, 0, none⟩ (.slice s4 (d.length + 1) c4) = w5 at hc0 HF ⊢
    have hw1 : IntKind.i64.wrap ((d.length : Nat) : Int) = ((d.length : Nat) : Int) := by have := HLn.out; rw [IntKind.wrap_i64]; omega
    have hwl : wrap64 ((d.length : Nat) : Int) = ((d.length : Nat) : Int) := by unfold wrap64; have := HLn.out; omega
    have hw2 : (((d.length + 1 : Nat) : Int)) = ((d.length : Nat) : Int) + 1 := by omega
    go_wp2
    go_ret
    exact ⟨by rfl, _, HF.out⟩
  · skip
    refine Sp.bs 28 41 (.tmp 10) rfl rfl (ndc (u, x)) rfl Tryd.underlying28 infNODE rfl (by omega) (by omega) ?_
    refine ⟨hHeld3, ?_⟩
    simp only [Act.put, List.getElem_toArray, List.getElem_cons_succ, List.getElem_cons_zero, List.setIfInBounds_toArray, List.set_cons_zero, List.set_cons_succ]
    refine an1 4 _ (by kernel_rfl) rfl ?_
    refine Sp.ldN (.tmp 8) rfl rfl p 0 ao d.length cap rfl C3.out ?_
    have HS3 := hid (hHeld3)
    refine ⟨hHeld3, ?_⟩
    simp only [Act.put, List.getElem_toArray, List.getElem_cons_succ, List.getElem_cons_zero, List.setIfInBounds_toArray, List.set_cons_zero, List.set_cons_succ]
    refine an1 7 _ (by kernel_rfl) rfl ?_
    refine Sp.rw (.tmp 9) (.tmp 11) 28 rfl rfl (S := fun b => B ≤ b) (k := 5) (t := 41) (n := d.length) (m := 1) (c := 1) (xs := fl flN d) (us := flN (u, x)) (ad := ⟨W1.drew.heap.size, 0, none⟩) rfl rfl Tryd.underlying28 infNODE rfl (by omega) (by omega) HR3.out (by rfl) HN3.out (flN_one hu.out (u, x)) (by have := HLn.out; omega) (Or.inl (by omega)) ?_
    intro va' w4 hA hW
    have HQ := hid (addQ_of HS.out hz.out HX.out.1 HX.out.2 hA (hW _ _ HR3.out.self))
    obtain ⟨s4, c4, rfl⟩ : ∃ s4 c4, va' = .slice s4 (d.length + 1) c4 := (hW _ _ HR3.out).form
    clear hA hW
    refine ⟨HQ.out.1, ?_⟩
    simp only [Act.put, List.getElem_toArray, List.getElem_cons_succ, List.getElem_cons_zero, List.setIfInBounds_toArray, List.set_cons_zero, List.set_cons_succ]
    have hHeld := HQ.out.1
    refine wpAnyH_take (i := 8) (v := ?_) rfl (by kernel_rfl) (by kernel_rfl) (by kernel_rfl) (fun _ _ _ h => h) (Or.inl ⟨by rfl, ?_⟩) hHeld ?_
    rotate_left
    · intro w' hSw
      clear hSw
      go_simp
      first | done | with_reducible rfl
    simp only [Act.put, List.getElem_toArray, List.getElem_cons_succ, List.getElem_cons_zero, List.setIfInBounds_toArray, List.set_cons_zero, List.set_cons_succ]
    refine wpAnyH_take (i := 9) (v := ?_) rfl (by kernel_rfl) (by kernel_rfl) (by kernel_rfl) (fun _ _ _ h => h) (Or.inl ⟨by rfl, ?_⟩) hHeld ?_
    rotate_left
    · intro w' hSw
      clear hSw
      go_simp
      first | done | with_reducible rfl
    simp only [Act.put, List.getElem_toArray, List.getElem_cons_succ, List.getElem_cons_zero, List.setIfInBounds_toArray, List.set_cons_zero, List.set_cons_succ]
    refine an1 10 _ (by kernel_rfl) rfl ?_
    refine Sp.stN (.tmp 14) (.tmp 12) rfl rfl p 0 s4 (d.length + 1) c4 _ rfl rfl HQ.out.2.1 HQ.out.2.2.1 ?_
    refine ⟨HQ.out.2.2.2.1, ?_⟩
    simp only [Act.put, List.getElem_toArray, List.getElem_cons_succ, List.getElem_cons_zero]
    refine wpAnyH_done (by kernel_rfl) ?_ _
    have hc0 := HQ.out.2.2.2.2.1
    clear HS HX HR3 HN3 HS3 hHeld hHeld3
    have HF := hid HQ.out.2.2.2.2.2
    clear HQ
    generalize w4.setCell ⟨p, 0, none⟩ (.slice s4 (d.length + 1) c4) = w5 at hc0 HF ⊢
    have hw1 : IntKind.i64.wrap ((d.length : Nat) : Int) = ((d.length : Nat) : Int) := by have := HLn.out; rw [IntKind.wrap_i64]; omega
    have hwl : wrap64 ((d.length : Nat) : Int) = ((d.length : Nat) : Int) := by unfold wrap64; have := HLn.out; omega
    have hw2 : (((d.length + 1 : Nat) : Int)) = ((d.length : Nat) : Int) + 1 := by omega
    go_wp2
    go_ret
    exact ⟨by rfl, _, HF.out⟩
end Go.Proofs.YtggbokghhohofaaDoor
