/-
  Proved here: the steps of the hand of the document's cache. Conditions: fewer than 2 to 31 places; the hand is at one of them.
-/
import Derived.Test.YtpmdgockiblkaaaRP
namespace Go.Proofs.Ytpmdgockiblkaaa
open Go.RowKit

theorem ready_one {P : Program} {md : Region.Mode} {ops : Array Oper} {Q : Exit → Act → World → Prop} {S : World → Prop} {fuel : Nat} {listed : Array Bool} {a : Act} {w : World} (i : Nat) (o : Oper) (hr : Region.ready md ops listed = [i]) (ho : ops[i]? = some o)
    (h : if Region.wanted o (yielded ops a.tmps) = true then Oper.wp P o a w (fun a' w' => S w' ∧ wpAnyH P md ops Q S fuel (listed.setIfInBounds i true) a' w') Q else S w ∧ wpAnyH P md ops Q S fuel (listed.setIfInBounds i true) (a.put o.dst undef) w) : wpAnyH P md ops Q S (fuel + 1) listed a w := by
  refine wpAnyH_all hr (by simp) fun j hj => ?_
  obtain rfl : j = i := by simpa using hj
  unfold wpOp
  rw [ho]
  show if Region.wanted o (yielded ops a.tmps) = true then _ else _
  split
  · rename_i hw
    rw [if_pos hw] at h
    exact Or.inl h
  · rename_i hw
    rw [if_neg hw] at h
    exact h
section
variable {md : Region.Mode} {ops : Array Oper} {Q : Exit → Act → World → Prop} {S : World → Prop} {fuel : Nat} {listed : Array Bool} {a : Act} {w : World}
/-- The one operation that is ready stores a whole value into the block that was made last. -/
theorem ready_stN (i : Nat) (o : Oper) (hr : Region.ready md ops listed = [i]) (ho : ops[i]? = some o) (ty : TypeId) (x y : Operand) (hop : o.op = .store ty x y) (hgd : o.guard = none) (w0 : World) (t : TypeId) (zs cs : Array Value) (hW : w = w0.alloc (.cells zs t)) (hx : a.eval x = .pointer (some ⟨w0.heap.size, 0, none⟩)) (hy : a.eval y = .agg cs) (hi : (Try.prog.info? ty).map (·.size) = some cs.size) (hz : zs.size = cs.size) (h1 : cs.all (·.oneCell') = true)
    (hk : S (w0.alloc (.cells cs t)) ∧ wpAnyH Try.prog md ops Q S fuel (listed.setIfInBounds i true) (a.put o.dst undef) (w0.alloc (.cells cs t))) : wpAnyH Try.prog md ops Q S (fuel + 1) listed a w :=
  ready_one i o hr ho (stepStN ty x y hop hgd w0 t zs cs hW hx hy hi hz h1 hk)
/-- The one operation that is ready stores a whole value into the middle of a block. -/
theorem ready_stM (i : Nat) (o : Oper) (hr : Region.ready md ops listed = [i]) (ho : ops[i]? = some o) (ty : TypeId) (x y : Operand) (hop : o.op = .store ty x y) (hgd : o.guard = none) (g p : Nat) (cs : Array Value) (hx : a.eval x = .pointer (some ⟨g, p, none⟩)) (hy : a.eval y = .agg cs) (ht : w.there g p cs.size) (hi : (Try.prog.info? ty).map (·.size) = some cs.size) (h1 : cs.all (·.oneCell') = true)
    (hk : S (w.setCells g p cs.toList) ∧ wpAnyH Try.prog md ops Q S fuel (listed.setIfInBounds i true) (a.put o.dst undef) (w.setCells g p cs.toList)) : wpAnyH Try.prog md ops Q S (fuel + 1) listed a w :=
  ready_one i o hr ho (stepStM ty x y hop hgd g p cs hx hy ht hi h1 hk)
end
theorem drew_heap (w : World) (b : Nat) : w.drew.heap[b]? = w.heap[b]? := rfl
theorem RcM.drew {S : Nat → Prop} {w : World} {g : Nat} {c : Cs} {bl : Nat} {cur : Array Value} (h : RcM S w g c bl cur) : RcM S w.drew g c bl cur := h.carry fun b _ hS => ⟨hS, drew_heap w b⟩
theorem Hp.drew {g bl L : Nat} {now : Int} {k i : Nat} {m : Bool} {gn : Int} {eb : Nat} {o : Option Et} {w : World} (h : Hp g bl L now k i m gn eb o w) : Hp g bl L now k i m gn eb o w.drew := ⟨h.c0, h.c1, h.c2, h.cg, h.cm, range_on (w' := w.drew) h.re rfl⟩
/-- The document's hand on its way. -/
structure Rr (S : Nat → Prop) (w : World) (g bl : Nat) (c c1 : Cs) (wr : World) : Prop where
  only : Only S w wr
  ca : ∃ cur, RcM S wr g c1 bl cur
  now : c1.now = c.now
  len : c1.es.length = c.es.length
  hand : c1.hand < c.es.length
  full : ∀ i, i < c.es.length → ∃ e, c1.es[i]? = some (some e)
  eq : rn c.now c1.es c1.hand = rn c.now c.es c.hand
theorem Rr.go {S : Nat → Prop} {w : World} {g bl : Nat} {c c1 : Cs} {wr : World} (h : Rr S w g bl c c1 wr) (hs : fr c.now c1.es c1.hand = true) (k : Nat) (hk : k = c1.hand) (L : Nat) (hL : L = c.es.length) :
    Rr S w g bl c { c1 with es := unm c1.es c1.hand, hand := (c1.hand + 1) % c.es.length } ((wr.drew.drew.setCell ⟨bl, k * 15 + 14, none⟩ (.bool false)).drew.setCell ⟨g, 2, none⟩ (.int .i64 (((k + 1) % L : Nat) : Int))) := by
  obtain ⟨e, he, hm, hg⟩ := fr_some hs
  obtain ⟨cur, hM⟩ := h.ca
  subst hk hL
  have hMd : RcM S wr.drew.drew g c1 bl cur := hM.carry fun b _ hS => ⟨hS, rfl⟩
  have h1 := hMd.setAt he (some { e with mark := false }) 14 (by omega) (.bool false) (by rw [show 14 = 12 + 2 from rfl, rco_t]; rfl) fun j hj hne => rco_same _ _ j hj (fun _ => rfl) rfl (fun _ => rfl) (fun _ => rfl) (fun h => absurd h hne)
  have h1d := h1.drew
  have h2 := h1d.setOwn { c1 with es := unm c1.es c1.hand, hand := (c1.hand + 1) % c.es.length } (by show unm c1.es c1.hand = _; rw [unm_at he]) 2 (.int .i64 (((c1.hand + 1) % c.es.length : Nat) : Int)) (by unfold rcc; simp [unm_len])
  have hpos : 0 < c.es.length := by have := h.hand; omega
  refine ⟨(((h.only.drew.drew).setCell (p := ⟨bl, c1.hand * 15 + 14, none⟩) hM.sl _).drew).setCell (p := ⟨g, 2, none⟩) hM.sg _, ⟨_, h2⟩, h.now, by show (unm c1.es c1.hand).length = _; rw [unm_len]; exact h.len, Nat.mod_lt _ hpos, fun i hi => ?_, ?_⟩
  · show ∃ e, (unm c1.es c1.hand)[i]? = some (some e)
    rw [unm_at he, List.getElem?_set]
    split
    · first | exact ⟨_, rfl⟩ | (rw [if_pos (by rw [h.len]; exact h.hand)]; exact ⟨_, rfl⟩)
    · exact h.full i hi
  · show rn c.now (unm c1.es c1.hand) ((c1.hand + 1) % c.es.length) = _
    rw [← h.eq, rn_go hs, h.len]
theorem Rr.fin {S : Nat → Prop} {w : World} {g bl : Nat} {c c1 : Cs} {wr : World} (h : Rr S w g bl c c1 wr) (hs : fr c.now c1.es c1.hand = false) (x : Et) (k : Nat) (hk : k = c1.hand) (L : Nat) (hL : L = c.es.length) :
    Only S w ((wr.drew.drew.setCells bl (k * 15) (rco (some x)).toList).drew.setCell ⟨g, 2, none⟩ (.int .i64 (((k + 1) % L : Nat) : Int))) ∧ Rc S ((wr.drew.drew.setCells bl (k * 15) (rco (some x)).toList).drew.setCell ⟨g, 2, none⟩ (.int .i64 (((k + 1) % L : Nat) : Int))) (pv g) { c with es := (rn c.now c.es c.hand).1.set (rn c.now c.es c.hand).2 (some x), hand := ((rn c.now c.es c.hand).2 + 1) % c.es.length } := by
  obtain ⟨cur, hM⟩ := h.ca
  subst hk hL
  have he := h.eq
  rw [rn_stop hs] at he
  have hMd : RcM S wr.drew.drew g c1 bl cur := hM.carry fun b _ hS => ⟨hS, rfl⟩
  obtain ⟨cur', a1, a2⟩ := hMd.setAll (i := c1.hand) (by rw [h.len]; exact h.hand) (some x)
  have a1d := a1.drew
  have h2 := a1d.setOwn { c with es := (rn c.now c.es c.hand).1.set (rn c.now c.es c.hand).2 (some x), hand := ((rn c.now c.es c.hand).2 + 1) % c.es.length } (by show (rn c.now c.es c.hand).1.set _ _ = _; rw [← he]) 2 (.int .i64 (((c1.hand + 1) % c.es.length : Nat) : Int)) (by unfold rcc; rw [← he, h.now]; simp)
  exact ⟨((h.only.drew.drew.trans a2).drew).setCell (p := ⟨g, 2, none⟩) hM.sg _, g, bl, cur', rfl, h2⟩
end Go.Proofs.Ytpmdgockiblkaaa
