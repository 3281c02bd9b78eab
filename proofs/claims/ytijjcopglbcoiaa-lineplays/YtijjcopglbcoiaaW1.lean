/-
  What it is that seven functions serve ends; the document's do. Blocks are coloured: what one end's call leaves as it was. No condition.
-/
import Derived.Test.YtijjcopglbcoiaaEX
namespace Go.Proofs.Ytijjcopglbcoiaa
open Go.RowKit Seal

/-- Seven functions that serve ends: New, Reset, Send, Tick, Take, Came, Left. -/
structure Api (fNew fReset fSend fTick fTake fCame fLeft : FuncId) where
  PE : (Nat → Prop) → World → Value → E → Prop
  carry : ∀ {S T : Nat → Prop} {w w' : World} {v : Value} {e : E}, PE S w v e → (∀ k, k < w.heap.size → S k → T k ∧ w'.heap[k]? = w.heap[k]?) → PE T w' v e
  new : ∀ (p : Nat) (w : World), p < 4294967296 → Calls Try.prog fNew #[.int .u32 (p : Nat)] w fun r w' => ∃ v, r = .returned v ∧ Below w.heap.size w w' ∧ PE (fun k => w.heap.size ≤ k) w' v (E.mk0 p)
  reset : ∀ (S : Nat → Prop) (v : Value) (e : E) (p : Nat) (w : World), PE S w v e → Fresh S w → p < 4294967296 → Calls Try.prog fReset #[v, .int .u32 (p : Nat)] w fun r w' => r = .returned (.tuple #[]) ∧ Only S w w' ∧ PE S w' v (E.mk0 p)
  send : ∀ (S : Nat → Prop) (v : Value) (e : E) (u : Value) (bs : List Int) (w : World), PE S w v e → Fresh S w → Fit e → SlC (fun k => ¬ S k) w u bs → Calls Try.prog fSend #[v, u] w fun r w' => r = .returned (.int .i64 (sdE e bs)) ∧ Only S w w' ∧ PE S w' v (sdS e bs)
  tick : ∀ (S : Nat → Prop) (v : Value) (e : E) (w : World), PE S w v e → Fresh S w → Fit e → Calls Try.prog fTick #[v] w fun r w' => ∃ u R, r = .returned u ∧ Only S w w' ∧ (∀ k, R k → S k) ∧ PE (fun k => S k ∧ ¬ R k) w' v e ∧ Ls R w' u [tkL e]
  take : ∀ (S : Nat → Prop) (v : Value) (e : E) (u : Value) (bs : List Int) (w : World), PE S w v e → Fresh S w → Fit e → SlC (fun k => ¬ S k) w u bs → Calls Try.prog fTake #[v, u] w fun r w' => r = .returned (.int .i64 (taE bs)) ∧ Only S w w' ∧ PE S w' v (taS e bs)
  came : ∀ (S : Nat → Prop) (v : Value) (e : E) (w : World), PE S w v e → Fresh S w → Fit e → Calls Try.prog fCame #[v] w fun r w' => ∃ u R, r = .returned u ∧ Only S w w' ∧ (∀ k, R k → S k) ∧ PE (fun k => S k ∧ ¬ R k) w' v (cmS e) ∧ Ls R w' u e.new
  left : ∀ (S : Nat → Prop) (v : Value) (e : E) (w : World), PE S w v e → Fresh S w → Fit e → Calls Try.prog fLeft #[v] w fun r w' => r = .returned (.int .i64 (e.sent.length : Nat)) ∧ Only S w w' ∧ PE S w' v e

/-- The document's. -/
def rapi : Api 12 30 27 28 29 16 31 where
  PE := RE
  carry := fun h hc => h.carry hc
  new := fun p w _ => rnew_any p w
  reset := fun S v e p w h _ _ => rreset_any S v e p w h
  send := fun S v e u bs w h hf _ hs => rsend_any S v e w.heap.size u bs w h hf hs.sl
  tick := fun S v e w h hf hfit => by
    refine (rtick_any S v e w h hfit).mono ?_
    rintro r w' ⟨u, rfl, hb, hl⟩
    refine ⟨u, fun k => w.heap.size ≤ k, rfl, Only.of hb hf, fun k hk => hf k hk, h.carry fun k hk hS => ⟨⟨hS, by omega⟩, hb.block k hk⟩, hl⟩
  take := fun S v e u bs w h hf hfit hs => rtake_any S v e w.heap.size u bs w h hf hs.sl (Nat.le_refl _) hfit
  came := fun S v e w h _ hfit => rcame_any S v e w h (by have := hfit.new; omega)
  left := fun S v e w h _ _ => by
    refine (rleft_any S v e w h).mono ?_
    rintro r w' ⟨rfl, rfl⟩
    exact ⟨rfl, Only.refl _ _, h⟩

/-- Colours: the blocks of colour i. -/
abbrev Col (c : Nat → Nat) (i : Nat) : Nat → Prop := fun k => c k = i
/-- Whatever is not of colour i stays as it is, and keeps its colour. -/
structure Keep (c c' : Nat → Nat) (i : Nat) (w w' : World) : Prop where
  os : w'.os = w.os
  tape : w'.tape = w.tape
  output : w'.output = w.output
  size : w.heap.size ≤ w'.heap.size
  same : ∀ k, k < w.heap.size → c k ≠ i → c' k = c k ∧ w'.heap[k]? = w.heap[k]?
def tint (c : Nat → Nat) (n i : Nat) : Nat → Nat := fun k => if k < n then c k else i
theorem tint_old {c : Nat → Nat} {n i k : Nat} (h : k < n) : tint c n i k = c k := by simp [tint, h]
theorem tint_new {c : Nat → Nat} {n i k : Nat} (h : n ≤ k) : tint c n i k = i := by unfold tint; rw [if_neg (by omega)]
theorem tint_fresh (c : Nat → Nat) (w : World) (i : Nat) : Fresh (Col (tint c w.heap.size i) i) w := fun _ hk => tint_new hk
theorem Keep.ls {c c' : Nat → Nat} {i j : Nat} {w w' : World} (h : Keep c c' i w w') (hj : j ≠ i) {v : Value} {ll : List (List Int)} (hl : Ls (Col c j) w v ll) : Ls (Col c' j) w' v ll :=
  hl.carry fun k hk hc => by
    have hc' : c k = j := hc
    have := h.same k hk (by omega)
    exact ⟨this.1.trans hc', this.2⟩
theorem Keep.sl {c c' : Nat → Nat} {i j : Nat} {w w' : World} (h : Keep c c' i w w') (hj : j ≠ i) {v : Value} {bs : List Int} (hl : SlC (Col c j) w v bs) : SlC (Col c' j) w' v bs :=
  hl.carry fun k hk hc => by
    have hc' : c k = j := hc
    have := h.same k hk (by omega)
    exact ⟨this.1.trans hc', this.2⟩
section
variable {fNew fReset fSend fTick fTake fCame fLeft : FuncId} (A : Api fNew fReset fSend fTick fTake fCame fLeft)
theorem Keep.pe {c c' : Nat → Nat} {i j : Nat} {w w' : World} (h : Keep c c' i w w') (hj : j ≠ i) {v : Value} {e : E} (hl : A.PE (Col c j) w v e) : A.PE (Col c' j) w' v e :=
  A.carry hl fun k hk hc => by
    have hc' : c k = j := hc
    have := h.same k hk (by omega)
    exact ⟨this.1.trans hc', this.2⟩
theorem Keep.of {c : Nat → Nat} {i : Nat} {w w' : World} (h : Only (Col (tint c w.heap.size i) i) w w') : Keep c (tint c w.heap.size i) i w w' :=
  ⟨h.os, h.tape, h.output, h.size, fun k hk hc => ⟨tint_old hk, h.block k (by show ¬ (tint c w.heap.size i k = i); rw [tint_old hk]; exact hc)⟩⟩
theorem Keep.trans {c c' c2 : Nat → Nat} {i : Nat} {w w' w2 : World} (h : Keep c c' i w w') (h2 : Keep c' c2 i w' w2) : Keep c c2 i w w2 :=
  ⟨h2.os.trans h.os, h2.tape.trans h.tape, h2.output.trans h.output, Nat.le_trans h.size h2.size, fun k hk hc => by
    have a := h.same k hk hc
    have b := h2.same k (Nat.lt_of_lt_of_le hk h.size) (by rw [a.1]; exact hc)
    exact ⟨b.1.trans a.1, b.2.trans a.2⟩⟩
theorem Keep.refl (c : Nat → Nat) (i : Nat) (w : World) : Keep c c i w w := ⟨rfl, rfl, rfl, Nat.le_refl _, fun _ _ _ => ⟨rfl, rfl⟩⟩
/-- Old memory stays. -/
theorem Keep.old {c c' : Nat → Nat} {i B : Nat} {w w' : World} (h : Keep c c' i w w') (hi : i ≠ 0) (hB : B ≤ w.heap.size) (ho : ∀ k, k < B → c k = 0) : Below B w w' ∧ ∀ k, k < B → c' k = 0 :=
  ⟨⟨h.os, h.tape, h.output, h.size, fun k hk => (h.same k (by omega) (by rw [ho k hk]; omega)).2⟩, fun k hk => by rw [(h.same k (by omega) (by rw [ho k hk]; omega)).1]; exact ho k hk⟩
theorem Keep.drew (c : Nat → Nat) (i : Nat) (w : World) : Keep c c i w w.drew := ⟨rfl, rfl, rfl, Nat.le_refl _, fun _ _ _ => ⟨rfl, rfl⟩⟩
theorem Keep.alloc (c : Nat → Nat) (i : Nat) (w : World) (o : Obj) : Keep c (tint c w.heap.size i) i w (w.alloc o) :=
  Keep.of (Only.of ((Below.refl _ _).alloc (Nat.le_refl _) _) (tint_fresh c w i))
theorem Keep.below (c : Nat → Nat) (i : Nat) {w w' : World} (h : Below w.heap.size w w') : Keep c (tint c w.heap.size i) i w w' := Keep.of (Only.of h (tint_fresh c w i))

theorem pe_tint {c : Nat → Nat} {i : Nat} {w : World} {v : Value} {e : E} (h : A.PE (Col c i) w v e) : A.PE (Col (tint c w.heap.size i) i) w v e := A.carry h fun _ hk hc => ⟨(tint_old hk).trans hc, rfl⟩
theorem sl_not {c : Nat → Nat} {i : Nat} {w : World} {v : Value} {bs : List Int} (h : SlC (fun k => c k ≠ i) w v bs) : SlC (fun k => ¬ Col (tint c w.heap.size i) i k) w v bs := h.carry fun k hk hc => ⟨by show ¬ (tint c w.heap.size i k = i); rw [tint_old hk]; exact hc, rfl⟩
open Classical in
theorem recol {c : Nat → Nat} {i r : Nat} {w w' : World} {R : Nat → Prop} {v u : Value} {e : E} {ll : List (List Int)} (ho : Only (Col (tint c w.heap.size i) i) w w') (hR : ∀ k, R k → Col (tint c w.heap.size i) i k) (hp : A.PE (fun k => Col (tint c w.heap.size i) i k ∧ ¬ R k) w' v e) (hl : Ls R w' u ll) :
    ∃ c', Keep c c' i w w' ∧ A.PE (Col c' i) w' v e ∧ Ls (Col c' r) w' u ll := by
  have hk := Keep.of ho
  refine ⟨fun k => if R k then r else tint c w.heap.size i k, ⟨hk.os, hk.tape, hk.output, hk.size, fun k h1 h2 => ?_⟩, A.carry hp fun k _ h => ⟨?_, rfl⟩, hl.mono fun k h => ?_⟩
  · have := hk.same k h1 h2
    refine ⟨?_, this.2⟩
    show (if R k then r else tint c w.heap.size i k) = c k
    rw [if_neg (fun hRk => h2 (by have := hR k hRk; have h3 : tint c w.heap.size i k = i := this; rw [tint_old h1] at h3; exact h3))]
    exact this.1
  · show (if R k then r else tint c w.heap.size i k) = i
    rw [if_neg h.2]; exact h.1
  · show (if R k then r else tint c w.heap.size i k) = r
    rw [if_pos h]

theorem Api.newC (c : Nat → Nat) (i p : Nat) (w : World) (hp : p < 4294967296) : Calls Try.prog fNew #[.int .u32 (p : Nat)] w fun r w' => ∃ v c', r = .returned v ∧ Keep c c' i w w' ∧ (∀ k, k < w.heap.size → c' k = c k) ∧ Below w.heap.size w w' ∧ A.PE (Col c' i) w' v (E.mk0 p) := by
  refine (A.new p w hp).mono ?_
  rintro r w' ⟨v, rfl, hb, h⟩
  exact ⟨v, tint c w.heap.size i, rfl, Keep.below c i hb, fun k hk => tint_old hk, hb, A.carry h fun k _ hk => ⟨tint_new hk, rfl⟩⟩
theorem Api.resetC (c : Nat → Nat) (i p : Nat) (v : Value) (e : E) (w : World) (h : A.PE (Col c i) w v e) (hp : p < 4294967296) : Calls Try.prog fReset #[v, .int .u32 (p : Nat)] w fun r w' => ∃ c', r = .returned (.tuple #[]) ∧ Keep c c' i w w' ∧ A.PE (Col c' i) w' v (E.mk0 p) := by
  refine (A.reset _ v e p w (pe_tint A h) (tint_fresh c w i) hp).mono ?_
  rintro r w' ⟨rfl, ho, h'⟩
  exact ⟨_, rfl, Keep.of ho, h'⟩
theorem Api.sendC (c : Nat → Nat) (i : Nat) (v u : Value) (e : E) (bs : List Int) (w : World) (h : A.PE (Col c i) w v e) (hf : Fit e) (hu : SlC (fun k => c k ≠ i) w u bs) : Calls Try.prog fSend #[v, u] w fun r w' => ∃ c', r = .returned (.int .i64 (sdE e bs)) ∧ Keep c c' i w w' ∧ A.PE (Col c' i) w' v (sdS e bs) := by
  refine (A.send _ v e u bs w (pe_tint A h) (tint_fresh c w i) hf (sl_not hu)).mono ?_
  rintro r w' ⟨rfl, ho, h'⟩
  exact ⟨_, rfl, Keep.of ho, h'⟩
theorem Api.takeC (c : Nat → Nat) (i : Nat) (v u : Value) (e : E) (bs : List Int) (w : World) (h : A.PE (Col c i) w v e) (hf : Fit e) (hu : SlC (fun k => c k ≠ i) w u bs) : Calls Try.prog fTake #[v, u] w fun r w' => ∃ c', r = .returned (.int .i64 (taE bs)) ∧ Keep c c' i w w' ∧ A.PE (Col c' i) w' v (taS e bs) := by
  refine (A.take _ v e u bs w (pe_tint A h) (tint_fresh c w i) hf (sl_not hu)).mono ?_
  rintro r w' ⟨rfl, ho, h'⟩
  exact ⟨_, rfl, Keep.of ho, h'⟩
theorem Api.tickC (c : Nat → Nat) (i r : Nat) (v : Value) (e : E) (w : World) (h : A.PE (Col c i) w v e) (hf : Fit e) : Calls Try.prog fTick #[v] w fun x w' => ∃ u c', x = .returned u ∧ Keep c c' i w w' ∧ A.PE (Col c' i) w' v e ∧ Ls (Col c' r) w' u [tkL e] := by
  refine (A.tick _ v e w (pe_tint A h) (tint_fresh c w i) hf).mono ?_
  rintro x w' ⟨u, R, rfl, ho, hR, hp, hl⟩
  obtain ⟨c', h1, h2, h3⟩ := recol A (r := r) ho hR hp hl
  exact ⟨u, c', rfl, h1, h2, h3⟩
theorem Api.cameC (c : Nat → Nat) (i r : Nat) (v : Value) (e : E) (w : World) (h : A.PE (Col c i) w v e) (hf : Fit e) : Calls Try.prog fCame #[v] w fun x w' => ∃ u c', x = .returned u ∧ Keep c c' i w w' ∧ A.PE (Col c' i) w' v (cmS e) ∧ Ls (Col c' r) w' u e.new := by
  refine (A.came _ v e w (pe_tint A h) (tint_fresh c w i) hf).mono ?_
  rintro x w' ⟨u, R, rfl, ho, hR, hp, hl⟩
  obtain ⟨c', h1, h2, h3⟩ := recol A (r := r) ho hR hp hl
  exact ⟨u, c', rfl, h1, h2, h3⟩
theorem Api.leftC (c : Nat → Nat) (i : Nat) (v : Value) (e : E) (w : World) (h : A.PE (Col c i) w v e) (hf : Fit e) : Calls Try.prog fLeft #[v] w fun r w' => ∃ c', r = .returned (.int .i64 (e.sent.length : Nat)) ∧ Keep c c' i w w' ∧ A.PE (Col c' i) w' v e := by
  refine (A.left _ v e w (pe_tint A h) (tint_fresh c w i) hf).mono ?_
  rintro r w' ⟨rfl, ho, h'⟩
  exact ⟨_, rfl, Keep.of ho, h'⟩
end
end Go.Proofs.Ytijjcopglbcoiaa
