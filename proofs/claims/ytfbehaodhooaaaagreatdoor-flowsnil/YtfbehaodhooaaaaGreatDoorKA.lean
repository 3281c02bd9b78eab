/-
  Proved here: what stays of a table when its parts turn: what is gone; the rules' counts; a call of a method value. No condition.
-/
import Derived.Test.YtfbehaodhooaaaaGreatDoorFY
namespace Go.Proofs.YtfbehaodhooaaaaGreatDoor
set_option maxRecDepth 100000
open Go.RowKit Go.Maps

section
variable {S T : Nat → Prop} {o o' : Nat → Fg} {w w' : World} {g : Nat} {vm : Value} {br bp bg : Nat} {Gr Gp Gg : Lit → Option Value} {room : Int} {es : List Fe} {gs : List Ge} {ad : Int}
theorem FlM.setGone (h : FlM S o w g vm br bp bg Gr Gp Gg room es gs ad) (hc : ∀ b, b < w.heap.size → S b → o b ≠ .gon → o b ≠ .tal → T b ∧ o' b = o b ∧ w'.heap[b]? = w.heap[b]?) (hs : T bg) (ho : o' bg = .gon) {Gg' : Lit → Option Value} {gs' : List Ge} (hm : Mp w' 28 bg gs'.length Gg') (ht : ∀ x ∈ gs', TaM T o' w' x) (hn : gs'.Pairwise fun a b => a.p ≠ b.p) : FlM T o' w' g vm br bp bg Gr Gp Gg' room es gs' ad := by
  have h1 := hc g (Array.getElem?_eq_some_iff.1 h.hg).1 h.sg (by rw [h.og]; simp) (by rw [h.og]; simp)
  have h2 := hc br h.mr.lt h.sr (by rw [h.or]; simp) (by rw [h.or]; simp)
  have h3 := hc bp h.mp.lt h.sp (by rw [h.op]; simp) (by rw [h.op]; simp)
  exact ⟨h1.1, h1.2.1.trans h.og, h1.2.2.trans h.hg, h.tb.carry fun b hb hS => by
      have := hc b hb hS.1 (by rw [hS.2]; simp) (by rw [hS.2]; simp)
      exact ⟨⟨this.1, this.2.1.trans hS.2⟩, this.2.2⟩,
    h2.1, h2.2.1.trans h.or, h.mr.carry h2.2.2, h3.1, h3.2.1.trans h.op, h.mp.carry h3.2.2, hs, ho, hm,
    fun e he => (h.ent e he).carry fun b hb hS hb' => hc b hb hS (by rcases hb' with rfl | h5
                                                                     · rw [(h.ent e he).t]; simp
                                                                     · rw [h5]; simp) (by rcases hb' with rfl | h5
                                                                                          · rw [(h.ent e he).t]; simp
                                                                                          · rw [h5]; simp), ht, h.ne, hn⟩
theorem FlM.setEnt (h : FlM S o w g vm br bp bg Gr Gp Gg room es gs ad) (hc : ∀ b, b < w.heap.size → S b → o b ≠ .ent → T b ∧ o' b = o b ∧ w'.heap[b]? = w.heap[b]?) {es' : List Fe} (hr : es'.map Fe.ru = es.map Fe.ru) (he : ∀ e ∈ es', EnM T o' w' e) (hn : es'.Pairwise fun a b => a.p ≠ b.p) : FlM T o' w' g vm br bp bg Gr Gp Gg room es' gs ad := by
  have h1 := hc g (Array.getElem?_eq_some_iff.1 h.hg).1 h.sg (by rw [h.og]; simp)
  have h2 := hc br h.mr.lt h.sr (by rw [h.or]; simp)
  have h3 := hc bp h.mp.lt h.sp (by rw [h.op]; simp)
  have h4 := hc bg h.mg.lt h.sn (by rw [h.on]; simp)
  have hl : es'.length = es.length := by have := congrArg List.length hr; simpa using this
  exact ⟨h1.1, h1.2.1.trans h.og, h1.2.2.trans h.hg, by
      rw [hr]
      exact h.tb.carry fun b hb hS => by
        have := hc b hb hS.1 (by rw [hS.2]; simp)
        exact ⟨⟨this.1, this.2.1.trans hS.2⟩, this.2.2⟩,
    h2.1, h2.2.1.trans h.or, by rw [hl]; exact h.mr.carry h2.2.2, h3.1, h3.2.1.trans h.op, by rw [hl]; exact h.mp.carry h3.2.2, h4.1, h4.2.1.trans h.on, h.mg.carry h4.2.2,
    he, fun x hx => (h.tal x hx).carry (hc x.p (Array.getElem?_eq_some_iff.1 (h.tal x hx).h).1 (h.tal x hx).s (by rw [(h.tal x hx).t]; simp)), hn, h.nt⟩
end
section
variable {ops : Array Oper} {rest : List Oper} {o : Oper} {a : Act} {w : World} {Q : Exit → Act → World → Prop}
/-- A call of a method value, in a walk. -/
theorem callBd (f : FuncId) (y : Operand) (xs : List Operand) (ts : Array TypeId) (bs args : List Value) (hop : o.op = .call { callee := .value y, args := xs.toArray, argTypes := ts }) (hg : o.guard = none) (hy : a.eval y = .func (.func f) bs.toArray #[]) (hx : xs.map a.eval = args) (hE : ∀ (args : Array Value) w, (callFunc f args).run Tryz.prog w = .ok (.enter f args) w)
    (Φ : Ending → World → Prop) (hC : Calls Tryz.prog f (bs ++ args).toArray w Φ) (hK : ∀ e w', Φ e w' → (∃ v, e = .returned v ∧ wpList Tryz.prog ops Q rest (a.put o.dst v) w') ∨ ∃ ch, e = .panicked ch ∧ Q (.panic ch) a w') : wpList Tryz.prog ops Q (o :: rest) a w := by
  have hw : Region.wanted o (yielded ops a.tmps) = true := by simp [Region.wanted, hg]
  have hrun : (execOp a.eval o).run Tryz.prog w = .ok (.enter f (bs ++ args).toArray) w := by
    unfold execOp
    simp only [hop, resolve, invoke, Deferred.ofValue, hy, Sem.run_bind, Sem.run_pure, Result.andThen_ok, List.map_toArray, hx, List.append_toArray, Array.append_empty, hE]
  unfold wpList
  rw [if_pos hw]
  refine Or.inl ?_
  show Oper.upon Tryz.prog o a _ Q ((execOp a.eval o).run Tryz.prog w)
  rw [hrun, Oper.upon_enter]
  refine hC.mono ?_
  intro e w' h
  rcases hK e w' h with ⟨v, rfl, hk⟩ | ⟨ch, rfl, hk⟩
  · exact hk
  · exact hk
end
/-- What is gone, as a function of Cookies. -/
def gfn (gs : List Ge) (ck : Int) : Option (Int × Int) := (gs.find? fun x => x.ck == ck).map fun x => (x.pk, x.bt)
/-- More of a Cookie is gone. -/
def adG (G : Int → Option (Int × Int)) (ck pk bt : Int) : Int → Option (Int × Int) := fun c => if c = ck then some (sumE ((G ck).getD (0, 0)).1 pk, sumE ((G ck).getD (0, 0)).2 bt) else G c
theorem gfn_mem {gs : List Ge} (ho : gs.Pairwise fun a b => a.ck ≠ b.ck) {x : Ge} (hx : x ∈ gs) : gfn gs x.ck = some (x.pk, x.bt) := by
  unfold gfn
  have : gs.find? (fun y => y.ck == x.ck) = some x := by
    induction gs with
    | nil => cases hx
    | cons a l ih =>
      rw [List.pairwise_cons] at ho
      rw [List.find?_cons]
      rcases List.mem_cons.1 hx with rfl | hx
      · simp
      · have hne := ho.1 x hx
        rw [beq_eq_false_iff_ne.2 hne]
        exact ih ho.2 hx
  rw [this]; rfl
theorem gfn_none {gs : List Ge} {ck : Int} (h : ∀ x ∈ gs, x.ck ≠ ck) : gfn gs ck = none := by
  unfold gfn
  rw [List.find?_eq_none.2 fun x hx => by simpa using h x hx]; rfl
theorem sumE_zero {a : Int} (h : InB a) : sumE 0 a = a := by
  unfold sumE InB at *
  rw [if_neg (by omega)]; omega
end Go.Proofs.YtfbehaodhooaaaaGreatDoor
