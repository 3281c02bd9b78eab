/-
  Proved here: what stays of a table when its parts turn: what is gone; the rules' counts; a call of a method value. No condition.
-/
/-
  Proved here: goneOf and lose of package flows: what a rule has counted goes to its Cookie. Condition: fewer than 2 to 31 Cookies of which something is gone.
-/
import Derived.Test.YtdehlnaoehjehaaGreatDoorzFY
namespace Go.Proofs.YtdehlnaoehjehaaGreatDoor
set_option maxRecDepth 100000
open Go.RowKit Go.Maps

section
variable {S T : Nat → Prop} {o o' : Nat → Fg} {w w' : World} {g : Nat} {vm : Value} {br bp bg : Nat} {Gr Gp Gg : Lit → Option Value} {room : Int} {es : List Fe} {gs : List Ge} {ad : Int}
theorem FlM.setGone (h : FlM S o w g vm br bp bg Gr Gp Gg room es gs ad) (hc : ∀ b, b < w.heap.size → S b → o b ≠ .gon → o b ≠ .tal → T b ∧ o' b = o b ∧ w'.heap[b]? = w.heap[b]?) (hs : T bg) (ho : o' bg = .gon) {Gg' : Lit → Option Value} {gs' : List Ge} (hm : Mp w' 28 bg gs'.length Gg') (ht : ∀ x ∈ gs', TaM T o' w' x) (hn : gs'.Pairwise fun a b => a.p ≠ b.p) : FlM T o' w' g vm br bp bg Gr Gp Gg' room es gs' ad := by
  have h1 := hc g (Array.getElem?_eq_some_iff.1 h.hg).1 h.sg (by rw [h.og]; simp) (by rw [h.og]; simp)
  have h2 := hc br h.mr.lt h.sr (by rw [h.or]; simp) (by rw [h.or]; simp)
  have h3 := hc bp h.mp.lt h.sp (by rw [h.op]; simp) (by rw [h.op]; simp)
  exact ⟨h1.1, h1.2.1.trans h.og, h1.2.2.trans h.hg, h.tb.carry fun b hb hS => by
      have := hc b hb hS.1 (by rw [hS.2]; simp) (by rw [hS.2]; simp)
      exact ⟨⟨this.1, this.2.1.trans hS.2⟩, this.2.2⟩,
    h2.1, h2.2.1.trans h.or, h.mr.carry h2.2.2, h3.1, h3.2.1.trans h.op, h.mp.carry h3.2.2, hs, ho, hm,
    fun e he => (h.ent e he).carry fun b hb hS hb' => hc b hb hS (by rcases hb' with rfl | h5
                                                                     · rw [(h.ent e he).t]; simp
                                                                     · rw [h5]; simp) (by rcases hb' with rfl | h5
                                                                                          · rw [(h.ent e he).t]; simp
                                                                                          · rw [h5]; simp), ht, h.ne, hn⟩
theorem FlM.setEnt (h : FlM S o w g vm br bp bg Gr Gp Gg room es gs ad) (hc : ∀ b, b < w.heap.size → S b → o b ≠ .ent → T b ∧ o' b = o b ∧ w'.heap[b]? = w.heap[b]?) {es' : List Fe} (hr : es'.map Fe.ru = es.map Fe.ru) (he : ∀ e ∈ es', EnM T o' w' e) (hn : es'.Pairwise fun a b => a.p ≠ b.p) : FlM T o' w' g vm br bp bg Gr Gp Gg room es' gs ad := by
  have h1 := hc g (Array.getElem?_eq_some_iff.1 h.hg).1 h.sg (by rw [h.og]; simp)
  have h2 := hc br h.mr.lt h.sr (by rw [h.or]; simp)
  have h3 := hc bp h.mp.lt h.sp (by rw [h.op]; simp)
  have h4 := hc bg h.mg.lt h.sn (by rw [h.on]; simp)
  have hl : es'.length = es.length := by have := congrArg List.length hr; simpa using this
  exact ⟨h1.1, h1.2.1.trans h.og, h1.2.2.trans h.hg, by
      rw [hr]
      exact h.tb.carry fun b hb hS => by
        have := hc b hb hS.1 (by rw [hS.2]; simp)
        exact ⟨⟨this.1, this.2.1.trans hS.2⟩, this.2.2⟩,
    h2.1, h2.2.1.trans h.or, by rw [hl]; exact h.mr.carry h2.2.2, h3.1, h3.2.1.trans h.op, by rw [hl]; exact h.mp.carry h3.2.2, h4.1, h4.2.1.trans h.on, h.mg.carry h4.2.2,
    he, fun x hx => (h.tal x hx).carry (hc x.p (Array.getElem?_eq_some_iff.1 (h.tal x hx).h).1 (h.tal x hx).s (by rw [(h.tal x hx).t]; simp)), hn, h.nt⟩
end
section
variable {ops : Array Oper} {rest : List Oper} {o : Oper} {a : Act} {w : World} {Q : Exit → Act → World → Prop}
/-- A call of a method value, in a walk. -/
theorem callBd (f : FuncId) (y : Operand) (xs : List Operand) (ts : Array TypeId) (bs args : List Value) (hop : o.op = .call { callee := .value y, args := xs.toArray, argTypes := ts }) (hg : o.guard = none) (hy : a.eval y = .func (.func f) bs.toArray #[]) (hx : xs.map a.eval = args) (hE : ∀ (args : Array Value) w, (callFunc f args).run Tryz.prog w = .ok (.enter f args) w)
    (Φ : Ending → World → Prop) (hC : Calls Tryz.prog f (bs ++ args).toArray w Φ) (hK : ∀ e w', Φ e w' → (∃ v, e = .returned v ∧ wpList Tryz.prog ops Q rest (a.put o.dst v) w') ∨ ∃ ch, e = .panicked ch ∧ Q (.panic ch) a w') : wpList Tryz.prog ops Q (o :: rest) a w := by
  have hw : Region.wanted o (yielded ops a.tmps) = true := by simp [Region.wanted, hg]
  have hrun : (execOp a.eval o).run Tryz.prog w = .ok (.enter f (bs ++ args).toArray) w := by
    unfold execOp
    simp only [hop, resolve, invoke, Deferred.ofValue, hy, Sem.run_bind, Sem.run_pure, Result.andThen_ok, List.map_toArray, hx, List.append_toArray, Array.append_empty, hE]
  unfold wpList
  rw [if_pos hw]
  refine Or.inl ?_
  show Oper.upon Tryz.prog o a _ Q ((execOp a.eval o).run Tryz.prog w)
  rw [hrun, Oper.upon_enter]
  refine hC.mono ?_
  intro e w' h
  rcases hK e w' h with ⟨v, rfl, hk⟩ | ⟨ch, rfl, hk⟩
  · exact hk
  · exact hk
end
/-- What is gone, as a function of Cookies. -/
def gfn (gs : List Ge) (ck : Int) : Option (Int × Int) := (gs.find? fun x => x.ck == ck).map fun x => (x.pk, x.bt)
/-- More of a Cookie is gone. -/
def adG (G : Int → Option (Int × Int)) (ck pk bt : Int) : Int → Option (Int × Int) := fun c => if c = ck then some (sumE ((G ck).getD (0, 0)).1 pk, sumE ((G ck).getD (0, 0)).2 bt) else G c
theorem gfn_mem {gs : List Ge} (ho : gs.Pairwise fun a b => a.ck ≠ b.ck) {x : Ge} (hx : x ∈ gs) : gfn gs x.ck = some (x.pk, x.bt) := by
  unfold gfn
  have : gs.find? (fun y => y.ck == x.ck) = some x := by
    induction gs with
    | nil => cases hx
    | cons a l ih =>
      rw [List.pairwise_cons] at ho
      rw [List.find?_cons]
      rcases List.mem_cons.1 hx with rfl | hx
      · simp
      · have hne := ho.1 x hx
        rw [beq_eq_false_iff_ne.2 hne]
        exact ih ho.2 hx
  rw [this]; rfl
theorem gfn_none {gs : List Ge} {ck : Int} (h : ∀ x ∈ gs, x.ck ≠ ck) : gfn gs ck = none := by
  unfold gfn
  rw [List.find?_eq_none.2 fun x hx => by simpa using h x hx]; rfl
theorem sumE_zero {a : Int} (h : InB a) : sumE 0 a = a := by
  unfold sumE InB at *
  rw [if_neg (by omega)]; omega
end Go.Proofs.YtdehlnaoehjehaaGreatDoor
namespace Go.Proofs.YtdehlnaoehjehaaGreatDoor
set_option maxRecDepth 100000
open Go.RowKit Go.Maps

theorem inB0 : InB 0 := by unfold InB; decide
/-- What goneOf leaves: there is a tally of the Cookie. -/
def GoP (S : Nat → Prop) (o : Nat → Fg) (w : World) (g : Nat) (room ad : Int) (es : List Fe) (gs : List Ge) (ck : Int) (e : Ending) (w' : World) : Prop :=
  ∃ o' gs' x, ((∀ b, b < w.heap.size → o' b = o b) ∧ (∀ b, b < w.heap.size → o b = .cop → w'.heap[b]? = w.heap[b]?)) ∧ e = .returned (.func (.func 36) #[pv x.p] #[]) ∧ Only S w w' ∧ FlO S o' w' g room ad es gs' ∧ x ∈ gs' ∧ x.ck = ck ∧ (gs' = gs ∨ gs' = gs ++ [x] ∧ x.pk = 0 ∧ x.bt = 0 ∧ gfn gs ck = none)
theorem FInv.addGone {Gr Gp Gg : Lit → Option Value} {room : Int} {es : List Fe} {gs : List Ge} {ad : Int} (h : FInv Gr Gp Gg room es gs ad) {ck : Int} (hk : InB ck) (hn : Gg (.int .u64 ck) = none) (p : Nat) : FInv Gr Gp (updL Gg (.int .u64 ck) (some (pv p))) room es (gs ++ [⟨p, ck, 0, 0⟩]) ad := by
  have hno : ∀ x ∈ gs, x.ck ≠ ck := fun x hx e => by
    have := (h.gg (.int .u64 ck) (pv x.p)).2 ⟨x, hx, by rw [e], rfl⟩
    rw [hn] at this; cases this
  refine ⟨h.gr, h.gp, fun l v => ?_, h.fit, fun x hx => ?_, h.num, h.bd, h.apart, ?_, h.ad0, h.rm, h.len⟩
  · by_cases hl : l = .int .u64 ck
    · subst hl
      rw [updL_same]
      constructor
      · intro e
        cases e
        exact ⟨⟨p, ck, 0, 0⟩, by simp, rfl, rfl⟩
      · rintro ⟨x, hx, e1, rfl⟩
        rcases List.mem_append.1 hx with h1 | h1
        · exact absurd (by simpa using e1.symm) (hno x h1)
        · simp at h1; subst h1; rfl
    · rw [updL_other _ _ hl, h.gg]
      constructor
      · rintro ⟨x, hx, e1, e2⟩
        exact ⟨x, List.mem_append_left _ hx, e1, e2⟩
      · rintro ⟨x, hx, e1, e2⟩
        rcases List.mem_append.1 hx with h1 | h1
        · exact ⟨x, h1, e1, e2⟩
        · simp at h1; subst h1; exact absurd e1 hl
  · rcases List.mem_append.1 hx with h1 | h1
    · exact h.fig x h1
    · simp at h1; subst h1
      exact ⟨hk, inB0, inB0⟩
  · rw [List.pairwise_append]
    refine ⟨h.once, by simp, fun a ha b hb => ?_⟩
    simp at hb; subst hb
    exact hno a ha
theorem zeroPT (w : World) : (zeroValue 127).run Tryz.prog w = .ok (.pointer none) w := by simp [go_sem]
set_option maxHeartbeats 1600000 in
set_option maxRecDepth 100000 in
theorem goneOf_any {S : Nat → Prop} {o : Nat → Fg} (w : World) (g : Nat) (room ad : Int) (es : List Fe) (gs : List Ge) (h : FlO S o w g room ad es gs) (hf : Fresh S w) (ck : Int) (hk : InB ck) (hl : gs.length < 2147483648) : Calls Tryz.prog 122 #[pv g, .int .u64 ck] w (GoP S o w g room ad es gs ck) := by
  have h' := h
  obtain ⟨vm, br, bp, bg, Gr, Gp, Gg, h1, h2⟩ := h'
  obtain ⟨-, -, -, -, c4⟩ := h1.cells
  have hlk := h1.mg.look lawU Tryz.underlying91 (zeroPT w) (key_u hk)
  cases hG : Gg (.int .u64 ck) with
  | some v =>
    obtain ⟨x, hx, e1, rfl⟩ := (h2.gg _ _).1 hG
    have e2 : x.ck = ck := by simpa using e1.symm
    rw [hG] at hlk
    simp only [Option.getD_some] at hlk
    have HF : Hid (GoP S o w g room ad es gs ck (.returned (.func (.func 36) #[pv x.p] #[])) w) := ⟨o, gs, x, ⟨fun _ _ => rfl, fun _ _ _ => rfl⟩, rfl, Only.refl _ _, h, hx, e2, Or.inl rfl⟩
    clear h1 h2 h hG e1 e2
    go_enter Tryz.func122, Tryz.ntmps122
    go_wp2
    go_ret
    exact HF.out
  | none =>
    rw [hG] at hlk
    simp only [Option.getD_none] at hlk
    obtain ⟨W0, hW0⟩ : ∃ W0, W0 = w.alloc (.cells #[.int .u64 0, .int .u64 0] 102) := ⟨_, rfl⟩
    have hB0 : Below w.heap.size w W0 := by rw [hW0]; exact (Below.refl _ _).alloc (Nat.le_refl _) _
    have hs0 : W0.heap.size = w.heap.size + 1 := by rw [hW0]; simp
    have hX0 : W0.heap[w.heap.size]? = some (.cells #[.int .u64 0, .int .u64 0] 102 (0, 0)) := by rw [hW0]; exact heap_alloc_new _ _
    have hM0 : Mp W0 28 bg gs.length Gg := h1.mg.carry (hB0.block _ h1.mg.lt)
    obtain ⟨w2, hst, hM2, hT2⟩ := hM0.store (val := pv w.heap.size) lawU Tryz.underlying91 hl (key_u hk)
    rw [hG] at hM2
    simp only [Option.isSome_none, Bool.false_eq_true, if_false] at hM2
    have hlk2 := hM2.look lawU Tryz.underlying91 (zeroPT w2) (key_u hk)
    rw [updL_same] at hlk2
    simp only [Option.getD_some] at hlk2
    have hgl := (Array.getElem?_eq_some_iff.1 h1.hg).1
    have hbl := h1.mg.lt
    have oth : ∀ b, b < w.heap.size → b ≠ bg → w2.heap[b]? = w.heap[b]? := fun b hb hne => by rw [hT2.block b hne, hB0.block b hb]
    have hgb : g ≠ bg := fun e => by have h5 := h1.og; rw [e, h1.on] at h5; cases h5
    have c4' : W0.cell? ⟨g, 4, none⟩ = some (.map (some bg)) := cell_on hB0 c4
    have c42 : w2.cell? ⟨g, 4, none⟩ = some (.map (some bg)) := (cell_same (oth g hgl hgb)).trans c4
    have HF : Hid (GoP S o w g room ad es gs ck (.returned (.func (.func 36) #[pv w.heap.size] #[])) w2) := by
      have hO : Only S w w2 := by
        refine ⟨hT2.os.trans hB0.os, hT2.tape.trans hB0.tape, hT2.output.trans hB0.output, by rw [hT2.size]; exact hB0.size, fun k hk => ?_⟩
        have hne : k ≠ bg := fun e => hk (e ▸ h1.sn)
        rcases Nat.lt_or_ge k w.heap.size with h5 | h5
        · exact oth k h5 hne
        · exact absurd (hf k h5) hk
      have hnb : w.heap.size ≠ bg := by omega
      refine ⟨fun b => if b = w.heap.size then .tal else o b, gs ++ [⟨w.heap.size, ck, 0, 0⟩], ⟨w.heap.size, ck, 0, 0⟩, ⟨(fun b hb => if_neg (by omega)), fun b hb h5 => oth b hb fun e => by rw [e, h1.on] at h5; cases h5⟩, rfl, hO, ⟨vm, br, bp, bg, Gr, Gp, _, h1.setGone (fun b hb hS h5 h6 => ?_) h1.sn ?_ (by rw [List.length_append]; exact hM2) (fun x hx => ?_) ?_, h2.addGone hk hG _⟩, by simp, rfl, Or.inr ⟨rfl, rfl, rfl, gfn_none fun x hx e => ?_⟩⟩
      · exact ⟨hS, if_neg (by omega), oth b hb fun e => h5 (e ▸ h1.on)⟩
      · rw [if_neg hnb.symm]; exact h1.on
      · rcases List.mem_append.1 hx with h5 | h5
        · have h6 := h1.tal x h5
          have h7 := (Array.getElem?_eq_some_iff.1 h6.h).1
          exact h6.carry ⟨h6.s, if_neg (by omega), oth x.p h7 fun e => by have h8 := h6.t; rw [e, h1.on] at h8; cases h8⟩
        · simp at h5; subst h5
          exact ⟨hf _ (Nat.le_refl _), if_pos rfl, (hT2.block _ hnb).trans hX0⟩
      · rw [List.pairwise_append]
        refine ⟨h1.nt, by simp, fun a ha b hb => ?_⟩
        simp at hb; subst hb
        have := (Array.getElem?_eq_some_iff.1 (h1.tal a ha).h).1
        show a.p ≠ w.heap.size
        omega
      · have := (h2.gg (.int .u64 ck) (pv x.p)).2 ⟨x, hx, by rw [e], rfl⟩
        rw [hG] at this; cases this
    have HW0 := hid hW0
    clear h1 h2 h hG hB0 hs0 hX0 hM0 hM2 hT2 oth hgb hgl hbl hW0
    go_enter Tryz.func122, Tryz.ntmps122
    go_upto_region 2 with fail
    go_upto_region 3 with (refine bxAgg 102 (.tmp 17) rfl rfl #[.int .u64 0, .int .u64 0] rfl W0 HW0.out.symm ?_)
    go_wp2
    go_ret
    exact HF.out
/-- The tally of a Cookie has other counts. -/
def upG (gs : List Ge) (ck pk bt : Int) : List Ge := gs.map fun y => if y.ck = ck then { y with pk := pk, bt := bt } else y
theorem upG_mem {gs : List Ge} {ck pk bt : Int} {y : Ge} (h : y ∈ upG gs ck pk bt) : ∃ x ∈ gs, y.p = x.p ∧ y.ck = x.ck ∧ ((x.ck = ck ∧ y = ⟨x.p, x.ck, pk, bt⟩) ∨ (x.ck ≠ ck ∧ y = x)) := by
  obtain ⟨x, hx, rfl⟩ := List.mem_map.1 h
  by_cases e : x.ck = ck
  · rw [if_pos e]; exact ⟨x, hx, rfl, rfl, Or.inl ⟨e, rfl⟩⟩
  · rw [if_neg e]; exact ⟨x, hx, rfl, rfl, Or.inr ⟨e, rfl⟩⟩
theorem upG_pair {gs : List Ge} {ck pk bt : Int} {R : Ge → Ge → Prop} (h : gs.Pairwise R) (hR : ∀ a b a' b' : Ge, a'.p = a.p → a'.ck = a.ck → b'.p = b.p → b'.ck = b.ck → R a b → R a' b') : (upG gs ck pk bt).Pairwise R := by
  unfold upG
  rw [List.pairwise_map]
  refine h.imp fun {a b} hab => hR a b _ _ ?_ ?_ ?_ ?_ hab
  all_goals (split <;> rfl)
theorem gfn_up {gs : List Ge} (ho : gs.Pairwise fun a b => a.ck ≠ b.ck) {x : Ge} (hx : x ∈ gs) (pk bt c : Int) : gfn (upG gs x.ck pk bt) c = if c = x.ck then some (pk, bt) else gfn gs c := by
  have ho' : (upG gs x.ck pk bt).Pairwise fun a b => a.ck ≠ b.ck := upG_pair ho fun a b a' b' _ e1 _ e2 h => by rw [e1, e2]; exact h
  by_cases e : c = x.ck
  · subst e
    rw [if_pos rfl]
    have : (⟨x.p, x.ck, pk, bt⟩ : Ge) ∈ upG gs x.ck pk bt := List.mem_map.2 ⟨x, hx, by rw [if_pos rfl]⟩
    exact gfn_mem ho' this
  · rw [if_neg e]
    by_cases h : ∃ y ∈ gs, y.ck = c
    · obtain ⟨y, hy, rfl⟩ := h
      have : y ∈ upG gs x.ck pk bt := List.mem_map.2 ⟨y, hy, by rw [if_neg e]⟩
      rw [gfn_mem ho' this, gfn_mem ho hy]
    · rw [gfn_none fun y hy e1 => ?_, gfn_none fun y hy e1 => h ⟨y, hy, e1⟩]
      obtain ⟨z, hz, _, e2, _⟩ := upG_mem hy
      exact h ⟨z, hz, e2 ▸ e1⟩
/-- What lose leaves, with whose the blocks are. -/
def LoT (S : Nat → Prop) (o : Nat → Fg) (w : World) (g : Nat) (room ad : Int) (es : List Fe) (gs : List Ge) (x : Fe) (e : Ending) (w' : World) : Prop :=
  e = .returned (.tuple #[]) ∧ Only S w w' ∧ ∃ o' gs', ((∀ b, b < w.heap.size → o' b = o b) ∧ (∀ b, b < w.heap.size → o b = .cop → w'.heap[b]? = w.heap[b]?)) ∧ FlO S o' w' g room ad es gs' ∧ gfn gs' = adG (gfn gs) x.r.ck x.pk x.bt ∧ gs'.length ≤ gs.length + 1
/-- What lose leaves. -/
def LoP (S : Nat → Prop) (w : World) (g : Nat) (room ad : Int) (es : List Fe) (gs : List Ge) (x : Fe) (e : Ending) (w' : World) : Prop :=
  e = .returned (.tuple #[]) ∧ Only S w w' ∧ ∃ gs', Fl S w' g room ad es gs' ∧ gfn gs' = adG (gfn gs) x.r.ck x.pk x.bt ∧ gs'.length ≤ gs.length + 1
theorem fec_ck (e : Fe) : (fec e)[27]? = some (.int .u64 e.r.ck) := by
  rw [show 27 = 3 + 24 from rfl, fec_rl e 24 (by omega)]; exact (rc_cp _ _ _ _).2
theorem range2' {w : World} {g p : Nat} {a b : Value} (h0 : w.cell? ⟨g, p, none⟩ = some a) (h1 : w.cell? ⟨g, p + 1, none⟩ = some b) : w.rangeAt g p (#[a, b] : Array Value).toList := range_of fun i hi => by
  have : i = 0 ∨ i = 1 := by simp at hi; omega
  rcases this with rfl | rfl
  · exact h0
  · exact h1
theorem sizeCnt (a b : Value) : (Tryz.prog.info? 50).map (·.size) = some (#[a, b] : Array Value).size := by show _ = some 2; kernel_rfl
theorem entY (args : Array Value) (w : World) : (callFunc 36 args).run Tryz.prog w = .ok (.enter 36 args) w := rfl
/-- A tally has counted more. -/
theorem FlO.more {S : Nat → Prop} {o : Nat → Fg} {w w' : World} {g : Nat} {room ad : Int} {es : List Fe} {gs : List Ge} (h : FlO S o w g room ad es gs) {x : Ge} (hx : x ∈ gs) {pk bt : Int} (hp : InB pk) (hb : InB bt) (hT : Tch w x.p w') (hc : w'.heap[x.p]? = some (.cells #[.int .u64 pk, .int .u64 bt] 102 (0, 0))) : FlO S o w' g room ad es (upG gs x.ck pk bt) := by
  obtain ⟨vm, br, bp, bg, Gr, Gp, Gg, h1, h2⟩ := h
  have hxt := h1.tal x hx
  have uniq : ∀ y ∈ gs, y.ck = x.ck → y = x := fun y hy e => by
    obtain ⟨i, hi, rfl⟩ := List.getElem_of_mem hx
    obtain ⟨j, hj, rfl⟩ := List.getElem_of_mem hy
    rcases Nat.lt_trichotomy i j with h | h | h
    · exact absurd e.symm (List.pairwise_iff_getElem.1 h2.once i j hi hj h)
    · subst h; rfl
    · exact absurd e (List.pairwise_iff_getElem.1 h2.once j i hj hi h)
  have nep : ∀ y ∈ gs, y.ck ≠ x.ck → y.p ≠ x.p := fun y hy e e2 => by
    obtain ⟨i, hi, rfl⟩ := List.getElem_of_mem hx
    obtain ⟨j, hj, rfl⟩ := List.getElem_of_mem hy
    rcases Nat.lt_trichotomy i j with h | h | h
    · exact List.pairwise_iff_getElem.1 h1.nt i j hi hj h e2.symm
    · subst h; exact e rfl
    · exact List.pairwise_iff_getElem.1 h1.nt j i hj hi h e2
  refine ⟨vm, br, bp, bg, Gr, Gp, Gg, h1.setGone (fun b hb' hS h5 h6 => ⟨hS, rfl, hT.block b hb' fun e => h6 (e ▸ hxt.t)⟩) h1.sn h1.on ?_ (fun y hy => ?_) ?_, ⟨h2.gr, h2.gp, fun l v => ?_, h2.fit, fun y hy => ?_, h2.num, h2.bd, h2.apart, ?_, h2.ad0, h2.rm, h2.len⟩⟩
  · have hl : (upG gs x.ck pk bt).length = gs.length := by simp [upG]
    rw [hl]
    exact h1.mg.carry (hT.block bg h1.mg.lt fun e => by have h5 := hxt.t; rw [← e, h1.on] at h5; cases h5)
  · obtain ⟨z, hz, -, -, ⟨e1, rfl⟩ | ⟨e1, rfl⟩⟩ := upG_mem hy
    · obtain rfl := uniq z hz e1
      exact ⟨hxt.s, hxt.t, hc⟩
    · have h5 := h1.tal y hz
      exact h5.carry ⟨h5.s, rfl, hT.block y.p (Array.getElem?_eq_some_iff.1 h5.h).1 (nep y hz e1)⟩
  · exact upG_pair h1.nt fun a b a' b' e1 _ e2 _ h => by rw [e1, e2]; exact h
  · rw [h2.gg]
    constructor
    · rintro ⟨y, hy, e1, e2⟩
      refine ⟨if y.ck = x.ck then { y with pk := pk, bt := bt } else y, List.mem_map.2 ⟨y, hy, rfl⟩, ?_, ?_⟩
      · split <;> exact e1
      · split <;> exact e2
    · rintro ⟨y, hy, e1, e2⟩
      obtain ⟨z, hz, e3, e4, -⟩ := upG_mem hy
      exact ⟨z, hz, e4 ▸ e1, e3 ▸ e2⟩
  · obtain ⟨z, hz, -, -, ⟨e1, rfl⟩ | ⟨e1, rfl⟩⟩ := upG_mem hy
    · exact ⟨(h2.fig z hz).1, hp, hb⟩
    · exact h2.fig _ hz
  · exact upG_pair h2.once fun a b a' b' _ e1 _ e2 h => by rw [e1, e2]; exact h
set_option maxHeartbeats 1600000 in
set_option maxRecDepth 100000 in
theorem lose_tag {S : Nat → Prop} {o : Nat → Fg} (w : World) (g : Nat) (room ad : Int) (es : List Fe) (gs : List Ge) (h : FlO S o w g room ad es gs) (hf : Fresh S w) (x : Fe) (hx : x ∈ es) (hl : gs.length < 2147483648) : Calls Tryz.prog 81 #[pv g, pv x.p] w (LoT S o w g room ad es gs x) := by
  have h' := h
  obtain ⟨vm, br, bp, bg, Gr, Gp, Gg, h1, h2⟩ := h'
  have hc : w.cell? ⟨x.p, 27, none⟩ = some (.int .u64 x.r.ck) := by rw [cell_of_row _ _ _ _ _ _ (h1.ent x hx).h]; exact fec_ck x
  obtain ⟨hfit, -, hpk, hbt⟩ := h2.fit x hx
  have HG := hid (goneOf_any w g room ad es gs h hf x.r.ck hfit.ck hl)
  have HS : Hid (∀ w1 o1 gs' y, ((∀ b, b < w.heap.size → o1 b = o b) ∧ ∀ b, b < w.heap.size → o b = .cop → w1.heap[b]? = w.heap[b]?) → Only S w w1 → FlO S o1 w1 g room ad es gs' → y ∈ gs' → y.ck = x.r.ck → (gs' = gs ∨ gs' = gs ++ [y] ∧ y.pk = 0 ∧ y.bt = 0 ∧ gfn gs x.r.ck = none) →
      w1.rangeAt x.p 0 (#[.int .u64 x.pk, .int .u64 x.bt] : Array Value).toList ∧ Calls Tryz.prog 36 #[pv y.p, .agg #[.int .u64 x.pk, .int .u64 x.bt]] w1 fun e w' => e = .returned (.tuple #[]) ∧ LoT S o w g room ad es gs x (.returned (.tuple #[])) w') := fun w1 o1 gs' y ho1 hO hF hy hyc hgs => by
    have hF' := hF
    obtain ⟨vm1, br1, bp1, bg1, Gr1, Gp1, Gg1, q1, q2⟩ := hF'
    have hE := (q1.ent x hx).h
    have hTa := q1.tal y hy
    obtain ⟨f1, f2, f3⟩ := q2.fig y hy
    refine ⟨range2' (by rw [cell_of_row _ _ _ _ _ _ hE]; exact (fec_at x).1) (by rw [cell_of_row _ _ _ _ _ _ hE]; exact (fec_at x).2.1), ?_⟩
    refine (yadd_any w1 y.p y.cs 102 y.pk y.bt x.pk x.bt hTa.h rfl rfl f2 f3 hpk hbt).mono ?_
    rintro e w2 ⟨rfl, hT, hc2⟩
    have hf1 : Fresh S w1 := hf.on hO.size
    refine ⟨rfl, rfl, hO.trans (hT.only hf1 hTa.s), o1, upG gs' y.ck (sumE y.pk x.pk) (sumE y.bt x.bt), ⟨ho1.1, fun b hb h5 => (hT.block b (Nat.lt_of_lt_of_le hb hO.size) (fun e => by have h6 := hTa.t; rw [← e, ho1.1 b hb, h5] at h6; cases h6)).trans (ho1.2 b hb h5)⟩, hF.more hy (sumE_in f2 hpk) (sumE_in f3 hbt) hT hc2, ?_, ?_⟩
    · funext c
      rw [gfn_up q2.once hy, hyc]
      unfold adG
      by_cases e : c = x.r.ck
      · rw [if_pos e, if_pos e]
        rcases hgs with rfl | ⟨rfl, e1, e2, e3⟩
        · have := gfn_mem q2.once hy
          rw [hyc] at this
          rw [this]; rfl
        · rw [e3, e1, e2]; rfl
      · rw [if_neg e, if_neg e]
        rcases hgs with rfl | ⟨rfl, e1, e2, e3⟩
        · rfl
        · unfold gfn
          rw [List.find?_append]
          have : [y].find? (fun z => z.ck == c) = none := by
            rw [List.find?_eq_none]
            intro z hz
            simp at hz; subst hz
            rw [hyc]; simpa using fun h => e h.symm
          rw [this, Option.or_none]
    · have : (upG gs' y.ck (sumE y.pk x.pk) (sumE y.bt x.bt)).length = gs'.length := by simp [upG]
      rw [this]
      rcases hgs with rfl | ⟨rfl, -⟩
      · omega
      · simp
  clear h1 h2 h hfit hpk hbt
  go_enter Tryz.func81, Tryz.ntmps81
  go_wp2_with (first
    | (go_at_call 122; refine (HG.out).mono ?_; rintro e w1 ⟨o1, gs', y, q0, rfl, q1, q2, q3, q4, q5⟩; obtain ⟨k1, k2⟩ := HS.out w1 o1 gs' y q0 q1 q2 q3 q4 q5; have HR := hid k1; have HY := hid k2; clear q0 q1 q2 q3 q4 q5 k1 k2 HG)
    | (refine ldMid 50 (.tmp 16) rfl rfl x.p 0 rfl #[.int .u64 x.pk, .int .u64 x.bt] _ Tryz.underlying50 rfl (sizeCnt _ _) HR.out ?_)
    | (refine callBd 36 (.tmp 12) [.tmp 17] _ [pv y.p] [.agg #[.int .u64 x.pk, .int .u64 x.bt]] rfl rfl rfl rfl entY _ HY.out ?_; rintro e w2 ⟨rfl, hlo⟩; refine Or.inl ⟨_, rfl, ?_⟩; have HLo := hid hlo; clear hlo HY))
  first | go_end0 | refine bodyPost_ret (results_none rfl _ _ _) rfl ?_
  exact HLo.out
theorem lose_any {S : Nat → Prop} (w : World) (g : Nat) (room ad : Int) (es : List Fe) (gs : List Ge) (h : Fl S w g room ad es gs) (hf : Fresh S w) (x : Fe) (hx : x ∈ es) (hl : gs.length < 2147483648) : Calls Tryz.prog 81 #[pv g, pv x.p] w (LoP S w g room ad es gs x) := by
  obtain ⟨o, h⟩ := h
  refine (lose_tag w g room ad es gs h hf x hx hl).mono ?_
  rintro e w' ⟨h1, h2, o', gs', -, h3, h4⟩
  exact ⟨h1, h2, gs', ⟨o', h3⟩, h4⟩
end Go.Proofs.YtdehlnaoehjehaaGreatDoor
