/-
  Proved here: the reader's method expect, and takes told apart; over: a term over some kids. Conditions: the reader stands at one of its words.
-/
/-
  Proved here: the reader's method joined: parts with a sign between, by whatever function reads a part. Conditions: the part's reading is told by its contract.
-/
import Derived.Test.YtoncogkamlgjhaaGreatDoorFB2
namespace Go.Proofs.YtoncogkamlgjhaaGreatDoor
set_option maxRecDepth 100000
open Go.RowKit
set_option maxRecDepth 100000

section
variable {l : List Wd} {r m : Nat} {ws : Value} {i : Nat} {W : World}
theorem takes_yes (h : RdM l r m ws i W) (hi : i < l.length) (hb : l.length ≤ 2147483648) {q : ByteArray} (ht : tk l i q = true) : Calls Tryz.prog 30 #[ptr r, .string q] W fun e W' => e = .returned (.bool true) ∧ Only (Rn r W) W W' ∧ RdM l r m ws (i + 1) W' := by
  refine (takes_any h hi hb q).mono ?_
  rintro e W' ⟨rfl, h1, h2⟩
  rw [ht, if_pos rfl] at h2
  exact ⟨by rw [ht], h1, h2⟩
theorem takes_no (h : RdM l r m ws i W) (hi : i < l.length) (hb : l.length ≤ 2147483648) {q : ByteArray} (ht : tk l i q = false) : Calls Tryz.prog 30 #[ptr r, .string q] W fun e W' => e = .returned (.bool false) ∧ Only (Rn r W) W W' ∧ RdM l r m ws i W' := by
  refine (takes_any h hi hb q).mono ?_
  rintro e W' ⟨rfl, h1, h2⟩
  rw [ht, if_neg (by decide)] at h2
  exact ⟨by rw [ht], h1, h2⟩
theorem exp_yes (h : RdM l r m ws i W) (hi : i < l.length) (hb : l.length ≤ 2147483648) {q : ByteArray} (ht : tk l i q = true) : Calls Tryz.prog 32 #[ptr r, .string q] W fun e W' => e = .returned (.tuple #[]) ∧ Only (Rn r W) W W' ∧ RdM l r m ws (i + 1) W' := by
  have HT := hid (takes_yes h hi hb ht)
  clear ht h hi
  go_enter Tryz.func32, Tryz.ntmps32
  go_wp2_with (first
    | (go_at_call 30; refine (HT.out).mono ?_; rintro e w' ⟨rfl, h1, h2⟩; have H1 := hid (And.intro h1 h2); clear h1 h2)
    | (go_at_call 34; refine (must_true _).mono ?_; rintro e w'' ⟨rfl, hw⟩; rw [hw]; clear hw w''))
  first | go_end0 | refine bodyPost_ret (results_none rfl _ _ _) rfl ?_
  exact ⟨rfl, H1.out.1, H1.out.2⟩
theorem exp_no (h : RdM l r m ws i W) (hi : i < l.length) (hb : l.length ≤ 2147483648) {q : ByteArray} (ht : tk l i q = false) : Calls Tryz.prog 32 #[ptr r, .string q] W fun e W' => e = .panicked PC ∧ Only (Rn r W) W W' ∧ RdM l r m ws i W' := by
  have HT := hid (takes_no h hi hb ht)
  clear ht h hi
  go_enter Tryz.func32, Tryz.ntmps32
  go_wp2_with (first
    | (go_at_call 30; refine (HT.out).mono ?_; rintro e w' ⟨rfl, h1, h2⟩; have H1 := hid (And.intro h1 h2); clear h1 h2)
    | (go_at_call 34; refine (must_false _).mono ?_; rintro e w'' ⟨rfl, hw⟩; rw [hw]; clear hw w''))
  exact ⟨rfl, rfl, H1.out.1, H1.out.2⟩
end
theorem run_bt03 (op : Int) (ao : Option Addr) (n c : Nat) (W : World) : (Instr.build 26 #[(0, .int .i8 op), (3, .slice ao n c)]).run Tryz.prog W = .ok (.agg #[.int .i8 op, .int .i8 0, .int .u64 0, .slice ao n c]) W := by kernel_rfl
/-- a term's answer -/
theorem res_tm {fn : Func} {p : Tmp} (h : fn.results = #[.cell p 26]) (tmps : Array Value) (w : World) (g : Nat) (cs : Array Value) (hs : (Tryz.prog.info? 26).map (·.size) = some cs.size)
    (hp : tmps.getD p undef = .pointer (some ⟨g, 0, none⟩)) (hg : w.heap[g]? = some (.cells cs 26 (0, 0))) : (results fn tmps).run Tryz.prog w = .ok (.agg cs) w :=
  results_cell_row h tmps w g 26 cs (0, 0) _ hp hg Tryz.underlying26 rfl hs
theorem over_any (op : Nat) (ao : Option Addr) (n c : Nat) (W : World) : Calls Tryz.prog 83 #[.int .i8 ((op : Nat) : Int), .slice ao n c] W fun e W' => e = .returned (.agg (tmc op 0 0 (.slice ao n c))) ∧ Below W.heap.size W W' := by
  have hbt := fun W => run_bt03 ((op : Nat) : Int) ao n c W
  go_enter Tryz.func83, Tryz.ntmps83
  go_wp2
  exact bodyPost_ret (v := .agg (tmc op 0 0 (.slice ao n c))) (res_tm Tryz.results83 _ _ W.heap.size _ rfl rfl (heap_alloc_new _ _)) rfl ⟨rfl, (Below.refl _ _).alloc (Nat.le_refl _) _⟩
end Go.Proofs.YtoncogkamlgjhaaGreatDoor
namespace Go.Proofs.YtoncogkamlgjhaaGreatDoor
set_option maxRecDepth 100000
open Go.RowKit
set_option maxRecDepth 100000

/-- What a reading call leaves. -/
def RdP (l : List Wd) (r m : Nat) (ws : Value) (R : Rd Tm) (w : World) (e : Ending) (w' : World) : Prop :=
  Only (Rn r w) w w' ∧ match R with
  | .bad j => e = .panicked PC ∧ RdM l r m ws j w'
  | .ok t j => ∃ cs, e = .returned (.agg cs) ∧ RdM l r m ws j w' ∧ TmV (fun b => w.heap.size ≤ b) w' t cs
section
variable {l : List Wd} {r m : Nat} {ws : Value} {w w' : World} {e : Ending}
theorem RdP.isBad {j : Nat} (h : RdP l r m ws (.bad j) w e w') : e = .panicked PC ∧ Only (Rn r w) w w' ∧ RdM l r m ws j w' := ⟨h.2.1, h.1, h.2.2⟩
theorem RdP.isOk {t : Tm} {j : Nat} (h : RdP l r m ws (.ok t j) w e w') : ∃ cs, e = .returned (.agg cs) ∧ Only (Rn r w) w w' ∧ RdM l r m ws j w' ∧ TmV (fun b => w.heap.size ≤ b) w' t cs := by
  obtain ⟨h1, cs, h2, h3, h4⟩ := h
  exact ⟨cs, h2, h1, h3, h4⟩
end
section
variable {ops : Array Oper} {rest : List Oper} {o : Oper} {a : Act} {w : World} {Q : Exit → Act → World → Prop}
/-- A call of a function value with all that it has, in a walk. -/
theorem callF (f : FuncId) (y : Operand) (ts : Array TypeId) (fi ca A : Array Value) (hop : o.op = .call { callee := .value y, args := #[], argTypes := ts }) (hw : Region.wanted o (yielded ops a.tmps) = true) (hy : a.eval y = .func (.func f) fi ca) (hA : fi ++ ca = A)
    (hE : ∀ w, (callFunc f A).run Tryz.prog w = .ok (.enter f A) w) (Φ : Ending → World → Prop) (hC : Calls Tryz.prog f A w Φ) (hK : ∀ e w', Φ e w' → (∃ v, e = .returned v ∧ wpList Tryz.prog ops Q rest (a.put o.dst v) w') ∨ ∃ ch, e = .panicked ch ∧ Q (.panic ch) a w') : wpList Tryz.prog ops Q (o :: rest) a w := by
  have hrun : (execOp a.eval o).run Tryz.prog w = .ok (.enter f A) w := by
    unfold execOp
    simp only [hop, resolve, invoke, Deferred.ofValue, hy, Sem.run_bind, Sem.run_pure, Result.andThen_ok, List.map_toArray, List.map_nil, Array.append_empty, hA, hE]
  unfold wpList
  rw [if_pos hw]
  refine Or.inl ?_
  show Oper.upon Tryz.prog o a _ Q ((execOp a.eval o).run Tryz.prog w)
  rw [hrun, Oper.upon_enter]
  refine hC.mono ?_
  intro e w' h
  rcases hK e w' h with ⟨v, rfl, hk⟩ | ⟨ch, rfl, hk⟩
  · exact hk
  · exact hk
end
/-- where a reader is, by its memory -/
def rAt (r : Nat) (w : World) : Nat := match w.cell? ⟨r, 1, none⟩ with | some (.int _ n) => n.toNat | _ => 0
theorem RdM.rAt {l : List Wd} {r m : Nat} {ws : Value} {i : Nat} {W : World} (h : RdM l r m ws i W) : rAt r W = i := by unfold YtoncogkamlgjhaaGreatDoor.rAt; rw [h.c1]; simp
/-- how a part is read -/
structure Pf (fv : Value) (f : FuncId) (fi ca A : Array Value) : Prop where
  fv : fv = .func (.func f) fi ca
  eq : fi ++ ca = A
  ent : ∀ w, (callFunc f A).run Tryz.prog w = .ok (.enter f A) w
/-- parts that were read, in a slice of one's own -/
structure JnS (W : World) (l : List Wd) (r m : Nat) (ws : Value) (K : World → Prop) (acc : List Tm) (v : Value) (j : Nat) (wr : World) : Prop where
  only : Only (Rn r W) W wr
  rd : RdM l r m ws j wr
  res : wr.heap[W.heap.size]? = some (.cells (tmc 0 0 0 nilS) 26 (0, 0))
  ks : ∃ xs, Rw (fun b => W.heap.size < b) 4 26 wr v acc.length xs ∧ TmL (fun b => W.heap.size < b ∧ v.ownBlock ≠ some b) wr acc xs
  k : K wr
theorem JnS.on {W : World} {l : List Wd} {r m : Nat} {ws : Value} {K : World → Prop} {acc : List Tm} {v : Value} {j j' : Nat} {wr w' : World} (hK : ∀ w w', K w → Only (Rn r W) w w' → K w') (h : JnS W l r m ws K acc v j wr) (hlt : r < W.heap.size) (ho : Only (Rn r wr) wr w') (hr : RdM l r m ws j' w') : JnS W l r m ws K acc v j' w' := by
  have hs := h.only.size
  have hlt2 := (Array.getElem?_eq_some_iff.1 h.res).1
  have ho2 : Only (Rn r W) wr w' := ho.mono fun x hx => by rcases hx with e | e; exact Or.inl e; exact Or.inr (by omega)
  obtain ⟨xs, h1, h2⟩ := h.ks
  have hc : ∀ b, b < wr.heap.size → W.heap.size < b → w'.heap[b]? = wr.heap[b]? := fun b hb hS => ho.block b (by rintro (e | e) <;> omega)
  exact ⟨h.only.thn ho, hr, (ho.block _ (by rintro (e | e) <;> omega)).trans h.res, ⟨xs, h1.carry fun b hb hS => ⟨hS, hc b hb hS⟩, TmL.carry (fun b hb hS => ⟨hS, hc b hb hS.1⟩) _ _ h2⟩, hK _ _ h.k ho2⟩
end Go.Proofs.YtoncogkamlgjhaaGreatDoor
