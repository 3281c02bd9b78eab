/-
  Proved here: a datagram's change, in its row. Conditions: the datagram's cells are there; the number is not below nothing.
-/
import Derived.Test.YthgkmbdnkamcoaaF3
namespace Go.Proofs.Ythgkmbdnkamcoaa
open Go.RowKit

set_option maxHeartbeats 800000 in
set_option maxRecDepth 100000 in
theorem change_any (w : World) (b off : Nat) (u : Value) (d : Dg) (k : Int) (ua : Option Addr) (uc : Nat) (hu : u = .slice ua d.b.length uc) (h0 : w.cell? ⟨b, off, none⟩ = some u) (h1 : w.cell? ⟨b, off + 1, none⟩ = some (.bool d.ch)) (h2 : w.cell? ⟨b, off + 2, none⟩ = some (.int .i64 (d.pl : Nat))) (hz : ∀ j, w.frozen? ⟨b, j, none⟩ = false) (hk : 0 ≤ k) (_hl : d.b.length ≤ 140737488355328) :
    Calls Try.prog 24 #[.pointer (some ⟨b, off, none⟩), .int .i64 k] w fun e w' => e = .returned (.tuple #[]) ∧ ((chg d k = d ∧ w' = w) ∨ (d.ch = false ∧ d.b.length ≠ 0 ∧ w' = (w.setCell ⟨b, off + 1, none⟩ (.bool true)).setCell ⟨b, off + 2, none⟩ (.int .i64 ((chg d k).pl : Nat)))) := by
  subst hu
  have z1 := hz (off + 1)
  have z2 := hz (off + 2)
  cases hc : d.ch with
  | true =>
    have hh : Hid (chg d k = d) := by show chg d k = d; unfold chg; rw [if_pos (Or.inl hc)]
    rw [hc] at h1
    go_enter Try.func24, Try.ntmps24
    go_wp2
    first | go_end0 | refine bodyPost_ret (results_none rfl _ _ _) rfl ?_
    exact ⟨rfl, Or.inl ⟨hh.out, rfl⟩⟩
  | false =>
    rw [hc] at h1
    by_cases hn : d.b.length = 0
    · have hh : Hid (chg d k = d) := by show chg d k = d; unfold chg; rw [if_pos (Or.inr hn)]
      have hq : ((d.b.length : Int) == 0) = true := by rw [hn]; rfl
      clear hn
      go_enter Try.func24, Try.ntmps24
      go_wp2
      first | go_end0 | refine bodyPost_ret (results_none rfl _ _ _) rfl ?_
      exact ⟨rfl, Or.inl ⟨hh.out, rfl⟩⟩
    · have hq : ((d.b.length : Int) == 0) = false := beq_eq_false_iff_ne.2 (by omega)
      have hpl : (chg d k).pl = (k.tmod d.b.length).toNat := by unfold chg; rw [if_neg (by simp [hc]; intro e; rw [e] at hn; simp at hn)]
      have hnn := Int.tmod_nonneg (d.b.length : Int) hk
      have HP : Hid (((chg d k).pl : Nat) = k.tmod d.b.length) := by show ((chg d k).pl : Int) = _; rw [hpl]; omega
      have HN := hid hn
      have hq' : ¬ (d.b.length : Int) = 0 := by omega
      clear hpl hn
      go_enter Try.func24, Try.ntmps24
      go_wp2
      first | go_end0 | refine bodyPost_ret (results_none rfl _ _ _) rfl ?_
      refine ⟨rfl, Or.inr ⟨(by first | trivial | rfl), HN.out, ?_⟩⟩
      rw [HP.out, Int.tmod_eq_emod_of_nonneg hk]

/-- change, as a step of a region that draws its order. -/
theorem stepChange {ops : Array Oper} {o : Oper} {a : Act} {w : World} {K : Act → World → Prop} {Q : Exit → Act → World → Prop} {E : Prop} (x y : Operand) (hop : o.op = .call { callee := .value (.func 24), args := #[x, y], argTypes := #[50, 3] }) (hg : o.guard = none)
    (b off : Nat) (u : Value) (d : Dg) (k : Int) (ua : Option Addr) (uc : Nat) (hx : a.eval x = .pointer (some ⟨b, off, none⟩)) (hy : a.eval y = .int .i64 k) (hu : u = .slice ua d.b.length uc) (h0 : w.cell? ⟨b, off, none⟩ = some u) (h1 : w.cell? ⟨b, off + 1, none⟩ = some (.bool d.ch)) (h2 : w.cell? ⟨b, off + 2, none⟩ = some (.int .i64 (d.pl : Nat))) (hz : ∀ j, w.frozen? ⟨b, j, none⟩ = false) (hk : 0 ≤ k) (hl : d.b.length ≤ 140737488355328)
    (hK : ∀ w', ((chg d k = d ∧ w' = w) ∨ (d.ch = false ∧ d.b.length ≠ 0 ∧ w' = (w.setCell ⟨b, off + 1, none⟩ (.bool true)).setCell ⟨b, off + 2, none⟩ (.int .i64 ((chg d k).pl : Nat)))) → K (a.put o.dst (.tuple #[])) w') : if Region.wanted o (yielded ops a.tmps) = true then Oper.wp Try.prog o a w K Q else E := by
  have hw : Region.wanted o (yielded ops a.tmps) = true := by simp [Region.wanted, hg]
  rw [if_pos hw]
  have hfn : a.eval (.func 24) = .func (.func 24) #[] #[] := rfl
  have hrun : (execOp a.eval o).run Try.prog w = .ok (.enter 24 #[.pointer (some ⟨b, off, none⟩), .int .i64 k]) w := by
    unfold execOp
    simp only [hop, resolve, invoke, Deferred.ofValue, hfn, callFunc, Sem.run_bind, Sem.run_pure, Result.andThen_ok, List.map_toArray, List.map_cons, List.map_nil, hx, hy]
    rfl
  show Oper.upon Try.prog o a K Q ((execOp a.eval o).run Try.prog w)
  rw [hrun, Oper.upon_enter]
  refine (change_any w b off u d k ua uc hu h0 h1 h2 hz hk hl).mono ?_
  rintro r w' ⟨rfl, h⟩
  exact hK w' h
/-- A datagram of the row is changed. -/
theorem chg_fin {S : Nat → Prop} {f : Nat → Nat} {w w' : World} {g b o cap : Nat} {vc : Value} {ps qs : List (Value × Dg)} {cur : Array Value} (h : ARf S f w g (.slice (some ⟨b, o, none⟩) ps.length cap) vc ps qs) (hb2 : w.heap[b]? = some (.cells cur 50 (0, 0))) (hb3 : ps.length ≤ cap) (hb4 : o + cap * 3 ≤ cur.size) (hb5 : (cur.toList.drop o).take (ps.length * 3) = c3s ps) (p : Nat) (hp : p < ps.length) (k : Int) (hk : 0 ≤ k)
    (hw : (chg ps[p].2 k = ps[p].2 ∧ w' = w) ∨ (ps[p].2.ch = false ∧ ps[p].2.b.length ≠ 0 ∧ w' = (w.setCell ⟨b, o + p * 3 + 1, none⟩ (.bool true)).setCell ⟨b, o + p * 3 + 2, none⟩ (.int .i64 ((chg ps[p].2 k).pl : Nat)))) :
    Only S w w' ∧ ARf S f w' g (.slice (some ⟨b, o, none⟩) ps.length cap) vc (ps.set p (ps[p].1, chg ps[p].2 k)) qs := by
  have hb1 : S b ∧ f b = 1 := h.row.own b rfl
  rcases hw with ⟨he, rfl⟩ | ⟨h0, hn, rfl⟩
  · have : (ps[p].1, chg ps[p].2 k) = ps[p] := by rw [he]
    rw [this, List.set_getElem_self]
    exact ⟨Only.refl _ _, h⟩
  · have hbg : b ≠ g := fun e => by have := hb1.2; have := h.fg; subst e; omega
    have hch : chg ps[p].2 k = ⟨ps[p].2.b, true, (chg ps[p].2 k).pl⟩ := by
      unfold chg
      rw [if_neg (by rw [h0]; simp; intro e; rw [e] at hn; simp at hn)]
    have e1 := heap_setCell_same w b (o + p * 3 + 1) cur 50 (.bool true) hb2
    have e2 := heap_setCell_same _ b (o + p * 3 + 2) _ 50 (.int .i64 ((chg ps[p].2 k).pl : Nat)) e1
    have oth : ∀ i, i ≠ b → ((w.setCell ⟨b, o + p * 3 + 1, none⟩ (.bool true)).setCell ⟨b, o + p * 3 + 2, none⟩ (.int .i64 ((chg ps[p].2 k).pl : Nat))).heap[i]? = w.heap[i]? := fun i hi => (heap_setCell_other _ ⟨b, o + p * 3 + 2, none⟩ i _ hi).trans (heap_setCell_other w ⟨b, o + p * 3 + 1, none⟩ i _ hi)
    have hc : ∀ i, i ≠ 1 → ∀ k', k' < w.heap.size → (S k' ∧ f k' = i) → (S k' ∧ f k' = i) ∧ ((w.setCell ⟨b, o + p * 3 + 1, none⟩ (.bool true)).setCell ⟨b, o + p * 3 + 2, none⟩ (.int .i64 ((chg ps[p].2 k).pl : Nat))).heap[k']? = w.heap[k']? := fun i hi k' _ hS => ⟨hS, oth k' fun e => by have := hb1.2; have := hS.2; subst e; omega⟩
    refine ⟨((Only.refl S w).setCell (p := ⟨b, o + p * 3 + 1, none⟩) hb1.1 _).setCell (p := ⟨b, o + p * 3 + 2, none⟩) hb1.1 _, h.sg, h.fg, (oth g (Ne.symm hbg)).trans h.hg, ⟨by rw [c3s_len], Or.inr ⟨b, o, cap, _, by rw [List.length_set], hb1, e2, by rw [List.length_set]; exact hb3, by simpa using hb4, ?_⟩⟩, h.came.carry (hc 2 (by omega)), ?_, h.pc.carry (hc 3 (by omega))⟩
    · apply List.ext_getElem?
      intro j
      rw [List.getElem?_take, List.length_set]
      by_cases hj : j < ps.length * 3
      · rw [if_pos hj, List.getElem?_drop, Array.getElem?_toList, Array.getElem?_setIfInBounds, Array.getElem?_setIfInBounds]
        have hdiv : j = j / 3 * 3 + j % 3 := by omega
        have hm : j % 3 < 3 := Nat.mod_lt _ (by omega)
        have hq : j / 3 < ps.length := by omega
        have hold : cur[o + j]? = (c3 ps[j / 3])[j % 3]? := by
          rw [cells_at hb5 hj]
          conv => lhs; rw [hdiv]
          exact c3s_at ps (j / 3) (j % 3) hq hm
        have hnew : (c3s (ps.set p (ps[p].1, chg ps[p].2 k)))[j]? = (c3 ((ps.set p (ps[p].1, chg ps[p].2 k))[j / 3]'(by simpa using hq)))[j % 3]? := by
          conv => lhs; rw [hdiv]
          exact c3s_at _ (j / 3) (j % 3) (by simpa using hq) hm
        rw [hnew, hold, List.getElem_set]
        by_cases hjp : p = j / 3
        · subst hjp
          rw [if_pos rfl]
          have h3 : j % 3 = 0 ∨ j % 3 = 1 ∨ j % 3 = 2 := by omega
          rcases h3 with h3 | h3 | h3
          · rw [if_neg (by omega), if_neg (by omega), h3]; rfl
          · rw [if_neg (by omega), if_pos (by omega), if_pos (by omega), h3, hch]; rfl
          · rw [if_pos (by omega), if_pos (by simp; omega), h3]; rfl
        · rw [if_neg (by omega), if_neg (by omega), if_neg hjp]
      · rw [if_neg hj, List.getElem?_eq_none]
        rw [c3s_len, List.length_set]; omega
    · intro q hq
      rcases List.mem_or_eq_of_mem_set hq with hq | rfl
      · exact h.pr.carry (hc 3 (by omega)) q hq
      · have := h.pr.carry (hc 3 (by omega)) _ (List.getElem_mem hp)
        have h2 := chg_ok this.2 k hk
        exact ⟨by rw [h2.2]; exact this.1, h2.1⟩
end Go.Proofs.Ythgkmbdnkamcoaa
