/-
  Proved here: isThere of package actions tells whether a port is one of the ports (its closure, slices.IndexFunc and slices.ContainsFunc with it); no old memory turns. No condition.
-/
import Derived.Test.YtejmobkfanejbaaDoorB2
namespace Go.Proofs.YtejmobkfanejbaaDoor
open Go.RowKit

section
variable {ops : Array Oper} {rest : List Oper} {o : Oper} {a : Act} {w : World} {Q : Exit → Act → World → Prop}
/-- A call of a closure, in a walk. -/
theorem callCl (f : FuncId) (y : Operand) (xs : List Operand) (ts : Array TypeId) (args caps : List Value) (hop : o.op = .call { callee := .value y, args := xs.toArray, argTypes := ts }) (hg : o.guard = none) (hy : a.eval y = .func (.func f) #[] caps.toArray) (hx : xs.map a.eval = args) (hE : ∀ (args : Array Value) w, (callFunc f args).run Tryd.prog w = .ok (.enter f args) w)
    (Φ : Ending → World → Prop) (hC : Calls Tryd.prog f (args ++ caps).toArray w Φ) (hK : ∀ e w', Φ e w' → (∃ v, e = .returned v ∧ wpList Tryd.prog ops Q rest (a.put o.dst v) w') ∨ ∃ ch, e = .panicked ch ∧ Q (.panic ch) a w') : wpList Tryd.prog ops Q (o :: rest) a w := by
  have hw : Region.wanted o (yielded ops a.tmps) = true := by simp [Region.wanted, hg]
  have hrun : (execOp a.eval o).run Tryd.prog w = .ok (.enter f (args ++ caps).toArray) w := by
    unfold execOp
    simp only [hop, resolve, invoke, Deferred.ofValue, hy, Sem.run_bind, Sem.run_pure, Result.andThen_ok, List.map_toArray, hx, List.append_toArray, List.nil_append, hE]
  unfold wpList
  rw [if_pos hw]
  refine Or.inl ?_
  show Oper.upon Tryd.prog o a _ Q ((execOp a.eval o).run Tryd.prog w)
  rw [hrun, Oper.upon_enter]
  refine hC.mono ?_
  intro e w' h
  rcases hK e w' h with ⟨v, rfl, hk⟩ | ⟨ch, rfl, hk⟩
  · exact hk
  · exact hk
end
/-- The closure. -/
abbrev clT (b : Nat) : Value := .func (.func 38) #[] #[.pointer (some ⟨b, 0, none⟩)]
theorem entT (args : Array Value) (w : World) : (callFunc 38 args).run Tryd.prog w = .ok (.enter 38 args) w := rfl
theorem there1_any (p : Int) (hp : 0 ≤ p ∧ p < 65536) (b : Nat) (x : Int) (w : World) (hb : w.cell? ⟨b, 0, none⟩ = some (.int .u64 x)) :
    Calls Tryd.prog 38 #[.int .u16 p, .pointer (some ⟨b, 0, none⟩)] w fun r w' => r = .returned (.bool (p == x)) ∧ w' = w := by
  obtain ⟨h0, h1⟩ := hp
  go_enter Tryd.func38, Tryd.ntmps38
  go_wp2
  go_ret
  exact ⟨rfl, rfl⟩
theorem Pts.at {T : Nat → Prop} {w w' : World} {ao : Option Addr} {n cap : Nat} {l : List Int} (h : Pts T w (.slice ao n cap) l) (hb : Below w.heap.size w w') {j : Nat} (hj : j < l.length) : ∃ b o, ao = some ⟨b, o, none⟩ ∧ w'.cell? ⟨b, o + j, none⟩ = some (.int .u16 l[j]) ∧ 0 ≤ l[j] ∧ l[j] < 65536 := by
  obtain ⟨b, o, rfl, -, f0, hf⟩ := (Pts.on h hb).cell j hj
  simp only [Nat.add_zero, Nat.mul_one] at f0
  exact ⟨b, o, rfl, f0, hf⟩
theorem here_yes {ps : List Int} {x : Int} {k : Nat} (hk : k < ps.length) (h : (ps[k] == x) = true) : here ps x = true := by
  unfold here
  rw [List.any_eq_true]
  exact ⟨ps[k], List.getElem_mem hk, h⟩
theorem here_one (l : List Int) (p x : Int) : here (l ++ [p]) x = (here l x || p == x) := by simp [here]
set_option maxHeartbeats 1600000 in
set_option maxRecDepth 100000 in
theorem idxF_any {T : Nat → Prop} {w : World} {v : Value} {ps : List Int} (h : Pts T w v ps) (b : Nat) (x : Int) (hb : w.cell? ⟨b, 0, none⟩ = some (.int .u64 x)) :
    Calls Tryd.prog 39 #[v, clT b] w fun e w' => (∃ r : Int, e = .returned (.int .i64 r) ∧ decide (0 ≤ r) = here ps x) ∧ w' = w := by
  obtain ⟨ao, cap, rfl, hcap⟩ := h.form
  have hlen := h.len
  have H := hid h
  have HB := hid hb
  clear h hb
  go_enter Tryd.func39, Tryd.ntmps39
  go_upto_region 2 with fail
  go_loop [5, 8] (fun _ i => ∃ q : Nat, q ≤ ps.length ∧ i = .int .i64 q ∧ here (ps.take q) x = false) (fun _ i => ps.length - (intOf i).toNat)
  case atStart => exact ⟨0, by omega, rfl, by simp [here]⟩
  case round =>
    obtain ⟨q, hq, rfl, hno⟩ := hrel
    have HN := hid hno
    clear hno
    by_cases hlt : q < ps.length
    · have hql : decide ((q : Int) < (ps.length : Int)) = true := decide_eq_true (by omega)
      obtain ⟨g, o, rfl, d0, p0, p1⟩ := H.out.at (Below.refl _ _) hlt
      have HC := hid (there1_any ps[q] ⟨p0, p1⟩ b x w HB.out)
      have HY : Hid ((ps[q] == x) = true → here ps x = true) := fun h' => here_yes hlt h'
      have HZ : Hid ((ps[q] == x) = false → here (ps.take (q + 1)) x = false) := fun h' => by rw [take_one' ps q hlt, here_one, HN.out, h']; rfl
      have hw1 : IntKind.i64.wrap ((q : Int) + 1) = (q : Int) + 1 := by rw [IntKind.wrap_i64]; omega
      clear HN
      generalize ps[q] = p at d0 p0 p1 HC HY HZ
      cases hc : (p == x)
      · rw [hc] at HC
        go_wp2_with (refine callCl 38 (.tmp 11) [.tmp 15] _ [.int .u16 p] [.pointer (some ⟨b, 0, none⟩)] rfl rfl rfl rfl entT _ HC.out ?_; rintro r w5 ⟨rfl, rfl⟩; refine Or.inl ⟨_, rfl, ?_⟩; clear HC)
        go_round
        case rel => exact ⟨q + 1, by omega, by go_num, HZ.out hc⟩
        case measure => simp [intOf]; omega
      · rw [hc] at HC
        have HF := hid (HY.out hc)
        go_wp2_with (refine callCl 38 (.tmp 11) [.tmp 15] _ [.int .u16 p] [.pointer (some ⟨b, 0, none⟩)] rfl rfl rfl rfl entT _ HC.out ?_; rintro r w5 ⟨rfl, rfl⟩; refine Or.inl ⟨_, rfl, ?_⟩; clear HC)
        go_ret
        exact ⟨⟨_, rfl, by rw [HF.out]; simp⟩, rfl⟩
    · obtain rfl : q = ps.length := by omega
      have HF : Hid (here ps x = false) := by have := HN.out; rw [List.take_length] at this; exact this
      have hql : decide ((ps.length : Int) < (ps.length : Int)) = false := by simp
      go_wp2
      go_ret
      exact ⟨⟨_, rfl, by rw [HF.out]; rfl⟩, rfl⟩
theorem conF_any {T : Nat → Prop} {w : World} {v : Value} {ps : List Int} (h : Pts T w v ps) (b : Nat) (x : Int) (hb : w.cell? ⟨b, 0, none⟩ = some (.int .u64 x)) :
    Calls Tryd.prog 37 #[v, clT b] w fun e w' => e = .returned (.bool (here ps x)) ∧ w' = w := by
  have HC := hid (idxF_any h b x hb)
  generalize here ps x = r at HC
  obtain ⟨ao, cap, rfl, -⟩ := h.form
  clear h hb
  go_enter Tryd.func37, Tryd.ntmps37
  go_wp2_with (go_at_call 39; refine (HC.out).mono ?_; rintro e w' ⟨⟨r', rfl, hr⟩, rfl⟩; clear HC)
  go_ret
  exact ⟨by rw [← hr]; rfl, rfl⟩
theorem isThere_any {T : Nat → Prop} {w : World} {v : Value} {ps : List Int} (h : Pts T w v ps) (x : Int) :
    Calls Tryd.prog 34 #[v, .int .u64 x] w fun e w' => e = .returned (.bool (here ps x)) ∧ Below w.heap.size w w' := by
  obtain ⟨W0, hW0⟩ : ∃ W0, W0 = w.alloc (.cells #[.int .u64 x] 22) := ⟨_, rfl⟩
  have hB0 : Below w.heap.size w W0 := by rw [hW0]; exact (Below.refl _ _).alloc (Nat.le_refl _) _
  have hG0 : W0.heap[w.heap.size]? = some (.cells #[.int .u64 x] 22 (0, 0)) := by rw [hW0]; exact heap_alloc_new _ _
  have HC := hid (conF_any (Pts.on h hB0) w.heap.size x (by rw [cell_of_row _ _ _ _ _ _ hG0]; rfl))
  have HB0 := hid hB0
  have HW0 := hid hW0
  clear hB0 hG0 hW0
  obtain ⟨ao, cap, rfl, -⟩ := h.form
  generalize here ps x = r at HC
  clear h
  go_enter Tryd.func34, Tryd.ntmps34
  go_upto_region 1 with fail
  rw [← HW0.out]
  clear HW0
  go_wp2_with (go_at_call 37; refine (HC.out).mono ?_; rintro e w' ⟨rfl, rfl⟩; clear HC)
  go_ret
  exact ⟨rfl, HB0.out⟩
end Go.Proofs.YtejmobkfanejbaaDoor
