/-
  Proved here: isDigit, isHexDigit, isNameByte, isBlank, hexValue of package scan tell what bytes are; no memory turns. No condition.
-/
/-
  Proved here: hexValue, runEnd, number, wrong, hasNeedlessZero of package scan; no old memory turns. Conditions: runEnd's place is within the text.
-/
import Derived.Test.YtoncogkamlgjhaaGreatDoorFJ3
import Derived.Test.YtoncogkamlgjhaaGreatDoorFX0
import Derived.Laws.Append
namespace Go.Proofs.YtoncogkamlgjhaaGreatDoor
set_option maxRecDepth 100000
open Go.RowKit

set_option maxRecDepth 100000
theorem isDigit_any (c : Nat) (w : World) : Calls Tryz.prog 76 #[.int .u8 c] w fun e w' => e = .returned (.bool (isD c)) ∧ w' = w := by
  by_cases h1 : 48 ≤ c
  · by_cases h2 : c ≤ 57
    · have g1 : decide ((48 : Int) ≤ (c : Int)) = true := by simp; omega
      have g2 : decide ((c : Int) ≤ (57 : Int)) = true := by simp; omega
      have hr : isD c = true := by simp [isD, h1, h2]
      rw [hr]
      go_enter Tryz.func76, Tryz.ntmps76
      go_wp2
      go_ret
      exact ⟨rfl, rfl⟩
    · have g1 : decide ((48 : Int) ≤ (c : Int)) = true := by simp; omega
      have g2 : decide ((c : Int) ≤ (57 : Int)) = false := by simp; omega
      have hr : isD c = false := by simp [isD, h1, h2]
      rw [hr]
      go_enter Tryz.func76, Tryz.ntmps76
      go_wp2
      go_ret
      exact ⟨rfl, rfl⟩
  · have g1 : decide ((48 : Int) ≤ (c : Int)) = false := by simp; omega
    have hr : isD c = false := by simp [isD, h1]
    rw [hr]
    go_enter Tryz.func76, Tryz.ntmps76
    go_wp2
    go_ret
    exact ⟨rfl, rfl⟩
theorem isHexDigit_any (c : Nat) (w : World) : Calls Tryz.prog 50 #[.int .u8 c] w fun e w' => e = .returned (.bool (isH c)) ∧ w' = w := by
  have HD := hid (isDigit_any c w)
  have hr : isH c = (isD c || (decide ((97 : Int) ≤ (c : Int)) && decide ((c : Int) ≤ (102 : Int))) || (decide ((65 : Int) ≤ (c : Int)) && decide ((c : Int) ≤ (70 : Int)))) := by
    rw [Bool.eq_iff_iff, isH_iff]; simp [isD]; omega
  rw [hr]; clear hr
  cases h0 : isD c <;> cases h1 : decide ((97 : Int) ≤ (c : Int)) <;> cases h2 : decide ((c : Int) ≤ (102 : Int)) <;> cases h3 : decide ((65 : Int) ≤ (c : Int)) <;> cases h4 : decide ((c : Int) ≤ (70 : Int)) <;>
    (go_enter Tryz.func50, Tryz.ntmps50
     go_wp2_with (go_at_call 76; refine (HD.out).mono ?_; rintro e w' ⟨rfl, rfl⟩)
     go_ret
     exact ⟨rfl, rfl⟩)
theorem isNameByte_any (c : Nat) (w : World) : Calls Tryz.prog 52 #[.int .u8 c] w fun e w' => e = .returned (.bool (isN c)) ∧ w' = w := by
  have HD := hid (isDigit_any c w)
  have hr : isN c = (isD c || (decide ((97 : Int) ≤ (c : Int)) && decide ((c : Int) ≤ (122 : Int))) || (decide ((65 : Int) ≤ (c : Int)) && decide ((c : Int) ≤ (90 : Int))) || ((c : Int) == 95)) := by
    rw [Bool.eq_iff_iff, isN_iff]; simp [isD]; omega
  rw [hr]; clear hr
  cases h0 : isD c <;> cases h1 : decide ((97 : Int) ≤ (c : Int)) <;> cases h2 : decide ((c : Int) ≤ (122 : Int)) <;> cases h3 : decide ((65 : Int) ≤ (c : Int)) <;> cases h4 : decide ((c : Int) ≤ (90 : Int)) <;>
    (go_enter Tryz.func52, Tryz.ntmps52
     go_wp2_with (go_at_call 76; refine (HD.out).mono ?_; rintro e w' ⟨rfl, rfl⟩)
     go_ret
     exact ⟨rfl, rfl⟩)
theorem isBlank_any (c : Nat) (w : World) : Calls Tryz.prog 27 #[.int .i32 c] w fun e w' => e = .returned (.bool (blk c)) ∧ w' = w := by
  have hr : blk c = (((c : Int) == 32) || ((c : Int) == 9) || ((c : Int) == 10) || ((c : Int) == 13)) := by
    rw [Bool.eq_iff_iff, blk_iff]; simp; omega
  rw [hr]; clear hr
  cases h1 : ((c : Int) == 32) <;> cases h2 : ((c : Int) == 9) <;> cases h3 : ((c : Int) == 10) <;> cases h4 : ((c : Int) == 13) <;>
    (go_enter Tryz.func27, Tryz.ntmps27
     go_wp2
     go_ret
     exact ⟨rfl, rfl⟩)
end Go.Proofs.YtoncogkamlgjhaaGreatDoor
namespace Go.Proofs.YtoncogkamlgjhaaGreatDoor
set_option maxRecDepth 100000
open Go.RowKit
set_option maxRecDepth 100000

section
variable {ops : Array Oper} {rest : List Oper} {o : Oper} {a : Act} {w : World} {Q : Exit → Act → World → Prop}
/-- A call of a function value, in a walk. -/
theorem callC (f : FuncId) (y : Operand) (xs : List Operand) (ts : Array TypeId) (args caps : List Value) (hop : o.op = .call { callee := .value y, args := xs.toArray, argTypes := ts }) (hw : Region.wanted o (yielded ops a.tmps) = true) (hy : a.eval y = .func (.func f) #[] caps.toArray) (hx : xs.map a.eval = args) (hE : ∀ (args : Array Value) w, (callFunc f args).run Tryz.prog w = .ok (.enter f args) w)
    (Φ : Ending → World → Prop) (hC : Calls Tryz.prog f (args ++ caps).toArray w Φ) (hK : ∀ e w', Φ e w' → (∃ v, e = .returned v ∧ wpList Tryz.prog ops Q rest (a.put o.dst v) w') ∨ ∃ ch, e = .panicked ch ∧ Q (.panic ch) a w') : wpList Tryz.prog ops Q (o :: rest) a w := by
  have hrun : (execOp a.eval o).run Tryz.prog w = .ok (.enter f (args ++ caps).toArray) w := by
    unfold execOp
    simp only [hop, resolve, invoke, Deferred.ofValue, hy, Sem.run_bind, Sem.run_pure, Result.andThen_ok, List.map_toArray, hx, List.append_toArray, List.nil_append, hE]
  unfold wpList
  rw [if_pos hw]
  refine Or.inl ?_
  show Oper.upon Tryz.prog o a _ Q ((execOp a.eval o).run Tryz.prog w)
  rw [hrun, Oper.upon_enter]
  refine hC.mono ?_
  intro e w' h
  rcases hK e w' h with ⟨v, rfl, hk⟩ | ⟨ch, rfl, hk⟩
  · exact hk
  · exact hk
end
theorem run_bt (s : ByteArray) (k : Nat) (h : k < s.size) (W : World) : (Instr.index 9 (.string s) (.int .i64 (k : Int))).run Tryz.prog W = .ok (.int .u8 ((bt s k : Nat) : Int)) W := by
  rw [run_index_string W 9 s .i64 k Tryz.underlying9, dif_pos (by omega), bt_in h]; rfl
theorem hexValue_any (c : Nat) (h : isH c = true) (w : World) : Calls Tryz.prog 69 #[.int .u8 c] w fun e w' => e = .returned (.int .u64 ((hv c : Nat) : Int)) ∧ w' = w := by
  rw [isH_iff] at h
  by_cases h1 : 97 ≤ c
  · have g1 : decide ((97 : Int) ≤ (c : Int)) = true := by simp; omega
    have g2 : IntKind.u8.wrap ((c : Int) - 97) = (c : Int) - 97 := by rw [IntKind.wrap_u8]; omega
    have g3 : IntKind.u64.wrap ((c : Int) - 97) = (c : Int) - 97 := by rw [IntKind.wrap_u64]; omega
    have g4 : IntKind.u64.wrap ((c : Int) - 97 + 10) = (c : Int) - 97 + 10 := by rw [IntKind.wrap_u64]; omega
    have hr : ((hv c : Nat) : Int) = (c : Int) - 97 + 10 := by unfold hv; rw [if_pos h1]; omega
    rw [hr]; clear hr h h1
    go_enter Tryz.func69, Tryz.ntmps69
    go_wp2
    go_ret
    exact ⟨rfl, rfl⟩
  · by_cases h2 : 65 ≤ c
    · have g1 : decide ((97 : Int) ≤ (c : Int)) = false := by simp; omega
      have g5 : decide ((65 : Int) ≤ (c : Int)) = true := by simp; omega
      have g2 : IntKind.u8.wrap ((c : Int) - 65) = (c : Int) - 65 := by rw [IntKind.wrap_u8]; omega
      have g3 : IntKind.u64.wrap ((c : Int) - 65) = (c : Int) - 65 := by rw [IntKind.wrap_u64]; omega
      have g4 : IntKind.u64.wrap ((c : Int) - 65 + 10) = (c : Int) - 65 + 10 := by rw [IntKind.wrap_u64]; omega
      have hr : ((hv c : Nat) : Int) = (c : Int) - 65 + 10 := by unfold hv; rw [if_neg h1, if_pos h2]; omega
      rw [hr]; clear hr h h1 h2
      go_enter Tryz.func69, Tryz.ntmps69
      go_wp2
      go_ret
      exact ⟨rfl, rfl⟩
    · have g1 : decide ((97 : Int) ≤ (c : Int)) = false := by simp; omega
      have g5 : decide ((65 : Int) ≤ (c : Int)) = false := by simp; omega
      have g2 : IntKind.u8.wrap ((c : Int) - 48) = (c : Int) - 48 := by rw [IntKind.wrap_u8]; omega
      have g3 : IntKind.u64.wrap ((c : Int) - 48) = (c : Int) - 48 := by rw [IntKind.wrap_u64]; omega
      have hr : ((hv c : Nat) : Int) = (c : Int) - 48 := by unfold hv; rw [if_neg h1, if_neg h2]; omega
      rw [hr]; clear hr h h1 h2
      go_enter Tryz.func69, Tryz.ntmps69
      go_wp2
      go_ret
      exact ⟨rfl, rfl⟩

/-- A function of the program tells whether a byte is one of p's. -/
def Tells (f : FuncId) (p : Nat → Bool) : Prop := (∀ (args : Array Value) w, (callFunc f args).run Tryz.prog w = .ok (.enter f args) w) ∧ p 256 = false ∧ ∀ (c : Nat) (w : World), Calls Tryz.prog f #[.int .u8 c] w fun e w' => e = .returned (.bool (p c)) ∧ w' = w
theorem tellsD : Tells 76 isD := ⟨fun _ _ => rfl, isD256, isDigit_any⟩
theorem tellsH : Tells 50 isH := ⟨fun _ _ => rfl, isH256, isHexDigit_any⟩
theorem tellsN : Tells 52 isN := ⟨fun _ _ => rfl, isN256, isNameByte_any⟩
abbrev fnV (f : FuncId) : Value := .func (.func f) #[] #[]
set_option maxHeartbeats 1600000 in
theorem runEnd_any {f : FuncId} {p : Nat → Bool} (hf : Tells f p) (s : ByteArray) (k : Nat) (hk : k ≤ s.size) (hs : s.size ≤ 9223372036854775806) (w : World) :
    Calls Tryz.prog 72 #[.string s, .int .i64 k, fnV f] w fun e w' => e = .returned (.int .i64 ((rE p s k : Nat) : Int)) ∧ w' = w := by
  obtain ⟨hE, hp, hC⟩ := hf
  go_enter Tryz.func72, Tryz.ntmps72
  go_upto_region 1 with fail
  go_loop [1] (fun v => ∃ j : Nat, v = .int .i64 j ∧ j ≤ s.size ∧ Hid (rE p s j = rE p s k)) (fun v => s.size - (intOf v).toNat)
  case atStart => exact ⟨k, rfl, hk, rfl⟩
  case round =>
    obtain ⟨j, rfl, hj, HR⟩ := hrel
    by_cases hl : j < s.size
    · have g1 : decide ((j : Int) < (s.size : Int)) = true := by simp; omega
      have hix := run_bt s j hl w
      have HC := hid (hC (bt s j) w)
      have hw1 : IntKind.i64.wrap ((j : Int) + 1) = (j : Int) + 1 := by rw [IntKind.wrap_i64]; omega
      have HE := hid hE
      cases hb : p (bt s j) with
      | true =>
        have HR2 : Hid (rE p s (j + 1) = rE p s k) := by rw [← HR.out]; exact (rE_on hp hb).symm
        rw [hb] at HC
        have HL := hid hl
        clear HR hC hE hp hb hl hk
        go_wp2_with (refine callC f (.tmp 12) [.tmp 15] _ [.int .u8 ((bt s j : Nat) : Int)] [] rfl rfl rfl rfl HE.out _ HC.out ?_; rintro r w5 ⟨rfl, rfl⟩; refine Or.inl ⟨_, rfl, ?_⟩; clear HC)
        go_round
        case rel => exact ⟨j + 1, by go_num, by have := HL.out; omega, HR2⟩
        case measure => have := HL.out; simp [intOf]; omega
      | false =>
        have HR2 : Hid (rE p s k = j) := by rw [← HR.out]; exact rE_end hb
        rw [hb] at HC
        clear HR hC hE hp hb hk
        go_wp2_with (refine callC f (.tmp 12) [.tmp 15] _ [.int .u8 ((bt s j : Nat) : Int)] [] rfl rfl rfl rfl HE.out _ HC.out ?_; rintro r w5 ⟨rfl, rfl⟩; refine Or.inl ⟨_, rfl, ?_⟩; clear HC)
        go_ret
        exact ⟨by rw [HR2.out]; rfl, rfl⟩
    · have g1 : decide ((j : Int) < (s.size : Int)) = false := by simp; omega
      have HR2 : Hid (rE p s k = j) := by rw [← HR.out]; exact rE_end (by rw [bt_out hl, hp])
      clear HR hC hE hp hk
      go_wp2
      go_ret
      exact ⟨by rw [HR2.out]; rfl, rfl⟩

/-- What is found, as a value. -/
abbrev fdc (f : Fd) : Array Value := #[.int .i8 ((f.k : Nat) : Int), .int .i64 ((f.e : Nat) : Int), .int .u64 ((f.n : Nat) : Int), .int .i64 ((f.c : Nat) : Int)]
theorem fd4 (f : Fd) : (Tryz.prog.info? 71).map (·.size) = some (fdc f).size := by kernel_rfl
theorem fd1 (f : Fd) : (fdc f).all (·.oneCell') = true := by simp [fdc, Value.oneCell']
/-- The answer of a function with what is found in a block, and a second one. -/
theorem results_ct {fn : Func} {p u : Tmp} (h : fn.results = #[.cell p 71, .tmp u]) (tmps : Array Value) (w : World) (g : Nat) (f : Fd)
    (hp : tmps.getD p undef = .pointer (some ⟨g, 0, none⟩)) (hg : w.heap[g]? = some (.cells (fdc f) 71 (0, 0))) :
    (results fn tmps).run Tryz.prog w = .ok (.tuple #[.agg (fdc f), tmps.getD u undef]) w := by
  rw [results_cell_tmp h, hp]
  simp [asAddr, Result.andThen, run_loadVar_row w g 71 71 (fdc f) (0, 0) _ hg Tryz.underlying71 rfl (fd4 f)]
/-- what a kind of numbers tells -/
abbrev kdV : Option Fd → Value
  | none => .tuple #[.agg (fdc ⟨0, 0, 0, 0⟩), .bool false]
  | some f => .tuple #[.agg (fdc f), .bool true]
theorem number_any (e n : Nat) (w : World) : Calls Tryz.prog 70 #[.int .i64 e, .int .u64 n] w fun r w' => r = .returned (kdV (some ⟨2, e, n, 0⟩)) ∧ Below w.heap.size w w' := by
  go_enter Tryz.func70, Tryz.ntmps70
  go_wp2
  exact bodyPost_ret (v := kdV (some ⟨2, e, n, 0⟩)) (results_ct Tryz.results70 _ _ w.heap.size ⟨2, e, n, 0⟩ rfl (heap_alloc_new _ _)) rfl ⟨rfl, (Below.refl _ _).alloc (Nat.le_refl _) _⟩
theorem wrong_any (e c : Nat) (w : World) : Calls Tryz.prog 73 #[.int .i64 e, .int .i64 c] w fun r w' => r = .returned (kdV (some ⟨0, e, 0, c⟩)) ∧ Below w.heap.size w w' := by
  go_enter Tryz.func73, Tryz.ntmps73
  go_wp2
  exact bodyPost_ret (v := kdV (some ⟨0, e, 0, c⟩)) (results_ct Tryz.results73 _ _ w.heap.size ⟨0, e, 0, c⟩ rfl (heap_alloc_new _ _)) rfl ⟨rfl, (Below.refl _ _).alloc (Nat.le_refl _) _⟩
theorem zero_any (s : ByteArray) (w : World) : Calls Tryz.prog 78 #[.string s] w fun r w' => r = .returned (.bool (decide (1 < s.size) && decide (bt s 0 = 48))) ∧ w' = w := by
  by_cases h : 1 < s.size
  · have g1 : decide ((1 : Int) < (s.size : Int)) = true := by simp; omega
    have g0 : 0 < s.size := by omega
    have hix : (Instr.index 9 (.string s) (.int .i64 0)).run Tryz.prog w = .ok (.int .u8 ((bt s 0 : Nat) : Int)) w := run_bt s 0 g0 w
    have hr : (decide (1 < s.size) && decide (bt s 0 = 48)) = (((bt s 0 : Nat) : Int) == 48) := by
      rw [Bool.eq_iff_iff]; simp [h]; omega
    rw [hr]; clear hr
    generalize bt s 0 = c at hix ⊢
    go_enter Tryz.func78, Tryz.ntmps78
    go_wp2
    go_ret
    exact ⟨rfl, rfl⟩
  · have g1 : decide ((1 : Int) < (s.size : Int)) = false := by simp; omega
    have hr : (decide (1 < s.size) && decide (bt s 0 = 48)) = false := by simp [h]
    rw [hr]; clear hr
    go_enter Tryz.func78, Tryz.ntmps78
    go_wp2
    go_ret
    exact ⟨rfl, rfl⟩
end Go.Proofs.YtoncogkamlgjhaaGreatDoor
