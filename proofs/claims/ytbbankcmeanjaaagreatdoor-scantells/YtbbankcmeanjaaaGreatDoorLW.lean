/-
  Proved here: words of the statements: two slices that hold the same words. No condition.
-/
import Derived.Test.YtbbankcmeanjaaaGreatDoorL2
namespace Go.Proofs.YtbbankcmeanjaaaGreatDoor
open Go.RowKit
set_option maxRecDepth 100000

theorem runLd {o : Oper} {a : Act} {w' : World} (ty : TypeId) (x : Operand) (ho : o.op = .load ty x) (g p : Nat) (hx : a.eval x = .pointer (some ⟨g, p, none⟩)) (cs : Array Value) (d : TypeDesc) (hg : w'.rangeAt g p cs.toList) (hu : Tryz.prog.underlying ty = some d) (hd : d.isRow = true) (hi : (Tryz.prog.info? ty).map (·.size) = some cs.size) : (execOp a.eval o).run Tryz.prog w' = .ok (.value (.agg cs)) w' := by
  unfold execOp
  simp only [ho, hx, Instr.loadAt, Instr.sureAddr, Sem.run_bind, Sem.run_pure, Result.andThen_ok, run_loadVar_mid w' g p ty cs.toList d hg hu hd (by rw [hi]; simp), Array.toArray_toList]
/-- A word at two places. -/
structure Wp2 (g q g' q' : Nat) (x : Wd) (W : World) : Prop where
  a : W.rangeAt g q (wdc x).toList
  b : W.rangeAt g' q' (wdc x).toList
/-- Two slices of the same words. -/
structure Two (W : World) (ao bo : Option Addr) (ca cb : Nat) (l : List Wd) : Prop where
  h : l ≠ [] → ∃ g o g' o', ao = some ⟨g, o, none⟩ ∧ bo = some ⟨g', o', none⟩ ∧ l.length ≤ ca ∧ l.length ≤ cb ∧ g < W.heap.size ∧ g' < W.heap.size ∧ ∀ i, (hi : i < l.length) → W.rangeAt g (o + i * 4) (wdc l[i]).toList ∧ W.rangeAt g' (o' + i * 4) (wdc l[i]).toList
theorem range_on {W W' : World} {b q : Nat} {cs : List Value} (h : W.rangeAt b q cs) (hb : Below W.heap.size W W') (hl : b < W.heap.size) : W'.rangeAt b q cs := fun j v hj => (hb.cell (p := ⟨b, q + j, none⟩) hl).trans (h j v hj)
set_option maxHeartbeats 3200000 in
theorem words_any (l : List Wd) (ao bo : Option Addr) (ca cb : Nat) (w : World) (hn : l.length ≤ 70000) (h2 : Two w ao bo ca cb l) : Calls Tryz.prog 7 #[.slice ao l.length ca, .slice bo l.length cb] w fun e w' => e = .returned (.bool true) ∧ Below w.heap.size w w' := by
  obtain ⟨n, hnl⟩ : ∃ n, n = l.length := ⟨_, rfl⟩
  rw [← hnl] at hn ⊢
  have HN := hid hnl
  clear hnl
  have HT := hid h2
  clear h2
  go_enter Tryz.func7, Tryz.ntmps7
  go_upto_region 4 with fail
  go_loopw [13] (fun vi wr => ∃ i : Nat, vi = .int .i64 i ∧ i ≤ n ∧ Hid (Below w.heap.size w wr)) (fun vi _ => n - (intOf vi).toNat)
  case atStart => exact ⟨0, rfl, by omega, Below.refl _ _⟩
  case round =>
    obtain ⟨i, rfl, hi, HB⟩ := hrel
    by_cases hl : i < n
    · have g1 : decide ((i : Int) < (n : Int)) = true := by simp; omega
      have hil : i < l.length := by rw [← HN.out]; exact hl
      obtain ⟨g, o, g', o', rfl, rfl, hca, hcb, hg, hg', hr⟩ := HT.out.h (fun h => by rw [h] at hil; exact absurd hil (by simp))
      have hra := range_on (hr i hil).1 HB.out hg
      have hrb := range_on (hr i hil).2 HB.out hg'
      rw [← HN.out] at hca hcb
      have hw1 : IntKind.i64.wrap ((i : Int) + 1) = (i : Int) + 1 := by rw [IntKind.wrap_i64]; omega
      have HP : Hid (Wp2 g (o + i * 4) g' (o' + i * 4) l[i] wr.drew) := ⟨hra, hrb⟩
      have HB2 : Hid (Below w.heap.size w wr.drew) := HB.out.drew
      generalize l[i] = x at HP hra hrb
      clear hr hra hrb hg hg' hil
      have hic : i < ca := by omega
      have hicb : i < cb := by omega
      go_upto_region 6 with fail
      refine wp_region_held_drew (S := Wp2 g (o + i * 4) g' (o' + i * 4) x) (by kernel_rfl) HP.out (fun hHeld => ?_)
      refine wpAnyH_take (i := 0) (v := ?_) rfl (by kernel_rfl) (by kernel_rfl) (by kernel_rfl) (fun _ _ _ h => h) (Or.inl ⟨by rfl, ?_⟩) hHeld ?_
      rotate_left
      · intro w' hSw
        clear hSw
        go_simp
        first | done | with_reducible rfl
      simp only [Act.put, List.getElem_toArray, List.getElem_cons_zero, List.setIfInBounds_toArray, List.set_cons_zero, List.set_cons_succ]
      refine wpAnyH_take (i := 1) (v := ?_) rfl (by kernel_rfl) (by kernel_rfl) (by kernel_rfl) (fun _ _ _ h => h) (Or.inl ⟨by rfl, ?_⟩) hHeld ?_
      rotate_left
      · intro w' hSw
        clear hSw
        go_simp
        first | done | with_reducible rfl
      simp only [Act.put, List.getElem_toArray, List.getElem_cons_succ, List.getElem_cons_zero, List.setIfInBounds_toArray, List.set_cons_zero, List.set_cons_succ]
      refine wpAnyH_take (i := 2) (v := ?_) rfl (by kernel_rfl) (by kernel_rfl) (by kernel_rfl) (fun _ _ _ h => h) (Or.inl ⟨by rfl, ?_⟩) hHeld ?_
      rotate_left
      · intro w' hSw
        clear hSw
        go_simp
        first | done | with_reducible rfl
      simp only [Act.put, List.getElem_toArray, List.getElem_cons_succ, List.getElem_cons_zero, List.setIfInBounds_toArray, List.set_cons_zero, List.set_cons_succ]
      refine wpAnyH_take (i := 3) (v := .agg (wdc x)) rfl (by kernel_rfl) (by kernel_rfl) (by kernel_rfl) (fun _ _ _ h => h) (Or.inl ⟨by rfl, ?_⟩) hHeld ?_
      · intro w' hSw
        exact runLd 48 (.tmp 18) rfl g (o + i * 4) rfl (wdc x) _ hSw.a Tryz.underlying48 rfl (szW x)
      simp only [Act.put, List.getElem_toArray, List.getElem_cons_succ, List.getElem_cons_zero, List.setIfInBounds_toArray, List.set_cons_zero, List.set_cons_succ]
      refine wpAnyH_take (i := 4) (v := ?_) rfl (by kernel_rfl) (by kernel_rfl) (by kernel_rfl) (fun _ _ _ h => h) (Or.inl ⟨by rfl, ?_⟩) hHeld ?_
      rotate_left
      · intro w' hSw
        clear hSw
        go_simp
        first | done | with_reducible rfl
      simp only [Act.put, List.getElem_toArray, List.getElem_cons_succ, List.getElem_cons_zero, List.setIfInBounds_toArray, List.set_cons_zero, List.set_cons_succ]
      refine wpAnyH_take (i := 5) (v := ?_) rfl (by kernel_rfl) (by kernel_rfl) (by kernel_rfl) (fun _ _ _ h => h) (Or.inl ⟨by rfl, ?_⟩) hHeld ?_
      rotate_left
      · intro w' hSw
        clear hSw
        go_simp
        first | done | with_reducible rfl
      simp only [Act.put, List.getElem_toArray, List.getElem_cons_succ, List.getElem_cons_zero, List.setIfInBounds_toArray, List.set_cons_zero, List.set_cons_succ]
      refine wpAnyH_take (i := 6) (v := ?_) rfl (by kernel_rfl) (by kernel_rfl) (by kernel_rfl) (fun _ _ _ h => h) (Or.inl ⟨by rfl, ?_⟩) hHeld ?_
      rotate_left
      · intro w' hSw
        clear hSw
        go_simp
        first | done | with_reducible rfl
      simp only [Act.put, List.getElem_toArray, List.getElem_cons_succ, List.getElem_cons_zero, List.setIfInBounds_toArray, List.set_cons_zero, List.set_cons_succ]
      refine wpAnyH_take (i := 7) (v := .agg (wdc x)) rfl (by kernel_rfl) (by kernel_rfl) (by kernel_rfl) (fun _ _ _ h => h) (Or.inl ⟨by rfl, ?_⟩) hHeld ?_
      · intro w' hSw
        exact runLd 48 (.tmp 22) rfl g' (o' + i * 4) rfl (wdc x) _ hSw.b Tryz.underlying48 rfl (szW x)
      simp only [Act.put, List.getElem_toArray, List.getElem_cons_succ, List.getElem_cons_zero, List.setIfInBounds_toArray, List.set_cons_zero, List.set_cons_succ]
      refine wpAnyH_take (i := 8) (v := .bool false) rfl (by kernel_rfl) (by kernel_rfl) (by kernel_rfl) (fun _ _ _ h => h) (Or.inl ⟨by rfl, ?_⟩) hHeld ?_
      · intro w' hSw
        exact neq_same (.tmp 19) (.tmp 23) rfl x rfl rfl
      simp only [Act.put, List.getElem_toArray, List.getElem_cons_succ, List.getElem_cons_zero, List.setIfInBounds_toArray, List.set_cons_zero, List.set_cons_succ]
      refine wpAnyH_done (by kernel_rfl) ?_ _
      go_wp2
      go_round
      case rel => exact ⟨i + 1, by go_num, by omega, HB2⟩
      case measure => simp [intOf]; omega
    · have g1 : decide ((i : Int) < (n : Int)) = false := by simp; omega
      go_wp2
      go_ret
      exact ⟨rfl, HB.out⟩
end Go.Proofs.YtbbankcmeanjaaaGreatDoor
