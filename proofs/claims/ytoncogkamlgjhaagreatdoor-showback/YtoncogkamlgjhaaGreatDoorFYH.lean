/-
  Proved here: an append of whatever slice; a row of words in memory, and the inner function of line that appends words to it. No condition.
-/
import Derived.Test.YtoncogkamlgjhaaGreatDoorFYG2
import Derived.Deep.Upon
namespace Go.Proofs.YtoncogkamlgjhaaGreatDoor
set_option maxRecDepth 100000
open Go.RowKit
set_option maxRecDepth 100000

theorem Rw.room {S : Nat → Prop} {k t : Nat} {w : World} {v : Value} {n : Nat} {xs : List Value} (h : Rw S k t w v n xs) : ∃ ao cap, v = .slice ao n cap ∧ n ≤ cap := by
  rcases h.2 with ⟨rfl, rfl⟩ | ⟨g, o, cap, cur, rfl, _, _, h4, _⟩
  · exact ⟨_, _, rfl, Nat.le_refl _⟩
  · exact ⟨_, _, rfl, h4⟩
/-- WHATEVER IS APPENDED. -/
theorem run_rw_all {S : Nat → Prop} {k t by' : Nat} {w : World} {v z : Value} {n m c : Nat} {xs us : List Value} {ao : Option Addr} (tt ty : TypeId) (hu : Tryz.prog.underlying tt = some (.slice t)) (hinfo : (Tryz.prog.info? t).map (fun i => (i.zero, i.size, i.bytes)) = some (some z, k, by')) (hzs : z.cells.size = k) (hk : 0 < k) (hby : by' ≤ 4096)
    (h : Rw S k t w v n xs) (hul : us.length = m * k) (hnews : m ≠ 0 → ∃ a, ao = some a ∧ ∀ j x, us[j]? = some x → w.cell? (a.add j) = some x) (h1 : ∀ x ∈ us, x.oneCell' = true) (hl : n + m < 2147483648) :
    ∃ v' w', (Builtin.append_ #[tt, tt] ty #[v, .slice ao m c]).run Tryz.prog w = .ok v' w' ∧ Apd w v w' ∧ Rw (fun b => S b ∨ w.heap.size ≤ b) k t w' v' (n + m) (xs ++ us) := by
  by_cases hm : m = 0
  · subst hm
    obtain ⟨i, hi, -, -, -⟩ := info_parts hinfo
    obtain ⟨a0, cap, rfl, hle⟩ := h.room
    have hus : us = [] := List.length_eq_zero_iff.1 (by rw [hul]; simp)
    subst hus
    have hsrc : Src Tryz.prog i.size tt (.slice ao 0 c) 0 [] w := by
      cases ao with
      | none => exact Src.ofNil w hu c
      | some a => exact Src.ofSlice w hu a 0 c [] (by simp) (fun j u h => by simp at h) (fun u h => by cases h)
    refine ⟨_, _, run_append_nothing w tt tt ty t i hu hi a0 n cap hle _ hsrc, ⟨rfl, rfl, rfl, Nat.le_refl _, fun _ _ _ => rfl⟩, ?_⟩
    rw [List.append_nil]
    exact h.carry fun b _ hS => ⟨Or.inl hS, rfl⟩
  · obtain ⟨a, rfl, hc⟩ := hnews hm
    exact run_rw_app (c := c) tt ty hu hinfo hzs hk hby h hul hc h1 hl (Or.inl hm)
theorem appAll {ops : Array Oper} {rest : List Oper} {o : Oper} {a : Act} {w : World} {Q : Exit → Act → World → Prop} (s x : Operand) (tt : TypeId) (hop : o.op = .call { callee := .builtin .append, args := #[s, x], argTypes := #[tt, tt] }) (hw : Region.wanted o (yielded ops a.tmps) = true)
    {S : Nat → Prop} {k t by' n m c : Nat} {v z : Value} {xs us : List Value} {ao : Option Addr} (hs : a.eval s = v) (hx : a.eval x = .slice ao m c) (hu : Tryz.prog.underlying tt = some (.slice t)) (hinfo : (Tryz.prog.info? t).map (fun i => (i.zero, i.size, i.bytes)) = some (some z, k, by')) (hzs : z.cells.size = k) (hk : 0 < k) (hby : by' ≤ 4096)
    (h : Rw S k t w v n xs) (hul : us.length = m * k) (hnews : m ≠ 0 → ∃ a, ao = some a ∧ ∀ j x, us[j]? = some x → w.cell? (a.add j) = some x) (h1 : ∀ x ∈ us, x.oneCell' = true) (hl : n + m < 2147483648)
    (hK : ∀ v' w', Apd w v w' → Rw (fun b => S b ∨ w.heap.size ≤ b) k t w' v' (n + m) (xs ++ us) → wpList Tryz.prog ops Q rest (a.put o.dst v') w') : wpList Tryz.prog ops Q (o :: rest) a w := by
  obtain ⟨v', w', hr, hA, hR⟩ := run_rw_all (c := c) tt o.type hu hinfo hzs hk hby h hul hnews h1 hl
  unfold wpList
  rw [if_pos hw]
  refine Or.inl ?_
  unfold Oper.wp
  simp [execOp, hop, resolve, invoke, builtin, hs, hx, hr, Result.andThen]
  exact hK v' w' hA hR

/-- the words of a row: block R holds the row's slice, whose block is of S -/
structure Ws (S : Nat → Prop) (R : Nat) (ws : List ByteArray) (w : World) : Prop where
  lt : ∀ b, S b → b < w.heap.size
  gl : ∀ b, S b → 9 ≤ b
  r : S R
  v : ∃ v, w.heap[R]? = some (.cells #[v] 63 (0, 0)) ∧ Rw (fun b => S b ∧ b ≠ R) 1 9 w v ws.length (ws.map Value.string)
/-- what a row's owner may turn -/
structure Sw (S : Nat → Prop) (w : World) (S' : Nat → Prop) (w' : World) : Prop where
  only : Only (fun b => S b ∨ w.heap.size ≤ b) w w'
  sub : ∀ b, S' b → S b ∨ w.heap.size ≤ b
theorem Sw.refl (S : Nat → Prop) (w : World) : Sw S w S w := ⟨Only.refl _ _, fun _ h => Or.inl h⟩
theorem Sw.trans {S S1 S2 : Nat → Prop} {w w1 w2 : World} (h : Sw S w S1 w1) (k : Sw S1 w1 S2 w2) : Sw S w S2 w2 := by
  have hz := h.only.size
  have hm : ∀ b, S1 b ∨ w1.heap.size ≤ b → S b ∨ w.heap.size ≤ b := fun b hb => by
    rcases hb with hb | hb
    · exact h.sub b hb
    · exact Or.inr (Nat.le_trans hz hb)
  exact ⟨h.only.trans (k.only.mono hm), fun b hb => hm b (k.sub b hb)⟩
theorem Sw.bel {S S1 : Nat → Prop} {w w1 w2 : World} (h : Sw S w S1 w1) (k : Below w1.heap.size w1 w2) : Sw S w S1 w2 :=
  h.trans ⟨Only.of k fun _ hk => Or.inr hk, fun _ hb => Or.inl hb⟩
theorem Sw.block {S S' : Nat → Prop} {w w' : World} (h : Sw S w S' w') {b : Nat} (h1 : ¬ S b) (h2 : b < w.heap.size) : w'.heap[b]? = w.heap[b]? := h.only.block b (by rintro (e | e); exact h1 e; omega)
theorem Ws.bel {S : Nat → Prop} {R : Nat} {ws : List ByteArray} {w w' : World} (h : Ws S R ws w) (hb : Below w.heap.size w w') : Ws S R ws w' := by
  obtain ⟨v, h1, h2⟩ := h.v
  have hz := hb.size
  exact ⟨fun b hS => Nat.lt_of_lt_of_le (h.lt b hS) hz, h.gl, h.r, v, (hb.block _ (h.lt _ h.r)).trans h1, h2.carry fun b hl hS => ⟨hS, hb.block b hl⟩⟩
/-- a slice of words -/
def Wd1 (w : World) (ao : Option Addr) (us : List ByteArray) : Prop := us.length ≠ 0 → ∃ a, ao = some a ∧ ∀ j x, (us.map Value.string)[j]? = some x → w.cell? (a.add j) = some x
theorem say_any {S : Nat → Prop} {R : Nat} {ws us : List ByteArray} {ao : Option Addr} {c : Nat} {w : World} (h : Ws S R ws w) (hu : Wd1 w ao us) (hl : ws.length + us.length < 2147483648) : Calls Tryz.prog 23 #[.slice ao us.length c, ptr R] w fun e w' => e = .returned (.tuple #[]) ∧ ∃ S', Ws S' R (ws ++ us) w' ∧ Sw S w S' w' := by
  obtain ⟨v, h1, h2⟩ := h.v
  have hr := h.lt _ h.r
  have c0 : w.cell? ⟨R, 0, none⟩ = some v := (cell_of_row _ _ _ _ _ _ h1).trans rfl
  have HR := hid h2
  have H1 := hid h1
  have HW := hid h
  clear h h1 h2
  go_enter Tryz.func23, Tryz.ntmps23
  go_wp2_with (first
    | (refine appAll (.tmp 3) (.tmp 4) 63 rfl rfl (us := us.map Value.string) rfl rfl Tryz.underlying63 infoST rfl (by decide) (by decide) HR.out (by simp) hu (fun x hx => by obtain ⟨y, -, rfl⟩ := List.mem_map.1 hx; rfl) hl ?_
       intro v2 w2 hA hR2
       have hRb : w2.heap[R]? = w.heap[R]? := hA.block R hr fun e => (HR.out.own R e).2 rfl
       have HA := hid (And.intro hA (And.intro hR2 (hRb.trans H1.out)))
       have ho2 : v2.oneCell' = true := hR2.one
       clear hA hR2 hRb)
    | (refine stOne 63 (.tmp 1) (.tmp 5) rfl rfl R rfl v2 rfl ho2 63 v HA.out.2.2 (by kernel_rfl) ?_))
  have hX : ∃ S', Ws S' R (ws ++ us) (w2.setRow R #[v2]) ∧ Sw S w S' (w2.setRow R #[v2]) := by
    obtain ⟨hA, hR2, hRr⟩ := HA.out
    have hko : ∀ b, b ≠ R → (w2.setRow R #[v2]).heap[b]? = w2.heap[b]? := fun b hb => setRow_other w2 R b _ hb
    have hrow := setRow_heap w2 R _ #[v2] _ _ hRr
    have hsz : (w2.setRow R #[v2]).heap.size = w2.heap.size := by simp [World.setRow]
    have hz := hA.size
    have hNG := HW.out.gl R HW.out.r
    refine ⟨fun b => (S b ∨ w.heap.size ≤ b) ∧ b < w2.heap.size, ⟨fun b hb => by rw [hsz]; exact hb.2, fun b hb => ?_, ⟨Or.inl HW.out.r, by omega⟩, v2, hrow, ?_⟩, ⟨⟨?_, ?_, ?_, by rw [hsz]; exact hz, fun b hb => ?_⟩, fun b hb => hb.1⟩⟩
    · rcases hb.1 with e | e
      · exact HW.out.gl b e
      · have := HW.out.lt R HW.out.r; omega
    · rw [List.length_append, List.map_append]
      refine hR2.carry fun b hl hS => ⟨⟨⟨?_, hl⟩, ?_⟩, hko b ?_⟩
      · rcases hS with e | e
        · exact Or.inl e.1
        · exact Or.inr e
      · rcases hS with e | e
        · exact e.2
        · omega
      · rcases hS with e | e
        · exact e.2
        · omega
    · exact hA.os
    · exact hA.tape
    · exact hA.output
    · have hbS : ¬ S b := fun e => hb (Or.inl e)
      have hbl : b < w.heap.size := by
        rcases Nat.lt_or_ge b w.heap.size with e | e
        · exact e
        · exact absurd (Or.inr e) hb
      rw [hko b fun e => hbS (e ▸ HW.out.r)]
      exact hA.block b hbl fun e => hbS (HR.out.own b e).1
  first | go_end0 | refine bodyPost_ret (results_none rfl _ _ _) rfl ?_
  exact ⟨rfl, hX⟩
end Go.Proofs.YtoncogkamlgjhaaGreatDoor
