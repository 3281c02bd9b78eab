/-
  Proved here: m things, or none, are appended to a row that may be nothing (for the document's Do). Condition: fewer than 2 to 31 things.
-/
import Derived.Test.YthgkmbdnkamcoaaB3
namespace Go.Proofs.Ythgkmbdnkamcoaa
open Go.RowKit

theorem c2s_erase (l : List (Value × On)) (p : Nat) : c2s (l.eraseIdx p) = c2s (l.take p) ++ c2s (l.drop (p + 1)) := by
  rw [List.eraseIdx_eq_take_drop_succ, c2s_app]
theorem run_rw_any {S : Nat → Prop} {k t by' : Nat} {w : World} {v z : Value} {n m c : Nat} {xs us : List Value} {a : Addr} (tt ty : TypeId) (hu : Try.prog.underlying tt = some (.slice t)) (hinfo : (Try.prog.info? t).map (fun i => (i.zero, i.size, i.bytes)) = some (some z, k, by')) (hzs : z.cells.size = k) (hk : 0 < k) (hby : by' ≤ 64)
    (h : Rw S k t w v n xs) (hv : n = 0 → v = nilS) (hul : us.length = m * k) (hnews : ∀ j x, us[j]? = some x → w.cell? (a.add j) = some x) (h1 : ∀ x ∈ us, x.oneCell' = true) (hl : n + m < 2147483648) :
    ∃ v' w', (Builtin.append_ #[tt, tt] ty #[v, .slice (some a) m c]).run Try.prog w = .ok v' w' ∧ Apd w v w' ∧ Rw (fun b => S b ∨ w.heap.size ≤ b) k t w' v' (n + m) (xs ++ us) ∧ (n + m = 0 → v' = nilS) := by
  by_cases hm : m ≠ 0 ∨ n ≠ 0
  · obtain ⟨v', w', h2, h3, h4⟩ := run_rw_app (c := c) tt ty hu hinfo hzs hk hby h hul hnews h1 hl hm
    exact ⟨v', w', h2, h3, h4, fun e => by omega⟩
  · obtain ⟨rfl, rfl⟩ : m = 0 ∧ n = 0 := by omega
    have hv0 := hv rfl
    subst hv0
    have hx0 : xs = [] := List.length_eq_zero_iff.1 (by rw [h.1]; simp)
    have hu0 : us = [] := List.length_eq_zero_iff.1 (by rw [hul]; simp)
    subst hx0 hu0
    obtain ⟨i, hi, hz0, hz1, hz2⟩ := info_parts hinfo
    obtain ⟨v', w', hr, ho, hg, hn⟩ := run_append_own (P := Try.prog) w w.heap.size tt ty t i z k by' hu hi hz0 hz1 hz2 hzs hk nilS 0 [] (World.ownsRow_nil _ _ _ _) a 0 c [] (by simp) (fun j x hx => by simp at hx) (fun x hx => by cases hx) (by unfold maxLen; omega) (by simp) (Nat.le_refl _)
    have hvn : v' = nilS := hn.2 ⟨rfl, rfl⟩
    subst hvn
    exact ⟨nilS, w', hr, ⟨hg.os, hg.tape, hg.output, hg.size, fun k hk _ => hg.block k hk (by simp [Value.ownBlock])⟩, Rw.nil _ _ _ _, fun _ => rfl⟩
/-- The same, in a region that doesn't draw. -/
theorem appRwN {ops : Array Oper} {rest : List Oper} {o : Oper} {a : Act} {w : World} {Q : Exit → Act → World → Prop} (s x : Operand) (tt : TypeId) (hop : o.op = .call { callee := .builtin .append, args := #[s, x], argTypes := #[tt, tt] }) (hw : Region.wanted o (yielded ops a.tmps) = true)
    {S : Nat → Prop} {k t by' n m c : Nat} {v z : Value} {xs us : List Value} {ad : Addr} (hs : a.eval s = v) (hx : a.eval x = .slice (some ad) m c) (hu : Try.prog.underlying tt = some (.slice t)) (hinfo : (Try.prog.info? t).map (fun i => (i.zero, i.size, i.bytes)) = some (some z, k, by')) (hzs : z.cells.size = k) (hk : 0 < k) (hby : by' ≤ 64)
    (h : Rw S k t w v n xs) (hv : n = 0 → v = nilS) (hul : us.length = m * k) (hnews : ∀ j x, us[j]? = some x → w.cell? (ad.add j) = some x) (h1 : ∀ x ∈ us, x.oneCell' = true) (hl : n + m < 2147483648)
    (hK : ∀ v' w', Apd w v w' → Rw (fun b => S b ∨ w.heap.size ≤ b) k t w' v' (n + m) (xs ++ us) → (n + m = 0 → v' = nilS) → wpList Try.prog ops Q rest (a.put o.dst v') w') : wpList Try.prog ops Q (o :: rest) a w := by
  obtain ⟨v', w', hr, hA, hR, hN⟩ := run_rw_any (c := c) tt o.type hu hinfo hzs hk hby h hv hul hnews h1 hl
  unfold wpList
  rw [if_pos hw]
  refine Or.inl ?_
  unfold Oper.wp
  simp [execOp, hop, resolve, invoke, builtin, hs, hx, hr, Result.andThen]
  exact hK v' w' hA hR hN
end Go.Proofs.Ythgkmbdnkamcoaa
