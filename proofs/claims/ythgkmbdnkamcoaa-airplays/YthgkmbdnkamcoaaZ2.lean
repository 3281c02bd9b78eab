/-
  Proved here: an air and a list of slices of one's own side by side in memory (Sd): what is done to the one leaves the other. No condition.
-/
import Derived.Test.YthgkmbdnkamcoaaD8
namespace Go.Proofs.Ythgkmbdnkamcoaa
open Go.RowKit

def Sd (w wr : World) (v v6 : Value) (A : Ar) (us : List Value) (L : List (List Int)) : Prop :=
  Below w.heap.size w wr ∧ ∃ SA : Nat → Prop, (∀ j, SA j → w.heap.size ≤ j ∧ j < wr.heap.size) ∧ AR SA wr v A ∧ Rw (fun j => w.heap.size ≤ j ∧ ¬ SA j) 1 31 wr v6 us.length us ∧ us.length = L.length ∧ ∀ i (hi : i < us.length) (hi' : i < L.length), SlC (fun j => w.heap.size ≤ j ∧ ¬ SA j ∧ v6.ownBlock ≠ some j) wr us[i] L[i]
/-- Something is done to the air alone. -/
theorem Sd.air {w wr : World} {v v6 : Value} {A : Ar} {us : List Value} {L : List (List Int)} (h : Sd w wr v v6 A us L) :
    ∃ S : Nat → Prop, AR S wr v A ∧ Fresh S wr ∧ ∀ w' A', Only S wr w' → AR S w' v A' → Sd w w' v v6 A' us L := by
  obtain ⟨hb, SA, h1, h2, h3, h4, h5⟩ := h
  refine ⟨fun j => SA j ∨ wr.heap.size ≤ j, h2.carry fun k _ hk => ⟨Or.inl hk, rfl⟩, fun k hk => Or.inr hk, fun w' A' hO hA => ?_⟩
  have hge : ∀ k, SA k ∨ wr.heap.size ≤ k → w.heap.size ≤ k := fun k hk => by
    rcases hk with hk | hk
    · exact (h1 k hk).1
    · exact Nat.le_trans hb.size hk
  have hc : ∀ j, j < wr.heap.size → (w.heap.size ≤ j ∧ ¬ SA j) → (w.heap.size ≤ j ∧ ¬ ((SA j ∨ wr.heap.size ≤ j) ∧ j < w'.heap.size)) ∧ w'.heap[j]? = wr.heap[j]? := fun j hj hS => by
    have hn : ¬ (SA j ∨ wr.heap.size ≤ j) := fun e => by
      rcases e with e | e
      · exact hS.2 e
      · omega
    exact ⟨⟨hS.1, fun e => hn e.1⟩, hO.block j hn⟩
  exact ⟨hb.trans (hO.below hge), fun j => (SA j ∨ wr.heap.size ≤ j) ∧ j < w'.heap.size, fun j hj => ⟨hge j hj.1, hj.2⟩, hA.carry fun k hk hS => ⟨⟨hS, hk⟩, rfl⟩, h3.carry hc, h4, fun i hi hi' => (h5 i hi hi').carry fun j hj hS => by
    have := hc j hj ⟨hS.1, hS.2.1⟩
    exact ⟨⟨this.1.1, this.1.2, hS.2.2⟩, this.2⟩⟩
/-- New memory alone. -/
theorem Sd.more {w wr w' : World} {v v6 : Value} {A : Ar} {us : List Value} {L : List (List Int)} (h : Sd w wr v v6 A us L) (hn : Below wr.heap.size wr w') : Sd w w' v v6 A us L := by
  obtain ⟨hb, SA, h1, h2, h3, h4, h5⟩ := h
  exact ⟨hb.trans (hn.mono hb.size), SA, fun j hj => ⟨(h1 j hj).1, Nat.lt_of_lt_of_le (h1 j hj).2 hn.size⟩, h2.carry fun k hk hS => ⟨hS, hn.block k hk⟩, h3.carry fun k hk hS => ⟨hS, hn.block k hk⟩, h4, fun i hi hi' => (h5 i hi hi').carry fun k hk hS => ⟨hS, hn.block k hk⟩⟩
theorem Rw.self {S : Nat → Prop} {k t : Nat} {w : World} {v : Value} {n : Nat} {xs : List Value} (h : Rw S k t w v n xs) : Rw (fun j => S j ∧ v.ownBlock = some j) k t w v n xs := by
  refine ⟨h.1, ?_⟩
  rcases h.2 with h2 | ⟨g, o, cap, cur, e, h3, h4⟩
  · exact Or.inl h2
  · exact Or.inr ⟨g, o, cap, cur, e, ⟨h3, by rw [e]; rfl⟩, h4⟩
theorem Rw.ownLt {S : Nat → Prop} {k t : Nat} {w : World} {v : Value} {n : Nat} {xs : List Value} (h : Rw S k t w v n xs) (j : Nat) (hj : v.ownBlock = some j) : j < w.heap.size := by
  rcases h.2 with ⟨e, _⟩ | ⟨g, o, cap, cur, e, h3, h4, _⟩
  · rw [e] at hj; simp [Value.ownBlock] at hj
  · rw [e] at hj
    simp [Value.ownBlock] at hj
    subst hj
    exact (Array.getElem?_eq_some_iff.1 h4).1
/-- One more in the list. -/
theorem Sd.app {w wr w2 w3 : World} {v v6 v3 u : Value} {A : Ar} {us : List Value} {L : List (List Int)} {b : List Int} (h : Sd w wr v v6 A us L) (hn : Below wr.heap.size wr w2) (hA : Apd w2 v6 w3) (hR : ∀ S, Rw S 1 31 w2 v6 us.length us → Rw (fun b => S b ∨ w2.heap.size ≤ b) 1 31 w3 v3 (us.length + 1) (us ++ [u]))
    (hu : SlC (fun j => wr.heap.size ≤ j) w2 u b) : Sd w w3 v v3 A (us ++ [u]) (L ++ [b]) := by
  obtain ⟨hb, SA, h1, h2, h3, h4, h5⟩ := h
  have hs1 := hb.size
  have hs2 := hn.size
  have hs3 := hA.size
  have own6 : ∀ j, v6.ownBlock = some j → (w.heap.size ≤ j ∧ ¬ SA j) ∧ j < wr.heap.size := fun j hj => ⟨h3.own j hj, h3.ownLt j hj⟩
  have hR' := hR _ (h3.self.carry (T := fun j => (w.heap.size ≤ j ∧ ¬ SA j) ∧ v6.ownBlock = some j) fun k hk hS => ⟨hS, hn.block k hk⟩)
  have own3 : ∀ j, v3.ownBlock = some j → v6.ownBlock = some j ∨ w2.heap.size ≤ j := fun j hj => by
    rcases hR'.own j hj with h | h
    · exact Or.inl h.2
    · exact Or.inr h
  have keep : ∀ k, k < w2.heap.size → v6.ownBlock ≠ some k → w3.heap[k]? = w2.heap[k]? := fun k hk h => hA.block k hk h
  refine ⟨⟨hA.os.trans (hn.os.trans hb.os), hA.tape.trans (hn.tape.trans hb.tape), hA.output.trans (hn.output.trans hb.output), by omega, fun k hk => ?_⟩, SA, fun j hj => ⟨(h1 j hj).1, by have := (h1 j hj).2; omega⟩, h2.carry fun k hk hS => ⟨hS, ?_⟩, ?_, by simp [h4], fun i hi hi' => ?_⟩
  · rw [keep k (by omega) (fun e => by have := (own6 k e).1.1; omega), hn.block k (by omega), hb.block k hk]
  · rw [keep k (by omega) (fun e => (own6 k e).1.2 hS), hn.block k hk]
  · rw [List.length_append]
    refine hR'.carry fun k _ hS => ⟨?_, rfl⟩
    rcases hS with hS | hS
    · exact hS.1
    · exact ⟨by omega, fun e => by have := (h1 k e).2; omega⟩
  · simp only [List.length_append, List.length_cons, List.length_nil, Nat.zero_add] at hi hi'
    by_cases hlt : i < us.length
    · rw [List.getElem_append_left hlt, List.getElem_append_left (by omega)]
      refine (h5 i hlt (by omega)).carry fun k hk hS => ⟨⟨hS.1, hS.2.1, fun e => ?_⟩, ?_⟩
      · rcases own3 k e with e | e
        · exact hS.2.2 e
        · omega
      · rw [keep k (by omega) hS.2.2, hn.block k hk]
    · have : i = us.length := by omega
      subst this
      rw [List.getElem_append_right (Nat.le_refl _), List.getElem_append_right (by omega)]
      simp only [Nat.sub_self, List.getElem_cons_zero, h4]
      refine hu.carry fun k hk hS => ⟨⟨by omega, fun e => by have := (h1 k e).2; omega, fun e => ?_⟩, keep k hk fun e => by have := (own6 k e).2; omega⟩
      rcases own3 k e with e | e
      · have := (own6 k e).2; omega
      · omega
/-- Rows of bytes. -/
abbrev Bbs (T : Nat → Prop) (w : World) (v : Value) (l : List (List Int)) : Prop := Lst T 1 (fun w f (l : List Int) => ∃ u, f 0 = some u ∧ SlC T w u l) w v l
/-- AN APPEND, in a region that doesn't draw. -/
theorem appRw {ops : Array Oper} {rest : List Oper} {o : Oper} {a : Act} {w : World} {Q : Exit → Act → World → Prop} (s x : Operand) (tt : TypeId) (hop : o.op = .call { callee := .builtin .append, args := #[s, x], argTypes := #[tt, tt] }) (hw : Region.wanted o (yielded ops a.tmps) = true)
    {S : Nat → Prop} {k t by' n m c : Nat} {v z : Value} {xs us : List Value} {ad : Addr} (hs : a.eval s = v) (hx : a.eval x = .slice (some ad) m c) (hu : Try.prog.underlying tt = some (.slice t)) (hinfo : (Try.prog.info? t).map (fun i => (i.zero, i.size, i.bytes)) = some (some z, k, by')) (hzs : z.cells.size = k) (hk : 0 < k) (hby : by' ≤ 64)
    (h : Rw S k t w v n xs) (hul : us.length = m * k) (hnews : ∀ j x, us[j]? = some x → w.cell? (ad.add j) = some x) (h1 : ∀ x ∈ us, x.oneCell' = true) (hl : n + m < 2147483648) (hm : m ≠ 0 ∨ n ≠ 0)
    (hK : ∀ v' w', Apd w v w' → (∀ S, Rw S k t w v n xs → Rw (fun b => S b ∨ w.heap.size ≤ b) k t w' v' (n + m) (xs ++ us)) → wpList Try.prog ops Q rest (a.put o.dst v') w') : wpList Try.prog ops Q (o :: rest) a w := by
  obtain ⟨v', w', hr, hA, -⟩ := run_rw_app (c := c) tt o.type hu hinfo hzs hk hby h hul hnews h1 hl hm
  unfold wpList
  rw [if_pos hw]
  refine Or.inl ?_
  unfold Oper.wp
  simp [execOp, hop, resolve, invoke, builtin, hs, hx, hr, Result.andThen]
  refine hK v' w' hA fun S' h' => ?_
  obtain ⟨v2, w2, hr2, -, hR2⟩ := run_rw_app (c := c) tt o.type hu hinfo hzs hk hby h' hul hnews h1 hl hm
  have e := hr.symm.trans hr2
  simp only [Result.ok.injEq] at e
  obtain ⟨rfl, rfl⟩ := e
  exact hR2
end Go.Proofs.Ythgkmbdnkamcoaa
