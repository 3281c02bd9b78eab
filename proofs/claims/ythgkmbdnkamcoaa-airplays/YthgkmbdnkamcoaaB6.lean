/-
  Proved here: what is left to say behind the document's Do in its cases 0 (brought) and 3 (changed). No condition.
-/
import Derived.Test.YthgkmbdnkamcoaaB5
namespace Go.Proofs.Ythgkmbdnkamcoaa
open Go.RowKit

def paint2 (f : Nat → Nat) (m n : Nat) : Nat → Nat := fun k => if k < m then f k else if k < n then 1 else 2
theorem paint2_old {f : Nat → Nat} {m n k : Nat} (h : k < m) : paint2 f m n k = f k := by simp [paint2, h]
theorem paint2_mid {f : Nat → Nat} {m n k : Nat} (h1 : m ≤ k) (h2 : k < n) : paint2 f m n k = 1 := by
  unfold paint2; rw [if_neg (by omega), if_pos h2]
theorem paint2_new {f : Nat → Nat} {m n k : Nat} (h1 : m ≤ k) (h2 : n ≤ k) : paint2 f m n k = 2 := by
  unfold paint2; rw [if_neg (by omega), if_neg (by omega)]
/-- The row is another one, of those that were there, in new memory; one of them is brought. -/
theorem rnew_fin {S : Nat → Prop} {f : Nat → Nat} {w W W6 : World} {g : Nat} {vl vn v3 v6 u : Value} {xs : List Int} {ps l' : List (Value × On)} {ns : List (Value × List Int)} (h : RRf S f w g vl vn ps ns) (hf : Fresh S w) (hB : Below w.heap.size w W) (hR : Rw (fun b => w.heap.size ≤ b) 2 53 W v3 l'.length (c2s l')) (hl : ∀ q ∈ l', q ∈ ps)
    (hu : SlC (fun k => S k ∧ f k = 3) w u xs) (hA : Apd W vn W6) (hN : Rw (fun b => ((S b ∧ f b = 2) ∧ b < w.heap.size) ∨ W.heap.size ≤ b) 1 31 W6 v6 (ns.length + 1) (ns.map (·.1) ++ [u])) :
    (Only S w ((W6.setCell ⟨g, 1, none⟩ v6).setCell ⟨g, 0, none⟩ v3) ∧ RRf S (paint2 f w.heap.size W.heap.size) ((W6.setCell ⟨g, 1, none⟩ v6).setCell ⟨g, 0, none⟩ v3) g v3 v6 l' (ns ++ [(u, xs)])) ∧ W6.heap[g]? = some (.cells #[vl, vn] 30 (0, 0)) ∧ (W6.setCell ⟨g, 1, none⟩ v6).heap[g]? = some (.cells #[vl, v6] 30 (0, 0)) := by
  have hgl := (Array.getElem?_eq_some_iff.1 h.hg).1
  have hs1 := hB.size
  have hs2 := hA.size
  have hrb : ∀ k, vn.ownBlock = some k → (S k ∧ f k = 2) ∧ k < w.heap.size := fun k hk => ⟨h.new.own k hk, h.new.ownLt k hk⟩
  have old : ∀ k, k < w.heap.size → f k ≠ 2 → W6.heap[k]? = w.heap[k]? := fun k hk h1 => by
    rw [hA.block k (by omega) (fun e => h1 (hrb k e).1.2), hB.block k hk]
  have hg6 : W6.heap[g]? = some (.cells #[vl, vn] 30 (0, 0)) := (old g hgl (by rw [h.fg]; omega)).trans h.hg
  have hg7 : (W6.setCell ⟨g, 1, none⟩ v6).heap[g]? = some (.cells #[vl, v6] 30 (0, 0)) := by rw [heap_setCell_same W6 g 1 _ _ _ hg6]; rfl
  have sett : ∀ k, k ≠ g → ((W6.setCell ⟨g, 1, none⟩ v6).setCell ⟨g, 0, none⟩ v3).heap[k]? = W6.heap[k]? := fun k hk => (heap_setCell_other _ ⟨g, 0, none⟩ k v3 hk).trans (heap_setCell_other W6 ⟨g, 1, none⟩ k v6 hk)
  have carry : ∀ k, k < w.heap.size → (S k ∧ f k = 3) → (S k ∧ paint2 f w.heap.size W.heap.size k = 3) ∧ ((W6.setCell ⟨g, 1, none⟩ v6).setCell ⟨g, 0, none⟩ v3).heap[k]? = w.heap[k]? := fun k hk hS => ⟨⟨hS.1, (paint2_old hk).trans hS.2⟩, (sett k (fun e => by have := h.fg; have := hS.2; subst e; omega)).trans (old k hk (by omega))⟩
  refine ⟨⟨?_, h.sg, (paint2_old hgl).trans h.fg, ?_, ?_, ?_, fun q hq => (h.pr q (hl q hq)).carry carry, ?_⟩, hg6, hg7⟩
  · refine Only.setCell (p := ⟨g, 0, none⟩) (Only.setCell (p := ⟨g, 1, none⟩) ⟨hA.os.trans hB.os, hA.tape.trans hB.tape, hA.output.trans hB.output, by omega, fun k hk => ?_⟩ h.sg v6) h.sg v3
    rcases Nat.lt_or_ge k w.heap.size with hlt | hge
    · rw [hA.block k (by omega) (fun e => hk (hrb k e).1.1), hB.block k hlt]
    · exact absurd (hf k hge) hk
  · rw [heap_setCell_same _ g 0 _ _ _ hg7]; rfl
  · refine hR.carry fun b hb hS => ⟨⟨hf b hS, paint2_mid hS hb⟩, ?_⟩
    rw [sett b (by omega), hA.block b hb (fun e => by have := (hrb b e).2; omega)]
  · rw [List.length_append, List.map_append]
    refine hN.carry fun b hb hS => ?_
    rcases hS with ⟨⟨h1, h2⟩, h3⟩ | hS
    · exact ⟨⟨h1, (paint2_old h3).trans h2⟩, sett b (fun e => by have := h.fg; subst e; omega)⟩
    · exact ⟨⟨hf b (by omega), paint2_new (by omega) hS⟩, sett b (by omega)⟩
  · intro q hq
    rcases List.mem_append.1 hq with hq | hq
    · exact (h.pn q hq).carry carry
    · rw [List.mem_singleton.1 hq]; exact hu.carry carry
/-- One of the row is another one, its bytes in new memory. -/
theorem rchg_fin {S : Nat → Prop} {f : Nat → Nat} {w W : World} {g b o cap : Nat} {vn u : Value} {bs : List Int} {ps : List (Value × On)} {ns : List (Value × List Int)} (h : RRf S f w g (.slice (some ⟨b, o, none⟩) ps.length cap) vn ps ns) (hf : Fresh S w) (hB : Below w.heap.size w W) (p : Nat) (hp : p < ps.length) (hu : SlC (fun k => w.heap.size ≤ k) W u bs) :
    (Only S w (W.setCells b (o + p * 2) [u, .bool true]) ∧ RRf S (paint f w.heap.size W.heap.size 1) (W.setCells b (o + p * 2) [u, .bool true]) g (.slice (some ⟨b, o, none⟩) ps.length cap) vn (ps.set p (u, ⟨bs, true⟩)) ns) ∧ W.there b (o + p * 2) 2 := by
  have hgl := (Array.getElem?_eq_some_iff.1 h.hg).1
  have hs1 := hB.size
  have hb1 : S b ∧ f b = 1 := h.row.own b rfl
  rcases h.row with ⟨hx, ⟨e, _⟩ | ⟨b', o', cap', cur, e, -, hb2, hb3, hb4, hb5⟩⟩
  · cases e
  simp only [Value.slice.injEq, Option.some.injEq, Addr.mk.injEq, and_true, true_and] at e
  obtain ⟨⟨rfl, rfl⟩, rfl⟩ := e
  have hbl := (Array.getElem?_eq_some_iff.1 hb2).1
  have hW : W.heap[b]? = some (.cells cur 53 (0, 0)) := (hB.block b hbl).trans hb2
  have hbg : b ≠ g := fun e => by have := hb1.2; have := h.fg; subst e; omega
  obtain ⟨cur', e1, e2, e3, e4, e5, e6⟩ := setCells_all b [u, .bool true] (o + p * 2) W cur 53 hW
  have carry : ∀ i, i ≠ 1 → ∀ k, k < w.heap.size → (S k ∧ f k = i) → (S k ∧ paint f w.heap.size W.heap.size 1 k = i) ∧ (W.setCells b (o + p * 2) [u, .bool true]).heap[k]? = w.heap[k]? := fun i hi k hk hS => ⟨⟨hS.1, (paint_old hk).trans hS.2⟩, (e5 k (fun e => by have := hb1.2; have := hS.2; subst e; omega)).trans (hB.block k hk)⟩
  refine ⟨⟨⟨e6.os.trans hB.os, e6.tape.trans hB.tape, e6.output.trans hB.output, Nat.le_trans hs1 e6.size, fun k hk => ?_⟩, h.sg, (paint_old hgl).trans h.fg, (e5 g (Ne.symm hbg)).trans ((hB.block g hgl).trans h.hg), ?_, h.new.carry (carry 2 (by omega)), ?_, h.pn.carry (carry 3 (by omega))⟩, ?_⟩
  · rw [e5 k (fun e => hk (e ▸ hb1.1))]
    exact (Only.of hB hf).block k hk
  · refine ⟨by rw [c2s_len], Or.inr ⟨b, o, cap, cur', by rw [List.length_set], ⟨hb1.1, (paint_old hbl).trans hb1.2⟩, e1, by rw [List.length_set]; exact hb3, by omega, ?_⟩⟩
    apply List.ext_getElem?
    intro j
    rw [List.getElem?_take, List.length_set]
    by_cases hj : j < ps.length * 2
    · rw [if_pos hj, List.getElem?_drop, Array.getElem?_toList]
      have hdiv : j = j / 2 * 2 + j % 2 := by omega
      have hm : j % 2 < 2 := Nat.mod_lt _ (by omega)
      have hq : j / 2 < ps.length := by omega
      have hnew : (c2s (ps.set p (u, ⟨bs, true⟩)))[j]? = (c2 ((ps.set p (u, ⟨bs, true⟩))[j / 2]'(by simpa using hq)))[j % 2]? := by
        conv => lhs; rw [hdiv]
        exact c2s_at _ (j / 2) (j % 2) (by simpa using hq) hm
      rw [hnew, List.getElem_set]
      by_cases hjp : p = j / 2
      · subst hjp
        rw [if_pos rfl]
        have := e4 (j % 2) hm (by omega)
        rw [show o + j / 2 * 2 + j % 2 = o + j by omega] at this
        rw [this]; rfl
      · rw [if_neg hjp, e3 (o + j) (by simp; omega), cells_at hb5 hj]
        conv => lhs; rw [hdiv]
        exact c2s_at ps (j / 2) (j % 2) hq hm
    · rw [if_neg hj, List.getElem?_eq_none (by rw [c2s_len, List.length_set]; omega)]
  · intro q hq
    rcases List.mem_or_eq_of_mem_set hq with hq | rfl
    · exact (h.pr q hq).carry (carry 3 (by omega))
    · exact hu.carry fun k hk hS => ⟨⟨hf k hS, paint_mid hS hk⟩, e5 k (by omega)⟩
  · intro j hj
    refine ⟨?_, by simp [World.frozen?, hW]⟩
    rw [cell_of_row W b _ cur 53 (0, 0) hW, Array.getElem?_eq_getElem (by omega)]; rfl
end Go.Proofs.Ythgkmbdnkamcoaa
