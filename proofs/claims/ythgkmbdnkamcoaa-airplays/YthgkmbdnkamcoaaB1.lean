/-
  Proved here: what the memory of the document's air is (RRf, RR); one more in its row or among its new ones. No condition.
-/
import Derived.Test.YthgkmbdnkamcoaaZ2
namespace Go.Proofs.Ythgkmbdnkamcoaa
open Go.RowKit

structure On where
  b : List Int
  ch : Bool
structure Ra where
  l : List On
  n : List (List Int)
/-- A one's cells. -/
def c2 (q : Value × On) : List Value := [q.1, .bool q.2.ch]
def c2s (l : List (Value × On)) : List Value := l.flatMap c2
theorem c2s_app (a b : List (Value × On)) : c2s (a ++ b) = c2s a ++ c2s b := by simp [c2s]
theorem c2s_one (q : Value × On) : c2s [q] = c2 q := by simp [c2s]
theorem c2s_len : ∀ l : List (Value × On), (c2s l).length = l.length * 2
  | [] => rfl
  | q :: l => by
    have := c2s_len l
    simp only [c2s] at this
    simp [c2s, c2, this]; omega
theorem c2s_drop : ∀ (l : List (Value × On)) (k : Nat), (c2s l).drop (k * 2) = c2s (l.drop k)
  | _, 0 => by simp
  | [], k + 1 => by simp [c2s]
  | q :: l, k + 1 => by
    have := c2s_drop l k
    rw [show (k + 1) * 2 = k * 2 + 2 by omega]
    simpa [c2s, c2] using this
theorem c2s_take : ∀ (l : List (Value × On)) (k : Nat), (c2s l).take (k * 2) = c2s (l.take k)
  | _, 0 => by simp [c2s]
  | [], k + 1 => by simp [c2s]
  | q :: l, k + 1 => by
    have := c2s_take l k
    rw [show (k + 1) * 2 = k * 2 + 2 by omega]
    simpa [c2s, c2] using this
theorem c2s_at (l : List (Value × On)) (j i : Nat) (hj : j < l.length) (hi : i < 2) : (c2s l)[j * 2 + i]? = (c2 l[j])[i]? := by
  have h := c2s_drop l j
  rw [← List.getElem?_drop, h, List.drop_eq_getElem_cons hj]
  show (c2 l[j] ++ c2s (l.drop (j + 1)))[i]? = _
  rw [List.getElem?_append_left (by simp [c2]; exact hi)]
def Pos (T : Nat → Prop) (w : World) (l : List (Value × On)) : Prop := ∀ q ∈ l, SlC T w q.1 q.2.b
def Pns (T : Nat → Prop) (w : World) (l : List (Value × List Int)) : Prop := ∀ q ∈ l, SlC T w q.1 q.2
theorem Pos.carry {T T' : Nat → Prop} {w w' : World} {l : List (Value × On)} (h : Pos T w l) (hc : ∀ b, b < w.heap.size → T b → T' b ∧ w'.heap[b]? = w.heap[b]?) : Pos T' w' l := fun q hq => (h q hq).carry hc
theorem Pns.carry {T T' : Nat → Prop} {w w' : World} {l : List (Value × List Int)} (h : Pns T w l) (hc : ∀ b, b < w.heap.size → T b → T' b ∧ w'.heap[b]? = w.heap[b]?) : Pns T' w' l := fun q hq => (h q hq).carry hc
/-- The document's air at block g: its own block, the row's (colour 1), the new ones' (2), the bytes (3). -/
structure RRf (S : Nat → Prop) (f : Nat → Nat) (w : World) (g : Nat) (vl vn : Value) (ps : List (Value × On)) (ns : List (Value × List Int)) : Prop where
  sg : S g
  fg : f g = 0
  hg : w.heap[g]? = some (.cells #[vl, vn] 30 (0, 0))
  row : Rw (fun k => S k ∧ f k = 1) 2 53 w vl ps.length (c2s ps)
  new : Rw (fun k => S k ∧ f k = 2) 1 31 w vn ns.length (ns.map (·.1))
  pr : Pos (fun k => S k ∧ f k = 3) w ps
  pn : Pns (fun k => S k ∧ f k = 3) w ns
theorem RRf.carry {S T : Nat → Prop} {f f' : Nat → Nat} {w w' : World} {g : Nat} {vl vn : Value} {ps : List (Value × On)} {ns : List (Value × List Int)} (h : RRf S f w g vl vn ps ns) (hc : ∀ k, k < w.heap.size → S k → T k ∧ f' k = f k ∧ w'.heap[k]? = w.heap[k]?) : RRf T f' w' g vl vn ps ns := by
  have hq := hc g (Array.getElem?_eq_some_iff.1 h.hg).1 h.sg
  have hs : ∀ i k, k < w.heap.size → (S k ∧ f k = i) → (T k ∧ f' k = i) ∧ w'.heap[k]? = w.heap[k]? := fun i k hk hk2 => by
    have := hc k hk hk2.1
    exact ⟨⟨this.1, this.2.1.trans hk2.2⟩, this.2.2⟩
  exact ⟨hq.1, hq.2.1.trans h.fg, hq.2.2.trans h.hg, h.row.carry (hs 1), h.new.carry (hs 2), h.pr.carry (hs 3), h.pn.carry (hs 3)⟩
def RR (S : Nat → Prop) (w : World) (v : Value) (a : Ra) : Prop :=
  ∃ g f vl vn ps ns, v = .pointer (some ⟨g, 0, none⟩) ∧ RRf S f w g vl vn ps ns ∧ a.l = ps.map (·.2) ∧ a.n = ns.map (·.2)
theorem RR.carry {S T : Nat → Prop} {w w' : World} {v : Value} {a : Ra} (h : RR S w v a) (hc : ∀ k, k < w.heap.size → S k → T k ∧ w'.heap[k]? = w.heap[k]?) : RR T w' v a := by
  obtain ⟨g, f, vr, vc, ps, qs, h1, h2, h3⟩ := h
  exact ⟨g, f, vr, vc, ps, qs, h1, h2.carry fun k hk hS => ⟨(hc k hk hS).1, rfl, (hc k hk hS).2⟩, h3⟩
theorem infoO : (Try.prog.info? 53).map (fun i => (i.zero, i.size, i.bytes)) = some (some (.agg #[.slice none 0 0, .bool false]), 2, 32) := by kernel_rfl
/-- One more in the row: what is left to say behind the append and the store. -/
theorem rrow_fin {S : Nat → Prop} {f : Nat → Nat} {w w1 w2 w3 : World} {g : Nat} {vl vn v3 : Value} {ps : List (Value × On)} {ns : List (Value × List Int)} {q : Value × On} (h : RRf S f w g vl vn ps ns) (hf : Fresh S w) (hb1 : Below w.heap.size w w1) (h12 : Below w1.heap.size w1 w2)
    (hq : SlC (fun k => S k ∧ paint f w.heap.size w1.heap.size 1 k = 3) w1 q.1 q.2.b) (hA : Apd w2 vl w3) (hR : Rw (fun b => (S b ∧ paint f w.heap.size w1.heap.size 1 b = 1) ∨ w2.heap.size ≤ b) 2 53 w3 v3 (ps.length + 1) (c2s ps ++ c2 q)) :
    Only S w (w3.setCell ⟨g, 0, none⟩ v3) ∧ RRf S (paint f w.heap.size w1.heap.size 1) (w3.setCell ⟨g, 0, none⟩ v3) g v3 vn (ps ++ [q]) ns := by
  have hgl := (Array.getElem?_eq_some_iff.1 h.hg).1
  have hs1 := hb1.size
  have hs2 := h12.size
  have hs3 := hA.size
  have hrb : ∀ k, vl.ownBlock = some k → S k ∧ f k = 1 := fun k hk => h.row.own k hk
  have old : ∀ k, k < w.heap.size → f k ≠ 1 → w3.heap[k]? = w.heap[k]? := fun k hk h1 => by
    rw [hA.block k (by omega) (fun e => h1 (hrb k e).2), h12.block k (by omega), hb1.block k hk]
  have sett : ∀ k, k ≠ g → (w3.setCell ⟨g, 0, none⟩ v3).heap[k]? = w3.heap[k]? := fun k hk => heap_setCell_other w3 ⟨g, 0, none⟩ k v3 hk
  have hg3 : w3.heap[g]? = some (.cells #[vl, vn] 30 (0, 0)) := (old g hgl (by rw [h.fg]; omega)).trans h.hg
  have carry : ∀ i, i ≠ 0 → i ≠ 1 → ∀ k, k < w.heap.size → (S k ∧ f k = i) → (S k ∧ paint f w.heap.size w1.heap.size 1 k = i) ∧ (w3.setCell ⟨g, 0, none⟩ v3).heap[k]? = w.heap[k]? := fun i h0 h1 k hk hS => ⟨⟨hS.1, (paint_old hk).trans hS.2⟩, (sett k (fun e => by have := h.fg; have := hS.2; subst e; omega)).trans (old k hk (by omega))⟩
  refine ⟨?_, h.sg, (paint_old hgl).trans h.fg, ?_, ?_, h.new.carry (carry 2 (by omega) (by omega)), ?_, h.pn.carry (carry 3 (by omega) (by omega))⟩
  · refine Only.setCell (p := ⟨g, 0, none⟩) ⟨hA.os.trans (h12.os.trans hb1.os), hA.tape.trans (h12.tape.trans hb1.tape), hA.output.trans (h12.output.trans hb1.output), by omega, fun k hk => ?_⟩ h.sg v3
    rcases Nat.lt_or_ge k w.heap.size with hlt | hge
    · rw [hA.block k (by omega) (fun e => hk (hrb k e).1), h12.block k (by omega), hb1.block k hlt]
    · exact absurd (hf k hge) hk
  · rw [heap_setCell_same w3 g 0 _ _ _ hg3]; rfl
  · rw [List.length_append, c2s_app, c2s_one]
    refine hR.carry fun b hb hS => ?_
    have hne : b ≠ g := fun e => by
      rcases hS with hS | hS
      · have := hS.2
        rw [e, paint_old hgl, h.fg] at this
        omega
      · omega
    refine ⟨?_, sett b hne⟩
    rcases hS with hS | hS
    · exact hS
    · exact ⟨hf b (by omega), paint_new (by omega) (by omega)⟩
  · intro x hx
    rcases List.mem_append.1 hx with hx | hx
    · exact (h.pr.carry (carry 3 (by omega) (by omega))) x hx
    · rw [List.mem_singleton.1 hx]
      refine hq.carry fun k hk hS => ⟨hS, ?_⟩
      have hne : k ≠ g := fun e => by
        have := hS.2
        rw [e, paint_old hgl, h.fg] at this
        omega
      rw [sett k hne, hA.block k (by omega) ?_, h12.block k hk]
      intro e
      have h1 := hrb k e
      have h2 := hS.2
      have hkl : k < w.heap.size := h.row.ownLt k e
      rw [paint_old hkl] at h2
      omega
end Go.Proofs.Ythgkmbdnkamcoaa
