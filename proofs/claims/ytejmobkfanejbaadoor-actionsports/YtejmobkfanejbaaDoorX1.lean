/-
  Laws of our own: the making of a slice of one thing; lists of headers in new memory (Hs), one more behind them. No condition.
-/
import Derived.Test.YtejmobkfanejbaaDoorB3
import Derived.Great.BuildSlice
import Derived.Laws.ResultCell
namespace Go.Proofs.YtejmobkfanejbaaDoor
open Go.RowKit

theorem fold_set : ∀ (l : List Value) (k : Nat) (A : Array Value) (i : Nat), ((l.zipIdx k).foldl (fun (cs : Array Value) (x : Value × Nat) => cs.setIfInBounds (0 + x.2) x.1) A).size = A.size ∧ ((l.zipIdx k).foldl (fun (cs : Array Value) (x : Value × Nat) => cs.setIfInBounds (0 + x.2) x.1) A)[i]? = if k ≤ i ∧ i < k + l.length ∧ i < A.size then l[i - k]? else A[i]?
  | [], k, A, i => by
    simp
    omega
  | c :: l, k, A, i => by
    obtain ⟨h1, h2⟩ := fold_set l (k + 1) (A.setIfInBounds (0 + k) c) i
    simp only [List.zipIdx_cons, List.foldl_cons]
    refine ⟨by rw [h1]; simp, ?_⟩
    rw [h2, Array.getElem?_setIfInBounds, Array.size_setIfInBounds]
    simp only [Nat.zero_add, List.length_cons]
    by_cases h : k = i
    · subst h
      rw [if_neg (by omega), if_pos rfl]
      by_cases hs : k < A.size
      · rw [if_pos hs, if_pos ⟨by omega, by omega, hs⟩]; simp
      · rw [if_neg hs, if_neg (by omega), Array.getElem?_eq_none (by omega)]
    · rw [if_neg h]
      by_cases hq : k + 1 ≤ i ∧ i < k + 1 + l.length ∧ i < A.size
      · rw [if_pos hq, if_pos ⟨by omega, by omega, hq.2.2⟩, show i - k = (i - (k + 1)) + 1 by omega]; simp
      · rw [if_neg hq, if_neg (by omega)]
theorem fill_one (n : Nat) (A cs : Array Value) (hA : A.size = n) (hc : cs.size = n) : Instr.fill (fun i => some (i * n, n)) A [(0, .agg cs)] = some cs := by
  simp only [Instr.fill, Value.cells, Nat.zero_mul, Nat.zero_add]
  rw [if_neg (by simp [hA, hc])]
  refine congrArg some ?_
  apply Array.ext_getElem?
  intro i
  rw [← Array.foldl_toList, Array.toList_zipIdx]
  have h := (fold_set cs.toList 0 A i).2
  simp only [Nat.zero_add] at h
  rw [h, Array.length_toList, Nat.sub_zero]
  by_cases hi : i < n
  · rw [if_pos ⟨by omega, by omega, by omega⟩]; simp
  · rw [if_neg (by omega), Array.getElem?_eq_none (by omega), Array.getElem?_eq_none (by omega)]
/-- A slice of one thing is made. -/
theorem bldSl {ops : Array Oper} {rest : List Oper} {o : Oper} {a : Act} {w : World} {Q : Exit → Act → World → Prop} (t e : TypeId) (y : Operand) (ho : o.op = .buildSlice t 1 #[(0, y)]) (hg : o.guard = none) (cs : Array Value) (hy : a.eval y = .agg cs) (hu : Tryd.prog.underlying t = some (.slice e)) (ie : TypeInfo) (z : Value) (n : Nat) (hie : Tryd.prog.info? e = some ie) (hz : ie.zero = some z) (hsz : ie.size = n) (hn : cs.size = n) (hn0 : 0 < n) (hn1 : n ≤ 1000)
    (h : wpList Tryd.prog ops Q rest (a.put o.dst (.slice (some ⟨w.heap.size, 0, none⟩) 1 1)) (w.alloc (.cells cs e))) : wpList Tryd.prog ops Q (o :: rest) a w := by
  refine wpList_buildSlice hg t e 1 _ ho cs ie z hu hie hz (by rw [hsz, Nat.one_mul]; omega) (by rw [hsz, Nat.one_mul]; omega) ?_ h
  rw [hsz]
  have : (Array.map (fun (x : Nat × Operand) => (x.1, a.eval x.2)) #[(0, y)]).toList = [(0, .agg cs)] := by simp [hy]
  show Instr.fill _ _ (Array.map (fun (x : Nat × Operand) => (x.1, a.eval x.2)) #[(0, y)]).toList = _
  rw [this]
  exact fill_one n _ cs (by simp) hn
theorem infoHDR : (Tryd.prog.info? 24).map (fun i => (i.zero, i.size, i.bytes)) = some (some (hv zf), 11, 88) := by kernel_rfl
/-- Headers, in blocks of S. -/
abbrev Hs (S : Nat → Prop) (w : World) (v : Value) (l : List (Nat → Int)) : Prop := Rw S 11 24 w v l.length (hcs l)
theorem Hs.nil (S : Nat → Prop) (w : World) : Hs S w nilS [] := Rw.nil _ _ _ _
/-- One header of a list. -/
theorem Hs.at {S : Nat → Prop} {w : World} {ao : Option Addr} {n cap : Nat} {l : List (Nat → Int)} (h : Hs S w (.slice ao n cap) l) {j : Nat} (hj : j < l.length) : ∃ b o, ao = some ⟨b, o, none⟩ ∧ S b ∧ b < w.heap.size ∧ ∀ i, i < 11 → w.cell? ⟨b, o + j * 11 + i, none⟩ = some (.int .u64 (l[j] i)) := by
  rcases h.2 with ⟨_, h0⟩ | ⟨g, o, cap', cur, he, hb1, hb2, hb3, hb4, hb5⟩
  · omega
  obtain ⟨rfl, rfl, rfl⟩ : ao = some ⟨g, o, none⟩ ∧ n = l.length ∧ cap = cap' := by simpa using he
  refine ⟨g, o, rfl, hb1, (Array.getElem?_eq_some_iff.1 hb2).1, fun i hi => ?_⟩
  have hlt : j * 11 + i < l.length * 11 := by omega
  rw [cell_of_row _ _ _ _ _ _ hb2, show o + j * 11 + i = o + (j * 11 + i) by omega, cells_at hb5 hlt, hcs_at l j i hj hi]
theorem Hs.range {S : Nat → Prop} {w : World} {ao : Option Addr} {n cap : Nat} {l : List (Nat → Int)} (h : Hs S w (.slice ao n cap) l) {j : Nat} (hj : j < l.length) : ∃ b o, ao = some ⟨b, o, none⟩ ∧ S b ∧ b < w.heap.size ∧ w.rangeAt b (o + j * 11) (row 11 l[j]).toList := by
  obtain ⟨b, o, h1, h2, h3, h4⟩ := h.at hj
  refine ⟨b, o, h1, h2, h3, range_of fun i hi => ?_⟩
  rw [row_size] at hi
  rw [h4 i hi, row_at 11 _ i hi]
/-- A HEADER IS APPENDED. -/
theorem appH {ops : Array Oper} {rest : List Oper} {o : Oper} {a : Act} {w : World} {Q : Exit → Act → World → Prop} (s x : Operand) (hop : o.op = .call { callee := .builtin .append, args := #[s, x], argTypes := #[37, 37] }) (hw : Region.wanted o (yielded ops a.tmps) = true)
    {S : Nat → Prop} {v : Value} {l : List (Nat → Int)} {f : Nat → Int} {w0 : World} (hW : w = w0.alloc (.cells (row 11 f) 24)) (hs : a.eval s = v) (hx : a.eval x = .slice (some ⟨w0.heap.size, 0, none⟩) 1 1) (h : Hs S w0 v l) (hl : l.length < 1000000)
    (hK : ∀ v' w', Only (fun b => S b ∨ w0.heap.size ≤ b) w0 w' → Hs (fun b => S b ∨ w0.heap.size ≤ b) w' v' (l ++ [f]) → wpList Tryd.prog ops Q rest (a.put o.dst v') w') : wpList Tryd.prog ops Q (o :: rest) a w := by
  subst hW
  have hb : Below w0.heap.size w0 (w0.alloc (.cells (row 11 f) 24)) := (Below.refl _ _).alloc (Nat.le_refl _) _
  have h2 : Hs S (w0.alloc (.cells (row 11 f) 24)) v l := h.carry fun b hb' hS => ⟨hS, hb.block b hb'⟩
  refine appRw (S := S) (k := 11) (t := 24) (n := l.length) (m := 1) (c := 1) (xs := hcs l) (us := (row 11 f).toList) (ad := ⟨w0.heap.size, 0, none⟩) s x 37 hop hw hs hx Tryd.underlying37 infoHDR (row_size _ _) (by omega) (by omega) h2 (by simp [row_size]) (fun j z hz => ?_) (fun z hz => ?_) (by omega) (Or.inl (by omega)) ?_
  · rw [Addr.add_lit, Nat.zero_add, cell_of_row _ _ _ _ _ _ (heap_alloc_new _ _), ← hz]; simp
  · exact hcs_one' [f] z (by rw [hcs_one]; exact hz)
  · intro v' w' hA hR
    have hR' := hR S h2
    have hO : Only (fun b => S b ∨ w0.heap.size ≤ b) (w0.alloc (.cells (row 11 f) 24)) w' := hA.only (fun k hk => Or.inr (Nat.le_trans hb.size hk)) (fun k hk => Or.inl (h2.own k hk))
    refine hK v' w' ((Only.of hb fun k hk => Or.inr hk).trans hO) ?_
    unfold Hs
    rw [List.length_append, hcs_app, hcs_one]
    exact hR'.carry fun b _ hS => ⟨hS.imp id fun h => Nat.le_trans hb.size h, rfl⟩
end Go.Proofs.YtejmobkfanejbaaDoor
