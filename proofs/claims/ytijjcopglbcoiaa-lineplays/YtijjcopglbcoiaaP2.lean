/-
  Proved here: a row of acts that comes in holds what it holds, within the reach of every row. No further condition.
-/
import Derived.Test.YtijjcopglbcoiaaP1
import Derived.Test.YtijjcopglbcoiaaUG
namespace Go.Proofs.Ytijjcopglbcoiaa
open Go.ChangeShapes Go.WideShapes Go.ChangeAt Go.RowKit Go.Deep

theorem cells33 : Try.prog.cellsOf 33 = 5 := by kernel_rfl
theorem cells22 : Try.prog.cellsOf 22 = 1 := by kernel_rfl
theorem bytes33 : 1 ≤ Try.prog.bytesOf 33 := by decide +kernel
section
variable {H : Type} {enc : TypeId × Value → H} {W : World}
theorem trod_struct5 {P : Program} {w : World} {base : Nat} {spare : Nat → Bool} {held : Bool} {t : TypeId} {f0 f1 f2 f3 f4 : Field} {fuel : Nat} {cs : List Value} {x : DataW H × List MemPlace} (ht : P.underlying t = some (.struct #[f0, f1, f2, f3, f4])) (h : DataW.trod enc P w base spare held fuel t cs = some x) :
    ∃ y0 y1 y2 y3 y4 n, x = (.agg [y0.1, y1.1, y2.1, y3.1, y4.1], y0.2 ++ (y1.2 ++ (y2.2 ++ (y3.2 ++ y4.2)))) ∧ cs.length = P.cellsOf t ∧ DataW.trod enc P w base spare held n f0.type ((cs.drop f0.offset).take (P.cellsOf f0.type)) = some y0 ∧
      DataW.trod enc P w base spare held n f1.type ((cs.drop f1.offset).take (P.cellsOf f1.type)) = some y1 ∧ DataW.trod enc P w base spare held n f2.type ((cs.drop f2.offset).take (P.cellsOf f2.type)) = some y2 ∧
      DataW.trod enc P w base spare held n f3.type ((cs.drop f3.offset).take (P.cellsOf f3.type)) = some y3 ∧ DataW.trod enc P w base spare held n f4.type ((cs.drop f4.offset).take (P.cellsOf f4.type)) = some y4 := by
  obtain ⟨xs, n, _, rfl, hl, hlen, hf⟩ := DataW.trod_struct ht h
  match xs, hlen with
  | [y0, y1, y2, y3, y4], _ => exact ⟨y0, y1, y2, y3, y4, n, by simp, hl, by simpa using hf 0 f0 rfl, by simpa using hf 1 f1 rfl, by simpa using hf 2 f2 rfl, by simpa using hf 3 f3 rfl, by simpa using hf 4 f4 rfl⟩

theorem len5 : ∀ {l : List Value}, l.length = 5 → ∃ v0 v1 v2 v3 v4, l = [v0, v1, v2, v3, v4]
  | [v0, v1, v2, v3, v4], _ => ⟨v0, v1, v2, v3, v4, rfl⟩

set_option maxRecDepth 100000 in
/-- AN ACT's CELLS. -/
theorem open_act {fuel : Nat} {cs : List Value} {D : DataW H} {Pl : List MemPlace} (hf : DataW.trod enc Try.prog W 0 (fun _ => true) true fuel 33 cs = some (D, Pl)) (hlt : ∀ y ∈ Pl, y.block < W.heap.size) (hw : ∀ n ∈ D.weights Try.prog 33, n ≤ reachBytes) :
    ∃ (a : AcT) (xa : Option Addr) (xc : Nat), cs = [.int .i64 a.wo, .int .i64 a.dw, .int .i64 a.an, .int .u32 (a.n : Nat), .slice xa a.bs.length xc] ∧ SlC (fun k => k < W.heap.size) W (.slice xa a.bs.length xc) a.bs ∧ a.n < 4294967296 := by
  obtain ⟨y0, y1, y2, y3, y4, n, hx, hl, e0, e1, e2, e3, e4⟩ := trod_struct5 Try.underlying33 hf
  rw [cells33] at hl
  obtain ⟨v0, v1, v2, v3, v4, rfl⟩ := len5 hl
  · skip
    simp only [cells3, cells22, cells31, List.drop_zero, List.drop_succ_cons, List.take_succ_cons, List.take_zero] at e0 e1 e2 e3 e4
    obtain ⟨n0, h0, _, _⟩ := DataW.trod_int Try.underlying3 e0
    obtain ⟨n1, h1, _, _⟩ := DataW.trod_int Try.underlying3 e1
    obtain ⟨n2, h2, _, _⟩ := DataW.trod_int Try.underlying3 e2
    obtain ⟨n3, h3, _, w3⟩ := DataW.trod_int Try.underlying22 e3
    simp only [Prod.mk.injEq] at hx
    obtain ⟨v', bs, hb1, hb2, -⟩ := open_cell e4 (fun y hy => hlt y (by rw [hx.2]; simp [hy])) (fun elems spare he => by
      refine hw _ ?_
      rw [hx.1]
      simp only [DataW.weights, Try.underlying33, DataW.weightsEach, List.map_cons, List.map_nil, List.mem_append]
      refine Or.inr (Or.inr (Or.inr (Or.inr (Or.inl ?_))))
      rw [he, weights_slice Try.underlying31]
      exact List.mem_cons_self)
    have b3 := bounds_u32 w3
    obtain ⟨m, hm⟩ := Int.eq_ofNat_of_zero_le b3.1
    have hv4 : v4 = v' := by simpa using hb1
    have hs : Sl W.heap.size W v' bs := hb2
    obtain ⟨xa, xc, hxe, _⟩ := id hs
    refine ⟨⟨n0, n1, n2, m, bs⟩, xa, xc, ?_, by rw [← hxe]; exact hs, by have := b3.2; simp only; omega⟩
    have q0 : v0 = .int .i64 n0 := by simpa using h0
    have q1 : v1 = .int .i64 n1 := by simpa using h1
    have q2 : v2 = .int .i64 n2 := by simpa using h2
    have q3 : v3 = .int .u32 n3 := by simpa using h3
    rw [q0, q1, q2, q3, hv4, hxe, hm]
theorem pickA {n : Nat} {p : Nat → AcT → Prop} (h : ∀ i, i < n → ∃ x, p i x) : ∃ l : List AcT, l.length = n ∧ ∀ i (hi : i < l.length), p i l[i] := by
  induction n with
  | zero => exact ⟨[], rfl, fun i hi => by simp at hi⟩
  | succ n ih =>
    obtain ⟨l, h1, h2⟩ := ih fun i hi => h i (by omega)
    obtain ⟨x, hx⟩ := h n (by omega)
    refine ⟨l ++ [x], by simp [h1], fun i hi => ?_⟩
    by_cases hlt : i < l.length
    · rw [List.getElem_append_left hlt]; exact h2 i hlt
    · have : i = l.length := by simp at hi; omega
      subst this
      rw [List.getElem_append_right (Nat.le_refl _)]
      simpa [h1] using hx

/-- A ROW OF ACTS THAT CAME IN. -/
theorem open_acts {v : Value} {d : DataW H} {p : List MemPlace} (h0 : DataW.Trod enc Try.prog W 0 (fun _ => true) true 23 v d p) (hlt : ∀ y ∈ p, y.block < W.heap.size) (hw : ∀ n ∈ d.weights Try.prog 23, n ≤ reachBytes) (hv : ∃ ao n c, v = .slice ao n c) :
    ∃ l, Al W.heap.size W v l := by
  obtain ⟨fuel, hf⟩ := h0
  obtain ⟨ao, n, c, rfl⟩ := hv
  rcases open_slice Try.underlying23 hf with ⟨hcs, _⟩ | ⟨a, len, cap, m, k, D, Pl, hcs, _, hl, hm, hmm, hx, hc⟩
  · simp only [Value.cells] at hcs
    have e : Value.slice ao n c = .slice none 0 0 := by simpa using hcs
    rw [e]
    exact ⟨[], none, 0, rfl, by simp, by simp, fun h => absurd rfl h⟩
  · simp only [Value.cells] at hcs
    have e : Value.slice ao n c = .slice (some a) len cap := by simpa using hcs
    rw [e]
    simp only [if_true] at hmm
    subst hmm
    rw [cells33] at hx hc
    have hd : d = .slice ((List.range len).map D) ((List.range (m - len)).map fun j => D (len + j)) := by have := congrArg Prod.fst hx; exact this
    have hp : p = MemPlace.row a (m * 5) ++ (List.range m).flatMap Pl := by have := congrArg Prod.snd hx; exact this
    rw [hd, weights_slice Try.underlying23] at hw
    have hlen : len ≤ 140737488355328 := by
      have h1 := hw _ List.mem_cons_self
      have h2 := bytes33
      simp only [reachBytes, List.length_map, List.length_range] at h1
      have h3 : len + (m - len) ≤ (len + (m - len)) * Try.prog.bytesOf 33 := Nat.le_mul_of_pos_right _ h2
      omega
    obtain ⟨l, h1, h2⟩ := pickA (n := len) (p := fun i x => ∃ xa xc, W.cells? 0 (a.add (i * 5)) 5 = some [.int .i64 x.wo, .int .i64 x.dw, .int .i64 x.an, .int .u32 (x.n : Nat), .slice xa x.bs.length xc] ∧ SlC (fun k => k < W.heap.size) W (.slice xa x.bs.length xc) x.bs ∧ x.n < 4294967296) (fun i hi => by
      obtain ⟨cs', hcl, htr⟩ := hc i (by omega)
      obtain ⟨x, xa, xc, q1, q2, q3⟩ := open_act htr (fun y hy => hlt y (by rw [hp]; exact List.mem_append_right _ (List.mem_flatMap.2 ⟨i, List.mem_range.2 (by omega), hy⟩))) (fun n hn => hw n (List.mem_cons_of_mem _ (List.mem_append_left _ (weights_all_mem (d := D i) (List.mem_map.2 ⟨i, List.mem_range.2 hi, rfl⟩) n hn))))
      exact ⟨x, xa, xc, by rw [← q1]; exact hcl, q2, q3⟩)
    obtain ⟨b, off, spot⟩ := a
    refine ⟨l, some ⟨b, off, spot⟩, m, by rw [h1], by omega, by omega, fun hne => ?_⟩
    have hpos : 0 < l.length := List.length_pos_iff.2 hne
    have hspot : spot = none := by
      obtain ⟨_, _, hcl, _⟩ := h2 0 hpos
      have := (World.cells?_some hcl).2.2 0 (by omega)
      simpa [Addr.add] using World.cell?_spot (this.trans rfl)
    subst hspot
    refine ⟨b, off, ?_, rfl, fun j hj => ?_⟩
    · refine hlt (.cell b off) ?_
      rw [hp]
      exact List.mem_append_left _ (MemPlace.mem_row.2 ⟨0, by omega, by simp⟩)
    · obtain ⟨xa, xc, hcl, hs, hn⟩ := h2 j hj
      have hcell : ∀ i, i < 5 → W.cell? ⟨b, off + j * 5 + i, none⟩ = [Value.int .i64 l[j].wo, .int .i64 l[j].dw, .int .i64 l[j].an, .int .u32 (l[j].n : Nat), .slice xa l[j].bs.length xc][i]? := fun i hi => by
        have := (World.cells?_some hcl).2.2 i hi
        rw [Addr.add_mid, Addr.add_mid] at this
        exact this
      exact ⟨xa, xc, hcell 0 (by omega), hcell 1 (by omega), hcell 2 (by omega), hcell 3 (by omega), hcell 4 (by omega), hs, hn⟩
end
end Go.Proofs.Ytijjcopglbcoiaa
