/-
  Proved here: air.Put. Conditions: what is put is old memory; fewer than 2 to 31 datagrams.
-/
import Derived.Test.YthgkmbdnkamcoaaF2
namespace Go.Proofs.Ythgkmbdnkamcoaa
open Go.RowKit

/-- clone, as a step of a region that draws its order. -/
theorem stepClone {ops : Array Oper} {o : Oper} {a : Act} {w : World} {K : Act → World → Prop} {Q : Exit → Act → World → Prop} {E : Prop} (x : Operand) (hop : o.op = .call { callee := .value (.func 21), args := #[x], argTypes := #[31] }) (hg : o.guard = none)
    {T : Nat → Prop} {u : Value} {bs : List Int} (hx : a.eval x = u) (hs : SlC T w u bs)
    (hK : ∀ v' w', Below w.heap.size w w' → Owns w.heap.size w' v' bs → K (a.put o.dst v') w') : if Region.wanted o (yielded ops a.tmps) = true then Oper.wp Try.prog o a w K Q else E := by
  have hw : Region.wanted o (yielded ops a.tmps) = true := by simp [Region.wanted, hg]
  rw [if_pos hw]
  have hfn : a.eval (.func 21) = .func (.func 21) #[] #[] := rfl
  have hrun : (execOp a.eval o).run Try.prog w = .ok (.enter 21 #[u]) w := by
    unfold execOp
    simp only [hop, resolve, invoke, Deferred.ofValue, hfn, callFunc, Sem.run_bind, Sem.run_pure, Result.andThen_ok, List.map_toArray, List.map_cons, List.map_nil, hx]
    rfl
  show Oper.upon Try.prog o a K Q ((execOp a.eval o).run Try.prog w)
  rw [hrun, Oper.upon_enter]
  refine (clone_any u bs w hs).mono ?_
  rintro r w' ⟨v', rfl, h1, h2⟩
  exact hK v' w' h1 h2
/-- Colours: below m as they were; from m to n the bytes' (3); from n on i. -/
def paint (f : Nat → Nat) (m n i : Nat) : Nat → Nat := fun k => if k < m then f k else if k < n then 3 else i
theorem paint_old {f : Nat → Nat} {m n i k : Nat} (h : k < m) : paint f m n i k = f k := by simp [paint, h]
theorem paint_mid {f : Nat → Nat} {m n i k : Nat} (h1 : m ≤ k) (h2 : k < n) : paint f m n i k = 3 := by
  unfold paint; rw [if_neg (by omega), if_pos h2]
theorem paint_new {f : Nat → Nat} {m n i k : Nat} (h1 : m ≤ k) (h2 : n ≤ k) : paint f m n i k = i := by
  unfold paint; rw [if_neg (by omega), if_neg (by omega)]
/-- ONE MORE IN THE ROW (i = 1) OR AMONG WHAT CAME (i = 2): what is left to say behind the append and the store. -/
theorem row_fin {S : Nat → Prop} {f : Nat → Nat} {w w1 w2 w3 : World} {g : Nat} {vr vc v3 : Value} {ps qs : List (Value × Dg)} {q : Value × Dg} (h : ARf S f w g vr vc ps qs) (hf : Fresh S w) (hb1 : Below w.heap.size w w1) (h12 : Below w1.heap.size w1 w2)
    (hq : SlC (fun k => S k ∧ paint f w.heap.size w1.heap.size 1 k = 3) w1 q.1 q.2.b ∧ q.2.Ok) (hA : Apd w2 vr w3) (hR : Rw (fun b => (S b ∧ paint f w.heap.size w1.heap.size 1 b = 1) ∨ w2.heap.size ≤ b) 3 50 w3 v3 (ps.length + 1) (c3s ps ++ c3 q)) :
    Only S w (w3.setCell ⟨g, 0, none⟩ v3) ∧ ARf S (paint f w.heap.size w1.heap.size 1) (w3.setCell ⟨g, 0, none⟩ v3) g v3 vc (ps ++ [q]) qs := by
  have hgl := (Array.getElem?_eq_some_iff.1 h.hg).1
  have hs1 := hb1.size
  have hs2 := h12.size
  have hs3 := hA.size
  have hrb : ∀ k, vr.ownBlock = some k → S k ∧ f k = 1 := fun k hk => h.row.own k hk
  have old : ∀ k, k < w.heap.size → f k ≠ 1 → w3.heap[k]? = w.heap[k]? := fun k hk h1 => by
    rw [hA.block k (by omega) (fun e => h1 (hrb k e).2), h12.block k (by omega), hb1.block k hk]
  have sett : ∀ k, k ≠ g → (w3.setCell ⟨g, 0, none⟩ v3).heap[k]? = w3.heap[k]? := fun k hk => heap_setCell_other w3 ⟨g, 0, none⟩ k v3 hk
  have hg3 : w3.heap[g]? = some (.cells #[vr, vc] 47 (0, 0)) := (old g hgl (by rw [h.fg]; omega)).trans h.hg
  have carry : ∀ i, i ≠ 0 → i ≠ 1 → ∀ k, k < w.heap.size → (S k ∧ f k = i) → (S k ∧ paint f w.heap.size w1.heap.size 1 k = i) ∧ (w3.setCell ⟨g, 0, none⟩ v3).heap[k]? = w.heap[k]? := fun i h0 h1 k hk hS => ⟨⟨hS.1, (paint_old hk).trans hS.2⟩, (sett k (fun e => by have := h.fg; have := hS.2; subst e; omega)).trans (old k hk (by omega))⟩
  refine ⟨?_, h.sg, (paint_old hgl).trans h.fg, ?_, ?_, h.came.carry (carry 2 (by omega) (by omega)), ?_, h.pc.carry (carry 3 (by omega) (by omega))⟩
  · refine Only.setCell (p := ⟨g, 0, none⟩) ⟨hA.os.trans (h12.os.trans hb1.os), hA.tape.trans (h12.tape.trans hb1.tape), hA.output.trans (h12.output.trans hb1.output), by omega, fun k hk => ?_⟩ h.sg v3
    rcases Nat.lt_or_ge k w.heap.size with hlt | hge
    · rw [hA.block k (by omega) (fun e => hk (hrb k e).1), h12.block k (by omega), hb1.block k hlt]
    · exact absurd (hf k hge) hk
  · rw [heap_setCell_same w3 g 0 _ _ _ hg3]; rfl
  · rw [List.length_append, c3s_app, c3s_one]
    refine hR.carry fun b hb hS => ?_
    have hne : b ≠ g := fun e => by
      rcases hS with hS | hS
      · have := hS.2
        rw [e, paint_old hgl, h.fg] at this
        omega
      · omega
    refine ⟨?_, sett b hne⟩
    rcases hS with hS | hS
    · exact hS
    · exact ⟨hf b (by omega), paint_new (by omega) (by omega)⟩
  · refine (h.pr.carry (carry 3 (by omega) (by omega))).app (Prs.one ⟨hq.1.carry fun k hk hS => ⟨hS, ?_⟩, hq.2⟩)
    have hne : k ≠ g := fun e => by
      have := hS.2
      rw [e, paint_old hgl, h.fg] at this
      omega
    rw [sett k hne, hA.block k (by omega) ?_, h12.block k hk]
    intro e
    have h1 := hrb k e
    have h2 := hS.2
    have hkl : k < w.heap.size := by
      rcases h.row.2 with ⟨e', _⟩ | ⟨b', _, _, _, e', _, h3', _⟩
      · rw [e'] at e; simp [Value.ownBlock] at e
      · rw [e'] at e
        simp [Value.ownBlock] at e
        subst e
        exact (Array.getElem?_eq_some_iff.1 h3').1
    rw [paint_old hkl] at h2
    omega
/-- ONE MORE AMONG WHAT CAME. -/
theorem came_fin {S : Nat → Prop} {f : Nat → Nat} {w w1 w2 w3 : World} {g : Nat} {vr vc v3 : Value} {ps qs : List (Value × Dg)} {q : Value × Dg} (h : ARf S f w g vr vc ps qs) (hf : Fresh S w) (hb1 : Below w.heap.size w w1) (h12 : Below w1.heap.size w1 w2)
    (hq : SlC (fun k => S k ∧ paint f w.heap.size w1.heap.size 2 k = 3) w1 q.1 q.2.b ∧ q.2.Ok) (hA : Apd w2 vc w3) (hR : Rw (fun b => (S b ∧ paint f w.heap.size w1.heap.size 2 b = 2) ∨ w2.heap.size ≤ b) 3 50 w3 v3 (qs.length + 1) (c3s qs ++ c3 q)) :
    Only S w (w3.setCell ⟨g, 1, none⟩ v3) ∧ ARf S (paint f w.heap.size w1.heap.size 2) (w3.setCell ⟨g, 1, none⟩ v3) g vr v3 ps (qs ++ [q]) := by
  have hgl := (Array.getElem?_eq_some_iff.1 h.hg).1
  have hs1 := hb1.size
  have hs2 := h12.size
  have hs3 := hA.size
  have hrb : ∀ k, vc.ownBlock = some k → S k ∧ f k = 2 := fun k hk => h.came.own k hk
  have old : ∀ k, k < w.heap.size → f k ≠ 2 → w3.heap[k]? = w.heap[k]? := fun k hk h1 => by
    rw [hA.block k (by omega) (fun e => h1 (hrb k e).2), h12.block k (by omega), hb1.block k hk]
  have sett : ∀ k, k ≠ g → (w3.setCell ⟨g, 1, none⟩ v3).heap[k]? = w3.heap[k]? := fun k hk => heap_setCell_other w3 ⟨g, 1, none⟩ k v3 hk
  have hg3 : w3.heap[g]? = some (.cells #[vr, vc] 47 (0, 0)) := (old g hgl (by rw [h.fg]; omega)).trans h.hg
  have carry : ∀ i, i ≠ 0 → i ≠ 2 → ∀ k, k < w.heap.size → (S k ∧ f k = i) → (S k ∧ paint f w.heap.size w1.heap.size 2 k = i) ∧ (w3.setCell ⟨g, 1, none⟩ v3).heap[k]? = w.heap[k]? := fun i h0 h1 k hk hS => ⟨⟨hS.1, (paint_old hk).trans hS.2⟩, (sett k (fun e => by have := h.fg; have := hS.2; subst e; omega)).trans (old k hk (by omega))⟩
  refine ⟨?_, h.sg, (paint_old hgl).trans h.fg, ?_, h.row.carry (carry 1 (by omega) (by omega)), ?_, h.pr.carry (carry 3 (by omega) (by omega)), ?_⟩
  · refine Only.setCell (p := ⟨g, 1, none⟩) ⟨hA.os.trans (h12.os.trans hb1.os), hA.tape.trans (h12.tape.trans hb1.tape), hA.output.trans (h12.output.trans hb1.output), by omega, fun k hk => ?_⟩ h.sg v3
    rcases Nat.lt_or_ge k w.heap.size with hlt | hge
    · rw [hA.block k (by omega) (fun e => hk (hrb k e).1), h12.block k (by omega), hb1.block k hlt]
    · exact absurd (hf k hge) hk
  · rw [heap_setCell_same w3 g 1 _ _ _ hg3]; rfl
  · rw [List.length_append, c3s_app, c3s_one]
    refine hR.carry fun b hb hS => ?_
    have hne : b ≠ g := fun e => by
      rcases hS with hS | hS
      · have := hS.2
        rw [e, paint_old hgl, h.fg] at this
        omega
      · omega
    refine ⟨?_, sett b hne⟩
    rcases hS with hS | hS
    · exact hS
    · exact ⟨hf b (by omega), paint_new (by omega) (by omega)⟩
  · refine (h.pc.carry (carry 3 (by omega) (by omega))).app (Prs.one ⟨hq.1.carry fun k hk hS => ⟨hS, ?_⟩, hq.2⟩)
    have hne : k ≠ g := fun e => by
      have := hS.2
      rw [e, paint_old hgl, h.fg] at this
      omega
    rw [sett k hne, hA.block k (by omega) ?_, h12.block k hk]
    intro e
    have h1 := hrb k e
    have h2 := hS.2
    have hkl : k < w.heap.size := by
      rcases h.came.2 with ⟨e', _⟩ | ⟨b', _, _, _, e', _, h3', _⟩
      · rw [e'] at e; simp [Value.ownBlock] at e
      · rw [e'] at e
        simp [Value.ownBlock] at e
        subst e
        exact (Array.getElem?_eq_some_iff.1 h3').1
    rw [paint_old hkl] at h2
    omega

theorem Owns.slice {base : Nat} {w : World} {v : Value} {xs : List Int} (h : Owns base w v xs) : ∃ a k, v = .slice a xs.length k := by
  rcases h.2 with ⟨rfl, e⟩ | ⟨g, cap, cur, rfl, _⟩
  · exact ⟨none, 0, by rw [e]⟩
  · exact ⟨_, _, rfl⟩
/-- A new datagram's cells, behind its slice. -/
theorem one_cells {w : World} {q : Value × Dg} {t : Nat} (j : Nat) (x : Value) (hx : (c3 q)[j]? = some x) : (w.alloc (.cells #[q.1, .bool q.2.ch, .int .i64 (q.2.pl : Nat)] t)).cell? (Addr.add ⟨w.heap.size, 0, none⟩ j) = some x := by
  rw [Addr.add_lit, Nat.zero_add, cell_of_row _ _ _ _ _ _ (heap_alloc_new _ _), ← hx]
  simp [c3]
set_option maxHeartbeats 1600000 in
set_option maxRecDepth 100000 in
theorem put_any {S T : Nat → Prop} (w : World) (v : Value) (a : Ar) (u : Value) (bs : List Int) (h : AR S w v a) (hf : Fresh S w) (hs : SlC T w u bs) (hl : a.row.length < 1000000) :
    Calls Try.prog 11 #[v, u] w fun e w' => e = .returned (.tuple #[]) ∧ Only S w w' ∧ AR S w' v (putS a bs) := by
  obtain ⟨g, f, vr, vc, ps, qs, rfl, h, hrow, hcame⟩ := h
  have hgl := (Array.getElem?_eq_some_iff.1 h.hg).1
  obtain ⟨c0, -, c2, -⟩ := two_cells h.hg
  have hn : ps.length < 1000000 := by rw [hrow] at hl; simpa using hl
  obtain ⟨ao, cap, rfl⟩ := h.row.form
  have H := hid h
  have HS := hid hs
  have hlen := hs.len
  have HG := hid hgl
  have HFr := hid hf
  clear h hs hf
  go_enter Try.func11, Try.ntmps11
  go_wp2
  go_region_law (first
    | (refine stepClone (T := T) (.tmp 11) rfl rfl rfl (HS.out.carry fun _ _ h => ⟨h, rfl⟩) ?_
       intro v1 w1 hb1 ho1
       have HB1 : Hid (Below w.heap.size w w1) := (Below.refl _ _).drew.trans hb1
       have HO1 : Hid (Owns w.heap.size w1 v1 bs) := ho1
       obtain ⟨a1, k1, rfl⟩ := ho1.slice
       have hg1 : w1.heap[g]? = some (.cells #[.slice ao ps.length cap, vc] 47 (0, 0)) := (HB1.out.block g HG.out).trans H.out.hg
       have hg2 : (w1.alloc (.cells #[.slice a1 bs.length k1, .bool false, .int .i64 0] 50)).heap[g]? = _ := (heap_alloc_old w1 _ (Nat.lt_of_lt_of_le HG.out HB1.out.size)).trans hg1
       obtain ⟨y0, -, y2, -⟩ := two_cells hg1
       obtain ⟨x0, -, x2, -⟩ := two_cells hg2
       have HR1 : Hid (Rw (fun k => S k ∧ paint f w.heap.size w1.heap.size 1 k = 1) 3 50 (w1.alloc (.cells #[.slice a1 bs.length k1, .bool false, .int .i64 0] 50)) (.slice ao ps.length cap) ps.length (c3s ps)) := H.out.row.carry fun k hk hS => ⟨⟨hS.1, (paint_old hk).trans hS.2⟩, (heap_alloc_old w1 _ (Nat.lt_of_lt_of_le hk HB1.out.size)).trans (HB1.out.block k hk)⟩
       have HQ : Hid (SlC (fun k => S k ∧ paint f w.heap.size w1.heap.size 1 k = 3) w1 (.slice a1 bs.length k1) bs ∧ Dg.Ok ⟨bs, false, 0⟩) := ⟨SlC.own HO1.out hlen HS.out.isB fun k h1 h2 => ⟨HFr.out k h1, paint_mid h1 h2⟩, HS.out.isB, fun h => by cases h⟩
       clear hg1 hg2 hb1 ho1)
    | (refine stepRw (S := fun k => S k ∧ paint f w.heap.size w1.heap.size 1 k = 1) (k := 3) (t := 50) (n := ps.length) (m := 1) (c := 1) (xs := c3s ps) (us := c3 (.slice a1 bs.length k1, ⟨bs, false, 0⟩)) (ad := ⟨w1.heap.size, 0, none⟩) (.tmp 10) (.tmp 14) 45 rfl rfl rfl rfl Try.underlying45 infoD rfl (by omega) (by omega) HR1.out rfl (fun j x hx => one_cells (q := (.slice a1 bs.length k1, ⟨bs, false, 0⟩)) j x hx) (fun x hx => c3_ones (Prs.one (q := (.slice a1 bs.length k1, ⟨bs, false, 0⟩)) HQ.out) x (by rw [c3s_one]; exact hx)) (by omega) (Or.inl (by omega)) ?_
       intro v3 w3 A3 R3
       obtain ⟨a3, k3, rfl⟩ := R3.form
       have HD := hid (row_fin (q := (.slice a1 bs.length k1, ⟨bs, false, 0⟩)) H.out HFr.out HB1.out ((Below.refl _ _).alloc (Nat.le_refl _) _) HQ.out A3 R3)
       have hg3 : w3.heap[g]? = some (.cells #[.slice ao ps.length cap, vc] 47 (0, 0)) := by
         have e : (w1.alloc (.cells #[.slice a1 bs.length k1, .bool false, .int .i64 0] 50)).heap[g]? = _ := (heap_alloc_old w1 _ (Nat.lt_of_lt_of_le HG.out HB1.out.size)).trans ((HB1.out.block g HG.out).trans H.out.hg)
         refine (A3.block g ?_ fun e' => ?_).trans e
         · have := HG.out; have := HB1.out.size; simp; omega
         · have h1 := H.out.row.own g e'
           have h2 := H.out.fg
           have := h1.2
           omega
       obtain ⟨q0, -, q2, -⟩ := two_cells hg3
       clear A3 R3 hg3))
  all_goals (
    go_wp2
    first | go_end0 | refine bodyPost_ret (results_none rfl _ _ _) rfl ?_
    exact ⟨rfl, HD.out.1, g, _, _, _, _, _, rfl, HD.out.2, by rw [putS, hrow]; simp, hcame⟩)
end Go.Proofs.Ythgkmbdnkamcoaa
