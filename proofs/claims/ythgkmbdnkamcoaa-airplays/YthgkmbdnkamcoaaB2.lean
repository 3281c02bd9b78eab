/-
  Proved here: the document's Put and Came. Conditions: what is put is old memory; fewer than a million ones.
-/
import Derived.Test.YthgkmbdnkamcoaaB1
namespace Go.Proofs.Ythgkmbdnkamcoaa
open Go.RowKit

def rputS (a : Ra) (b : List Int) : Ra := ⟨a.l ++ [⟨b, false⟩], a.n⟩
def rcmS (a : Ra) : Ra := ⟨a.l, []⟩
/-- Bytes are appended, as a step of a region that draws its order. -/
theorem stepBy {ops : Array Oper} {o : Oper} {a : Act} {w : World} {K : Act → World → Prop} {Q : Exit → Act → World → Prop} {E : Prop} (s x : Operand) (hop : o.op = .call { callee := .builtin .append, args := #[s, x], argTypes := #[31, 31] }) (hgd : o.guard = none)
    {base B' : Nat} {v u : Value} {xs zs : List Int} (hs : a.eval s = v) (hx : a.eval x = u) (hown : Owns base w v xs) (hsl : Sl B' w u zs) (hbase : base ≤ w.heap.size) (hlen : xs.length + zs.length ≤ 140737488355328)
    (hK : ∀ v' w', Ext base w v w' v' (xs ++ zs) → K (a.put o.dst v') w') : if Region.wanted o (yielded ops a.tmps) = true then Oper.wp Try.prog o a w K Q else E := by
  have hw : Region.wanted o (yielded ops a.tmps) = true := by simp [Region.wanted, hgd]
  rw [if_pos hw]
  obtain ⟨v', w', hr, hE⟩ := run_app (ty := o.type) hown hsl hbase hlen
  unfold Oper.wp
  simp [execOp, hop, resolve, invoke, builtin, hs, hx, hr, Result.andThen]
  exact hK v' w' hE
theorem two_new {w : World} {q : Value × On} {t : Nat} (j : Nat) (x : Value) (hx : (c2 q)[j]? = some x) : (w.alloc (.cells #[q.1, .bool q.2.ch] t)).cell? (Addr.add ⟨w.heap.size, 0, none⟩ j) = some x := by
  rw [Addr.add_lit, Nat.zero_add, cell_of_row _ _ _ _ _ _ (heap_alloc_new _ _), ← hx]
  simp [c2]
set_option maxHeartbeats 1600000 in
set_option maxRecDepth 100000 in
theorem rput_any {S T : Nat → Prop} (w : World) (v : Value) (a : Ra) (u : Value) (bs : List Int) (h : RR S w v a) (hf : Fresh S w) (hs : SlC T w u bs) (hl : a.l.length < 1000000) :
    Calls Try.prog 12 #[v, u] w fun e w' => e = .returned (.tuple #[]) ∧ Only S w w' ∧ RR S w' v (rputS a bs) := by
  obtain ⟨g, f, vr, vc, ps, qs, rfl, h, hrow, hcame⟩ := h
  have hgl := (Array.getElem?_eq_some_iff.1 h.hg).1
  obtain ⟨c0, -, k2, -⟩ := two_cells h.hg
  have hn : ps.length < 1000000 := by rw [hrow] at hl; simpa using hl
  obtain ⟨ao, cap, rfl⟩ := h.row.form
  have H := hid h
  have HS := hid hs
  have hlen := hs.len
  have HG := hid hgl
  have HFr := hid hf
  have HOw : Hid (Owns w.heap.size w.drew nilS []) := Owns.isNil
  have HSl : Hid (Sl w.heap.size w.drew u bs) := (hs.carry (T := fun k => k < w.heap.size) (w' := w.drew) fun k hk _ => ⟨hk, rfl⟩).sl
  obtain ⟨ua, uc, rfl, -⟩ := id hs
  clear h hs hf
  go_enter Try.func12, Try.ntmps12
  go_wp2
  go_region_law (first
    | (refine stepBy (.tmp 10) (.tmp 11) rfl rfl rfl rfl HOw.out HSl.out (Nat.le_refl _) (by simp only [List.length_nil]; omega) ?_
       intro v1 w1 X1
       have HB1 : Hid (Below w.heap.size w w1) := (show Below w.heap.size w w.drew from (Below.refl _ _).drew).trans (X1.below HOw.out (Nat.le_refl _))
       have HO1 : Hid (Owns w.heap.size w1 v1 bs) := X1.own
       obtain ⟨a1, k1, rfl⟩ : ∃ a1 k1, v1 = .slice a1 bs.length k1 := HO1.out.slice
       have hg1 : w1.heap[g]? = some (.cells #[.slice ao ps.length cap, vc] 30 (0, 0)) := (HB1.out.block g HG.out).trans H.out.hg
       have hg2 : (w1.alloc (.cells #[.slice a1 bs.length k1, .bool false] 53)).heap[g]? = _ := (heap_alloc_old w1 _ (Nat.lt_of_lt_of_le HG.out HB1.out.size)).trans hg1
       obtain ⟨y0, -, y2, -⟩ := two_cells hg1
       obtain ⟨x0, -, x2, -⟩ := two_cells hg2
       have HR1 : Hid (Rw (fun k => S k ∧ paint f w.heap.size w1.heap.size 1 k = 1) 2 53 (w1.alloc (.cells #[.slice a1 bs.length k1, .bool false] 53)) (.slice ao ps.length cap) ps.length (c2s ps)) := H.out.row.carry fun k hk hS => ⟨⟨hS.1, (paint_old hk).trans hS.2⟩, (heap_alloc_old w1 _ (Nat.lt_of_lt_of_le hk HB1.out.size)).trans (HB1.out.block k hk)⟩
       have HQ : Hid (SlC (fun k => S k ∧ paint f w.heap.size w1.heap.size 1 k = 3) w1 (.slice a1 bs.length k1) bs) := SlC.own HO1.out hlen HS.out.isB fun k h1 h2 => ⟨HFr.out k h1, paint_mid h1 h2⟩
       clear hg1 hg2 X1)
    | (refine stepRw (S := fun k => S k ∧ paint f w.heap.size w1.heap.size 1 k = 1) (k := 2) (t := 53) (n := ps.length) (m := 1) (c := 1) (xs := c2s ps) (us := c2 (.slice a1 bs.length k1, ⟨bs, false⟩)) (ad := ⟨w1.heap.size, 0, none⟩) (.tmp 9) (.tmp 14) 27 rfl rfl rfl rfl Try.underlying27 infoO rfl (by omega) (by omega) HR1.out rfl (fun j x hx => two_new (q := (.slice a1 bs.length k1, ⟨bs, false⟩)) j x hx) (by intro x hx; simp only [c2, List.mem_cons, List.not_mem_nil, or_false] at hx; rcases hx with rfl | rfl <;> rfl) (by omega) (Or.inl (by omega)) ?_
       intro v3 w3 A3 R3
       obtain ⟨a3, k3, rfl⟩ := R3.form
       have HD := hid (rrow_fin (q := (.slice a1 bs.length k1, ⟨bs, false⟩)) H.out HFr.out HB1.out ((Below.refl _ _).alloc (Nat.le_refl _) _) HQ.out A3 R3)
       have hg3 : w3.heap[g]? = some (.cells #[.slice ao ps.length cap, vc] 30 (0, 0)) := by
         have e : (w1.alloc (.cells #[.slice a1 bs.length k1, .bool false] 53)).heap[g]? = _ := (heap_alloc_old w1 _ (Nat.lt_of_lt_of_le HG.out HB1.out.size)).trans ((HB1.out.block g HG.out).trans H.out.hg)
         refine (A3.block g ?_ fun e' => ?_).trans e
         · have := HG.out; have := HB1.out.size; simp; omega
         · have h1 := H.out.row.own g e'
           have h2 := H.out.fg
           have := h1.2
           omega
       obtain ⟨q0, -, q2, -⟩ := two_cells hg3
       clear A3 R3 hg3))
  all_goals (
    go_wp2
    first | go_end0 | refine bodyPost_ret (results_none rfl _ _ _) rfl ?_
    exact ⟨rfl, HD.out.1, g, _, _, _, _, _, rfl, HD.out.2, by rw [rputS, hrow]; simp, hcame⟩)
set_option maxHeartbeats 800000 in
set_option maxRecDepth 100000 in
theorem rcame_any {S : Nat → Prop} (w : World) (v : Value) (a : Ra) (h : RR S w v a) :
    Calls Try.prog 15 #[v] w fun e w' => ∃ u us, e = .returned u ∧ Only S w w' ∧ RR S w' v (rcmS a) ∧ us.length = a.n.length ∧ Rw S 1 31 w' u us.length us ∧ ∀ i (hi : i < us.length) (hi' : i < a.n.length), SlC S w' us[i] a.n[i] := by
  obtain ⟨g, f, vr, vc, ps, ns, rfl, h, hrow, hnew⟩ := h
  obtain ⟨c0, c1, k2, k9⟩ := two_cells h.hg
  obtain ⟨ao, cap, rfl⟩ := h.new.form
  have H := hid h
  have HH : Hid (∃ us : List Value, Only S w (w.setCell ⟨g, 1, none⟩ (.slice none 0 0)) ∧ RR S (w.setCell ⟨g, 1, none⟩ (.slice none 0 0)) (.pointer (some ⟨g, 0, none⟩)) (rcmS a) ∧ us.length = a.n.length ∧ Rw S 1 31 (w.setCell ⟨g, 1, none⟩ (.slice none 0 0)) (.slice ao ns.length cap) us.length us ∧ ∀ i (hi : i < us.length) (hi' : i < a.n.length), SlC S (w.setCell ⟨g, 1, none⟩ (.slice none 0 0)) us[i] a.n[i]) := by
    have oth : ∀ k, k ≠ g → (w.setCell ⟨g, 1, none⟩ (.slice none 0 0)).heap[k]? = w.heap[k]? := fun k hk => heap_setCell_other w ⟨g, 1, none⟩ k _ hk
    have hc : ∀ i, i ≠ 0 → ∀ k, k < w.heap.size → (S k ∧ f k = i) → (S k ∧ f k = i) ∧ (w.setCell ⟨g, 1, none⟩ (.slice none 0 0)).heap[k]? = w.heap[k]? := fun i hi k _ hS => ⟨hS, oth k (fun e => by have := h.fg; have := hS.2; subst e; omega)⟩
    refine ⟨ns.map (·.1), (Only.refl S w).setCell (p := ⟨g, 1, none⟩) h.sg _, ⟨g, f, vr, nilS, ps, [], rfl, ⟨h.sg, h.fg, by rw [heap_setCell_same w g 1 _ _ _ h.hg]; rfl, h.row.carry (hc 1 (by omega)), Rw.nil _ _ _ _, h.pr.carry (hc 3 (by omega)), (fun _ h => by cases h)⟩, hrow, rfl⟩, by rw [hnew]; simp, ?_, fun i hi hi' => ?_⟩
    · rw [List.length_map]
      exact h.new.carry fun k hk hS => ⟨hS.1, (hc 2 (by omega) k hk hS).2⟩
    · have hi2 : i < ns.length := by simpa using hi
      have := h.pn _ (List.getElem_mem hi2)
      have e : a.n[i] = ns[i].2 := by simp [hnew]
      rw [List.getElem_map, e]
      exact this.carry fun k hk hS => ⟨hS.1, (hc 3 (by omega) k hk hS).2⟩
  clear h
  go_enter Try.func15, Try.ntmps15
  go_wp2
  go_ret
  obtain ⟨us, h1, h2, h3, h4, h5⟩ := HH.out
  exact ⟨_, us, rfl, h1, h2, h3, h4, h5⟩
end Go.Proofs.Ythgkmbdnkamcoaa
