/-
  Proved here: Send and accept of package line. Conditions: all blocks to come are the end's; its numbers are below 2 to 31.
-/
import Derived.Test.YtijjcopglbcoiaaQ2
import Derived.Test.YtijjcopglbcoiaaE5
namespace Go.Proofs.Ytijjcopglbcoiaa
open Go.RowKit Seal

/-- bytes.Clone, as a step of a region that draws. -/
theorem stepCl {ops : Array Oper} {o : Oper} {a : Act} {w : World} {K : Act → World → Prop} {Q : Exit → Act → World → Prop} {E : Prop} (x : Operand) (hop : o.op = .call { callee := .value (.func 32), args := #[x], argTypes := #[31] }) (hg : o.guard = none)
    {B : Nat} {u : Value} {bs : List Int} (hx : a.eval x = u) (hs : Sl B w u bs) (hB : B ≤ w.heap.size)
    (hK : ∀ v' w', Below w.heap.size w w' → Owns w.heap.size w' v' bs → K (a.put o.dst v') w') : if Region.wanted o (yielded ops a.tmps) = true then Oper.wp Try.prog o a w K Q else E := by
  have hw : Region.wanted o (yielded ops a.tmps) = true := by simp [Region.wanted, hg]
  rw [if_pos hw]
  have hfn : a.eval (.func 32) = .func (.func 32) #[] #[] := rfl
  have hrun : (execOp a.eval o).run Try.prog w = .ok (.enter 32 #[u]) w := by
    unfold execOp
    simp only [hop, resolve, invoke, Deferred.ofValue, hfn, callFunc, Sem.run_bind, Sem.run_pure, Result.andThen_ok, List.map_toArray, List.map_cons, List.map_nil, hx]
    rfl
  show Oper.upon Try.prog o a K Q ((execOp a.eval o).run Try.prog w)
  rw [hrun, Oper.upon_enter]
  refine (cl_any B u bs w hs hB).mono ?_
  rintro r w' ⟨v', rfl, h1, h2⟩
  exact hK v' w' h1 h2

/-- Colours i for the row, j for the bytes: what is new below n is bytes, the rest is the row's. -/
theorem put_mid {S : Nat → Prop} {f : Nat → Nat} {w w1 : World} {g i j : Nat} {o : Obj} {vs v1 : Value} {ll : List (List Int)} {bs : List Int} (hf : Fresh S w) (h4 : w.heap[g]? = some o)
    (h5 : Sp (fun k => S k ∧ f k = i) (fun k => S k ∧ f k = j) w vs ll) (hB : IsB bs) (hl : bs.length ≤ 140737488355328) (hb : Below w.heap.size w w1) (ho : Owns w.heap.size w1 v1 bs) :
    Hid (w1.heap[g]? = some o) ∧ Hid (Below w.heap.size w w1) ∧
      Hid (Sp (fun k => S k ∧ paint f w.heap.size w1.heap.size j i k = i) (fun k => S k ∧ paint f w.heap.size w1.heap.size j i k = j) (w1.alloc (.cells #[v1] 31)) vs ll) ∧
      Hid (SlC (fun k => S k ∧ paint f w.heap.size w1.heap.size j i k = j) (w1.alloc (.cells #[v1] 31)) v1 bs) ∧ ∃ a1 k1, v1 = .slice a1 bs.length k1 := by
  have hg := (Array.getElem?_eq_some_iff.1 h4).1
  have hc : ∀ i' k, k < w.heap.size → (S k ∧ f k = i') → (S k ∧ paint f w.heap.size w1.heap.size j i k = i') ∧ (w1.alloc (.cells #[v1] 31)).heap[k]? = w.heap[k]? := fun i' k hk h => ⟨⟨h.1, by rw [paint_old hk]; exact h.2⟩, by
    rw [heap_alloc_old _ _ (Nat.lt_of_lt_of_le hk hb.size)]; exact hb.block k hk⟩
  have hown : SlC (fun k => S k ∧ paint f w.heap.size w1.heap.size j i k = j) w1 v1 bs := SlC.own ho hl hB fun k h1 h2 => ⟨hf k h1, paint_mid h1 h2⟩
  have hown' : SlC (fun k => S k ∧ paint f w.heap.size w1.heap.size j i k = j) (w1.alloc (.cells #[v1] 31)) v1 bs := hown.carry fun k hk h => ⟨h, heap_alloc_old _ _ hk⟩
  obtain ⟨a1, k1, e1, _⟩ := hown
  exact ⟨by show _ = _; rw [hb.block g hg]; exact h4, hb, h5.carry (hc i) (hc j), hown', a1, k1, e1⟩
theorem put_end {S T : Nat → Prop} {f : Nat → Nat} {w1 w3 : World} {g m n i j : Nat} {vs v1 : Value} {ll : List (List Int)} {o : Obj} (h3 : f g = 0) (hi : i ≠ 0) (A : Apd (w1.alloc (.cells #[v1] 31)) vs w3) (h5 : Sp (fun k => S k ∧ paint f m n j i k = i) T (w1.alloc (.cells #[v1] 31)) vs ll) (hm : g < m) (h4 : w1.heap[g]? = some o) : w3.heap[g]? = some o := by
  have hg := (Array.getElem?_eq_some_iff.1 h4).1
  rw [A.block g (by simp; omega) (fun e => by
    have := (h5.own g e).2
    rw [paint_old hm, h3] at this; omega), heap_alloc_old _ _ hg]
  exact h4
/-- The row is appended to, and stored. -/
theorem put_done {S : Nat → Prop} {f : Nat → Nat} {w w1 w3 : World} {g i j c : Nat} {cs : Array Value} {vs v1 v3 : Value} {ll : List (List Int)} {bs : List Int} (hf : Fresh S w) (h2 : S g) (h3 : f g = 0) (hg : g < w.heap.size) (hi : i ≠ 0) (hj : j ≠ 0) (hij : i ≠ j)
    (hb : Below w.heap.size w w1)
    (h5 : Sp (fun k => S k ∧ paint f w.heap.size w1.heap.size j i k = i) (fun k => S k ∧ paint f w.heap.size w1.heap.size j i k = j) (w1.alloc (.cells #[v1] 31)) vs ll)
    (A : Apd (w1.alloc (.cells #[v1] 31)) vs w3) (h43 : w3.heap[g]? = some (.cells cs 55 (0, 0)))
    (P3 : Sp (fun k => (S k ∧ paint f w.heap.size w1.heap.size j i k = i) ∨ (w1.alloc (.cells #[v1] 31)).heap.size ≤ k) (fun k => S k ∧ paint f w.heap.size w1.heap.size j i k = j) w3 v3 (ll ++ [bs])) :
    Only S w (w3.setCell ⟨g, c, none⟩ v3) ∧ (w3.setCell ⟨g, c, none⟩ v3).heap[g]? = some (.cells (cs.setIfInBounds c v3) 55 (0, 0)) ∧ ∃ f' : Nat → Nat, f' g = 0 ∧ Sp (fun k => S k ∧ f' k = i) (fun k => S k ∧ f' k = j) (w3.setCell ⟨g, c, none⟩ v3) v3 (ll ++ [bs]) ∧
      ∀ a b u l, a ≠ 0 → b ≠ 0 → a ≠ i → b ≠ i → Sp (fun k => S k ∧ f k = a) (fun k => S k ∧ f k = b) w u l → Sp (fun k => S k ∧ f' k = a) (fun k => S k ∧ f' k = b) (w3.setCell ⟨g, c, none⟩ v3) u l := by
  have hsz : (w1.alloc (.cells #[v1] 31)).heap.size = w1.heap.size + 1 := by simp
  have hb2 : Below w.heap.size w (w1.alloc (.cells #[v1] 31)) := hb.trans (((Below.refl _ _).alloc (Nat.le_refl _) _).mono hb.size)
  have hO1 : Only S w (w1.alloc (.cells #[v1] 31)) := Only.of hb2 hf
  have hO3 : Only S w w3 := hO1.trans (A.only (hf.on hb2.size) fun k hk => (h5.own k hk).1)
  have hset : ∀ k, k ≠ g → (w3.setCell ⟨g, c, none⟩ v3).heap[k]? = w3.heap[k]? := fun k hk => heap_setCell_other w3 ⟨g, c, none⟩ k v3 hk
  have hgp : paint f w.heap.size w1.heap.size j i g = 0 := by rw [paint_old hg]; exact h3
  have hold : ∀ a, a ≠ i → a ≠ 0 → ∀ k, k < w.heap.size → (S k ∧ f k = a) → (S k ∧ paint f w.heap.size w1.heap.size j i k = a) ∧ (w3.setCell ⟨g, c, none⟩ v3).heap[k]? = w.heap[k]? := fun a ha ha0 k hk h => by
    have hp : paint f w.heap.size w1.heap.size j i k = a := by rw [paint_old hk]; exact h.2
    refine ⟨⟨h.1, hp⟩, ?_⟩
    rw [hset k (fun e => by subst e; omega), A.block k (Nat.lt_of_lt_of_le hk hb2.size) (fun e => by have := (h5.own k e).2; omega), hb2.block k hk]
  refine ⟨hO3.setCell (p := ⟨g, c, none⟩) h2 _, heap_setCell_same _ g c _ _ _ h43, paint f w.heap.size w1.heap.size j i, hgp, ?_, fun a b u l ha hb ha' hb' hsp => hsp.carry (hold a ha' ha) (hold b hb' hb)⟩
  refine P3.carry (fun k _ hk => ?_) (fun k _ hk => ⟨hk, hset k (fun e => by subst e; omega)⟩)
  rcases hk with hk | hk
  · exact ⟨hk, hset k (fun e => by subst e; omega)⟩
  · rw [hsz] at hk
    exact ⟨⟨hf k (Nat.le_trans hb.size (by omega)), paint_new (Nat.le_trans hb.size (by omega)) (by omega)⟩, hset k (fun e => by subst e; have := hb.size; omega)⟩

set_option maxHeartbeats 1600000 in
theorem qsend_any (S : Nat → Prop) (v : Value) (e : E) (B : Nat) (u : Value) (bs : List Int) (w : World) (h : QE S w v e) (hf : Fresh S w) (hs : Sl B w u bs) (hB : B ≤ w.heap.size) :
    Calls Try.prog 18 #[v, u] w fun r w' => r = .returned (.int .i64 (sdE e bs)) ∧ Only S w w' ∧ QE S w' v (sdS e bs) := by
  have hlen := hs.len
  have HS : Hid (Sl B w u bs) := hs
  have HR : Hid (QE S w v e) := h
  obtain ⟨ao, cap, rfl, _⟩ := hs
  obtain ⟨g, f, vs, vn, rfl, h2, h3, h4, h5, h6⟩ := h
  by_cases hl : 8192 < bs.length
  · have hd : decide ((8192 : Int) < (bs.length : Int)) = true := by simp; omega
    have HE : Hid (sdE e bs = 3 ∧ sdS e bs = e) := by show _ ∧ _; simp [sdE, sdS, hl]
    clear HS hl h4 h5 h6
    go_enter Try.func18, Try.ntmps18
    go_wp2
    go_ret
    exact ⟨by rw [HE.out.1]; rfl, Only.refl _ _, by rw [HE.out.2]; exact HR.out⟩
  · have hd : decide ((8192 : Int) < (bs.length : Int)) = false := by simp; omega
    obtain ⟨so, scap, rfl, _⟩ := h5.form
    obtain ⟨c0, c1, c2, c3, c4, z0, z1, z2, z3, z4⟩ := end_cells h4
    by_cases hfull : 4096 ≤ e.sent.length
    · have hd2 : decide ((4096 : Int) ≤ (e.sent.length : Int)) = true := by simp; omega
      have HE : Hid (sdE e bs = 4 ∧ sdS e bs = e) := by show _ ∧ _; simp [sdE, sdS, hl, hfull]
      clear HS hl h4 h5 h6 hfull
      go_enter Try.func18, Try.ntmps18
      go_wp2
      go_ret
      exact ⟨by rw [HE.out.1]; rfl, Only.refl _ _, by rw [HE.out.2]; exact HR.out⟩
    · have hd2 : decide ((4096 : Int) ≤ (e.sent.length : Int)) = false := by simp; omega
      have HE : Hid (sdE e bs = 0 ∧ sdS e bs = { e with sent := e.sent ++ [bs] }) := by show _ ∧ _; simp [sdE, sdS, hl, hfull]
      have HLN : Hid (e.sent.length < 4096) := by show _ < _; omega
      have H4 : Hid (w.heap[g]? = some (.cells #[.int .u32 e.ep, .int .u64 e.got, .slice so e.sent.length scap, .int .u64 e.come, vn] 55 (0, 0))) := h4
      have H5 : Hid (Sp (fun k => S k ∧ f k = 1) (fun k => S k ∧ f k = 3) w (.slice so e.sent.length scap) e.sent) := h5
      have H6 : Hid (Sp (fun k => S k ∧ f k = 2) (fun k => S k ∧ f k = 4) w vn e.new) := h6
      have HG : Hid (g < w.heap.size) := (Array.getElem?_eq_some_iff.1 h4).1
      clear hl hfull h4 h5 h6 HR
      go_enter Try.func18, Try.ntmps18
      go_wp2
      go_region_law (first
        | (refine stepCl (.tmp 24) rfl rfl rfl HS.out.drew hB ?_
           intro v1 w1 hb1 ho1
           obtain ⟨H41, HB1, HSp, HSl, a1, k1, rfl⟩ := put_mid hf H4.out H5.out HS.out.isB hlen ((Below.refl _ _).drew.trans hb1) ho1
           obtain ⟨y0, y1, y2, y3, y4, x0, x1, x2, x3, x4⟩ := end_cells H41.out
           have H42 : (w1.alloc (.cells #[.slice a1 bs.length k1] 31)).heap[g]? = _ := (heap_alloc_old w1 _ (Nat.lt_of_lt_of_le HG.out HB1.out.size)).trans H41.out
           obtain ⟨s0, s1, s2, s3, s4, -⟩ := end_cells H42
           clear H42 hb1 ho1)
        | (refine stepSp (.tmp 23) (.tmp 26) rfl rfl rfl rfl HSp.out HSl.out (fun k hk ht => by have := HSp.out.own k hk; have := ht.2; omega) (by have := HLN.out; omega) (by rw [cell_of_row _ _ 0 _ _ _ (heap_alloc_new _ _)]; rfl) ?_
           intro v3 w3 A3 P3
           obtain ⟨a3, k3, rfl, -⟩ := P3.form
           have H43 := put_end h3 (by omega) A3 HSp.out HG.out H41.out
           have HD : Hid _ := put_done (c := 2) hf h2 h3 HG.out (by omega) (by omega) (by omega) HB1.out HSp.out A3 H43 P3
           obtain ⟨q0, q1, q2, q3, q4, p0, p1, p2, p3, p4⟩ := end_cells H43
           clear A3 P3 H43))
      all_goals (
        go_wp2
        go_ret
        obtain ⟨k1', k2', f', k3', k4', k5'⟩ := HD
        simp only [List.length_append, List.length_cons, List.length_nil, Nat.zero_add] at k1' k2' k4' k5'
        exact ⟨by rw [HE.out.1]; rfl, k1', by rw [HE.out.2]; exact ⟨g, f', _, vn, rfl, h2, k3', k2', k4', k5' 2 4 vn _ (by omega) (by omega) (by omega) (by omega) H6.out⟩⟩)
end Go.Proofs.Ytijjcopglbcoiaa
