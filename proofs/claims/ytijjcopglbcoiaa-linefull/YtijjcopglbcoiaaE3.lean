/-
  Proved here: the document's Send. Condition: all blocks to come are the end's.
-/
import Derived.Test.YtijjcopglbcoiaaE2
namespace Go.Proofs.Ytijjcopglbcoiaa
open Go.RowKit Seal

/-- An append, as a step of a region that draws. -/
theorem step_app {ops : Array Oper} {o : Oper} {a : Act} {w : World} {K : Act → World → Prop} {Q : Exit → Act → World → Prop} {E : Prop} (t : TypeId) (s x : Operand) (hop : o.op = .call { callee := .builtin .append, args := #[s, x], argTypes := #[t, t] }) (hg : o.guard = none)
    {v u v' : Value} {w' : World} (hs : a.eval s = v) (hx : a.eval x = u) (hr : (Builtin.append_ #[t, t] o.type #[v, u]).run Try.prog w = .ok v' w') (hK : K (a.put o.dst v') w') :
    if Region.wanted o (yielded ops a.tmps) = true then Oper.wp Try.prog o a w K Q else E := by
  have hw : Region.wanted o (yielded ops a.tmps) = true := by simp [Region.wanted, hg]
  rw [if_pos hw]
  unfold Oper.wp execOp
  simp only [hop, resolve, invoke, builtin, Sem.run_bind, Sem.run_pure, Result.andThen_ok, List.map_toArray, List.map_cons, List.map_nil, hs, hx, hr]
  exact hK
theorem stepB {ops : Array Oper} {o : Oper} {a : Act} {w : World} {K : Act → World → Prop} {Q : Exit → Act → World → Prop} {E : Prop} (s x : Operand) (hop : o.op = .call { callee := .builtin .append, args := #[s, x], argTypes := #[31, 31] }) (hg : o.guard = none)
    {base B : Nat} {v u : Value} {xs zs : List Int} (hs : a.eval s = v) (hx : a.eval x = u) (hown : Owns base w v xs) (hsl : Sl B w u zs) (hbase : base ≤ w.heap.size) (hlen : xs.length + zs.length ≤ 140737488355328)
    (hK : ∀ v' w', Ext base w v w' v' (xs ++ zs) → K (a.put o.dst v') w') : if Region.wanted o (yielded ops a.tmps) = true then Oper.wp Try.prog o a w K Q else E := by
  obtain ⟨v', w', hr, hE⟩ := run_app (ty := o.type) hown hsl hbase hlen
  exact step_app 31 s x hop hg hs hx hr (hK v' w' hE)
theorem stepSp {ops : Array Oper} {o : Oper} {a : Act} {w : World} {K : Act → World → Prop} {Q : Exit → Act → World → Prop} {E : Prop} (s x : Operand) (hop : o.op = .call { callee := .builtin .append, args := #[s, x], argTypes := #[30, 30] }) (hg : o.guard = none)
    {S T : Nat → Prop} {v u : Value} {ll : List (List Int)} {m : List Int} {b : Nat} (hs : a.eval s = v) (hx : a.eval x = .slice (some ⟨b, 0, none⟩) 1 1) (h : Sp S T w v ll) (hu : SlC T w u m) (hd : ∀ k, v.ownBlock = some k → ¬ T k) (hl : ll.length < 2147483648) (hb : w.cell? ⟨b, 0, none⟩ = some u)
    (hK : ∀ v' w', Apd w v w' → Sp (fun k => S k ∨ w.heap.size ≤ k) T w' v' (ll ++ [m]) → K (a.put o.dst v') w') : if Region.wanted o (yielded ops a.tmps) = true then Oper.wp Try.prog o a w K Q else E := by
  obtain ⟨v', w', hr, h1, h2⟩ := run_sp_app (ty := o.type) h hu hd hl hb
  exact step_app 30 s x hop hg hs hx hr (hK v' w' h1 h2)

/-- Blocks that are made behind w are coloured: those below n by i, the others by j. -/
def paint (f : Nat → Nat) (m n i j : Nat) : Nat → Nat := fun k => if k < m then f k else if k < n then i else j
theorem paint_old {f : Nat → Nat} {m n i j k : Nat} (h : k < m) : paint f m n i j k = f k := by simp [paint, h]
theorem paint_mid {f : Nat → Nat} {m n i j k : Nat} (h : m ≤ k) (h2 : k < n) : paint f m n i j k = i := by
  unfold paint; rw [if_neg (by omega), if_pos h2]
theorem paint_new {f : Nat → Nat} {m n i j k : Nat} (h : m ≤ k) (h2 : n ≤ k) : paint f m n i j k = j := by
  unfold paint; rw [if_neg (by omega), if_neg (by omega)]

theorem send_mid {S : Nat → Prop} {f : Nat → Nat} {w w1 : World} {g : Nat} {e : E} {vs vn v1 : Value} {bs : List Int} (hf : Fresh S w) (h4 : w.heap[g]? = some (.cells #[.int .u32 e.ep, vs, .int .u32 e.got, .int .u32 e.come, vn] 57 (0, 0)))
    (h5 : Sp (fun k => S k ∧ f k = 1) (fun k => S k ∧ f k = 3) w vs e.sent) (hB : IsB bs) (hl : bs.length ≤ 140737488355328) (X : Ext w.heap.size w.drew nilS w1 v1 ([] ++ bs)) :
    Hid (w1.heap[g]? = some (.cells #[.int .u32 e.ep, vs, .int .u32 e.got, .int .u32 e.come, vn] 57 (0, 0))) ∧ Hid (Below w.heap.size w w1) ∧
      Hid (Sp (fun k => S k ∧ paint f w.heap.size w1.heap.size 3 1 k = 1) (fun k => S k ∧ paint f w.heap.size w1.heap.size 3 1 k = 3) (w1.alloc (.cells #[v1] 31)) vs e.sent) ∧
      Hid (SlC (fun k => S k ∧ paint f w.heap.size w1.heap.size 3 1 k = 3) (w1.alloc (.cells #[v1] 31)) v1 bs) ∧ ∃ a1 k1, v1 = .slice a1 bs.length k1 := by
  have hb : Below w.heap.size w w1 := (Below.refl _ _).drew.trans X.belowNil
  have hg := (Array.getElem?_eq_some_iff.1 h4).1
  have hs := Sl.own X.own (by simpa using hl) (by simpa using hB)
  have hc : ∀ i k, k < w.heap.size → (S k ∧ f k = i) → (S k ∧ paint f w.heap.size w1.heap.size 3 1 k = i) ∧ (w1.alloc (.cells #[v1] 31)).heap[k]? = w.heap[k]? := fun i k hk h => ⟨⟨h.1, by rw [paint_old hk]; exact h.2⟩, by
    rw [heap_alloc_old _ _ (Nat.lt_of_lt_of_le hk hb.size)]; exact hb.block k hk⟩
  have hown : SlC (fun k => S k ∧ paint f w.heap.size w1.heap.size 3 1 k = 3) w1 v1 bs := SlC.own (by simpa using X.own) hl hB fun k h1 h2 => ⟨hf k h1, paint_mid h1 h2⟩
  have hown' : SlC (fun k => S k ∧ paint f w.heap.size w1.heap.size 3 1 k = 3) (w1.alloc (.cells #[v1] 31)) v1 bs := hown.carry fun k hk h => ⟨h, heap_alloc_old _ _ hk⟩
  obtain ⟨a1, k1, e1, _⟩ := hown
  exact ⟨by show _ = _; rw [hb.block g hg]; exact h4, hb, h5.carry (hc 1) (hc 3), hown', a1, k1, e1⟩
theorem send_end {S T : Nat → Prop} {f : Nat → Nat} {w1 w3 : World} {g m n : Nat} {vs v1 : Value} {ll : List (List Int)} {o : Obj} (h3 : f g = 0) (A : Apd (w1.alloc (.cells #[v1] 31)) vs w3) (h5 : Sp (fun k => S k ∧ paint f m n 3 1 k = 1) T (w1.alloc (.cells #[v1] 31)) vs ll) (hm : g < m) (h4 : w1.heap[g]? = some o) : w3.heap[g]? = some o := by
  have hg := (Array.getElem?_eq_some_iff.1 h4).1
  rw [A.block g (by simp; omega) (fun e => by
    have := (h5.own g e).2
    rw [paint_old hm, h3] at this; omega), heap_alloc_old _ _ hg]
  exact h4

theorem send_done {S : Nat → Prop} {f : Nat → Nat} {w w1 w3 : World} {g : Nat} {e : E} {vs vn v1 v3 : Value} {bs : List Int} (hf : Fresh S w) (h2 : S g) (h3 : f g = 0) (hg : g < w.heap.size)
    (h6 : Sp (fun k => S k ∧ f k = 2) (fun k => S k ∧ f k = 4) w vn e.new) (hb : Below w.heap.size w w1)
    (h5 : Sp (fun k => S k ∧ paint f w.heap.size w1.heap.size 3 1 k = 1) (fun k => S k ∧ paint f w.heap.size w1.heap.size 3 1 k = 3) (w1.alloc (.cells #[v1] 31)) vs e.sent)
    (A : Apd (w1.alloc (.cells #[v1] 31)) vs w3) (h43 : w3.heap[g]? = some (.cells #[.int .u32 e.ep, vs, .int .u32 e.got, .int .u32 e.come, vn] 57 (0, 0)))
    (P3 : Sp (fun k => (S k ∧ paint f w.heap.size w1.heap.size 3 1 k = 1) ∨ (w1.alloc (.cells #[v1] 31)).heap.size ≤ k) (fun k => S k ∧ paint f w.heap.size w1.heap.size 3 1 k = 3) w3 v3 (e.sent ++ [bs])) :
    Only S w (w3.setCell ⟨g, 1, none⟩ v3) ∧ RE S (w3.setCell ⟨g, 1, none⟩ v3) (.pointer (some ⟨g, 0, none⟩)) { e with sent := e.sent ++ [bs] } := by
  have hsz : (w1.alloc (.cells #[v1] 31)).heap.size = w1.heap.size + 1 := by simp
  have hb2 : Below w.heap.size w (w1.alloc (.cells #[v1] 31)) := hb.trans (((Below.refl _ _).alloc (Nat.le_refl _) _).mono hb.size)
  have hO1 : Only S w (w1.alloc (.cells #[v1] 31)) := Only.of hb2 hf
  have hO3 : Only S w w3 := hO1.trans (A.only (hf.on hb2.size) fun k hk => (h5.own k hk).1)
  have hset : ∀ k, k ≠ g → (w3.setCell ⟨g, 1, none⟩ v3).heap[k]? = w3.heap[k]? := fun k hk => heap_setCell_other w3 ⟨g, 1, none⟩ k v3 hk
  have hgp : paint f w.heap.size w1.heap.size 3 1 g = 0 := by rw [paint_old hg]; exact h3
  have hold : ∀ i, i ≠ 1 → i ≠ 0 → ∀ k, k < w.heap.size → (S k ∧ f k = i) → (S k ∧ paint f w.heap.size w1.heap.size 3 1 k = i) ∧ (w3.setCell ⟨g, 1, none⟩ v3).heap[k]? = w.heap[k]? := fun i hi hi0 k hk h => by
    have hp : paint f w.heap.size w1.heap.size 3 1 k = i := by rw [paint_old hk]; exact h.2
    refine ⟨⟨h.1, hp⟩, ?_⟩
    rw [hset k (fun e => by subst e; omega), A.block k (Nat.lt_of_lt_of_le hk hb2.size) (fun e => by have := (h5.own k e).2; omega), hb2.block k hk]
  refine ⟨hO3.setCell (p := ⟨g, 1, none⟩) h2 _, g, paint f w.heap.size w1.heap.size 3 1, v3, vn, rfl, h2, hgp, ?_, ?_, h6.carry (hold 2 (by omega) (by omega)) (hold 4 (by omega) (by omega))⟩
  · rw [heap_setCell_same _ g 1 _ _ _ h43]; rfl
  · refine P3.carry (fun k _ hk => ?_) (fun k _ hk => ⟨hk, hset k (fun e => by subst e; omega)⟩)
    rcases hk with hk | hk
    · exact ⟨hk, hset k (fun e => by subst e; omega)⟩
    · rw [hsz] at hk
      exact ⟨⟨hf k (Nat.le_trans hb.size (by omega)), paint_new (Nat.le_trans hb.size (by omega)) (by omega)⟩, hset k (fun e => by subst e; have := hb.size; omega)⟩

set_option maxHeartbeats 1600000 in
theorem rsend_any (S : Nat → Prop) (v : Value) (e : E) (B : Nat) (u : Value) (bs : List Int) (w : World) (h : RE S w v e) (hf : Fresh S w) (hs : Sl B w u bs) :
    Calls Try.prog 27 #[v, u] w fun r w' => r = .returned (.int .i64 (sdE e bs)) ∧ Only S w w' ∧ RE S w' v (sdS e bs) := by
  have hlen := hs.len
  have HS : Hid (Sl B w u bs) := hs
  have HR : Hid (RE S w v e) := h
  obtain ⟨ao, cap, rfl, _⟩ := hs
  obtain ⟨g, f, vs, vn, rfl, h2, h3, h4, h5, h6⟩ := h
  by_cases hl : 8192 < bs.length
  · have hd : decide ((8192 : Int) < (bs.length : Int)) = true := by simp; omega
    have HE : Hid (sdE e bs = 3 ∧ sdS e bs = e) := by show _ ∧ _; simp [sdE, sdS, hl]
    clear HS hl h4 h5 h6
    go_enter Try.func27, Try.ntmps27
    go_wp2
    go_ret
    exact ⟨by rw [HE.out.1]; rfl, Only.refl _ _, by rw [HE.out.2]; exact HR.out⟩
  · have hd : decide ((8192 : Int) < (bs.length : Int)) = false := by simp; omega
    obtain ⟨so, scap, rfl, _⟩ := h5.form
    obtain ⟨c0, c1, c2, c3, c4, z0, z1, z2, z3, z4⟩ := end_cells h4
    by_cases hfull : 4096 ≤ e.sent.length
    · have hd2 : decide ((4096 : Int) ≤ (e.sent.length : Int)) = true := by simp; omega
      have HE : Hid (sdE e bs = 4 ∧ sdS e bs = e) := by show _ ∧ _; simp [sdE, sdS, hl, hfull]
      clear HS hl h4 h5 h6 hfull
      go_enter Try.func27, Try.ntmps27
      go_wp2
      go_ret
      exact ⟨by rw [HE.out.1]; rfl, Only.refl _ _, by rw [HE.out.2]; exact HR.out⟩
    · have hd2 : decide ((4096 : Int) ≤ (e.sent.length : Int)) = false := by simp; omega
      have HE : Hid (sdE e bs = 0 ∧ sdS e bs = { e with sent := e.sent ++ [bs] }) := by show _ ∧ _; simp [sdE, sdS, hl, hfull]
      have HLN : Hid (e.sent.length < 4096) := by show _ < _; omega
      have H4 : Hid (w.heap[g]? = some (.cells #[.int .u32 e.ep, .slice so e.sent.length scap, .int .u32 e.got, .int .u32 e.come, vn] 57 (0, 0))) := h4
      have H5 : Hid (Sp (fun k => S k ∧ f k = 1) (fun k => S k ∧ f k = 3) w (.slice so e.sent.length scap) e.sent) := h5
      have H6 : Hid (Sp (fun k => S k ∧ f k = 2) (fun k => S k ∧ f k = 4) w vn e.new) := h6
      have HG : Hid (g < w.heap.size) := (Array.getElem?_eq_some_iff.1 h4).1
      clear hl hfull h4 h5 h6 HR
      go_enter Try.func27, Try.ntmps27
      go_wp2
      go_region_law (first
        | (refine stepB (.tmp 20) (.tmp 21) rfl rfl (base := w.heap.size) (v := nilS) (xs := []) rfl rfl Owns.isNil HS.out.drew (Nat.le_refl _) (by simpa using hlen) ?_
           intro v1 w1 X1
           obtain ⟨H41, HB1, HSp, HSl, a1, k1, rfl⟩ := send_mid hf H4.out H5.out HS.out.isB hlen X1
           obtain ⟨y0, y1, y2, y3, y4, x0, x1, x2, x3, x4⟩ := end_cells H41.out
           have H42 : (w1.alloc (.cells #[.slice a1 bs.length k1] 31)).heap[g]? = _ := (heap_alloc_old w1 _ (Nat.lt_of_lt_of_le HG.out HB1.out.size)).trans H41.out
           obtain ⟨s0, s1, s2, s3, s4, _⟩ := end_cells H42
           clear H42)
        | (refine stepSp (.tmp 19) (.tmp 23) rfl rfl rfl rfl HSp.out HSl.out (fun k hk ht => by have := HSp.out.own k hk; have := ht.2; omega) (by have := HLN.out; omega) (by rw [cell_of_row _ _ 0 _ _ _ (heap_alloc_new _ _)]; rfl) ?_
           intro v3 w3 A3 P3
           obtain ⟨a3, k3, rfl, _⟩ := P3.form
           have HA : Hid (Apd (w1.alloc (.cells #[.slice a1 bs.length k1] 31)) (.slice so e.sent.length scap) w3) := A3
           have HP : Hid (Sp (fun k => (S k ∧ paint f w.heap.size w1.heap.size 3 1 k = 1) ∨ (w1.alloc (.cells #[.slice a1 bs.length k1] 31)).heap.size ≤ k) (fun k => S k ∧ paint f w.heap.size w1.heap.size 3 1 k = 3) w3 (.slice a3 (e.sent ++ [bs]).length k3) (e.sent ++ [bs])) := P3
           have H43 := send_end h3 HA.out HSp.out HG.out H41.out
           have HD : Hid (Only S w (w3.setCell ⟨g, 1, none⟩ (.slice a3 (e.sent ++ [bs]).length k3)) ∧ RE S (w3.setCell ⟨g, 1, none⟩ (.slice a3 (e.sent ++ [bs]).length k3)) (.pointer (some ⟨g, 0, none⟩)) { e with sent := e.sent ++ [bs] }) := send_done hf h2 h3 HG.out H6.out HB1.out HSp.out HA.out H43 HP.out
           obtain ⟨q0, q1, q2, q3, q4, p0, p1, p2, p3, p4⟩ := end_cells H43
           clear A3 P3 H43 HP HA))
      all_goals (go_wp2; go_ret; have HD' := HD.out; simp only [List.length_append, List.length_cons, List.length_nil, Nat.zero_add] at HD'; exact ⟨by rw [HE.out.1]; rfl, HD'.1, by rw [HE.out.2]; exact HD'.2⟩)
end Go.Proofs.Ytijjcopglbcoiaa
