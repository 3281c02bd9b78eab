/-
  Proved here: accept and settle of package line. Conditions: all blocks to come are the end's; its numbers are below 2 to 31.
-/
import Derived.Test.YtijjcopglbcoiaaQ3
import Derived.BigQuiet
namespace Go.Proofs.Ytijjcopglbcoiaa
open Go.RowKit Seal

set_option maxHeartbeats 1600000 in
theorem accept_any (S : Nat → Prop) (v : Value) (e : E) (B : Nat) (u : Value) (bs : List Int) (w : World) (h : QE S w v e) (hf : Fresh S w) (hs : Sl B w u bs) (hB : B ≤ w.heap.size) (hc : e.come < 2000000100) (hn : e.new.length < 2000000100) :
    Calls Try.prog 48 #[v, u] w fun r w' => r = .returned (.tuple #[]) ∧ Only S w w' ∧ QE S w' v { e with new := e.new ++ [bs], come := e.come + 1 } := by
  have hlen := hs.len
  have HS : Hid (Sl B w u bs) := hs
  obtain ⟨ao, cap, rfl, _⟩ := hs
  obtain ⟨g, f, vs, vn, rfl, h2, h3, h4, h5, h6⟩ := h
  obtain ⟨so, scap, rfl, _⟩ := h6.form
  obtain ⟨c0, c1, c2, c3, c4, z0, z1, z2, z3, z4⟩ := end_cells h4
  have HLN : Hid (e.new.length < 2000000100) := hn
  have H4 : Hid (w.heap[g]? = some (.cells #[.int .u32 e.ep, .int .u64 e.got, vs, .int .u64 e.come, .slice so e.new.length scap] 55 (0, 0))) := h4
  have H5 : Hid (Sp (fun k => S k ∧ f k = 1) (fun k => S k ∧ f k = 3) w vs e.sent) := h5
  have H6 : Hid (Sp (fun k => S k ∧ f k = 2) (fun k => S k ∧ f k = 4) w (.slice so e.new.length scap) e.new) := h6
  have HG : Hid (g < w.heap.size) := (Array.getElem?_eq_some_iff.1 h4).1
  clear h4 h5 h6 hn
  go_enter Try.func48, Try.ntmps48
  go_wp2
  go_region_law (first
    | (refine stepCl (.tmp 9) rfl rfl rfl HS.out.drew hB ?_
       intro v1 w1 hb1 ho1
       obtain ⟨H41, HB1, HSp, HSl, a1, k1, rfl⟩ := put_mid hf H4.out H6.out HS.out.isB hlen ((Below.refl _ _).drew.trans hb1) ho1
       obtain ⟨y0, y1, y2, y3, y4, x0, x1, x2, x3, x4⟩ := end_cells H41.out
       have H42 : (w1.alloc (.cells #[.slice a1 bs.length k1] 31)).heap[g]? = _ := (heap_alloc_old w1 _ (Nat.lt_of_lt_of_le HG.out HB1.out.size)).trans H41.out
       obtain ⟨s0, s1, s2, s3, s4, -⟩ := end_cells H42
       clear H42 hb1 ho1)
    | (refine stepSp (.tmp 8) (.tmp 11) rfl rfl rfl rfl HSp.out HSl.out (fun k hk ht => by have := HSp.out.own k hk; have := ht.2; omega) (by have := HLN.out; omega) (by rw [cell_of_row _ _ 0 _ _ _ (heap_alloc_new _ _)]; rfl) ?_
       intro v3 w3 A3 P3
       obtain ⟨a3, k3, rfl, -⟩ := P3.form
       have H43 := put_end h3 (by omega) A3 HSp.out HG.out H41.out
       have HD : Hid _ := put_done (c := 4) hf h2 h3 HG.out (by omega) (by omega) (by omega) HB1.out HSp.out A3 H43 P3
       obtain ⟨q0, q1, q2, q3, q4, p0, p1, p2, p3, p4⟩ := end_cells H43
       clear A3 P3 H43))
  all_goals (
    go_wp2
    first | go_end0 | refine bodyPost_ret (results_none rfl _ _ _) rfl ?_
    obtain ⟨k1', k2', f', k3', k4', k5'⟩ := HD
    simp only [List.length_append, List.length_cons, List.length_nil, Nat.zero_add] at k1' k2' k4' k5'
    have hoth : ∀ k x, k ≠ g → ((w3.setCell ⟨g, 4, none⟩ (.slice a3 (e.new.length + 1) k3)).setCell ⟨g, 3, none⟩ x).heap[k]? = (w3.setCell ⟨g, 4, none⟩ (.slice a3 (e.new.length + 1) k3)).heap[k]? := fun k x hk => heap_setCell_other _ ⟨g, 3, none⟩ k _ hk
    have hcar : ∀ x a, a ≠ 0 → ∀ k, k < (w3.setCell ⟨g, 4, none⟩ (.slice a3 (e.new.length + 1) k3)).heap.size → (S k ∧ f' k = a) → (S k ∧ f' k = a) ∧ ((w3.setCell ⟨g, 4, none⟩ (.slice a3 (e.new.length + 1) k3)).setCell ⟨g, 3, none⟩ x).heap[k]? = (w3.setCell ⟨g, 4, none⟩ (.slice a3 (e.new.length + 1) k3)).heap[k]? := fun x a ha k _ hk => ⟨hk, hoth k x (fun e => by subst e; omega)⟩
    have k6' := k5' 1 3 vs _ (by omega) (by omega) (by omega) (by omega) H5.out
    refine ⟨rfl, k1'.setCell (p := ⟨g, 3, none⟩) h2 _, g, f', vs, _, rfl, h2, k3', ?_, k6'.carry (hcar _ 1 (by omega)) (hcar _ 3 (by omega)), k4'.carry (hcar _ 2 (by omega)) (hcar _ 4 (by omega))⟩
    rw [heap_setCell_same _ g 3 _ _ _ k2']
    rfl)

/-- slices.Delete, as a step of a region that draws. -/
theorem stepDel {ops : Array Oper} {o : Oper} {a : Act} {w : World} {K : Act → World → Prop} {Q : Exit → Act → World → Prop} {E : Prop} (x y : Operand) (hop : o.op = .call { callee := .value (.func 56), args := #[x, .const (.int .i64 0), y], argTypes := #[30, 3, 3] }) (hg : o.guard = none)
    {S T : Nat → Prop} {v : Value} {ll : List (List Int)} {k : Nat} (hx : a.eval x = v) (hy : a.eval y = .int .i64 k) (h : Sp S T w v ll) (hd : ∀ k, v.ownBlock = some k → ¬ T k) (hk0 : 0 < k) (hk : k ≤ ll.length) (hl : ll.length < 2147483648)
    (hK : ∀ v' w', Apd w v w' → Sp S T w' v' (ll.drop k) → K (a.put o.dst v') w') : if Region.wanted o (yielded ops a.tmps) = true then Oper.wp Try.prog o a w K Q else E := by
  have hw : Region.wanted o (yielded ops a.tmps) = true := by simp [Region.wanted, hg]
  rw [if_pos hw]
  have hfn : a.eval (.func 56) = .func (.func 56) #[] #[] := rfl
  have hco : a.eval (.const (.int .i64 0)) = .int .i64 0 := rfl
  have hrun : (execOp a.eval o).run Try.prog w = .ok (.enter 56 #[v, .int .i64 0, .int .i64 k]) w := by
    unfold execOp
    simp only [hop, resolve, invoke, Deferred.ofValue, hfn, callFunc, Sem.run_bind, Sem.run_pure, Result.andThen_ok, List.map_toArray, List.map_cons, List.map_nil, hx, hy, hco]
    rfl
  show Oper.upon Try.prog o a K Q ((execOp a.eval o).run Try.prog w)
  rw [hrun, Oper.upon_enter]
  refine (delete_any v ll k w h hd hk0 hk hl).mono ?_
  rintro r w' ⟨v', rfl, h1, h2⟩
  exact hK v' w' h1 h2

set_option maxHeartbeats 1600000 in
theorem settle_any (S : Nat → Prop) (v : Value) (e : E) (c : Nat) (w : World) (h : QE S w v e) (hf : Fresh S w) (hc : c < 4294967296) (hg : e.got + e.sent.length < 2000000000) :
    Calls Try.prog 47 #[v, .int .u64 (c : Nat)] w fun r w' => r = .returned (.tuple #[]) ∧ Only S w w' ∧ QE S w' v (gt e c) := by
  have HR : Hid (QE S w v e) := h
  obtain ⟨g, f, vs, vn, rfl, h2, h3, h4, h5, h6⟩ := h
  obtain ⟨so, scap, rfl, -⟩ := h5.form
  obtain ⟨c0, c1, c2, c3, c4, z0, z1, z2, z3, z4⟩ := end_cells h4
  by_cases hc1 : e.got < c
  · obtain ⟨k, rfl⟩ : ∃ k, c = e.got + k := ⟨c - e.got, by omega⟩
    have hsub : (e.got : Int) + (k : Int) - (e.got : Int) = (k : Int) := by omega
    have hw64 : IntKind.i64.wrap (IntKind.u64.wrap (k : Int)) = (k : Int) := by rw [IntKind.wrap_u64, IntKind.wrap_i64]; omega
    have hd1 : decide ((e.got : Int) < (e.got : Int) + (k : Int)) = true := by simp; omega
    by_cases hc2 : k ≤ e.sent.length
    · have hd2 : decide ((k : Int) ≤ (e.sent.length : Int)) = true := by simp; omega
      have HE : Hid (gt e (e.got + k) = { e with sent := e.sent.drop k, got := e.got + k }) := by
        show _ = _
        unfold gt; rw [if_pos (by omega), Nat.add_sub_cancel_left]
      have H4 : Hid (w.heap[g]? = some (.cells #[.int .u32 e.ep, .int .u64 e.got, .slice so e.sent.length scap, .int .u64 e.come, vn] 55 (0, 0))) := h4
      have H5 : Hid (Sp (fun k => S k ∧ f k = 1) (fun k => S k ∧ f k = 3) w (.slice so e.sent.length scap) e.sent) := h5
      have H6 : Hid (Sp (fun k => S k ∧ f k = 2) (fun k => S k ∧ f k = 4) w vn e.new) := h6
      clear h4 h5 h6 HR
      go_enter Try.func47, Try.ntmps47
      go_upto_region 0 with fail
      go_quiet (fail)
      go_upto_region 1 with fail
      have HQ : Hid (Only S w (w.drewN nq) ∧ Fresh S (w.drewN nq)) := ⟨⟨rfl, rfl, rfl, Nat.le_refl _, fun _ _ => rfl⟩, hf⟩
      have H4' : Hid ((w.drewN nq).heap[g]? = some (.cells #[.int .u32 e.ep, .int .u64 e.got, .slice so e.sent.length scap, .int .u64 e.come, vn] 55 (0, 0))) := H4.out
      have H5' : Hid (Sp (fun k => S k ∧ f k = 1) (fun k => S k ∧ f k = 3) (w.drewN nq).drew (.slice so e.sent.length scap) e.sent) := H5.out.carry (fun _ _ h => ⟨h, rfl⟩) (fun _ _ h => ⟨h, rfl⟩)
      have H6' : Hid (Sp (fun k => S k ∧ f k = 2) (fun k => S k ∧ f k = 4) (w.drewN nq).drew vn e.new) := H6.out.carry (fun _ _ h => ⟨h, rfl⟩) (fun _ _ h => ⟨h, rfl⟩)
      clear c0 c1 c2 c3 c4 z0 z1 z2 z3 z4 H4 H5 H6 hf
      generalize w.drewN nq = wq at HQ H4' H5' H6' ⊢
      obtain ⟨c0, c1, c2, c3, c4, z0, z1, z2, z3, z4⟩ := end_cells H4'.out
      go_region_law (
        refine stepDel (.tmp 29) (.tmp 36) rfl rfl (k := k) rfl (by first | rfl | (simp [Act.eval, Act.put]; done) | (simp only [Act.eval, Act.put]; simp [hw64])) H5'.out (fun k hk ht => by have := (H5'.out.own k hk).2; have := ht.2; omega) (by omega) hc2 (by omega) ?_
        intro v1 w1 A1 P1
        obtain ⟨a1, k1, rfl, -⟩ := P1.form
        have hblk : w1.heap[g]? = some (.cells #[.int .u32 e.ep, .int .u64 e.got, .slice so e.sent.length scap, .int .u64 e.come, vn] 55 (0, 0)) := by
          rw [A1.block g (Array.getElem?_eq_some_iff.1 H4'.out).1 (fun e => by have := (H5'.out.own g e).2; omega)]; exact H4'.out
        have HO1 : Hid (Only S wq.drew w1) := A1.only HQ.out.2 (fun k hk => (H5'.out.own k hk).1)
        have HN1 : Hid (Sp (fun k => S k ∧ f k = 2) (fun k => S k ∧ f k = 4) w1 vn e.new) := H6'.out.carry (fun i hi h => ⟨h, A1.block i hi (fun e => by have := (H5'.out.own i e).2; omega)⟩) (fun i hi h => ⟨h, A1.block i hi (fun e => by have := (H5'.out.own i e).2; omega)⟩)
        have HP1 : Hid (Sp (fun k => S k ∧ f k = 1) (fun k => S k ∧ f k = 3) w1 (.slice a1 (e.sent.drop k).length k1) (e.sent.drop k)) := P1
        obtain ⟨y0, y1, y2, y3, y4, x0, x1, x2, x3, x4⟩ := end_cells hblk
        have HK1 : Hid (w1.heap[g]? = some (.cells #[.int .u32 e.ep, .int .u64 e.got, .slice so e.sent.length scap, .int .u64 e.come, vn] 55 (0, 0))) := hblk
        clear A1 P1 hblk)
      all_goals (
        go_wp2
        first | go_end0 | refine bodyPost_ret (results_none rfl _ _ _) rfl ?_
        have hoth : ∀ x y i, i ≠ g → ((w1.setCell ⟨g, 2, none⟩ x).setCell ⟨g, 1, none⟩ y).heap[i]? = w1.heap[i]? := fun x y i hi => by
          rw [heap_setCell_other _ ⟨g, 1, none⟩ i _ hi, heap_setCell_other _ ⟨g, 2, none⟩ i _ hi]
        have hcar : ∀ x y a, a ≠ 0 → ∀ i, i < w1.heap.size → (S i ∧ f i = a) → (S i ∧ f i = a) ∧ ((w1.setCell ⟨g, 2, none⟩ x).setCell ⟨g, 1, none⟩ y).heap[i]? = w1.heap[i]? := fun x y a ha i _ hi => ⟨hi, hoth x y i (fun e => by subst e; omega)⟩
        refine ⟨rfl, ((HQ.out.1.trans ((Only.refl S wq).drew.trans HO1.out)).setCell (p := ⟨g, 2, none⟩) h2 _).setCell (p := ⟨g, 1, none⟩) h2 _, ?_⟩
        rw [HE.out]
        refine ⟨g, f, _, vn, rfl, h2, h3, ?_, HP1.out.carry (hcar _ _ 1 (by omega)) (hcar _ _ 3 (by omega)), HN1.out.carry (hcar _ _ 2 (by omega)) (hcar _ _ 4 (by omega))⟩
        rw [heap_setCell_same _ g 1 _ _ _ (heap_setCell_same _ g 2 _ _ _ HK1.out), List.length_drop, Int.natCast_add]
        rfl)
    · have hd2 : decide ((k : Int) ≤ (e.sent.length : Int)) = false := by simp; omega
      have HE : Hid (gt e (e.got + k) = e) := by
        show _ = _
        unfold gt; rw [if_neg (by omega)]
      clear h4 h5 h6
      go_enter Try.func47, Try.ntmps47
      go_upto_region 0 with fail
      go_quiet (fail)
      go_wp2
      first | go_end0 | refine bodyPost_ret (results_none rfl _ _ _) rfl ?_
      exact ⟨rfl, ⟨rfl, rfl, rfl, Nat.le_refl _, fun _ _ => rfl⟩, by rw [HE.out]; exact HR.out.carry fun _ _ h => ⟨h, rfl⟩⟩
  · have HE : Hid (gt e c = e) := by
      show _ = _
      unfold gt; rw [if_neg (by omega)]
    clear h4 h5 h6
    go_enter Try.func47, Try.ntmps47
    go_upto_region 0 with fail
    go_quiet (fail)
    go_wp2
    first | go_end0 | refine bodyPost_ret (results_none rfl _ _ _) rfl ?_
    exact ⟨rfl, ⟨rfl, rfl, rfl, Nat.le_refl _, fun _ _ => rfl⟩, by rw [HE.out]; exact HR.out.carry fun _ _ h => ⟨h, rfl⟩⟩
end Go.Proofs.Ytijjcopglbcoiaa
