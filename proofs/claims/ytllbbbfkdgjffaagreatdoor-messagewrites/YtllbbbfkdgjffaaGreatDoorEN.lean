/-
  Proved here: Encode answers a message's bytes, or ErrLong, or ErrMessage, as 'enE' says; no old memory turns. Conditions: the tables hold their numbers; the message's memory is old, its numbers of their types.
-/
import Derived.Test.YtllbbbfkdgjffaaGreatDoorWX
import Derived.Defers
import Derived.Recover
namespace Go.Proofs.YtllbbbfkdgjffaaGreatDoor
open Go.RowKit

set_option maxHeartbeats 400000 in
theorem ecatch_panicking (p q : Nat) (x : Value) (y : Int) (t : TypeId) (pw : Value) (older : List PanicEntry) (w : World) (hP : w.heap[p]? = some (.cells #[x] 34 (0, 0))) (hQ : w.heap[q]? = some (.cells #[.int .i64 y] 38 (0, 0))) (hne : q ≠ p) :
    CallsD Tryz.prog 14 #[ptr p, ptr q] (.panicking ({ v := .iface t pw, recovered := false } :: older)) w fun e u' w' =>
      e = .returned (.tuple #[]) ∧ u' = .panicking ({ v := .iface t pw, recovered := true } :: older) ∧ w' = (w.setCell ⟨p, 0, none⟩ nilS).setCell ⟨q, 0, none⟩ (.int .i64 70) := by
  have hQ' : (w.setCell ⟨p, 0, none⟩ nilS).heap[q]? = some (.cells #[.int .i64 y] 38 (0, 0)) := by rw [heap_setCell_other _ ⟨p, 0, none⟩ q _ hne]; exact hQ
  have c0 := cell_of_one hP
  have f0 := free_of_one hP
  have c1 := cell_of_one hQ'
  have f1 := free_of_one hQ'
  refine callsD_of_wpS Tryz.func14 rfl fun c₀ cs hu => ?_
  apply wpS_seq
  apply wpS_region
  simp [wpOpsS, go_sem, recoverD, hu, Tryz.ntmps14, Exit.thenS]
  refine wpS_cond (t := true) (by simp [Act.eval, Array.replicate]) ?_
  simp only [if_true]
  refine wpS_of_wp ?_
  clear hQ hQ' hP
  go_wp2
  simp [bodyPostS, results, Tryz.results14]

set_option maxHeartbeats 400000 in
theorem ecatch_idle (p q : Addr) (w : World) :
    CallsD Tryz.prog 14 #[.pointer (some p), .pointer (some q)] .returning w fun e u' w' => e = .returned (.tuple #[]) ∧ u' = .returning ∧ w' = w := by
  refine callsD_of_wpS Tryz.func14 rfl fun c₀ cs hu => ?_
  apply wpS_seq
  apply wpS_region
  simp [wpOpsS, go_sem, recoverD, hu, Tryz.ntmps14, Exit.thenS]
  refine wpS_cond (t := false) (by simp [Act.eval, Array.replicate]) ?_
  simp only [Bool.false_eq_true, if_false]
  refine wpS_of_wp (wp_skip ?_)
  cases c₀
  simp_all [bodyPostS, results, Tryz.results14]

theorem resEnc (tmps : Array Value) (w : World) (p q : Nat) (ao : Option Addr) (n k : Nat) (x : Int) (hp : tmps.getD 2 undef = ptr p) (hq : tmps.getD 3 undef = ptr q) (hg : w.heap[p]? = some (.cells #[.slice ao n k] 34 (0, 0))) (hc : w.heap[q]? = some (.cells #[.int .i64 x] 38 (0, 0))) :
    (results Tryz.f6 tmps).run Tryz.prog w = .ok (.tuple #[.slice ao n k, .int .i64 x]) w := by
  have hp' : tmps[2]?.getD undef = ptr p := by simpa using hp
  have hq' : tmps[3]?.getD undef = ptr q := by simpa using hq
  have c0 := cell_of_one hg
  have c1 := cell_of_one hc
  have h1 : (loadVar 38 ⟨q, 0, none⟩).run Tryz.prog w = .ok (.int .i64 x) w := by simp [loadVar, go_sem, c1]
  have h0 : (loadVar 34 ⟨p, 0, none⟩).run Tryz.prog w = .ok (.slice ao n k) w := by simp [loadVar, go_sem, c0]
  simp [results, Tryz.results6, hp', hq', asAddr, h0, h1]

/-- The memory that Encode makes first. -/
theorem enc_four (w : World) (m : Ms) (s : Sls) : ∃ W, Hid (W = (((w.alloc (.cells (msc m s) 37)).alloc (.cells #[nilS] 34)).alloc (.cells #[.int .i64 0] 38)).alloc (.cells #[nilS, .bool false] 50)) ∧ Below w.heap.size w W ∧ W.heap.size = w.heap.size + 4 ∧ MB W w.heap.size m s ∧ W.heap[w.heap.size + 1]? = some (.cells #[nilS] 34 (0, 0)) ∧ W.heap[w.heap.size + 2]? = some (.cells #[.int .i64 0] 38 (0, 0)) ∧ W.heap[w.heap.size + 3]? = some (.cells #[nilS, .bool false] 50 (0, 0)) := three_new w _ _ _ _
theorem Owns.up {w : World} {v : Value} {ys : List Int} {base : Nat} (h : Owns 0 w v ys) (hb : ∀ k, v.ownBlock = some k → base ≤ k) : Owns base w v ys := by
  refine ⟨h.1, ?_⟩
  rcases h.2 with h | ⟨g, cap, cur, e, h1, h2, h3⟩
  · exact Or.inl h
  · exact Or.inr ⟨g, cap, cur, e, hb g (by rw [e]; rfl), h2, h3⟩
def enL (m : Ms) : List Int := if enE m = 0 then encMs m else []
theorem enE_bad {m : Ms} (h : okMs m = false) : enE m = 70 ∧ enL m = [] := by
  have : enE m = 70 := by simp [enE, h]
  exact ⟨this, by simp [enL, this]⟩
theorem enE_long {m : Ms} (h : okMs m = true) (hl : 8192 < (encMs m).length) : enE m = 3 ∧ enL m = [] := by
  have : enE m = 3 := by unfold enE; rw [h, if_pos rfl, if_neg (by omega)]
  exact ⟨this, by simp [enL, this]⟩
theorem enE_good {m : Ms} (h : okMs m = true) (hl : (encMs m).length ≤ 8192) : enE m = 0 ∧ enL m = encMs m := by
  have : enE m = 0 := by unfold enE; rw [h, if_pos rfl, if_pos hl]
  exact ⟨this, by simp [enL, this]⟩

set_option maxHeartbeats 1600000 in
set_option maxRecDepth 100000 in
theorem encode_any {T : Nat → Prop} (m : Ms) (s : Sls) (w : World) (hs : Mss T w m s) (hf : m.Fit) (hT : ∀ x, T x → x < w.heap.size) (ht : Tab w) :
    Calls Tryz.prog 6 #[.agg (msc m s)] w fun e w' => Below w.heap.size w w' ∧ ∃ v, e = .returned (.tuple #[v, .int .i64 (enE m)]) ∧ Owns w.heap.size w' v (enL m) := by
  have hmf : ∀ (fn : Fn) (first cap : Array Value) (w : World), (Instr.makeFunc fn first cap).run Tryz.prog w = .ok (.func fn first cap) w := fun _ _ _ _ => rfl
  obtain ⟨W, HW, hb, hz, h0, h1, h2, h3⟩ := enc_four w m s
  have hpos := ht.pos
  have hWt : Wt (fun k => w.heap.size + 3 < k) W (w.heap.size + 3) 0 [] := by
    refine ⟨⟨ht.on hb, fun k hk => by rw [hz] at hk; omega, fun k hk => by omega, by omega, by omega, by omega⟩, nilS, false, [], h3, Owns.isNil, fun k hk => by simp [Value.ownBlock] at hk, IsB.nil, by simp, by simp, fun _ => rfl, fun h => by cases h⟩
  have HC := hid (wmessage_any hWt m s (hs.carry (T' := T) fun b hb' h => ⟨h, hb.block b hb'⟩) hf (fun x hx => by have := hT x hx; omega))
  have H0 := hid h0
  have H1 := hid h1
  have H2 := hid h2
  have HB := hid hb
  clear hs hWt h0 h1 h2 h3 hb hT ht
  go_enter_defers Tryz.func6, Tryz.ntmps6
  go_upto_region 3 with fail
  rw [show ((((w.alloc (.cells (msc m s) 37)).alloc (.cells #[nilS] 34)).alloc (.cells #[.int .i64 0] 38)).alloc (.cells #[nilS, .bool false] 50)) = W from HW.out.symm]
  have HK : Hid (∀ w1, Only (OS (w.heap.size + 3) fun k => w.heap.size + 3 < k) W w1 → Below w.heap.size w w1 ∧ w1.heap[w.heap.size + 1]? = some (.cells #[nilS] 34 (0, 0)) ∧ w1.heap[w.heap.size + 2]? = some (.cells #[.int .i64 0] 38 (0, 0))) := by
    show ∀ _, _
    intro w1 ho
    refine ⟨HB.out.trans (ho.below fun k hk => by rcases hk with h | h <;> omega), ?_, ?_⟩
    · rw [ho.block _ (by rintro (h | h) <;> omega)]; exact H1.out
    · rw [ho.block _ (by rintro (h | h) <;> omega)]; exact H2.out
  cases hok : okMs m with
  | false =>
    have HE : Hid (Calls Tryz.prog 15 #[ptr (w.heap.size + 3), .agg (msc m s)] W fun e w' => e = .panicked PC ∧ Only (OS (w.heap.size + 3) fun k => w.heap.size + 3 < k) W w') := by
      refine HC.out.mono ?_
      rintro e w' ⟨ho, ⟨h9, _⟩ | ⟨_, h9⟩⟩
      · rw [hok] at h9; cases h9
      · exact ⟨h9, ho⟩
    have HN := hid (enE_bad hok)
    clear HC hok
    go_wp2_with (first
      | (refine ldRow 37 (.tmp 1) rfl rfl w.heap.size rfl 37 (msc m s) _ Tryz.underlying37 rfl (sizeMs m s) H0.out ?_)
      | (go_at_call 15; refine (HE.out).mono ?_; rintro e w1 ⟨rfl, ho1⟩; have HX := hid (HK.out w1 ho1); clear ho1))
    obtain ⟨hB1, hP1, hQ1⟩ := HX.out
    refine leaves_cons (f := 14) (args := #[ptr (w.heap.size + 1), ptr (w.heap.size + 2)]) (by simp) (by simp [go_sem]) ?_
    refine (ecatch_panicking (w.heap.size + 1) (w.heap.size + 2) _ 0 38 _ [] _ hP1 hQ1 (by omega)).mono ?_
    rintro e u' w'' ⟨rfl, rfl, rfl⟩
    have hp2 : ((w1.setCell ⟨w.heap.size + 1, 0, none⟩ nilS).setCell ⟨w.heap.size + 2, 0, none⟩ (.int .i64 70)).heap[w.heap.size + 1]? = some (.cells #[nilS] 34 (0, 0)) := by
      rw [heap_setCell_other _ ⟨w.heap.size + 2, 0, none⟩ (w.heap.size + 1) _ (show w.heap.size + 1 ≠ w.heap.size + 2 by omega)]; exact one_setCell hP1
    have hq2 : ((w1.setCell ⟨w.heap.size + 1, 0, none⟩ nilS).setCell ⟨w.heap.size + 2, 0, none⟩ (.int .i64 70)).heap[w.heap.size + 2]? = some (.cells #[.int .i64 70] 38 (0, 0)) := by
      refine one_setCell (v := .int .i64 0) ?_
      rw [heap_setCell_other _ ⟨w.heap.size + 1, 0, none⟩ (w.heap.size + 2) _ (show w.heap.size + 2 ≠ w.heap.size + 1 by omega)]; exact hQ1
    refine ⟨_, resEnc _ _ (w.heap.size + 1) (w.heap.size + 2) none 0 0 70 rfl rfl hp2 hq2, (hB1.setCell (by simp) _).setCell (by simp) _, nilS, by rw [HN.out.1], by rw [HN.out.2]; exact Owns.isNil⟩
  | true =>
    have HE : Hid (Calls Tryz.prog 15 #[ptr (w.heap.size + 3), .agg (msc m s)] W fun e w' => e = .returned (.tuple #[]) ∧ Only (OS (w.heap.size + 3) fun k => w.heap.size + 3 < k) W w' ∧ ∃ v l ys, w'.heap[w.heap.size + 3]? = some (.cells #[v, .bool l] 50 (0, 0)) ∧ Owns 0 w' v ys ∧ IsB ys ∧ ys.length ≤ 8192 ∧ (∀ k, v.ownBlock = some k → w.heap.size + 3 < k) ∧ (l = false → ys = encMs m) ∧ (l = true → 8192 < (encMs m).length)) := by
      refine HC.out.mono ?_
      rintro e w' ⟨ho, ⟨_, h8, h9⟩ | ⟨h9, _⟩⟩
      · exact ⟨h8, ho, h9⟩
      · rw [hok] at h9; cases h9
    have HOk := hid hok
    clear HC hok
    go_upto_region 4 with (first
      | (refine ldRow 37 (.tmp 1) rfl rfl w.heap.size rfl 37 (msc m s) _ Tryz.underlying37 rfl (sizeMs m s) H0.out ?_)
      | (go_at_call 15; refine (HE.out).mono ?_; rintro e w1 ⟨rfl, ho1, hx⟩; have HX := hid (HK.out w1 ho1); have HY := hid hx; clear ho1 hx))
    obtain ⟨v, l, ys, hc, hw, hB, hl, hS, e0, e1⟩ := HY.out
    obtain ⟨va, vc, rfl⟩ : ∃ va vc, v = .slice va ys.length vc := by
      rcases hw.2 with ⟨rfl, e⟩ | ⟨g, cap, cur, rfl, _⟩
      · exact ⟨none, 0, by rw [e]⟩
      · exact ⟨_, _, rfl⟩
    obtain ⟨d0, d1, -, -⟩ := two_cells hc
    have c1 := cell_of_one HX.out.2.1
    have f1 := free_of_one HX.out.2.1
    have HOw := hid hw
    have HSS := hid hS
    cases l with
    | true =>
      have HN := hid (enE_long HOk.out (e1 rfl))
      have HQ1 : Hid ((w1.setCell ⟨w.heap.size + 1, 0, none⟩ nilS).heap[w.heap.size + 2]? = some (.cells #[.int .i64 0] 38 (0, 0))) := (heap_setCell_other _ ⟨w.heap.size + 1, 0, none⟩ (w.heap.size + 2) _ (show w.heap.size + 2 ≠ w.heap.size + 1 by omega)).trans HX.out.2.2
      have c2 := cell_of_one HQ1.out
      have f2 := free_of_one HQ1.out
      clear hc hw hB hS e0 e1 HY
      go_wp2
      refine leaves_cons (f := 14) (args := #[ptr (w.heap.size + 1), ptr (w.heap.size + 2)]) (by simp) (by simp [go_sem]) ?_
      refine (ecatch_idle _ _ _).mono ?_
      rintro e u' w'' ⟨rfl, rfl, rfl⟩
      have hp2 : ((w1.setCell ⟨w.heap.size + 1, 0, none⟩ nilS).setCell ⟨w.heap.size + 2, 0, none⟩ (.int .i64 3)).heap[w.heap.size + 1]? = some (.cells #[nilS] 34 (0, 0)) := by
        rw [heap_setCell_other _ ⟨w.heap.size + 2, 0, none⟩ (w.heap.size + 1) _ (show w.heap.size + 1 ≠ w.heap.size + 2 by omega)]; exact one_setCell HX.out.2.1
      refine ⟨_, resEnc _ _ (w.heap.size + 1) (w.heap.size + 2) none 0 0 3 rfl rfl hp2 (one_setCell HQ1.out), (HX.out.1.setCell (by simp) _).setCell (by simp; try omega) _, nilS, by rw [HN.out.1], by rw [HN.out.2]; exact Owns.isNil⟩
    | false =>
      have e2 := e0 rfl
      have HN := hid (enE_good HOk.out (by rw [← e2]; exact hl))
      have HE2 := hid e2
      have HQ1 : Hid ((w1.setCell ⟨w.heap.size + 1, 0, none⟩ (.slice va ys.length vc)).heap[w.heap.size + 2]? = some (.cells #[.int .i64 0] 38 (0, 0))) := (heap_setCell_other _ ⟨w.heap.size + 1, 0, none⟩ (w.heap.size + 2) _ (show w.heap.size + 2 ≠ w.heap.size + 1 by omega)).trans HX.out.2.2
      have c2 := cell_of_one HQ1.out
      have f2 := free_of_one HQ1.out
      clear hc hw hB hS e0 e1 e2 HY
      go_wp2
      refine leaves_cons (f := 14) (args := #[ptr (w.heap.size + 1), ptr (w.heap.size + 2)]) (by simp) (by simp [go_sem]) ?_
      refine (ecatch_idle _ _ _).mono ?_
      rintro e u' w'' ⟨rfl, rfl, rfl⟩
      have hp2 : ((w1.setCell ⟨w.heap.size + 1, 0, none⟩ (.slice va ys.length vc)).setCell ⟨w.heap.size + 2, 0, none⟩ (.int .i64 0)).heap[w.heap.size + 1]? = some (.cells #[.slice va ys.length vc] 34 (0, 0)) := by
        rw [heap_setCell_other _ ⟨w.heap.size + 2, 0, none⟩ (w.heap.size + 1) _ (show w.heap.size + 1 ≠ w.heap.size + 2 by omega)]; exact one_setCell HX.out.2.1
      refine ⟨_, resEnc _ _ (w.heap.size + 1) (w.heap.size + 2) va ys.length vc 0 rfl rfl hp2 (one_setCell HQ1.out), (HX.out.1.setCell (by simp) _).setCell (by simp; try omega) _, _, by rw [HN.out.1], ?_⟩
      rw [HN.out.2, ← HE2.out]
      refine Owns.up (owns_carry HOw.out fun k hk => ?_) (fun k hk => by have := HSS.out k hk; omega)
      have := HSS.out k hk
      rw [heap_setCell_other _ ⟨w.heap.size + 2, 0, none⟩ k _ (show k ≠ w.heap.size + 2 by omega), heap_setCell_other _ ⟨w.heap.size + 1, 0, none⟩ k _ (show k ≠ w.heap.size + 1 by omega)]
end Go.Proofs.YtllbbbfkdgjffaaGreatDoor
