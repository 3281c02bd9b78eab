/-
  Proved here: read answers a datagram's parts out of sealed bytes, or ErrShort, or ErrMessage, as 'spl' says; no old memory turns. No condition.
-/
import Derived.Test.YtijjcopglbcoiaaD3
import Derived.Defers
import Derived.Recover
namespace Go.Proofs.Ytijjcopglbcoiaa
open Go.RowKit Seal

abbrev z62 : Array Value := #[.int .u32 0, .int .u64 0, .int .u64 0, nilS]

set_option maxHeartbeats 400000 in
theorem catch_panicking (g q : Nat) (x0 x1 x2 x3 : Value) (x : Int) (t : TypeId) (pw : Value) (older : List PanicEntry) (w : World) (hP : w.heap[g]? = some (.cells #[x0, x1, x2, x3] 62 (0, 0))) (hQ : w.heap[q]? = some (.cells #[.int .i64 x] 40 (0, 0))) (hne : q ≠ g) :
    CallsD Try.prog 45 #[.pointer (some ⟨g, 0, none⟩), .pointer (some ⟨q, 0, none⟩)] (.panicking ({ v := .iface t pw, recovered := false } :: older)) w fun e u' w' =>
      e = .returned (.tuple #[]) ∧ u' = .panicking ({ v := .iface t pw, recovered := true } :: older) ∧ w' = ((((w.setCell ⟨g, 0, none⟩ (.int .u32 0)).setCell ⟨g, 1, none⟩ (.int .u64 0)).setCell ⟨g, 2, none⟩ (.int .u64 0)).setCell ⟨g, 3, none⟩ nilS).setCell ⟨q, 0, none⟩ (.int .i64 70) := by
  have hS := set4 hP (.int .u32 0) (.int .u64 0) (.int .u64 0) nilS
  have hQ' := hQ
  rw [← hS.2 q hne] at hQ'
  have c1 := cell_of_one hQ'
  have f1 := free_of_one hQ'
  obtain ⟨d0, d1, d2, d3, e0, e1, e2, e3⟩ := dg_cells hP
  refine callsD_of_wpS Try.func45 rfl fun c₀ cs hu => ?_
  apply wpS_seq
  apply wpS_region
  simp [wpOpsS, go_sem, recoverD, hu, Try.ntmps45, Exit.thenS]
  refine wpS_cond (t := true) (by simp [Act.eval, Array.replicate]) ?_
  simp only [if_true]
  refine wpS_of_wp ?_
  clear hS hQ hQ' hP
  go_wp2
  simp [bodyPostS, results, Try.results45]

set_option maxHeartbeats 400000 in
theorem catch_idle (p q : Addr) (w : World) :
    CallsD Try.prog 45 #[.pointer (some p), .pointer (some q)] .returning w fun e u' w' => e = .returned (.tuple #[]) ∧ u' = .returning ∧ w' = w := by
  refine callsD_of_wpS Try.func45 rfl fun c₀ cs hu => ?_
  apply wpS_seq
  apply wpS_region
  simp [wpOpsS, go_sem, recoverD, hu, Try.ntmps45, Exit.thenS]
  refine wpS_cond (t := false) (by simp [Act.eval, Array.replicate]) ?_
  simp only [Bool.false_eq_true, if_false]
  refine wpS_of_wp (wp_skip ?_)
  cases c₀
  simp_all [bodyPostS, results, Try.results45]

theorem res34 (tmps : Array Value) (w : World) (g q : Nat) (x0 x1 x2 x3 : Value) (x : Int) (hp : tmps.getD 2 undef = .pointer (some ⟨g, 0, none⟩)) (hq : tmps.getD 3 undef = .pointer (some ⟨q, 0, none⟩)) (hg : w.heap[g]? = some (.cells #[x0, x1, x2, x3] 62 (0, 0))) (hc : w.heap[q]? = some (.cells #[.int .i64 x] 40 (0, 0))) :
    (results Try.f34 tmps).run Try.prog w = .ok (.tuple #[.agg #[x0, x1, x2, x3], .int .i64 x]) w := by
  have hp' : tmps[2]?.getD undef = .pointer (some ⟨g, 0, none⟩) := by simpa using hp
  have hq' : tmps[3]?.getD undef = .pointer (some ⟨q, 0, none⟩) := by simpa using hq
  have c1 := cell_of_one hc
  have h40 : (loadVar 40 ⟨q, 0, none⟩).run Try.prog w = .ok (.int .i64 x) w := by
    simp [loadVar, go_sem, c1]
  simp [results, Try.results34, hp', hq', asAddr, run_loadVar_row w g 62 62 _ (0, 0) _ hg Try.underlying62 rfl (by kernel_rfl), h40]

/-- The memory that read makes first. -/
theorem read_two (w : World) : ∃ W, Hid (W = (w.alloc (.cells z62 62)).alloc (.cells #[.int .i64 0] 40)) ∧ Hid (Below w.heap.size w W) ∧ W.heap[w.heap.size]? = some (.cells z62 62 (0, 0)) ∧ W.heap[w.heap.size + 1]? = some (.cells #[.int .i64 0] 40 (0, 0)) := by
  refine ⟨_, rfl, ((Below.refl _ _).alloc (Nat.le_refl _) _).alloc (by simp) _, ?_, ?_⟩
  · rw [heap_alloc_old _ _ (by simp)]; exact heap_alloc_new _ _
  · have := heap_alloc_new (w.alloc (.cells z62 62)) (.cells #[.int .i64 0] 40)
    simpa using this
theorem read_three (w : World) (v : Value) : ∃ W, Hid (W = ((w.alloc (.cells z62 62)).alloc (.cells #[.int .i64 0] 40)).alloc (.cells #[v] 75)) ∧ Hid (Below w.heap.size w W) ∧ Hid (W.heap.size = w.heap.size + 3) ∧ W.heap[w.heap.size]? = some (.cells z62 62 (0, 0)) ∧ W.heap[w.heap.size + 1]? = some (.cells #[.int .i64 0] 40 (0, 0)) ∧ Hid (W.heap[w.heap.size + 2]? = some (.cells #[v] 75 (0, 0))) := by
  obtain ⟨W, h1, h2, h3, h4⟩ := read_two w
  have hs : W.heap.size = w.heap.size + 2 := by rw [h1.out]; simp
  refine ⟨W.alloc (.cells #[v] 75), by show _ = _; rw [h1.out], h2.out.trans (((Below.refl _ _).alloc (Nat.le_refl _) _).mono h2.out.size), by show _ = _; simp [hs], ?_, ?_, ?_⟩
  · rw [heap_alloc_old _ _ (by omega)]; exact h3
  · rw [heap_alloc_old _ _ (by omega)]; exact h4
  · have := heap_alloc_new W (.cells #[v] 75)
    rw [hs] at this
    exact this

set_option maxHeartbeats 800000 in
theorem read_short (B : Nat) (v : Value) (bs : List Int) (w : World) (hs : Sl B w v bs) (h : bs.length < 14) :
    Calls Try.prog 34 #[v] w fun e w' => e = .returned (.tuple #[.agg z62, .int .i64 51]) ∧ Below w.heap.size w w' := by
  have hmf : ∀ (fn : Fn) (first cap : Array Value) (w : World), (Instr.makeFunc fn first cap).run Try.prog w = .ok (.func fn first cap) w := fun _ _ _ _ => rfl
  obtain ⟨W, HW, HB, h3, h4⟩ := read_two w
  have hS := set4 h3 (.int .u32 0) (.int .u64 0) (.int .u64 0) nilS
  obtain ⟨d0, d1, d2, d3, e0, e1, e2, e3⟩ := dg_cells h3
  have hQ' := h4
  rw [← hS.2 _ (by omega)] at hQ'
  have c1 := cell_of_one hQ'
  have f1 := free_of_one hQ'
  have HQ' : Hid ((((W.setCell ⟨w.heap.size, 0, none⟩ (.int .u32 0)).setCell ⟨w.heap.size, 1, none⟩ (.int .u64 0)).setCell ⟨w.heap.size, 2, none⟩ (.int .u64 0)).setCell ⟨w.heap.size, 3, none⟩ nilS |>.heap[w.heap.size + 1]? = some (.cells #[.int .i64 0] 40 (0, 0))) := hQ'
  have HS : Hid ((((W.setCell ⟨w.heap.size, 0, none⟩ (.int .u32 0)).setCell ⟨w.heap.size, 1, none⟩ (.int .u64 0)).setCell ⟨w.heap.size, 2, none⟩ (.int .u64 0)).setCell ⟨w.heap.size, 3, none⟩ nilS |>.heap[w.heap.size]? = some (.cells z62 62 (0, 0))) := hS.1
  clear hQ' hS h3 h4
  obtain ⟨ao, cap, rfl, -⟩ := hs
  have hd : decide ((bs.length : Int) < 14) = true := by simp; omega
  go_enter_defers Try.func34, Try.ntmps34
  go_upto_region 2 with fail
  rw [← HW.out]
  go_wp2
  have hq2 := one_setCell (u := .int .i64 51) HQ'.out
  have hg2 := HS.out
  rw [← heap_setCell_other _ ⟨w.heap.size + 1, 0, none⟩ w.heap.size (.int .i64 51) (show w.heap.size ≠ w.heap.size + 1 by omega)] at hg2
  refine ⟨_, res34 _ _ w.heap.size (w.heap.size + 1) _ _ _ _ 51 rfl rfl hg2 hq2, rfl, ?_⟩
  exact ((((HB.out.setCell (by simp) _).setCell (by simp) _).setCell (by simp) _).setCell (by simp) _).setCell (by simp) _

/-- What read makes of bytes that the cursor reads. -/
theorem read_cur {T : Nat → Prop} {w W : World} {v : Value} {bs : List Int} (hs : SlC T w v bs) (hT : ∀ k, T k → k < w.heap.size) (HB : Below w.heap.size w W) (hc : W.heap[w.heap.size + 2]? = some (.cells #[v] 75 (0, 0))) : Cur T W (w.heap.size + 2) bs :=
  ⟨v, hc, hs.carry fun k _ hk => ⟨hk, HB.block k (hT k hk)⟩⟩

set_option maxHeartbeats 1600000 in
theorem read_long {T : Nat → Prop} (v : Value) (bs : List Int) (w : World) (hs : SlC T w v bs) (hT : ∀ k, T k → k < w.heap.size) (h : 14 ≤ bs.length) (p q r : Nat) (hp : fld bs 0 4 = p) (hq : fld bs 4 4 = q) (hr : fld bs 8 4 = r) :
    Calls Try.prog 34 #[v] w fun e w' => Below w.heap.size w w' ∧ ((spl bs = none ∧ e = .returned (.tuple #[.agg z62, .int .i64 70])) ∨ ∃ l vl, spl bs = some l ∧ l.length ≤ 32 ∧ e = .returned (.tuple #[.agg (dgc p q r vl), .int .i64 0]) ∧ Sp (fun k => w.heap.size ≤ k) T w' vl l) := by
  have hmf : ∀ (fn : Fn) (first cap : Array Value) (w : World), (Instr.makeFunc fn first cap).run Try.prog w = .ok (.func fn first cap) w := fun _ _ _ _ => rfl
  obtain ⟨W, HW, HB, HZ, h3, h4, H5⟩ := read_three w v
  have hCur := read_cur hs hT HB.out H5.out
  have HD := datagram_any (w.heap.size + 2) (w.heap.size + 3) bs W hCur (fun k hk => by have := hT k hk; omega) (by omega) (by rw [HZ.out]; exact Nat.le_refl _) h p q r hp hq hr
  have HD' : Hid (Calls Try.prog 46 #[.pointer (some ⟨w.heap.size + 2, 0, none⟩)] W fun e w' => Only (OC (w.heap.size + 2) (w.heap.size + 3)) W w' ∧ ((spl bs = none ∧ e = .panicked PC) ∨ ∃ l v, spl bs = some l ∧ l.length ≤ 32 ∧ e = .returned (.agg (dgc p q r v)) ∧ Sp (fun k => w.heap.size + 3 ≤ k) T w' v l)) := HD
  have hd : decide ((bs.length : Int) < 14) = false := by simp; omega
  have H3 : Hid (W.heap[w.heap.size]? = some (.cells z62 62 (0, 0))) := h3
  have H4 : Hid (W.heap[w.heap.size + 1]? = some (.cells #[.int .i64 0] 40 (0, 0))) := h4
  obtain ⟨ao, cap, rfl, -⟩ := hs
  clear HD hCur hp hq hr h3 h4
  go_enter_defers Try.func34, Try.ntmps34
  go_upto_region 5 with fail
  rw [show (((w.alloc (.cells z62 62)).alloc (.cells #[.int .i64 0] 40)).alloc (.cells #[.slice ao bs.length cap] 75)) = W from HW.out.symm]
  cases hspl : spl bs with
  | none =>
    have HE : Hid (Calls Try.prog 46 #[.pointer (some ⟨w.heap.size + 1 + 1, 0, none⟩)] W fun e w' => e = .panicked PC ∧ Only (OC (w.heap.size + 2) (w.heap.size + 3)) W w') := by
      refine HD'.out.mono ?_
      rintro e w' ⟨ho, ⟨_, rfl⟩ | ⟨_, _, h9, _⟩⟩
      · exact ⟨rfl, ho⟩
      · rw [hspl] at h9; cases h9
    have HSPL : Hid (spl bs = none) := hspl
    clear HD' hspl
    go_wp2_with (go_at_call 46; refine (HE.out).mono ?_; rintro e w1 ⟨rfl, ho1⟩)
    have hP1 : w1.heap[w.heap.size]? = some (.cells z62 62 (0, 0)) := by rw [ho1.block _ (by rintro (h | h) <;> omega)]; exact H3.out
    have hQ1 : w1.heap[w.heap.size + 1]? = some (.cells #[.int .i64 0] 40 (0, 0)) := by rw [ho1.block _ (by rintro (h | h) <;> omega)]; exact H4.out
    have hB1 : Below w.heap.size w w1 := HB.out.trans (ho1.below fun k hk => by rcases hk with h | h <;> omega)
    refine leaves_cons (f := 45) (args := #[.pointer (some ⟨w.heap.size, 0, none⟩), .pointer (some ⟨w.heap.size + 1, 0, none⟩)]) (by simp) (by simp [go_sem]) ?_
    refine (catch_panicking w.heap.size (w.heap.size + 1) _ _ _ _ 0 40 _ [] _ hP1 hQ1 (by omega)).mono ?_
    rintro e u' w'' ⟨rfl, rfl, rfl⟩
    have hS := set4 hP1 (.int .u32 0) (.int .u64 0) (.int .u64 0) nilS
    have hQ2 := hQ1
    rw [← hS.2 _ (by omega)] at hQ2
    have hq2 := one_setCell (u := .int .i64 70) hQ2
    have hg2 := hS.1
    rw [← heap_setCell_other _ ⟨w.heap.size + 1, 0, none⟩ w.heap.size (.int .i64 70) (show w.heap.size ≠ w.heap.size + 1 by omega)] at hg2
    refine ⟨_, res34 _ _ w.heap.size (w.heap.size + 1) _ _ _ _ 70 rfl rfl hg2 hq2, ?_, Or.inl ⟨HSPL.out, rfl⟩⟩
    exact ((((hB1.setCell (by simp) _).setCell (by simp) _).setCell (by simp) _).setCell (by simp) _).setCell (by simp) _
  | some l =>
    have HE : Hid (Calls Try.prog 46 #[.pointer (some ⟨w.heap.size + 1 + 1, 0, none⟩)] W fun e w' => ∃ ao cap, e = .returned (.agg (dgc p q r (.slice ao l.length cap))) ∧ l.length ≤ 32 ∧ Only (OC (w.heap.size + 2) (w.heap.size + 3)) W w' ∧ Sp (fun k => w.heap.size + 3 ≤ k) T w' (.slice ao l.length cap) l) := by
      refine HD'.out.mono ?_
      rintro e w' ⟨ho, ⟨h9, _⟩ | ⟨l', v', h9, h32, rfl, hsp⟩⟩
      · rw [hspl] at h9; cases h9
      · rw [hspl] at h9; cases h9
        obtain ⟨ao, cap, rfl, -⟩ := hsp.form
        exact ⟨ao, cap, rfl, h32, ho, hsp⟩
    have HSPL : Hid (spl bs = some l) := hspl
    clear HD' hspl
    go_wp2_with (go_at_call 46; refine (HE.out).mono ?_; rintro e w1 ⟨ao2, cap2, rfl, h32, ho1, hsp1⟩
                 have hP1 : w1.heap[w.heap.size]? = some (.cells z62 62 (0, 0)) := by
                   rw [ho1.block _ (by rintro (h | h) <;> omega)]; exact H3.out
                 have hQ1 : w1.heap[w.heap.size + 1]? = some (.cells #[.int .i64 0] 40 (0, 0)) := by
                   rw [ho1.block _ (by rintro (h | h) <;> omega)]; exact H4.out
                 have hS := set4 hP1 (.int .u32 (p : Nat)) (.int .u64 (q : Nat)) (.int .u64 (r : Nat)) (.slice ao2 l.length cap2)
                 have hQ2 := hQ1
                 rw [← hS.2 _ (by omega)] at hQ2
                 obtain ⟨d0, d1, d2, d3, e0, e1, e2, e3⟩ := dg_cells hP1
                 have c1 := cell_of_one hQ2
                 have f1 := free_of_one hQ2
                 have HB1 : Hid (Below w.heap.size w w1) := HB.out.trans (ho1.below fun k hk => by rcases hk with h | h <;> omega)
                 have HSP : Hid (Sp (fun k => w.heap.size + 3 ≤ k) T w1 (.slice ao2 l.length cap2) l) := hsp1
                 clear hsp1 ho1)
    refine leaves_cons (f := 45) (args := #[.pointer (some ⟨w.heap.size, 0, none⟩), .pointer (some ⟨w.heap.size + 1, 0, none⟩)]) (by simp) (by simp [go_sem]) ?_
    refine (catch_idle _ _ _).mono ?_
    rintro e u' w'' ⟨rfl, rfl, rfl⟩
    have hq2 := one_setCell (u := .int .i64 0) hQ2
    have hg2 := hS.1
    rw [← heap_setCell_other _ ⟨w.heap.size + 1, 0, none⟩ w.heap.size (.int .i64 0) (show w.heap.size ≠ w.heap.size + 1 by omega)] at hg2
    refine ⟨_, res34 _ _ w.heap.size (w.heap.size + 1) _ _ _ _ 0 rfl rfl hg2 hq2, ?_, Or.inr ⟨l, _, HSPL.out, h32, rfl, ?_⟩⟩
    · exact ((((HB1.out.setCell (by simp) _).setCell (by simp) _).setCell (by simp) _).setCell (by simp) _).setCell (by simp) _
    · have hoth : ∀ k, k ≠ w.heap.size → k ≠ w.heap.size + 1 → (((((w1.setCell ⟨w.heap.size, 0, none⟩ (.int .u32 (p : Nat))).setCell ⟨w.heap.size, 1, none⟩ (.int .u64 (q : Nat))).setCell ⟨w.heap.size, 2, none⟩ (.int .u64 (r : Nat))).setCell ⟨w.heap.size, 3, none⟩ (.slice ao2 l.length cap2)).setCell ⟨w.heap.size + 1, 0, none⟩ (.int .i64 0)).heap[k]? = w1.heap[k]? := fun k h1 h2 => by
        rw [heap_setCell_other _ ⟨w.heap.size + 1, 0, none⟩ k _ h2, hS.2 k h1]
      exact HSP.out.carry (fun k _ hk => ⟨by omega, hoth k (by omega) (by omega)⟩) (fun k _ hk => ⟨hk, hoth k (by have := hT k hk; omega) (by have := hT k hk; omega)⟩)
end Go.Proofs.Ytijjcopglbcoiaa
