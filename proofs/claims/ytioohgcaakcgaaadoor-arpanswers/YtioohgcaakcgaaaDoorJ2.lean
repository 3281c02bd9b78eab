/-
  Proved here: build, Ask, isSome, Read and Answer of package arp answer what 'asL', 'some4', 'rdA', 'rdN', 'anE', 'anL' say, for every packet and numbers; no old memory turns. Conditions: the widths' table holds its eleven numbers; the numbers are unsigned, of 64 or 32 bits.
-/
import Derived.Test.YtioohgcaakcgaaaDoorJ1
namespace Go.Proofs.YtioohgcaakcgaaaDoor
open Go.RowKit

theorem built30 (A B C D : Int) : Tryd.prog.built 30 [(0, .int .u64 A), (1, .int .u64 B), (2, .int .u64 2054), (4, .int .u64 C), (5, .int .u64 D)] = some (row 11 (aH A B C D)) := by kernel_rfl
/-- A header is put together. -/
theorem bld30 {ops : Array Oper} {rest : List Oper} {o : Oper} {a : Act} {w : World} {Q : Exit → Act → World → Prop} (x y z u : Operand) (ho : o.op = .build 30 #[(0, x), (1, y), (2, .const (.int .u64 2054)), (4, z), (5, u)]) (A B C D : Int) (hx : a.eval x = .int .u64 A) (hy : a.eval y = .int .u64 B) (hz : a.eval z = .int .u64 C) (hu : a.eval u = .int .u64 D) (hw : Region.wanted o (yielded ops a.tmps) = true)
    (h : wpList Tryd.prog ops Q rest (a.put o.dst (hv (aH A B C D))) w) : wpList Tryd.prog ops Q (o :: rest) a w := by
  unfold wpList
  rw [if_pos hw]
  refine Or.inl ?_
  unfold Oper.wp execOp
  have := run_build (P := Tryd.prog) w 30 #[(0, .int .u64 A), (1, .int .u64 B), (2, .int .u64 2054), (4, .int .u64 C), (5, .int .u64 D)] _ (built30 A B C D)
  have hc : a.eval (.const (.int .u64 2054)) = .int .u64 2054 := rfl
  simp only [ho, List.map_toArray, List.map_cons, List.map_nil, hx, hy, hz, hu, hc, Sem.run_bind, Sem.run_pure, Result.andThen_ok, this]
  exact h

set_option maxHeartbeats 800000 in
/-- WHAT build ANSWERS. -/
theorem bld_any (op s d f t : Int) (w : World) (hw : Tab w) (ho : op = 1 ∨ op = 2) (n : Nums s d f t) :
    Calls Tryd.prog 17 #[.int .u8 op, .int .u64 s, .int .u64 d, .int .u32 f, .int .u32 t] w fun e w' => ∃ v', e = .returned (.tuple #[v', .bool (fit s d)]) ∧ Below w.heap.size w w' ∧ Owns w.heap.size w' v' (blL op s d f t) := by
  have f0 := n.f0; have f1 := n.f1; have t0 := n.t0; have t1 := n.t1
  have hK : Blk (w.alloc (.cells (row 11 (aH s d f t)) 30)) w.heap.size 11 30 (aH s d f t) := Blk.new _ _ _ _
  have e2 : (w.alloc (.cells (row 11 (aH s d f t)) 30)).heap.size = w.heap.size + 1 := by simp
  have hl1 : Below w.heap.size w (w.alloc (.cells (row 11 (aH s d f t)) 30)) := (Below.refl _ _).alloc (Nat.le_refl _) _
  have hl2 : Below w.heap.size w ((w.alloc (.cells (row 11 (aH s d f t)) 30)).alloc (.cells #[.int .u8 op] 5)) := hl1.alloc (by simp) _
  have HS : Hid (Sl (w.heap.size + 1 + 1) ((w.alloc (.cells (row 11 (aH s d f t)) 30)).alloc (.cells #[.int .u8 op] 5)) (.slice (some ⟨w.heap.size + 1, 0, none⟩) 1 1) [op]) := by
    have := sl_one (w.alloc (.cells (row 11 (aH s d f t)) 30)) op (by omega) (by omega)
    rw [e2] at this
    exact this
  have HT : Hid (Tab ((w.alloc (.cells (row 11 (aH s d f t)) 30)).alloc (.cells #[.int .u8 op] 5))) := hw.on hl2
  have HL : Hid (Below w.heap.size w ((w.alloc (.cells (row 11 (aH s d f t)) 30)).alloc (.cells #[.int .u8 op] 5))) := hl2
  have HE : Hid ((bErr (aH s d f t) [op] == 0) = fit s d) := by
    show _ = _
    rw [aH_err n ho]; cases fit s d <;> rfl
  have HO : Hid (bOut (aH s d f t) [op] = blL op s d f t) := aH_out n ho
  clear hw hl1 hl2 e2 n ho
  go_enter Tryd.func17, Tryd.ntmps17
  go_wp2_with (first | (refine bld30 (.tmp 15) (.tmp 16) (.tmp 18) (.tmp 20) rfl s d f t rfl rfl rfl rfl rfl ?_) | (refine alc25 rfl rfl ?_) | (refine st25n (.tmp 12) (.tmp 21) rfl w zf rfl rfl (aH s d f t) rfl rfl ?_) | (refine ld25 (.tmp 12) rfl _ rfl rfl (aH s d f t) (by exact hK) ?_) | (refine bld27 (.tmp 23) (.tmp 25) rfl (aH s d f t) _ _ _ rfl rfl rfl ?_))
  go_fit (build_any (w.heap.size + 1 + 1) (aH s d f t) _ [op] _ HT.out (by simp) HS.out)
  rintro e w1 ⟨v1, rfl, hb1, hO1⟩
  rw [HO.out] at hO1
  have HB : Hid (Below w.heap.size w w1) := HL.out.trans (hb1.mono HL.out.size)
  have HQ : Hid (Owns w.heap.size w1 v1 (blL op s d f t)) := hO1.mono HL.out.size
  clear HS HT HL HO hb1 hO1 hK
  go_wp2
  go_ret2
  exact ⟨v1, by rw [← HE.out]; rfl, HB.out, HQ.out⟩

theorem fit_all (mac : Int) : fit mac 281474976710655 = decide (mac < 281474976710656) := by simp [fit]
set_option maxHeartbeats 400000 in
/-- WHAT Ask ANSWERS. -/
theorem ask_any (mac f t : Int) (w : World) (hw : Tab w) (m0 : 0 ≤ mac) (f0 : 0 ≤ f) (f1 : f < 4294967296) (t0 : 0 ≤ t) (t1 : t < 4294967296) :
    Calls Tryd.prog 9 #[.int .u64 mac, .int .u32 f, .int .u32 t] w fun e w' => ∃ v', e = .returned v' ∧ Below w.heap.size w w' ∧ Owns w.heap.size w' v' (asL mac f t) := by
  have HW : Hid (Tab w) := hw
  have HN : Hid (Nums mac 281474976710655 f t) := ⟨m0, by omega, f0, f1, t0, t1⟩
  clear hw
  go_enter Tryd.func9, Tryd.ntmps9
  go_wp2_with fail
  go_fit (bld_any 1 mac 281474976710655 f t w HW.out (Or.inl rfl) HN.out)
  rintro e w1 ⟨v1, rfl, hb1, hO1⟩
  go_wp2
  go_ret
  refine ⟨v1, rfl, hb1, ?_⟩
  simpa [asL, blL, fit_all] using hO1

set_option maxHeartbeats 400000 in
/-- WHAT isSome ANSWERS. -/
theorem isSome_any (B : Nat) (h : Nat → Int) (vb : Value) (bs : List Int) (w : World) (hw : Tab w) (hB : B ≤ w.heap.size) (hs : Sl B w vb bs) :
    Calls Tryd.prog 19 #[pv h vb] w fun e w' => e = .returned (.bool (some4 h bs)) ∧ Below w.heap.size w w' := by
  have K0 := PBlk.new w h vb
  have hl0 : Below w.heap.size w (w.alloc (.cells (prow h vb) 32)) := (Below.refl _ _).alloc (Nat.le_refl _) _
  have c2 := K0.cell 2 (by omega)
  have HT : Hid (Tab (w.alloc (.cells (prow h vb) 32))) := hw.on hl0
  have HS : Hid (Sl B (w.alloc (.cells (prow h vb) 32)) vb bs) := hs.on (hl0.mono hB)
  clear hw hs
  by_cases h2 : h 2 = 2054
  · have hd : (h 2 != 2054) = false := by simp [h2]
    have HE : Hid ((bErr h bs == 0) = some4 h bs) := bErr_some h2
    clear h2
    go_enter Tryd.func19, Tryd.ntmps19
    go_wp2_with (refine ld27 (.tmp 1) rfl _ rfl rfl h vb (by exact K0) ?_)
    go_fit (build_any B h vb bs _ HT.out (Nat.le_trans hB hl0.size) HS.out)
    rintro e w1 ⟨v1, rfl, hb1, hO1⟩
    go_wp2
    go_ret
    exact ⟨by rw [← HE.out]; rfl, hl0.trans (hb1.mono hl0.size)⟩
  · have hd : (h 2 != 2054) = true := by simp [h2]
    have HE : Hid (some4 h bs = false) := some4_not h2
    clear h2
    go_enter Tryd.func19, Tryd.ntmps19
    go_wp2
    go_ret
    exact ⟨by rw [HE.out]; rfl, hl0⟩
end Go.Proofs.YtioohgcaakcgaaaDoor
