/-
  Proved here: closed of the document's answers: a number that ends. Conditions: the places are within the text.
-/
import Derived.Test.YtdpmllfapjjihaaGreatDoorDB
import Derived.Test.YtdpmllfapjjihaaGreatDoorL2
namespace Go.Proofs.YtdpmllfapjjihaaGreatDoor
open Go.RowKit
set_option maxRecDepth 100000

/-- A word and a fault, as the document's answer. -/
abbrev dV (x : Wd) (c a : Nat) (t : ByteArray) : Value := .tuple #[.agg (wdc x), .agg (dfc c a t)]
abbrev wZ : Wd := ⟨0, ⟨#[]⟩, 0, 0⟩
def rv (s : ByteArray) (a : Nat) (f : Fd) : Value := if f.c = 0 then dV (wdOf s a f) 0 0 ⟨#[]⟩ else dV wZ f.c a (s.extract a f.e)
theorem szF (c a : Nat) (t : ByteArray) : (Tryz.prog.info? 37).map (·.size) = some (dfc c a t).size := by kernel_rfl
theorem df1 (c a : Nat) (t : ByteArray) : (dfc c a t).all (·.oneCell') = true := by simp [dfc, Value.oneCell']
/-- The two result cells of a function that began in w. -/
structure Rc (w : World) (x : Wd) (c a : Nat) (t : ByteArray) (W : World) : Prop where
  low : Below w.heap.size w W
  b1 : W.heap[w.heap.size]? = some (.cells (wdc x) 56 (0, 0))
  b2 : W.heap[w.heap.size + 1]? = some (.cells (dfc c a t) 37 (0, 0))
theorem Rc.new (w : World) : Rc w wZ 0 0 ⟨#[]⟩ ((w.alloc (.cells (wdc wZ) 56)).alloc (.cells (dfc 0 0 ⟨#[]⟩) 37)) :=
  ⟨((Below.refl _ _).alloc (Nat.le_refl _) _).alloc (by simp) _, heap_alloc2_old _ _ _, heap_alloc2_new _ _ _⟩
section
variable {w : World} {x : Wd} {c a : Nat} {t : ByteArray} {W W' : World}
theorem Rc.on (h : Rc w x c a t W) (hb : Below W.heap.size W W') : Rc w x c a t W' :=
  ⟨h.low.trans (hb.mono h.low.size), (hb.block _ (Array.getElem?_eq_some_iff.1 h.b1).1).trans h.b1, (hb.block _ (Array.getElem?_eq_some_iff.1 h.b2).1).trans h.b2⟩
theorem Rc.set1 (h : Rc w x c a t W) (y : Wd) : Rc w y c a t (W.setRow w.heap.size (wdc y)) :=
  ⟨below_setRow h.low (Nat.le_refl _) _, setRow_heap _ _ _ _ _ _ h.b1, by rw [setRow_other _ _ _ _ (by omega)]; exact h.b2⟩
theorem Rc.set2 (h : Rc w x c a t W) (c' a' : Nat) (t' : ByteArray) : Rc w x c' a' t' (W.setRow (w.heap.size + 1) (dfc c' a' t')) :=
  ⟨below_setRow h.low (by omega) _, by rw [setRow_other _ _ _ _ (by omega)]; exact h.b1, setRow_heap _ _ _ _ _ _ h.b2⟩
end
theorem results_cc {fn : Func} {p q : Tmp} (h : fn.results = #[.cell p 56, .cell q 37]) (tmps : Array Value) {w W : World} {x : Wd} {c a : Nat} {t : ByteArray} (hR : Rc w x c a t W)
    (hp : tmps.getD p undef = .pointer (some ⟨w.heap.size, 0, none⟩)) (hq : tmps.getD q undef = .pointer (some ⟨w.heap.size + 1, 0, none⟩)) :
    (results fn tmps).run Tryz.prog W = .ok (dV x c a t) W := by
  have h1 := run_loadVar_row (P := Tryz.prog) W w.heap.size 56 56 (wdc x) (0, 0) _ hR.b1 Tryz.underlying56 rfl (szW x)
  have h2 := run_loadVar_row (P := Tryz.prog) W (w.heap.size + 1) 37 37 (dfc c a t) (0, 0) _ hR.b2 Tryz.underlying37 rfl (szF c a t)
  have hp' : tmps[p]?.getD undef = .pointer (some ⟨w.heap.size, 0, none⟩) := by simpa using hp
  have hq' : tmps[q]?.getD undef = .pointer (some ⟨w.heap.size + 1, 0, none⟩) := by simpa using hq
  simp only [results, h]
  simp [Sem.run_bind, Result.andThen, hp', hq', asAddr, h1, h2]
set_option maxHeartbeats 1600000 in
theorem closed_any (s : ByteArray) (a k n : Nat) (hak : a ≤ k) (hk : k ≤ s.size) (_hs : s.size ≤ 65536) (w : World) :
    Calls Tryz.prog 80 #[.string s, .int .i64 a, .int .i64 k, .int .u64 n, .string (s.extract a k)] w fun r w' => r = .returned (rv s a (cls s k n)) ∧ Below w.heap.size w w' := by
  have HZ := hid (Rc.new w)
  obtain ⟨d, hd⟩ : ∃ d, d = s.extract a k := ⟨_, rfl⟩
  rw [← hd]
  have HD := hid hd
  clear hd
  obtain ⟨W0, hW0⟩ : ∃ W0, W0 = (w.alloc (.cells (wdc wZ) 56)).alloc (.cells (dfc 0 0 ⟨#[]⟩) 37) := ⟨_, rfl⟩
  have HE : Hid ((w.alloc (.cells #[.int .i8 0, .string ⟨#[]⟩, .int .u64 0, .int .i64 0] 56)).alloc (.cells #[.int .i64 0, .int .i64 0, .string ⟨#[]⟩] 37) = W0) := hW0.symm
  rw [← hW0] at HZ
  clear hW0
  go_enter Tryz.func80, Tryz.ntmps80
  go_upto_region 1 with fail
  rw [HE.out]
  clear HE
  by_cases hin : k < s.size
  · have g1 : decide ((k : Int) < (s.size : Int)) = true := by simp; omega
    have hix := run_bt s k hin W0
    have HL := hid (letter_any (bt s k) W0)
    have HG := hid (digit_any (bt s k) W0)
    have hNN : isN (bt s k) = (isL (bt s k) || isD (bt s k)) := rfl
    cases hb : isL (bt s k) with
    | true =>
      have hN : isN (bt s k) = true := by rw [hNN, hb]; rfl
      rw [hb] at HL
      clear hNN hb HG
      have HV : Hid (rv s a (cls s k n) = dV wZ 150 a d) := by
        show _ = _
        unfold cls; rw [if_pos hN]; unfold rv; rw [if_neg (by simp)]; rw [HD.out]
      clear hN
      go_wp2_with (first
        | (go_at_call 56; refine (HL.out).mono ?_; rintro e w5 ⟨rfl, rfl⟩)
        | (go_at_call 54; refine (HG.out).mono ?_; rintro e w5 ⟨rfl, rfl⟩)
        | (show wpList _ _ _ ({ dst := some 28, op := _, type := _, pos := _, after := _, guard := _ } :: _) _ _; refine stepVal (.agg (wdc wZ)) rfl (by kernel_rfl) ?_)
        | (show wpList _ _ _ ({ dst := some 31, op := _, type := _, pos := _, after := _, guard := _ } :: _) _ _; refine stepVal (.agg (dfc 150 a d)) rfl (by kernel_rfl) ?_)
        | (refine stRow 56 (.tmp 10) (.tmp 28) rfl rfl w.heap.size (wdc wZ) rfl rfl 56 _ HZ.out.b1 (szW _) rfl (wd1a _) ?_)
        | (refine stRow 37 (.tmp 11) (.tmp 31) rfl rfl (w.heap.size + 1) (dfc 150 a d) rfl rfl 37 _ (HZ.out.set1 wZ).b2 (szF _ _ _) rfl (df1 _ _ _) ?_))
      try simp only [Exit.inBlock, Exit.then]
      exact bodyPost_ret (v := dV wZ 150 a d) (results_cc Tryz.results80 _ ((HZ.out.set1 wZ).set2 150 a d) rfl rfl) rfl ⟨by rw [HV.out], ((HZ.out.set1 wZ).set2 150 a d).low⟩
    | false =>
      rw [hb] at HL
      cases hg : isD (bt s k) with
      | true =>
        have hN : isN (bt s k) = true := by rw [hNN, hg, Bool.or_true]
        rw [hg] at HG
        clear hNN hb hg
        have HV : Hid (rv s a (cls s k n) = dV wZ 150 a d) := by
          show _ = _
          unfold cls; rw [if_pos hN]; unfold rv; rw [if_neg (by simp)]; rw [HD.out]
        clear hN
        go_wp2_with (first
          | (go_at_call 56; refine (HL.out).mono ?_; rintro e w5 ⟨rfl, rfl⟩)
          | (go_at_call 54; refine (HG.out).mono ?_; rintro e w5 ⟨rfl, rfl⟩)
          | (show wpList _ _ _ ({ dst := some 28, op := _, type := _, pos := _, after := _, guard := _ } :: _) _ _; refine stepVal (.agg (wdc wZ)) rfl (by kernel_rfl) ?_)
          | (show wpList _ _ _ ({ dst := some 31, op := _, type := _, pos := _, after := _, guard := _ } :: _) _ _; refine stepVal (.agg (dfc 150 a d)) rfl (by kernel_rfl) ?_)
          | (refine stRow 56 (.tmp 10) (.tmp 28) rfl rfl w.heap.size (wdc wZ) rfl rfl 56 _ HZ.out.b1 (szW _) rfl (wd1a _) ?_)
          | (refine stRow 37 (.tmp 11) (.tmp 31) rfl rfl (w.heap.size + 1) (dfc 150 a d) rfl rfl 37 _ (HZ.out.set1 wZ).b2 (szF _ _ _) rfl (df1 _ _ _) ?_))
        try simp only [Exit.inBlock, Exit.then]
        exact bodyPost_ret (v := dV wZ 150 a d) (results_cc Tryz.results80 _ ((HZ.out.set1 wZ).set2 150 a d) rfl rfl) rfl ⟨by rw [HV.out], ((HZ.out.set1 wZ).set2 150 a d).low⟩
      | false =>
        have hN : isN (bt s k) = false := by rw [hNN, hg, hb]; rfl
        rw [hg] at HG
        clear hNN hb hg
        have HV : Hid (rv s a (cls s k n) = dV ⟨2, d, n, a⟩ 0 0 ⟨#[]⟩) := by
          show _ = _
          unfold cls; rw [if_neg (by rw [hN]; decide)]; unfold rv; rw [if_pos rfl]; rw [HD.out]; rfl
        clear hN
        go_wp2_with (first
          | (go_at_call 56; refine (HL.out).mono ?_; rintro e w5 ⟨rfl, rfl⟩)
          | (go_at_call 54; refine (HG.out).mono ?_; rintro e w5 ⟨rfl, rfl⟩)
          | (show wpList _ _ _ ({ dst := some 38, op := _, type := _, pos := _, after := _, guard := _ } :: _) _ _; rw [← HD.out]; refine stepVal (.agg (wdc ⟨2, d, n, a⟩)) rfl (by kernel_rfl) ?_)
          | (show wpList _ _ _ ({ dst := some 39, op := _, type := _, pos := _, after := _, guard := _ } :: _) _ _; refine stepVal (.agg (dfc 0 0 ⟨#[]⟩)) rfl (by kernel_rfl) ?_)
          | (refine stRow 56 (.tmp 10) (.tmp 38) rfl rfl w.heap.size (wdc ⟨2, d, n, a⟩) rfl rfl 56 _ HZ.out.b1 (szW _) rfl (wd1a _) ?_)
          | (refine stRow 37 (.tmp 11) (.tmp 39) rfl rfl (w.heap.size + 1) (dfc 0 0 ⟨#[]⟩) rfl rfl 37 _ (HZ.out.set1 ⟨2, d, n, a⟩).b2 (szF _ _ _) rfl (df1 _ _ _) ?_))
        try simp only [Exit.inBlock, Exit.then]
        exact bodyPost_ret (v := dV ⟨2, d, n, a⟩ 0 0 ⟨#[]⟩) (results_cc Tryz.results80 _ ((HZ.out.set1 ⟨2, d, n, a⟩).set2 0 0 ⟨#[]⟩) rfl rfl) rfl ⟨by rw [HV.out], ((HZ.out.set1 ⟨2, d, n, a⟩).set2 0 0 ⟨#[]⟩).low⟩
  · have g1 : decide ((k : Int) < (s.size : Int)) = false := by simp; omega
    have hN : isN (bt s k) = false := by rw [bt_out hin]; decide
    have HV : Hid (rv s a (cls s k n) = dV ⟨2, d, n, a⟩ 0 0 ⟨#[]⟩) := by
      show _ = _
      unfold cls; rw [if_neg (by rw [hN]; decide)]; unfold rv; rw [if_pos rfl]; rw [HD.out]; rfl
    clear hN
    go_wp2_with (first
      | (go_at_call 56; refine (HL.out).mono ?_; rintro e w5 ⟨rfl, rfl⟩)
      | (go_at_call 54; refine (HG.out).mono ?_; rintro e w5 ⟨rfl, rfl⟩)
      | (show wpList _ _ _ ({ dst := some 38, op := _, type := _, pos := _, after := _, guard := _ } :: _) _ _; rw [← HD.out]; refine stepVal (.agg (wdc ⟨2, d, n, a⟩)) rfl (by kernel_rfl) ?_)
      | (show wpList _ _ _ ({ dst := some 39, op := _, type := _, pos := _, after := _, guard := _ } :: _) _ _; refine stepVal (.agg (dfc 0 0 ⟨#[]⟩)) rfl (by kernel_rfl) ?_)
      | (refine stRow 56 (.tmp 10) (.tmp 38) rfl rfl w.heap.size (wdc ⟨2, d, n, a⟩) rfl rfl 56 _ HZ.out.b1 (szW _) rfl (wd1a _) ?_)
      | (refine stRow 37 (.tmp 11) (.tmp 39) rfl rfl (w.heap.size + 1) (dfc 0 0 ⟨#[]⟩) rfl rfl 37 _ (HZ.out.set1 ⟨2, d, n, a⟩).b2 (szF _ _ _) rfl (df1 _ _ _) ?_))
    try simp only [Exit.inBlock, Exit.then]
    exact bodyPost_ret (v := dV ⟨2, d, n, a⟩ 0 0 ⟨#[]⟩) (results_cc Tryz.results80 _ ((HZ.out.set1 ⟨2, d, n, a⟩).set2 0 0 ⟨#[]⟩) rfl rfl) rfl ⟨by rw [HV.out], ((HZ.out.set1 ⟨2, d, n, a⟩).set2 0 0 ⟨#[]⟩).low⟩
end Go.Proofs.YtdpmllfapjjihaaGreatDoor
