/-
  Proved here: Parse of package frame answers the packet that 'pPkt' reads, or ErrFrame and an empty packet, for every bytes that a slice holds; no old memory turns. Condition: the widths' table holds its eleven numbers.
-/
import Derived.Test.YtioohgcaakcgaaaDoorD5
import Derived.Defers
import Derived.Recover
namespace Go.Proofs.YtioohgcaakcgaaaDoor
open Go.RowKit

theorem bld27z {ops : Array Oper} {rest : List Oper} {o : Oper} {a : Act} {w : World} {Q : Exit → Act → World → Prop} (ho : o.op = .build 32 #[]) (hw : Region.wanted o (yielded ops a.tmps) = true)
    (h : wpList Tryd.prog ops Q rest (a.put o.dst (pv zf nilS)) w) : wpList Tryd.prog ops Q (o :: rest) a w := by
  unfold wpList
  rw [if_pos hw]
  refine Or.inl ?_
  unfold Oper.wp execOp
  have := run_build (P := Tryd.prog) w 32 #[] _ built27z
  simp only [ho, List.map_toArray, List.map_nil, Sem.run_bind, Sem.run_pure, Result.andThen_ok, this]
  exact h

set_option maxHeartbeats 400000 in
theorem catch_panicking (g q : Nat) (z : Nat → Int) (u : Value) (x : Int) (t : TypeId) (pw : Value) (older : List PanicEntry) (w : World) (hP : PBlk w g z u) (hQ : w.heap[q]? = some (.cells #[.int .i64 x] 33 (0, 0))) (hne : q ≠ g) :
    CallsD Tryd.prog 21 #[.pointer (some ⟨g, 0, none⟩), .pointer (some ⟨q, 0, none⟩)] (.panicking ({ v := .iface t pw, recovered := false } :: older)) w fun e u' w' =>
      e = .returned (.tuple #[]) ∧ u' = .panicking ({ v := .iface t pw, recovered := true } :: older) ∧ w' = (w.setRow g (prow zf nilS)).setCell ⟨q, 0, none⟩ (.int .i64 30) := by
  have hQ' : (w.setRow g (prow zf nilS)).heap[q]? = some (.cells #[.int .i64 x] 33 (0, 0)) := by rw [setRow_other w g q _ hne]; exact hQ
  have c1 := cell_of_one hQ'
  have f1 := free_of_one hQ'
  refine callsD_of_wpS Tryd.func21 rfl fun c₀ cs hu => ?_
  apply wpS_seq
  apply wpS_region
  simp [wpOpsS, go_sem, recoverD, hu, Tryd.ntmps21, Exit.thenS]
  refine wpS_cond (t := true) (by simp [Act.eval, Array.replicate]) ?_
  simp only [if_true]
  refine wpS_of_wp ?_
  go_wp2_with (first | (refine bld27z rfl rfl ?_) | (refine st27 (.tmp 0) (.tmp 4) rfl _ rfl zf nilS rfl rfl rfl z u hP ?_))
  simp [bodyPostS, results, Tryd.results21]

set_option maxHeartbeats 400000 in
theorem catch_idle (p q : Addr) (w : World) :
    CallsD Tryd.prog 21 #[.pointer (some p), .pointer (some q)] .returning w fun e u' w' => e = .returned (.tuple #[]) ∧ u' = .returning ∧ w' = w := by
  refine callsD_of_wpS Tryd.func21 rfl fun c₀ cs hu => ?_
  apply wpS_seq
  apply wpS_region
  simp [wpOpsS, go_sem, recoverD, hu, Tryd.ntmps21, Exit.thenS]
  refine wpS_cond (t := false) (by simp [Act.eval, Array.replicate]) ?_
  simp only [Bool.false_eq_true, if_false]
  refine wpS_of_wp (wp_skip ?_)
  cases c₀
  simp_all [bodyPostS, results, Tryd.results21]

theorem res8 (tmps : Array Value) (w : World) (g q : Nat) (m : Nat → Int) (v : Value) (x : Int) (hp : tmps.getD 2 undef = .pointer (some ⟨g, 0, none⟩)) (hq : tmps.getD 3 undef = .pointer (some ⟨q, 0, none⟩)) (hg : PBlk w g m v) (hc : w.heap[q]? = some (.cells #[.int .i64 x] 33 (0, 0))) :
    (results Tryd.f16 tmps).run Tryd.prog w = .ok (.tuple #[pv m v, .int .i64 x]) w := by
  have hp' : tmps[2]?.getD undef = .pointer (some ⟨g, 0, none⟩) := by simpa using hp
  have hq' : tmps[3]?.getD undef = .pointer (some ⟨q, 0, none⟩) := by simpa using hq
  have c1 := cell_of_one hc
  have h28 : (loadVar 33 ⟨q, 0, none⟩).run Tryd.prog w = .ok (.int .i64 x) w := by
    simp [loadVar, go_sem, c1]
  simp [results, Tryd.results16, hp', hq', asAddr, run_loadVar_row w g 32 32 _ (0, 0) _ hg Tryd.underlying32 rfl (size27 m v), h28]

/-- What Parse answers: the error, the header, the body. -/
def prE (bs : List Int) : Int := if (pPkt bs).isSome then 0 else 30
def prH (bs : List Int) : Nat → Int := match pPkt bs with | some q => q.1 | none => zf
def prB (bs : List Int) : List Int := match pPkt bs with | some q => q.2 | none => []
theorem prE_some {bs : List Int} {h : Nat → Int} {b : List Int} (e : pPkt bs = some (h, b)) : prE bs = 0 ∧ prH bs = h ∧ prB bs = b := by simp [prE, prH, prB, e]
theorem prE_none {bs : List Int} (e : pPkt bs = none) : prE bs = 30 ∧ prH bs = zf ∧ prB bs = [] := by simp [prE, prH, prB, e]

theorem Gr.below' {c : Nat} {w W w1 : World} (h : Gr c W w1) (hl : Below w.heap.size w W) (hc : w.heap.size ≤ c) : Below w.heap.size W w1 :=
  ⟨h.os, h.tape, h.output, h.size, fun k hk => h.block k (Nat.lt_of_lt_of_le hk hl.size) (by simp; omega)⟩

set_option maxHeartbeats 1600000 in
/-- WHAT Parse ANSWERS. -/
theorem parse_any (B : Nat) (v : Value) (bs : List Int) (w : World) (hs : Sl B w v bs) (hB : B ≤ w.heap.size) (hw : Tab w) :
    Calls Tryd.prog 16 #[v] w fun e w' => ∃ vb, e = .returned (.tuple #[pv (prH bs) vb, .int .i64 (prE bs)]) ∧ Below w.heap.size w w' ∧ Owns w.heap.size w' vb (prB bs) := by
  have hmf : ∀ (fn : Fn) (first cap : Array Value) (w : World), (Instr.makeFunc fn first cap).run Tryd.prog w = .ok (.func fn first cap) w := fun _ _ _ _ => rfl
  obtain ⟨W, hW⟩ : ∃ W, W = ((w.alloc (.cells (prow zf nilS) 32)).alloc (.cells #[.int .i64 0] 33)).alloc (.cells #[v] 51) := ⟨_, rfl⟩
  have hlow : Below w.heap.size w W := by rw [hW]; exact (((Below.refl _ _).alloc (Nat.le_refl _) _).alloc (by simp) _).alloc (by simp; omega) _
  have hb0 : PBlk W w.heap.size zf nilS := by rw [hW]; exact ((PBlk.new w zf nilS).alloc _).alloc _
  have hb1 : W.heap[w.heap.size + 1]? = some (.cells #[.int .i64 0] 33 (0, 0)) := by
    rw [hW, Below.heap_alloc _ _ _ (by simp)]
    have := heap_alloc_new (w.alloc (.cells (prow zf nilS) 32)) (.cells #[.int .i64 0] 33)
    simpa using this
  have hCur : Hid (Cur W (w.heap.size + 1 + 1) bs) := by
    refine ⟨v, ?_, (hs.on (hlow.mono hB)).mono (by omega)⟩
    rw [hW]
    have := heap_alloc_new ((w.alloc (.cells (prow zf nilS) 32)).alloc (.cells #[.int .i64 0] 33)) (.cells #[v] 51)
    simpa using this
  have hTab : Hid (Tab W) := hw.on hlow
  have HW : Hid (W = ((w.alloc (.cells (prow zf nilS) 32)).alloc (.cells #[.int .i64 0] 33)).alloc (.cells #[v] 51)) := hW
  obtain ⟨ao, cap, rfl, _⟩ := hs
  clear hW hw
  go_enter_defers Tryd.func16, Tryd.ntmps16
  go_wp2_with (refine alc27 rfl rfl ?_)
  rw [← HW.out]
  go_fit (packet_any (w.heap.size + 1 + 1) bs W hCur.out hTab.out (by omega))
  rintro e w1 ⟨hG, ⟨T1, rfl⟩ | ⟨h, b, vb, T1, rfl, hO⟩⟩
  · have hP1 : PBlk w1 w.heap.size zf nilS := hG.pblk hb0 (by omega)
    have hQ1 : w1.heap[w.heap.size + 1]? = some (.cells #[.int .i64 0] 33 (0, 0)) := by rw [hG.block _ (Array.getElem?_eq_some_iff.1 hb1).1 (by simp)]; exact hb1
    refine leaves_cons (f := 21) (args := #[.pointer (some ⟨w.heap.size, 0, none⟩), .pointer (some ⟨w.heap.size + 1, 0, none⟩)]) (by simp) (by simp [go_sem]) ?_
    refine (catch_panicking w.heap.size (w.heap.size + 1) zf nilS 0 33 _ [] _ hP1 hQ1 (by omega)).mono ?_
    rintro e u' w'' ⟨rfl, rfl, rfl⟩
    have hP2 : PBlk ((w1.setRow w.heap.size (prow zf nilS)).setCell ⟨w.heap.size + 1, 0, none⟩ (.int .i64 30)) w.heap.size zf nilS := by
      unfold PBlk
      rw [Below.heap_setCell _ _ _ _ (by simp)]; exact hP1.setRow zf nilS
    have hQ2 : ((w1.setRow w.heap.size (prow zf nilS)).setCell ⟨w.heap.size + 1, 0, none⟩ (.int .i64 30)).heap[w.heap.size + 1]? = some (.cells #[.int .i64 30] 33 (0, 0)) :=
      one_setCell (v := .int .i64 0) (by rw [setRow_other w1 w.heap.size _ _ (by omega)]; exact hQ1)
    obtain ⟨e1, e2, e3⟩ := prE_none T1
    refine ⟨_, res8 _ _ w.heap.size (w.heap.size + 1) zf nilS 30 rfl rfl hP2 hQ2, nilS, by rw [e1, e2], ?_, by rw [e3]; exact Owns.isNil⟩
    exact (below_setRow (hlow.trans (hG.below' hlow (by omega))) (Nat.le_refl _) _).setCell (by simp) _
  · have hP1 : PBlk w1 w.heap.size zf nilS := hG.pblk hb0 (by omega)
    have hQ1 : w1.heap[w.heap.size + 1]? = some (.cells #[.int .i64 0] 33 (0, 0)) := by rw [hG.block _ (Array.getElem?_eq_some_iff.1 hb1).1 (by simp)]; exact hb1
    obtain ⟨ao9, n9, c9, rfl⟩ := hO.slice
    have hQ2 : (w1.setRow w.heap.size (prow h (.slice ao9 n9 c9))).heap[w.heap.size + 1]? = some (.cells #[.int .i64 0] 33 (0, 0)) := by rw [setRow_other w1 w.heap.size _ _ (by omega)]; exact hQ1
    have c1 := cell_of_one hQ2
    have f1 := free_of_one hQ2
    go_wp2_with (refine st27 (.tmp 2) (.tmp 8) rfl _ rfl h _ rfl rfl rfl zf nilS hP1 ?_)
    refine leaves_cons (f := 21) (args := #[.pointer (some ⟨w.heap.size, 0, none⟩), .pointer (some ⟨w.heap.size + 1, 0, none⟩)]) (by simp) (by simp [go_sem]) ?_
    refine (catch_idle _ _ _).mono ?_
    rintro e u' w'' ⟨rfl, rfl, rfl⟩
    have hP3 : PBlk ((w1.setRow w.heap.size (prow h (.slice ao9 n9 c9))).setCell ⟨w.heap.size + 1, 0, none⟩ (.int .i64 0)) w.heap.size h (.slice ao9 n9 c9) := by
      unfold PBlk
      rw [Below.heap_setCell _ _ _ _ (by simp)]; exact hP1.setRow h _
    have hQ3 : ((w1.setRow w.heap.size (prow h (.slice ao9 n9 c9))).setCell ⟨w.heap.size + 1, 0, none⟩ (.int .i64 0)).heap[w.heap.size + 1]? = some (.cells #[.int .i64 0] 33 (0, 0)) := one_setCell hQ2
    obtain ⟨e1, e2, e3⟩ := prE_some T1
    refine ⟨_, res8 _ _ w.heap.size (w.heap.size + 1) h (.slice ao9 n9 c9) 0 rfl rfl hP3 hQ3, _, by rw [e1, e2], (below_setRow (hlow.trans (hG.below' hlow (by omega))) (Nat.le_refl _) _).setCell (by simp) _, ?_⟩
    rw [e3]
    refine ownsRow_setCell_other ((hO.mono hlow.size).setRow _ hP1 (by decide)) ?_ _
    intro e
    have h1 := (hO.lt _ e).1
    have h2 := (Array.getElem?_eq_some_iff.1 hb1).1
    simp only at h1
    omega
end Go.Proofs.YtioohgcaakcgaaaDoor
