/-
  Proved here: the cursor's methods ethernet, arp, ip, ports and body read what 'pEth', 'pArp', 'pIp', 'pPorts' say off the front, or panic with ErrFrame; of the old memory the cursor's own cell alone turns. Condition of ethernet: the widths' table holds its eleven numbers.
-/
import Derived.Test.YtioohgcaakcgaaaDoorD1
import Derived.Test.YtioohgcaakcgaaaDoorH1
import Derived.Test.YtioohgcaakcgaaaDoorE1
namespace Go.Proofs.YtioohgcaakcgaaaDoor
open Go.RowKit

/-- The state of a method of the cursor: over w, of whose blocks c's alone has turned; the bytes r are ahead; block g holds the header H, block rb the result's cells. -/
def Est (w W : World) (c : Nat) (r : List Int) (g rb : Nat) (H : Nat → Int) (ob : Obj) : Prop :=
  Gr c w W ∧ Cur W c r ∧ Blk W g 11 30 H ∧ W.heap[rb]? = some ob ∧ c < w.heap.size ∧ w.heap.size ≤ g ∧ w.heap.size ≤ rb ∧ g ≠ rb
section
variable {w W W' : World} {c g rb : Nat} {r r' : List Int} {H : Nat → Int} {ob : Obj}
theorem Est.blk (h : Est w W c r g rb H ob) : Blk W g 11 30 H := h.2.2.1
theorem Est.num (h : Est w W c r g rb H ob) (hg : Gr c W W') (hc : Cur W' c r') : Est w W' c r' g rb H ob := by
  obtain ⟨h1, h2, h3, h4, h5, h6, h7, h8⟩ := h
  refine ⟨h1.trans hg, hc, hg.blk h3 (by omega), ?_, h5, h6, h7, h8⟩
  rw [hg.block rb (Array.getElem?_eq_some_iff.1 h4).1 (by simp; omega)]; exact h4
theorem Est.on (h : Est w W c r g rb H ob) (hb : Below W.heap.size W W') : Est w W' c r g rb H ob := h.num (Gr.of_below hb) (h.2.1.on hb)
theorem Gr.setCell {c b j : Nat} {w W : World} (h : Gr c w W) (u : Value) (hb : w.heap.size ≤ b) : Gr c w (W.setCell ⟨b, j, none⟩ u) :=
  ⟨h.os, h.tape, h.output, by simpa [World.setCell] using h.size, fun k hk hne => by rw [Below.heap_setCell _ _ _ _ (by simp; omega)]; exact h.block k hk hne⟩
theorem Gr.setRow {c b : Nat} {w W : World} (h : Gr c w W) (cs : Array Value) (hb : w.heap.size ≤ b) : Gr c w (W.setRow b cs) :=
  ⟨h.os, h.tape, h.output, by simpa using h.size, fun k hk hne => by rw [setRow_other W b k cs (by omega)]; exact h.block k hk hne⟩
theorem Est.set (h : Est w W c r g rb H ob) (j : Nat) (n : Int) : Est w (W.setCell ⟨g, j, none⟩ (.int .u64 n)) c r g rb (upd H j n) ob := by
  obtain ⟨h1, h2, h3, h4, h5, h6, h7, h8⟩ := h
  exact ⟨h1.setCell _ h6, h2.setCell _ (by omega), h3.set j n, by rw [Below.heap_setCell _ _ _ _ (by simp; omega)]; exact h4, h5, h6, h7, h8⟩
theorem est_number (h : Est w W c r g rb H ob) (k : Nat) (K : Int) (hK : K = k) (h0 : 0 < k) (h8 : k ≤ 8) :
    Calls Tryd.prog 37 #[.pointer (some ⟨c, 0, none⟩), .int .i64 K] W fun e W' => (tk k r = none ∧ e = .panicked PC ∧ Gr c w W') ∨ ∃ n r', tk k r = some (n, r') ∧ e = .returned (.int .u64 n) ∧ Est w W' c r' g rb H ob := by
  subst hK
  refine (number_any c k r W h.2.1 h0 h8).mono ?_
  rintro e W' ⟨hg, ⟨h1, rfl⟩ | ⟨n, r', h1, rfl, h2⟩⟩
  · exact Or.inl ⟨h1, rfl, h.1.trans hg⟩
  · exact Or.inr ⟨n, r', h1, rfl, h.num hg h2⟩
theorem est_expect (h : Est w W c r g rb H ob) (k : Nat) (K n : Int) (hK : K = k) (h0 : 0 < k) (h8 : k ≤ 8) :
    Calls Tryd.prog 38 #[.pointer (some ⟨c, 0, none⟩), .int .i64 K, .int .u64 n] W fun e W' => (ex k n r = none ∧ e = .panicked PC ∧ Gr c w W') ∨ ∃ r', ex k n r = some r' ∧ e = .returned (.tuple #[]) ∧ Est w W' c r' g rb H ob := by
  subst hK
  refine (expect_any c k n r W h.2.1 h0 h8).mono ?_
  rintro e W' ⟨hg, ⟨h1, rfl⟩ | ⟨r', h1, rfl, h2⟩⟩
  · exact Or.inl ⟨h1, rfl, h.1.trans hg⟩
  · exact Or.inr ⟨r', h1, rfl, h.num hg h2⟩
theorem Est.bytes (h : Est w W c r g rb H ob) : ∃ ao cap, W.cell? ⟨c, 0, none⟩ = some (.slice ao r.length cap) := by
  obtain ⟨v, h1, ao, cap, rfl, _⟩ := h.2.1
  exact ⟨ao, cap, cell_of_one h1⟩
theorem Est.len (h : Est w W c r g rb H ob) : r.length ≤ 140737488355328 := by
  obtain ⟨v, h1, h2⟩ := h.2.1
  exact h2.len
end

def chkd (h : Nat → Int) (r : List Int) : Option ((Nat → Int) × List Int) := if hOk h then some (h, r) else none
def ethH (d s k : Int) : Nat → Int := upd (upd (upd zf 1 d) 0 s) 2 k
/-- What ethernet reads. -/
def pEth (bs : List Int) : Option ((Nat → Int) × List Int) :=
  (tk 6 bs).bind fun p1 => (tk 6 p1.2).bind fun p2 => (tk 2 p2.2).bind fun p3 =>
    if p3.1 = 33024 then (tk 2 p3.2).bind fun p4 => if p4.1 = 0 then none else (tk 2 p4.2).bind fun p5 => chkd (upd (upd (ethH p1.1 p2.1 p3.1) 3 p4.1) 2 p5.1) p5.2
    else chkd (ethH p1.1 p2.1 p3.1) p3.2
/-- The outcome of a method that hands back a header. -/
def Out (w : World) (c : Nat) (o : Option ((Nat → Int) × List Int)) (e : Ending) (w' : World) : Prop :=
  Gr c w w' ∧ ((o = none ∧ e = .panicked PC) ∨ ∃ h r, o = some (h, r) ∧ e = .returned (hv h) ∧ Cur w' c r)
abbrev zb : Obj := .cells (row 11 zf) 30 (0, 0)
theorem res28 (tmps : Array Value) (w : World) (g : Nat) (m : Nat → Int) (hp : tmps.getD 2 undef = .pointer (some ⟨g, 0, none⟩)) (hg : Blk w g 11 30 m) :
    (results Tryd.f26 tmps).run Tryd.prog w = .ok (hv m) w :=
  results_cell_row Tryd.results26 tmps w g 30 _ (0, 0) _ hp hg Tryd.underlying30 rfl (size25 m)
theorem eth_start {w : World} {c : Nat} {bs : List Int} (hc : Cur w c bs) : Est w ((w.alloc (.cells (row 11 zf) 30)).alloc (.cells (row 11 zf) 30)) c bs (w.heap.size + 1) w.heap.size zf zb := by
  refine ⟨((Gr.refl c w).alloc _).alloc _, (hc.alloc _).alloc _, Blk.new1 w _ 11 30 zf, ?_, hc.lt, by omega, by omega, by omega⟩
  exact (Blk.new w 11 30 zf).alloc _

set_option maxHeartbeats 1600000 in
/-- WHAT ethernet READS. -/
theorem ethernet_any (c : Nat) (bs : List Int) (w : World) (hc : Cur w c bs) (hw : Tab w) (hc0 : 0 < c) :
    Calls Tryd.prog 26 #[.pointer (some ⟨c, 0, none⟩)] w fun e w' => Out w c (pEth bs) e w' := by
  have S0 : Hid (Est w ((w.alloc (.cells (row 11 zf) 30)).alloc (.cells (row 11 zf) 30)) c bs (w.heap.size + 1) w.heap.size zf zb) := eth_start hc
  have HW : Hid (Tab w) := hw
  clear hc hw
  go_enter Tryd.func26, Tryd.ntmps26
  go_wp2_with (refine alc25 rfl rfl ?_)
  go_fit (est_number S0.out 6 _ rfl (by decide) (by decide))
  rintro e w1 (⟨T1, rfl, hG⟩ | ⟨n1, r1, T1, rfl, X1⟩)
  · exact ⟨rfl, hG, Or.inl ⟨by simp [pEth, T1], rfl⟩⟩
  have S1 : Hid (Est w w1 c r1 (w.heap.size + 1) w.heap.size zf zb) := X1
  clear S0 X1
  have S1s : Hid (Est w (w1.setCell ⟨w.heap.size + 1, 1, none⟩ (.int .u64 n1)) c r1 (w.heap.size + 1) w.heap.size (upd zf 1 n1) zb) := S1.out.set 1 n1
  go_wp2_with ((refine st23 (.tmp 6) (.tmp 5) rfl _ _ rfl _ rfl rfl 11 30 _ S1.out.blk (by omega) ?_))
  go_fit (est_number S1s.out 6 _ rfl (by decide) (by decide))
  rintro e w2 (⟨T2, rfl, hG⟩ | ⟨n2, r2, T2, rfl, X2⟩)
  · exact ⟨rfl, hG, Or.inl ⟨by simp [pEth, T1, T2], rfl⟩⟩
  have S2 : Hid (Est w w2 c r2 (w.heap.size + 1) w.heap.size (upd zf 1 n1) zb) := X2
  clear S1 S1s X2
  have S2s : Hid (Est w (w2.setCell ⟨w.heap.size + 1, 0, none⟩ (.int .u64 n2)) c r2 (w.heap.size + 1) w.heap.size (upd (upd zf 1 n1) 0 n2) zb) := S2.out.set 0 n2
  go_wp2_with ((refine st23 (.tmp 9) (.tmp 8) rfl _ _ rfl _ rfl rfl 11 30 _ S2.out.blk (by omega) ?_))
  go_fit (est_number S2s.out 2 _ rfl (by decide) (by decide))
  rintro e w3 (⟨T3, rfl, hG⟩ | ⟨n3, r3, T3, rfl, X3⟩)
  · exact ⟨rfl, hG, Or.inl ⟨by simp [pEth, T1, T2, T3], rfl⟩⟩
  have S3 : Hid (Est w w3 c r3 (w.heap.size + 1) w.heap.size (upd (upd zf 1 n1) 0 n2) zb) := X3
  clear S2 S2s X3
  have S3s : Hid (Est w (w3.setCell ⟨w.heap.size + 1, 2, none⟩ (.int .u64 n3)) c r3 (w.heap.size + 1) w.heap.size (ethH n1 n2 n3) zb) := S3.out.set 2 n3
  have c2 : (w3.setCell ⟨w.heap.size + 1, 2, none⟩ (.int .u64 n3)).cell? ⟨w.heap.size + 1, 2, none⟩ = some (.int .u64 n3) := S3s.out.blk.cell 2 (by omega)
  by_cases hk : n3 = 33024
  · have hd : (n3 == 33024) = true := by simp [hk]
    have HK : Hid (n3 = 33024) := hk
    clear hk
    go_wp2_with ((refine st23 (.tmp 12) (.tmp 11) rfl _ _ rfl _ rfl rfl 11 30 _ S3.out.blk (by omega) ?_))
    go_fit (est_number S3s.out 2 _ rfl (by decide) (by decide))
    rintro e w4 (⟨T4, rfl, hG⟩ | ⟨n4, r4, T4, rfl, X4⟩)
    · exact ⟨rfl, hG, Or.inl ⟨by simp [pEth, T1, T2, T3, if_pos HK.out, T4], rfl⟩⟩
    have S4 : Hid (Est w w4 c r4 (w.heap.size + 1) w.heap.size (ethH n1 n2 n3) zb) := X4
    clear S3 S3s X4 c2
    have S4s : Hid (Est w (w4.setCell ⟨w.heap.size + 1, 3, none⟩ (.int .u64 n4)) c r4 (w.heap.size + 1) w.heap.size (upd (ethH n1 n2 n3) 3 n4) zb) := S4.out.set 3 n4
    have c3 : (w4.setCell ⟨w.heap.size + 1, 3, none⟩ (.int .u64 n4)).cell? ⟨w.heap.size + 1, 3, none⟩ = some (.int .u64 n4) := S4s.out.blk.cell 3 (by omega)
    by_cases hv0 : n4 = 0
    · have hd2 : (n4 != 0) = false := by simp [hv0]
      have HV : Hid (n4 = 0) := hv0
      clear hv0
      have HP : Hid (pEth bs = none) := by show pEth bs = none; simp [pEth, T1, T2, T3, T4, if_pos HK.out, HV.out]
      go_wp2_with (first | (refine st23 (.tmp 18) (.tmp 17) rfl _ _ rfl _ rfl rfl 11 30 _ S4.out.blk (by omega) ?_) | (go_at_call 27; refine (must_false _).mono ?_; rintro e w' ⟨rfl, rfl⟩))
      exact ⟨rfl, S4s.out.1, Or.inl ⟨HP.out, rfl⟩⟩
    · have hd2 : (n4 != 0) = true := by simp [hv0]
      have HV : Hid (¬ n4 = 0) := hv0
      clear hv0
      go_wp2_with (first | (refine st23 (.tmp 18) (.tmp 17) rfl _ _ rfl _ rfl rfl 11 30 _ S4.out.blk (by omega) ?_) | (go_at_call 27; refine (must_true _).mono ?_; rintro e w5 ⟨rfl, rfl⟩))
      go_wp2_with fail
      go_fit (est_number S4s.out 2 _ rfl (by decide) (by decide))
      rintro e w5 (⟨T5, rfl, hG⟩ | ⟨n5, r5, T5, rfl, X5⟩)
      · exact ⟨rfl, hG, Or.inl ⟨by simp [pEth, T1, T2, T3, T4, if_pos HK.out, HV.out, T5], rfl⟩⟩
      have S5 : Hid (Est w w5 c r5 (w.heap.size + 1) w.heap.size (upd (ethH n1 n2 n3) 3 n4) zb) := X5
      clear S4 S4s X5 c3
      have S5s : Hid (Est w (w5.setCell ⟨w.heap.size + 1, 2, none⟩ (.int .u64 n5)) c r5 (w.heap.size + 1) w.heap.size (upd (upd (ethH n1 n2 n3) 3 n4) 2 n5) zb) := S5.out.set 2 n5
      have HT : Hid (Tab (w5.setCell ⟨w.heap.size + 1, 2, none⟩ (.int .u64 n5))) := S5s.out.1.tab HW.out hc0
      cases hok : hOk (upd (upd (ethH n1 n2 n3) 3 n4) 2 n5)
      · have HC : Hid (Calls Tryd.prog 32 #[hv (upd (upd (ethH n1 n2 n3) 3 n4) 2 n5)] (w5.setCell ⟨w.heap.size + 1, 2, none⟩ (.int .u64 n5)) fun e w' => e = .returned (.int .i64 10) ∧ Below (w5.setCell ⟨w.heap.size + 1, 2, none⟩ (.int .u64 n5)).heap.size (w5.setCell ⟨w.heap.size + 1, 2, none⟩ (.int .u64 n5)) w') := by
          have := check_any (upd (upd (ethH n1 n2 n3) 3 n4) 2 n5) (w5.setCell ⟨w.heap.size + 1, 2, none⟩ (.int .u64 n5)) HT.out
          rwa [show chk (upd (upd (ethH n1 n2 n3) 3 n4) 2 n5) = 10 by simp [chk, hok]] at this
        have HP : Hid (pEth bs = none) := by show pEth bs = none; simp [pEth, chkd, T1, T2, T3, T4, T5, if_pos HK.out, HV.out, hok]
        go_wp2_with (first | (refine st23 (.tmp 25) (.tmp 24) rfl _ _ rfl _ rfl rfl 11 30 _ S5.out.blk (by omega) ?_) | (refine ld25 (.tmp 3) rfl _ rfl rfl (upd (upd (ethH n1 n2 n3) 3 n4) 2 n5) S5s.out.blk ?_) | (go_at_call 32; refine (HC.out).mono ?_; rintro e w9 ⟨rfl, hb9⟩) | (go_at_call 27; refine (must_false _).mono ?_; rintro e w' ⟨rfl, rfl⟩))
        exact ⟨rfl, S5s.out.1.trans (Gr.of_below hb9), Or.inl ⟨HP.out, rfl⟩⟩
      · have HC : Hid (Calls Tryd.prog 32 #[hv (upd (upd (ethH n1 n2 n3) 3 n4) 2 n5)] (w5.setCell ⟨w.heap.size + 1, 2, none⟩ (.int .u64 n5)) fun e w' => e = .returned (.int .i64 0) ∧ Below (w5.setCell ⟨w.heap.size + 1, 2, none⟩ (.int .u64 n5)).heap.size (w5.setCell ⟨w.heap.size + 1, 2, none⟩ (.int .u64 n5)) w') := by
          have := check_any (upd (upd (ethH n1 n2 n3) 3 n4) 2 n5) (w5.setCell ⟨w.heap.size + 1, 2, none⟩ (.int .u64 n5)) HT.out
          rwa [show chk (upd (upd (ethH n1 n2 n3) 3 n4) 2 n5) = 0 by simp [chk, hok]] at this
        have HP : Hid (pEth bs = some ((upd (upd (ethH n1 n2 n3) 3 n4) 2 n5), r5)) := by show pEth bs = _; simp [pEth, chkd, T1, T2, T3, T4, T5, if_pos HK.out, HV.out, hok]
        go_wp2_with (first | (refine st23 (.tmp 25) (.tmp 24) rfl _ _ rfl _ rfl rfl 11 30 _ S5.out.blk (by omega) ?_) | (refine ld25 (.tmp 3) rfl _ rfl rfl (upd (upd (ethH n1 n2 n3) 3 n4) 2 n5) S5s.out.blk ?_) | (go_at_call 32; refine (HC.out).mono ?_; rintro e w9 ⟨rfl, hb9⟩))
        have S9 : Hid (Est w w9 c r5 (w.heap.size + 1) w.heap.size (upd (upd (ethH n1 n2 n3) 3 n4) 2 n5) zb) := S5s.out.on hb9
        clear hb9 HC HT S5s
        go_wp2_with (first | (go_at_call 27; refine (must_true _).mono ?_; rintro e w9 ⟨rfl, rfl⟩) | (refine ld25 (.tmp 3) rfl _ rfl rfl (upd (upd (ethH n1 n2 n3) 3 n4) 2 n5) S9.out.blk ?_) | (refine st25 (.tmp 2) (.tmp 30) rfl _ rfl (upd (upd (ethH n1 n2 n3) 3 n4) 2 n5) rfl rfl zf S9.out.2.2.2.1 ?_))
        have hR : Blk w9 w.heap.size 11 30 zf := S9.out.2.2.2.1
        refine bodyPost_ret (v := hv (upd (upd (ethH n1 n2 n3) 3 n4) 2 n5)) (res28 _ _ w.heap.size (upd (upd (ethH n1 n2 n3) 3 n4) 2 n5) rfl (hR.setRow _)) rfl ⟨S9.out.1.setRow _ (Nat.le_refl _), Or.inr ⟨(upd (upd (ethH n1 n2 n3) 3 n4) 2 n5), r5, HP.out, rfl, S9.out.2.1.setRow _ S9.out.2.2.2.2.1⟩⟩
  · have hd : (n3 == 33024) = false := by simp [hk]
    have HK : Hid (¬ n3 = 33024) := hk
    clear hk
    have HT : Hid (Tab (w3.setCell ⟨w.heap.size + 1, 2, none⟩ (.int .u64 n3))) := S3s.out.1.tab HW.out hc0
    cases hok : hOk (ethH n1 n2 n3)
    · have HC : Hid (Calls Tryd.prog 32 #[hv (ethH n1 n2 n3)] (w3.setCell ⟨w.heap.size + 1, 2, none⟩ (.int .u64 n3)) fun e w' => e = .returned (.int .i64 10) ∧ Below (w3.setCell ⟨w.heap.size + 1, 2, none⟩ (.int .u64 n3)).heap.size (w3.setCell ⟨w.heap.size + 1, 2, none⟩ (.int .u64 n3)) w') := by
        have := check_any (ethH n1 n2 n3) (w3.setCell ⟨w.heap.size + 1, 2, none⟩ (.int .u64 n3)) HT.out
        rwa [show chk (ethH n1 n2 n3) = 10 by simp [chk, hok]] at this
      have HP : Hid (pEth bs = none) := by show pEth bs = none; simp [pEth, chkd, T1, T2, T3, HK.out, hok]
      go_wp2_with (first | (refine st23 (.tmp 12) (.tmp 11) rfl _ _ rfl _ rfl rfl 11 30 _ S3.out.blk (by omega) ?_) | (refine ld25 (.tmp 3) rfl _ rfl rfl (ethH n1 n2 n3) S3s.out.blk ?_) | (go_at_call 32; refine (HC.out).mono ?_; rintro e w9 ⟨rfl, hb9⟩) | (go_at_call 27; refine (must_false _).mono ?_; rintro e w' ⟨rfl, rfl⟩))
      exact ⟨rfl, S3s.out.1.trans (Gr.of_below hb9), Or.inl ⟨HP.out, rfl⟩⟩
    · have HC : Hid (Calls Tryd.prog 32 #[hv (ethH n1 n2 n3)] (w3.setCell ⟨w.heap.size + 1, 2, none⟩ (.int .u64 n3)) fun e w' => e = .returned (.int .i64 0) ∧ Below (w3.setCell ⟨w.heap.size + 1, 2, none⟩ (.int .u64 n3)).heap.size (w3.setCell ⟨w.heap.size + 1, 2, none⟩ (.int .u64 n3)) w') := by
        have := check_any (ethH n1 n2 n3) (w3.setCell ⟨w.heap.size + 1, 2, none⟩ (.int .u64 n3)) HT.out
        rwa [show chk (ethH n1 n2 n3) = 0 by simp [chk, hok]] at this
      have HP : Hid (pEth bs = some ((ethH n1 n2 n3), r3)) := by show pEth bs = _; simp [pEth, chkd, T1, T2, T3, HK.out, hok]
      go_wp2_with (first | (refine st23 (.tmp 12) (.tmp 11) rfl _ _ rfl _ rfl rfl 11 30 _ S3.out.blk (by omega) ?_) | (refine ld25 (.tmp 3) rfl _ rfl rfl (ethH n1 n2 n3) S3s.out.blk ?_) | (go_at_call 32; refine (HC.out).mono ?_; rintro e w9 ⟨rfl, hb9⟩))
      have S9 : Hid (Est w w9 c r3 (w.heap.size + 1) w.heap.size (ethH n1 n2 n3) zb) := S3s.out.on hb9
      clear hb9 HC HT S3s
      go_wp2_with (first | (go_at_call 27; refine (must_true _).mono ?_; rintro e w9 ⟨rfl, rfl⟩) | (refine ld25 (.tmp 3) rfl _ rfl rfl (ethH n1 n2 n3) S9.out.blk ?_) | (refine st25 (.tmp 2) (.tmp 30) rfl _ rfl (ethH n1 n2 n3) rfl rfl zf S9.out.2.2.2.1 ?_))
      have hR : Blk w9 w.heap.size 11 30 zf := S9.out.2.2.2.1
      refine bodyPost_ret (v := hv (ethH n1 n2 n3)) (res28 _ _ w.heap.size (ethH n1 n2 n3) rfl (hR.setRow _)) rfl ⟨S9.out.1.setRow _ (Nat.le_refl _), Or.inr ⟨(ethH n1 n2 n3), r3, HP.out, rfl, S9.out.2.1.setRow _ S9.out.2.2.2.2.1⟩⟩
end Go.Proofs.YtioohgcaakcgaaaDoor
