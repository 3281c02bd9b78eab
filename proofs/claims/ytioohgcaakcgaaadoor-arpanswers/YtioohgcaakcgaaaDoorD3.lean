/-
  Proved here: the cursor's methods ip, ports, arp and body read what 'pIp', 'pPorts', 'pArp' say off the front, or panic with ErrFrame; of the old memory the cursor's own cell alone turns. Condition: at most 1500 bytes are ahead.
-/
import Derived.Test.YtioohgcaakcgaaaDoorD2
namespace Go.Proofs.YtioohgcaakcgaaaDoor
open Go.RowKit

/-- What ip reads. -/
def pIp (h : Nat → Int) (bs : List Int) : Option ((Nat → Int) × List Int) :=
  (ex 2 17664 bs).bind fun a1 => (ex 2 bs.length a1).bind fun a2 => (ex 4 0 a2).bind fun a3 => (ex 1 64 a3).bind fun a4 =>
    (tk 1 a4).bind fun p => (tk 2 p.2).bind fun s => (tk 4 s.2).bind fun f => (tk 4 f.2).bind fun t =>
      if s.1 = hsum (upd (upd (upd h 6 p.1) 4 f.1) 5 t.1) bs.length then some (upd (upd (upd h 6 p.1) 4 f.1) 5 t.1, t.2) else none
/-- What ports reads. -/
def pPorts (h : Nat → Int) (bs : List Int) : Option ((Nat → Int) × List Int) :=
  if h 6 = 6 then (tk 2 bs).bind fun s => (tk 2 s.2).bind fun d => (ex 8 0 d.2).bind fun a1 => (ex 2 20496 a1).bind fun a2 => (ex 6 0 a2).bind fun a3 => some (upd (upd h 7 s.1) 8 d.1, a3)
  else if h 6 = 17 then (tk 2 bs).bind fun s => (tk 2 s.2).bind fun d => (ex 2 bs.length d.2).bind fun a1 => (ex 2 0 a1).bind fun a2 => some (upd (upd h 7 s.1) 8 d.1, a2)
  else some (h, bs)
/-- What arp reads. -/
def pArp (h : Nat → Int) (bs : List Int) : Option ((Nat → Int) × List Int) :=
  (ex 6 4429186564 bs).bind fun a1 => (tk 2 a1).bind fun p => if p.1 = 1 ∨ p.1 = 2 then
    (ex 6 (h 0) p.2).bind fun a2 => (tk 4 a2).bind fun f => (ex 6 (tgt (upd h 4 f.1) p.1) f.2).bind fun a3 => (tk 4 a3).bind fun t =>
      if t.2 = [] then some (upd (upd h 4 f.1) 5 t.1, [p.1]) else none
  else none
theorem box_start {w : World} {c : Nat} {bs : List Int} (h : Nat → Int) (o : Obj) (hc : Cur w c bs) : Est w ((w.alloc (.cells (row 11 h) 30)).alloc o) c bs w.heap.size (w.heap.size + 1) h o := by
  refine ⟨((Gr.refl c w).alloc _).alloc _, (hc.alloc _).alloc _, (Blk.new w 11 30 h).alloc _, ?_, hc.lt, by omega, by omega, by omega⟩
  have := heap_alloc_new (w.alloc (.cells (row 11 h) 30)) o
  simpa using this
theorem res32 (tmps : Array Value) (w : World) (g : Nat) (m : Nat → Int) (hp : tmps.getD 4 undef = .pointer (some ⟨g, 0, none⟩)) (hg : Blk w g 11 30 m) :
    (results Tryd.f30 tmps).run Tryd.prog w = .ok (hv m) w :=
  results_cell_row Tryd.results30 tmps w g 30 _ (0, 0) _ hp hg Tryd.underlying30 rfl (size25 m)
theorem res31 (tmps : Array Value) (w : World) (g : Nat) (m : Nat → Int) (hp : tmps.getD 4 undef = .pointer (some ⟨g, 0, none⟩)) (hg : Blk w g 11 30 m) :
    (results Tryd.f29 tmps).run Tryd.prog w = .ok (hv m) w :=
  results_cell_row Tryd.results29 tmps w g 30 _ (0, 0) _ hp hg Tryd.underlying30 rfl (size25 m)
theorem res30 (tmps : Array Value) (w : World) (g : Nat) (m : Nat → Int) (v : Value) (hp : tmps.getD 4 undef = .pointer (some ⟨g, 0, none⟩)) (hg : PBlk w g m v) :
    (results Tryd.f28 tmps).run Tryd.prog w = .ok (pv m v) w :=
  results_cell_row Tryd.results28 tmps w g 32 _ (0, 0) _ hp hg Tryd.underlying32 rfl (size27 m v)

set_option maxHeartbeats 1600000 in
/-- WHAT ip READS. -/
theorem ip_any (c : Nat) (h : Nat → Int) (bs : List Int) (w : World) (hc : Cur w c bs) (hlen : bs.length ≤ 1500) :
    Calls Tryd.prog 30 #[.pointer (some ⟨c, 0, none⟩), hv h] w fun e w' => Out w c (pIp h bs) e w' := by
  have S0 : Hid (Est w ((w.alloc (.cells (row 11 h) 30)).alloc (.cells (row 11 zf) 30)) c bs w.heap.size (w.heap.size + 1) h zb) := box_start h _ hc
  obtain ⟨ao, cap, c0⟩ := S0.out.bytes
  clear hc
  go_enter Tryd.func30, Tryd.ntmps30
  go_wp2_with (refine alc25 rfl rfl ?_)
  go_fit (est_expect S0.out 2 _ 17664 rfl (by decide) (by decide))
  rintro e w1 (⟨T1, rfl, hG⟩ | ⟨r1, T1, rfl, X1⟩)
  · exact ⟨rfl, hG, Or.inl ⟨by simp [pIp, T1], rfl⟩⟩
  have S1 : Hid (Est w w1 c r1 w.heap.size (w.heap.size + 1) h zb) := X1
  clear S0 X1 c0
  go_wp2_with fail
  go_fit (est_expect S1.out 2 _ bs.length rfl (by decide) (by decide))
  rintro e w2 (⟨T2, rfl, hG⟩ | ⟨r2, T2, rfl, X2⟩)
  · exact ⟨rfl, hG, Or.inl ⟨by simp [pIp, T1, T2], rfl⟩⟩
  have S2 : Hid (Est w w2 c r2 w.heap.size (w.heap.size + 1) h zb) := X2
  clear S1 X2
  go_wp2_with fail
  go_fit (est_expect S2.out 4 _ 0 rfl (by decide) (by decide))
  rintro e w3 (⟨T3, rfl, hG⟩ | ⟨r3, T3, rfl, X3⟩)
  · exact ⟨rfl, hG, Or.inl ⟨by simp [pIp, T1, T2, T3], rfl⟩⟩
  have S3 : Hid (Est w w3 c r3 w.heap.size (w.heap.size + 1) h zb) := X3
  clear S2 X3
  go_wp2_with fail
  go_fit (est_expect S3.out 1 _ 64 rfl (by decide) (by decide))
  rintro e w4 (⟨T4, rfl, hG⟩ | ⟨r4, T4, rfl, X4⟩)
  · exact ⟨rfl, hG, Or.inl ⟨by simp [pIp, T1, T2, T3, T4], rfl⟩⟩
  have S4 : Hid (Est w w4 c r4 w.heap.size (w.heap.size + 1) h zb) := X4
  clear S3 X4
  go_wp2_with fail
  go_fit (est_number S4.out 1 _ rfl (by decide) (by decide))
  rintro e w5 (⟨T5, rfl, hG⟩ | ⟨n5, r5, T5, rfl, X5⟩)
  · exact ⟨rfl, hG, Or.inl ⟨by simp [pIp, T1, T2, T3, T4, T5], rfl⟩⟩
  have S5 : Hid (Est w w5 c r5 w.heap.size (w.heap.size + 1) h zb) := X5
  clear S4 X5
  have S5s : Hid (Est w (w5.setCell ⟨w.heap.size, 6, none⟩ (.int .u64 n5)) c r5 w.heap.size (w.heap.size + 1) (upd h 6 n5) zb) := S5.out.set 6 n5
  go_wp2_with ((refine st23 (.tmp 24) (.tmp 23) rfl _ _ rfl _ rfl rfl 11 30 _ S5.out.blk (by omega) ?_))
  go_fit (est_number S5s.out 2 _ rfl (by decide) (by decide))
  rintro e w6 (⟨T6, rfl, hG⟩ | ⟨n6, r6, T6, rfl, X6⟩)
  · exact ⟨rfl, hG, Or.inl ⟨by simp [pIp, T1, T2, T3, T4, T5, T6], rfl⟩⟩
  have S6 : Hid (Est w w6 c r6 w.heap.size (w.heap.size + 1) (upd h 6 n5) zb) := X6
  clear S5 S5s X6
  go_wp2_with fail
  go_fit (est_number S6.out 4 _ rfl (by decide) (by decide))
  rintro e w7 (⟨T7, rfl, hG⟩ | ⟨n7, r7, T7, rfl, X7⟩)
  · exact ⟨rfl, hG, Or.inl ⟨by simp [pIp, T1, T2, T3, T4, T5, T6, T7], rfl⟩⟩
  have S7 : Hid (Est w w7 c r7 w.heap.size (w.heap.size + 1) (upd h 6 n5) zb) := X7
  clear S6 X7
  have S7s : Hid (Est w (w7.setCell ⟨w.heap.size, 4, none⟩ (.int .u64 n7)) c r7 w.heap.size (w.heap.size + 1) (upd (upd h 6 n5) 4 n7) zb) := S7.out.set 4 n7
  go_wp2_with ((refine st23 (.tmp 29) (.tmp 28) rfl _ _ rfl _ rfl rfl 11 30 _ S7.out.blk (by omega) ?_))
  go_fit (est_number S7s.out 4 _ rfl (by decide) (by decide))
  rintro e w8 (⟨T8, rfl, hG⟩ | ⟨n8, r8, T8, rfl, X8⟩)
  · exact ⟨rfl, hG, Or.inl ⟨by simp [pIp, T1, T2, T3, T4, T5, T6, T7, T8], rfl⟩⟩
  have S8 : Hid (Est w w8 c r8 w.heap.size (w.heap.size + 1) (upd (upd h 6 n5) 4 n7) zb) := X8
  clear S7 S7s X8
  have S8s : Hid (Est w (w8.setCell ⟨w.heap.size, 5, none⟩ (.int .u64 n8)) c r8 w.heap.size (w.heap.size + 1) (upd (upd (upd h 6 n5) 4 n7) 5 n8) zb) := S8.out.set 5 n8
  go_wp2_with (first | (refine st23 (.tmp 32) (.tmp 31) rfl _ _ rfl _ rfl rfl 11 30 _ S8.out.blk (by omega) ?_) | (refine ld25 (.tmp 3) rfl _ rfl rfl (upd (upd (upd h 6 n5) 4 n7) 5 n8) S8s.out.blk ?_))
  go_fit (headSum_any (upd (upd (upd h 6 n5) 4 n7) 5 n8) bs.length _ (by omega) (by omega))
  rintro e w9 ⟨rfl, hb9⟩
  have S9 : Hid (Est w w9 c r8 w.heap.size (w.heap.size + 1) (upd (upd (upd h 6 n5) 4 n7) 5 n8) zb) := S8s.out.on hb9
  clear S8 S8s hb9
  by_cases hs : n6 = hsum (upd (upd (upd h 6 n5) 4 n7) 5 n8) bs.length
  · have hd : (n6 == hsum (upd (upd (upd h 6 n5) 4 n7) 5 n8) bs.length) = true := by simp [hs]
    have HP : Hid (pIp h bs = some ((upd (upd (upd h 6 n5) 4 n7) 5 n8), r8)) := by show pIp h bs = _; simp [pIp, T1, T2, T3, T4, T5, T6, T7, T8, if_pos hs]
    clear hs
    go_wp2_with (first | (go_at_call 27; refine (must_true _).mono ?_; rintro e w9 ⟨rfl, rfl⟩) | (refine ld25 (.tmp 3) rfl _ rfl rfl (upd (upd (upd h 6 n5) 4 n7) 5 n8) S9.out.blk ?_) | (refine st25 (.tmp 4) (.tmp 39) rfl _ rfl (upd (upd (upd h 6 n5) 4 n7) 5 n8) rfl rfl zf S9.out.2.2.2.1 ?_))
    have hR : Blk w9 (w.heap.size + 1) 11 30 zf := S9.out.2.2.2.1
    refine bodyPost_ret (v := hv (upd (upd (upd h 6 n5) 4 n7) 5 n8)) (res32 _ _ (w.heap.size + 1) (upd (upd (upd h 6 n5) 4 n7) 5 n8) rfl (hR.setRow _)) rfl ⟨S9.out.1.setRow _ (by omega), Or.inr ⟨(upd (upd (upd h 6 n5) 4 n7) 5 n8), r8, HP.out, rfl, S9.out.2.1.setRow _ (by have := S9.out.2.2.2.2.1; omega)⟩⟩
  · have hd : (n6 == hsum (upd (upd (upd h 6 n5) 4 n7) 5 n8) bs.length) = false := by simp [hs]
    have HP : Hid (pIp h bs = none) := by show pIp h bs = _; simp [pIp, T1, T2, T3, T4, T5, T6, T7, T8, if_neg hs]
    clear hs
    go_wp2_with (go_at_call 27; refine (must_false _).mono ?_; rintro e w9 ⟨rfl, rfl⟩)
    exact ⟨rfl, S9.out.1, Or.inl ⟨HP.out, rfl⟩⟩

set_option maxHeartbeats 1600000 in
/-- WHAT ports READS. -/
theorem ports_any (c : Nat) (h : Nat → Int) (bs : List Int) (w : World) (hc : Cur w c bs) (hlen : bs.length ≤ 1500) :
    Calls Tryd.prog 29 #[.pointer (some ⟨c, 0, none⟩), hv h] w fun e w' => Out w c (pPorts h bs) e w' := by
  have S0 : Hid (Est w ((w.alloc (.cells (row 11 h) 30)).alloc (.cells (row 11 zf) 30)) c bs w.heap.size (w.heap.size + 1) h zb) := box_start h _ hc
  obtain ⟨ao, cap, c0⟩ := S0.out.bytes
  have c6 := S0.out.blk.cell 6 (by omega)
  clear hc
  by_cases h6 : h 6 = 6
  · have hd : (h 6 == 6) = true := by simp [h6]
    have H6 : Hid (h 6 = 6) := h6
    clear h6
    go_enter Tryd.func29, Tryd.ntmps29
    go_wp2_with (refine alc25 rfl rfl ?_)
    go_fit (est_number S0.out 2 _ rfl (by decide) (by decide))
    rintro e w1 (⟨T1, rfl, hG⟩ | ⟨n1, r1, T1, rfl, X1⟩)
    · exact ⟨rfl, hG, Or.inl ⟨by simp [pPorts, if_pos H6.out, T1], rfl⟩⟩
    have S1 : Hid (Est w w1 c r1 w.heap.size (w.heap.size + 1) h zb) := X1
    clear S0 X1 c0 c6
    have S1s : Hid (Est w (w1.setCell ⟨w.heap.size, 7, none⟩ (.int .u64 n1)) c r1 w.heap.size (w.heap.size + 1) (upd h 7 n1) zb) := S1.out.set 7 n1
    go_wp2_with ((refine st23 (.tmp 17) (.tmp 16) rfl _ _ rfl _ rfl rfl 11 30 _ S1.out.blk (by omega) ?_))
    go_fit (est_number S1s.out 2 _ rfl (by decide) (by decide))
    rintro e w2 (⟨T2, rfl, hG⟩ | ⟨n2, r2, T2, rfl, X2⟩)
    · exact ⟨rfl, hG, Or.inl ⟨by simp [pPorts, if_pos H6.out, T1, T2], rfl⟩⟩
    have S2 : Hid (Est w w2 c r2 w.heap.size (w.heap.size + 1) (upd h 7 n1) zb) := X2
    clear S1 S1s X2
    have S2s : Hid (Est w (w2.setCell ⟨w.heap.size, 8, none⟩ (.int .u64 n2)) c r2 w.heap.size (w.heap.size + 1) (upd (upd h 7 n1) 8 n2) zb) := S2.out.set 8 n2
    go_wp2_with ((refine st23 (.tmp 20) (.tmp 19) rfl _ _ rfl _ rfl rfl 11 30 _ S2.out.blk (by omega) ?_))
    go_fit (est_expect S2s.out 8 _ 0 rfl (by decide) (by decide))
    rintro e w3 (⟨T3, rfl, hG⟩ | ⟨r3, T3, rfl, X3⟩)
    · exact ⟨rfl, hG, Or.inl ⟨by simp [pPorts, if_pos H6.out, T1, T2, T3], rfl⟩⟩
    have S3 : Hid (Est w w3 c r3 w.heap.size (w.heap.size + 1) (upd (upd h 7 n1) 8 n2) zb) := X3
    clear S2 S2s X3
    go_wp2_with fail
    go_fit (est_expect S3.out 2 _ 20496 rfl (by decide) (by decide))
    rintro e w4 (⟨T4, rfl, hG⟩ | ⟨r4, T4, rfl, X4⟩)
    · exact ⟨rfl, hG, Or.inl ⟨by simp [pPorts, if_pos H6.out, T1, T2, T3, T4], rfl⟩⟩
    have S4 : Hid (Est w w4 c r4 w.heap.size (w.heap.size + 1) (upd (upd h 7 n1) 8 n2) zb) := X4
    clear S3 X4
    go_wp2_with fail
    go_fit (est_expect S4.out 6 _ 0 rfl (by decide) (by decide))
    rintro e w5 (⟨T5, rfl, hG⟩ | ⟨r5, T5, rfl, X5⟩)
    · exact ⟨rfl, hG, Or.inl ⟨by simp [pPorts, if_pos H6.out, T1, T2, T3, T4, T5], rfl⟩⟩
    have S5 : Hid (Est w w5 c r5 w.heap.size (w.heap.size + 1) (upd (upd h 7 n1) 8 n2) zb) := X5
    clear S4 X5
    have HP : Hid (pPorts h bs = some ((upd (upd h 7 n1) 8 n2), r5)) := by show pPorts h bs = _; simp [pPorts, if_pos H6.out, T1, T2, T3, T4, T5]
    go_wp2_with (first | (refine ld25 (.tmp 3) rfl _ rfl rfl (upd (upd h 7 n1) 8 n2) S5.out.blk ?_) | (refine st25 (.tmp 4) (.tmp 41) rfl _ rfl (upd (upd h 7 n1) 8 n2) rfl rfl zf S5.out.2.2.2.1 ?_))
    refine bodyPost_ret (v := hv (upd (upd h 7 n1) 8 n2)) (res31 _ _ (w.heap.size + 1) (upd (upd h 7 n1) 8 n2) rfl (Blk.setRow (f := zf) S5.out.2.2.2.1 _)) rfl ⟨S5.out.1.setRow _ (by omega), Or.inr ⟨(upd (upd h 7 n1) 8 n2), r5, HP.out, rfl, S5.out.2.1.setRow _ (by have := S5.out.2.2.2.2.1; omega)⟩⟩
  · by_cases h17 : h 6 = 17
    · have hd : (h 6 == 6) = false := by simp [h6]
      have hd' : (h 6 == 17) = true := by simp [h17]
      have H6 : Hid (¬ h 6 = 6) := h6
      have H17 : Hid (h 6 = 17) := h17
      clear h6 h17
      go_enter Tryd.func29, Tryd.ntmps29
      go_wp2_with (refine alc25 rfl rfl ?_)
      go_fit (est_number S0.out 2 _ rfl (by decide) (by decide))
      rintro e w1 (⟨T1, rfl, hG⟩ | ⟨n1, r1, T1, rfl, X1⟩)
      · exact ⟨rfl, hG, Or.inl ⟨by simp [pPorts, if_pos H17.out, T1], rfl⟩⟩
      have S1 : Hid (Est w w1 c r1 w.heap.size (w.heap.size + 1) h zb) := X1
      clear S0 X1 c0 c6
      have S1s : Hid (Est w (w1.setCell ⟨w.heap.size, 7, none⟩ (.int .u64 n1)) c r1 w.heap.size (w.heap.size + 1) (upd h 7 n1) zb) := S1.out.set 7 n1
      go_wp2_with ((refine st23 (.tmp 31) (.tmp 30) rfl _ _ rfl _ rfl rfl 11 30 _ S1.out.blk (by omega) ?_))
      go_fit (est_number S1s.out 2 _ rfl (by decide) (by decide))
      rintro e w2 (⟨T2, rfl, hG⟩ | ⟨n2, r2, T2, rfl, X2⟩)
      · exact ⟨rfl, hG, Or.inl ⟨by simp [pPorts, if_pos H17.out, T1, T2], rfl⟩⟩
      have S2 : Hid (Est w w2 c r2 w.heap.size (w.heap.size + 1) (upd h 7 n1) zb) := X2
      clear S1 S1s X2
      have S2s : Hid (Est w (w2.setCell ⟨w.heap.size, 8, none⟩ (.int .u64 n2)) c r2 w.heap.size (w.heap.size + 1) (upd (upd h 7 n1) 8 n2) zb) := S2.out.set 8 n2
      go_wp2_with ((refine st23 (.tmp 34) (.tmp 33) rfl _ _ rfl _ rfl rfl 11 30 _ S2.out.blk (by omega) ?_))
      go_fit (est_expect S2s.out 2 _ bs.length rfl (by decide) (by decide))
      rintro e w3 (⟨T3, rfl, hG⟩ | ⟨r3, T3, rfl, X3⟩)
      · exact ⟨rfl, hG, Or.inl ⟨by simp [pPorts, if_neg H6.out, if_pos H17.out, T1, T2, T3], rfl⟩⟩
      have S3 : Hid (Est w w3 c r3 w.heap.size (w.heap.size + 1) (upd (upd h 7 n1) 8 n2) zb) := X3
      clear S2 S2s X3
      go_wp2_with fail
      go_fit (est_expect S3.out 2 _ 0 rfl (by decide) (by decide))
      rintro e w4 (⟨T4, rfl, hG⟩ | ⟨r4, T4, rfl, X4⟩)
      · exact ⟨rfl, hG, Or.inl ⟨by simp [pPorts, if_neg H6.out, if_pos H17.out, T1, T2, T3, T4], rfl⟩⟩
      have S4 : Hid (Est w w4 c r4 w.heap.size (w.heap.size + 1) (upd (upd h 7 n1) 8 n2) zb) := X4
      clear S3 X4
      have HP : Hid (pPorts h bs = some ((upd (upd h 7 n1) 8 n2), r4)) := by show pPorts h bs = _; simp [pPorts, if_neg H6.out, if_pos H17.out, T1, T2, T3, T4]
      go_wp2_with (first | (refine ld25 (.tmp 3) rfl _ rfl rfl (upd (upd h 7 n1) 8 n2) S4.out.blk ?_) | (refine st25 (.tmp 4) (.tmp 41) rfl _ rfl (upd (upd h 7 n1) 8 n2) rfl rfl zf S4.out.2.2.2.1 ?_))
      refine bodyPost_ret (v := hv (upd (upd h 7 n1) 8 n2)) (res31 _ _ (w.heap.size + 1) (upd (upd h 7 n1) 8 n2) rfl (Blk.setRow (f := zf) S4.out.2.2.2.1 _)) rfl ⟨S4.out.1.setRow _ (by omega), Or.inr ⟨(upd (upd h 7 n1) 8 n2), r4, HP.out, rfl, S4.out.2.1.setRow _ (by have := S4.out.2.2.2.2.1; omega)⟩⟩
    · have hd : (h 6 == 6) = false := by simp [h6]
      have hd' : (h 6 == 17) = false := by simp [h17]
      have HP : Hid (pPorts h bs = some (h, bs)) := by show pPorts h bs = _; simp [pPorts, h6, h17]
      clear h6 h17
      go_enter Tryd.func29, Tryd.ntmps29
      go_wp2_with (first | (refine alc25 rfl rfl ?_) | (refine ld25 (.tmp 3) rfl _ rfl rfl h S0.out.blk ?_) | (refine st25 (.tmp 4) (.tmp 41) rfl _ rfl h rfl rfl zf S0.out.2.2.2.1 ?_))
      refine bodyPost_ret (v := hv h) (res31 _ _ (w.heap.size + 1) h rfl (Blk.setRow (f := zf) S0.out.2.2.2.1 _)) rfl ⟨S0.out.1.setRow _ (by omega), Or.inr ⟨h, bs, HP.out, rfl, S0.out.2.1.setRow _ (by have := S0.out.2.2.2.2.1; omega)⟩⟩
end Go.Proofs.YtioohgcaakcgaaaDoor
