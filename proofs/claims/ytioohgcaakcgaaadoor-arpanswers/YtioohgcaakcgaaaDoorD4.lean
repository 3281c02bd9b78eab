/-
  Proved here: the cursor's methods arp and body read what 'pArp' says off the front, or panic with ErrFrame, and take all that is left; of the old memory the cursor's own cell alone turns. Condition: at most 1500 bytes are ahead.
-/
import Derived.Test.YtioohgcaakcgaaaDoorD3
import Derived.Test.YtioohgcaakcgaaaDoorA1
namespace Go.Proofs.YtioohgcaakcgaaaDoor
open Go.RowKit

abbrev pz : Obj := .cells (prow zf nilS) 32 (0, 0)
theorem built27 (H : Nat → Int) (ao : Option Addr) (n c : Nat) : Tryd.prog.built 32 [(0, hv H), (1, .slice ao n c)] = some (prow H (.slice ao n c)) := by kernel_rfl
theorem built27z : Tryd.prog.built 32 [] = some (prow zf nilS) := by kernel_rfl
/-- A packet is put together. -/
theorem bld27 {ops : Array Oper} {rest : List Oper} {o : Oper} {a : Act} {w : World} {Q : Exit → Act → World → Prop} (x y : Operand) (ho : o.op = .build 32 #[(0, x), (1, y)]) (H : Nat → Int) (ao : Option Addr) (n c : Nat) (hx : a.eval x = hv H) (hy : a.eval y = .slice ao n c) (hw : Region.wanted o (yielded ops a.tmps) = true)
    (h : wpList Tryd.prog ops Q rest (a.put o.dst (pv H (.slice ao n c))) w) : wpList Tryd.prog ops Q (o :: rest) a w := by
  unfold wpList
  rw [if_pos hw]
  refine Or.inl ?_
  unfold Oper.wp execOp
  have := run_build (P := Tryd.prog) w 32 #[(0, hv H), (1, .slice ao n c)] _ (built27 H ao n c)
  simp only [ho, List.map_toArray, List.map_cons, List.map_nil, hx, hy, Sem.run_bind, Sem.run_pure, Result.andThen_ok, this]
  exact h
/-- The outcome of a method that hands back a packet. -/
def OutP (w : World) (c : Nat) (o : Option ((Nat → Int) × List Int)) (e : Ending) (w' : World) : Prop :=
  Gr c w w' ∧ ((o = none ∧ e = .panicked PC) ∨ ∃ h b v, o = some (h, b) ∧ e = .returned (pv h v) ∧ Owns w.heap.size w' v b)
theorem owns_one {base : Nat} (w : World) (x : Int) (hb : base ≤ w.heap.size) : Owns base (w.alloc (.cells #[.int .u8 x] 5)) (.slice (some ⟨w.heap.size, 0, none⟩) 1 1) [x] :=
  ⟨by simp, Or.inr ⟨w.heap.size, 1, #[.int .u8 x], rfl, hb, heap_alloc_new _ _, by simp, by unfold maxLen; omega, by simp, by simp⟩⟩
theorem Owns.setRow {base b : Nat} {w : World} {v : Value} {xs : List Int} {cs : Array Value} {t : Nat} (h : Owns base w v xs) (cs' : Array Value) (hb : w.heap[b]? = some (.cells cs t (0, 0))) (ht : t ≠ 5) : Owns base (w.setRow b cs') v xs := by
  refine ⟨h.1, ?_⟩
  rcases h.2 with h' | ⟨g, cap, cur, rfl, h1, h2, h3⟩
  · exact Or.inl h'
  · refine Or.inr ⟨g, cap, cur, rfl, h1, ?_, h3⟩
    have hne : g ≠ b := by
      rintro rfl
      rw [h2] at hb
      simp only [Option.some.injEq, Obj.cells.injEq] at hb
      exact ht hb.2.1.symm
    rw [setRow_other w b g cs' hne]; exact h2

set_option maxHeartbeats 3200000 in
/-- WHAT arp READS. -/
theorem arp_any (c : Nat) (h : Nat → Int) (bs : List Int) (w : World) (hc : Cur w c bs) :
    Calls Tryd.prog 28 #[.pointer (some ⟨c, 0, none⟩), hv h] w fun e w' => OutP w c (pArp h bs) e w' := by
  have S0 : Hid (Est w ((w.alloc (.cells (row 11 h) 30)).alloc (.cells (prow zf nilS) 32)) c bs w.heap.size (w.heap.size + 1) h pz) := box_start h _ hc
  clear hc
  go_enter Tryd.func28, Tryd.ntmps28
  go_wp2_with (refine alc27 rfl rfl ?_)
  go_fit (est_expect S0.out 6 _ 4429186564 rfl (by decide) (by decide))
  rintro e w1 (⟨T1, rfl, hG⟩ | ⟨r1, T1, rfl, X1⟩)
  · exact ⟨rfl, hG, Or.inl ⟨by simp [pArp, T1], rfl⟩⟩
  have S1 : Hid (Est w w1 c r1 w.heap.size (w.heap.size + 1) h pz) := X1
  clear S0 X1
  go_wp2_with fail
  go_fit (est_number S1.out 2 _ rfl (by decide) (by decide))
  rintro e w2 (⟨T2, rfl, hG⟩ | ⟨n2, r2, T2, rfl, X2⟩)
  · exact ⟨rfl, hG, Or.inl ⟨by simp [pArp, T1, T2], rfl⟩⟩
  have S2 : Hid (Est w w2 c r2 w.heap.size (w.heap.size + 1) h pz) := X2
  clear S1 X2
  by_cases h1 : n2 = 1
  · have hd : (n2 == 1) = true := by simp [h1]
    have h3 : 0 ≤ n2 ∧ n2 < 256 := by omega
    have HOR : Hid (n2 = 1 ∨ n2 = 2) := Or.inl h1
    clear h1
    have c00 := S2.out.blk.cell 0 (by omega)
    go_wp2_with (go_at_call 27; refine (must_true _).mono ?_; rintro e w2 ⟨rfl, rfl⟩)
    go_fit (est_expect S2.out 6 _ (h 0) rfl (by decide) (by decide))
    rintro e w3 (⟨T3, rfl, hG⟩ | ⟨r3, T3, rfl, X3⟩)
    · exact ⟨rfl, hG, Or.inl ⟨by simp [pArp, T1, T2, T3], rfl⟩⟩
    have S3 : Hid (Est w w3 c r3 w.heap.size (w.heap.size + 1) h pz) := X3
    clear S2 X3 c00
    go_wp2_with fail
    go_fit (est_number S3.out 4 _ rfl (by decide) (by decide))
    rintro e w4 (⟨T4, rfl, hG⟩ | ⟨n4, r4, T4, rfl, X4⟩)
    · exact ⟨rfl, hG, Or.inl ⟨by simp [pArp, T1, T2, T3, T4], rfl⟩⟩
    have S4 : Hid (Est w w4 c r4 w.heap.size (w.heap.size + 1) h pz) := X4
    clear S3 X4
    have S4s : Hid (Est w (w4.setCell ⟨w.heap.size, 4, none⟩ (.int .u64 n4)) c r4 w.heap.size (w.heap.size + 1) (upd h 4 n4) pz) := S4.out.set 4 n4
    go_wp2_with (first | (refine st23 (.tmp 23) (.tmp 22) rfl _ _ rfl _ rfl rfl 11 30 _ S4.out.blk (by omega) ?_) | (refine ld25 (.tmp 3) rfl _ rfl rfl (upd h 4 n4) S4s.out.blk ?_))
    go_fit (target_any (upd h 4 n4) n2 _)
    rintro e w5 ⟨rfl, hb5⟩
    have S5 : Hid (Est w w5 c r4 w.heap.size (w.heap.size + 1) (upd h 4 n4) pz) := S4s.out.on hb5
    clear S4 S4s hb5
    go_wp2_with fail
    go_fit (est_expect S5.out 6 _ (tgt (upd h 4 n4) n2) rfl (by decide) (by decide))
    rintro e w6 (⟨T6, rfl, hG⟩ | ⟨r6, T6, rfl, X6⟩)
    · exact ⟨rfl, hG, Or.inl ⟨by simp [pArp, T1, T2, T3, T4, T6], rfl⟩⟩
    have S6 : Hid (Est w w6 c r6 w.heap.size (w.heap.size + 1) (upd h 4 n4) pz) := X6
    clear S5 X6
    go_wp2_with fail
    go_fit (est_number S6.out 4 _ rfl (by decide) (by decide))
    rintro e w7 (⟨T7, rfl, hG⟩ | ⟨n7, r7, T7, rfl, X7⟩)
    · exact ⟨rfl, hG, Or.inl ⟨by simp [pArp, T1, T2, T3, T4, T6, T7], rfl⟩⟩
    have S7 : Hid (Est w w7 c r7 w.heap.size (w.heap.size + 1) (upd h 4 n4) pz) := X7
    clear S6 X7
    have S7s : Hid (Est w (w7.setCell ⟨w.heap.size, 5, none⟩ (.int .u64 n7)) c r7 w.heap.size (w.heap.size + 1) (upd (upd h 4 n4) 5 n7) pz) := S7.out.set 5 n7
    obtain ⟨ao, cap, cB⟩ := S7s.out.bytes
    have hl7 := S7s.out.len
    by_cases hz : r7 = []
    · have hd9 : ((r7.length : Int) == 0) = true := by simp [hz]
      have hd9' : (r7.length == 0) = true := by simp [hz]
      have HP : Hid (pArp h bs = some ((upd (upd h 4 n4) 5 n7), [n2])) := by show pArp h bs = _; simp [pArp, T1, T2, if_pos HOR.out, T3, T4, T6, T7, if_pos hz]
      clear hz
      have hbl : Blk (w7.setCell ⟨w.heap.size, 5, none⟩ (.int .u64 n7)) w.heap.size 11 30 (upd (upd h 4 n4) 5 n7) := S7s.out.blk
      have hO : Hid (Owns w.heap.size ((w7.setCell ⟨w.heap.size, 5, none⟩ (.int .u64 n7)).alloc (.cells #[.int .u8 n2] 5)) (.slice (some ⟨w7.heap.size, 0, none⟩) 1 1) [n2]) := by
        have q := owns_one (w7.setCell ⟨w.heap.size, 5, none⟩ (.int .u64 n7)) n2 S7s.out.1.size
        rwa [show (w7.setCell ⟨w.heap.size, 5, none⟩ (.int .u64 n7)).heap.size = w7.heap.size by simp [World.setCell]] at q
      have hR : PBlk ((w7.setCell ⟨w.heap.size, 5, none⟩ (.int .u64 n7)).alloc (.cells #[.int .u8 n2] 5)) (w.heap.size + 1) zf nilS := PBlk.alloc (w := (w7.setCell ⟨w.heap.size, 5, none⟩ (.int .u64 n7))) S7s.out.2.2.2.1 _
      go_wp2_with (first | (refine st23 (.tmp 31) (.tmp 30) rfl _ _ rfl _ rfl rfl 11 30 _ S7.out.blk (by omega) ?_) | (go_at_call 27; refine (must_true _).mono ?_; rintro e w8 ⟨rfl, rfl⟩) | (refine ld25 (.tmp 3) rfl _ rfl rfl (upd (upd h 4 n4) 5 n7) hbl ?_) | (refine bld27 (.tmp 39) (.tmp 42) rfl (upd (upd h 4 n4) 5 n7) _ _ _ rfl rfl rfl ?_) | (refine st27 (.tmp 4) (.tmp 43) rfl _ rfl (upd (upd h 4 n4) 5 n7) _ rfl rfl rfl zf nilS hR ?_))
      refine bodyPost_ret (v := pv (upd (upd h 4 n4) 5 n7) _) (res30 _ _ (w.heap.size + 1) (upd (upd h 4 n4) 5 n7) _ rfl (hR.setRow _ _)) rfl ⟨(S7s.out.1.alloc _).setRow _ (by omega), Or.inr ⟨(upd (upd h 4 n4) 5 n7), [n2], _, HP.out, rfl, hO.out.setRow _ hR (by decide)⟩⟩
    · have hd9 : ((r7.length : Int) == 0) = false := by simpa using hz
      have hd9' : (r7.length == 0) = false := by simpa using hz
      have HP : Hid (pArp h bs = none) := by show pArp h bs = _; simp [pArp, T1, T2, T3, T4, T6, T7, if_neg hz]
      clear hz
      go_wp2_with (first | (refine st23 (.tmp 31) (.tmp 30) rfl _ _ rfl _ rfl rfl 11 30 _ S7.out.blk (by omega) ?_) | (go_at_call 27; refine (must_false _).mono ?_; rintro e w8 ⟨rfl, rfl⟩))
      exact ⟨rfl, S7s.out.1, Or.inl ⟨HP.out, rfl⟩⟩
  · by_cases h2 : n2 = 2
    · have hd : (n2 == 1) = false := by simp [h1]
      have hd' : (n2 == 2) = true := by simp [h2]
      have h3 : 0 ≤ n2 ∧ n2 < 256 := by omega
      have HOR : Hid (n2 = 1 ∨ n2 = 2) := Or.inr h2
      clear h1 h2
      have c00 := S2.out.blk.cell 0 (by omega)
      go_wp2_with (go_at_call 27; refine (must_true _).mono ?_; rintro e w2 ⟨rfl, rfl⟩)
      go_fit (est_expect S2.out 6 _ (h 0) rfl (by decide) (by decide))
      rintro e w3 (⟨T3, rfl, hG⟩ | ⟨r3, T3, rfl, X3⟩)
      · exact ⟨rfl, hG, Or.inl ⟨by simp [pArp, T1, T2, T3], rfl⟩⟩
      have S3 : Hid (Est w w3 c r3 w.heap.size (w.heap.size + 1) h pz) := X3
      clear S2 X3 c00
      go_wp2_with fail
      go_fit (est_number S3.out 4 _ rfl (by decide) (by decide))
      rintro e w4 (⟨T4, rfl, hG⟩ | ⟨n4, r4, T4, rfl, X4⟩)
      · exact ⟨rfl, hG, Or.inl ⟨by simp [pArp, T1, T2, T3, T4], rfl⟩⟩
      have S4 : Hid (Est w w4 c r4 w.heap.size (w.heap.size + 1) h pz) := X4
      clear S3 X4
      have S4s : Hid (Est w (w4.setCell ⟨w.heap.size, 4, none⟩ (.int .u64 n4)) c r4 w.heap.size (w.heap.size + 1) (upd h 4 n4) pz) := S4.out.set 4 n4
      go_wp2_with (first | (refine st23 (.tmp 23) (.tmp 22) rfl _ _ rfl _ rfl rfl 11 30 _ S4.out.blk (by omega) ?_) | (refine ld25 (.tmp 3) rfl _ rfl rfl (upd h 4 n4) S4s.out.blk ?_))
      go_fit (target_any (upd h 4 n4) n2 _)
      rintro e w5 ⟨rfl, hb5⟩
      have S5 : Hid (Est w w5 c r4 w.heap.size (w.heap.size + 1) (upd h 4 n4) pz) := S4s.out.on hb5
      clear S4 S4s hb5
      go_wp2_with fail
      go_fit (est_expect S5.out 6 _ (tgt (upd h 4 n4) n2) rfl (by decide) (by decide))
      rintro e w6 (⟨T6, rfl, hG⟩ | ⟨r6, T6, rfl, X6⟩)
      · exact ⟨rfl, hG, Or.inl ⟨by simp [pArp, T1, T2, T3, T4, T6], rfl⟩⟩
      have S6 : Hid (Est w w6 c r6 w.heap.size (w.heap.size + 1) (upd h 4 n4) pz) := X6
      clear S5 X6
      go_wp2_with fail
      go_fit (est_number S6.out 4 _ rfl (by decide) (by decide))
      rintro e w7 (⟨T7, rfl, hG⟩ | ⟨n7, r7, T7, rfl, X7⟩)
      · exact ⟨rfl, hG, Or.inl ⟨by simp [pArp, T1, T2, T3, T4, T6, T7], rfl⟩⟩
      have S7 : Hid (Est w w7 c r7 w.heap.size (w.heap.size + 1) (upd h 4 n4) pz) := X7
      clear S6 X7
      have S7s : Hid (Est w (w7.setCell ⟨w.heap.size, 5, none⟩ (.int .u64 n7)) c r7 w.heap.size (w.heap.size + 1) (upd (upd h 4 n4) 5 n7) pz) := S7.out.set 5 n7
      obtain ⟨ao, cap, cB⟩ := S7s.out.bytes
      have hl7 := S7s.out.len
      by_cases hz : r7 = []
      · have hd9 : ((r7.length : Int) == 0) = true := by simp [hz]
        have hd9' : (r7.length == 0) = true := by simp [hz]
        have HP : Hid (pArp h bs = some ((upd (upd h 4 n4) 5 n7), [n2])) := by show pArp h bs = _; simp [pArp, T1, T2, if_pos HOR.out, T3, T4, T6, T7, if_pos hz]
        clear hz
        have hbl : Blk (w7.setCell ⟨w.heap.size, 5, none⟩ (.int .u64 n7)) w.heap.size 11 30 (upd (upd h 4 n4) 5 n7) := S7s.out.blk
        have hO : Hid (Owns w.heap.size ((w7.setCell ⟨w.heap.size, 5, none⟩ (.int .u64 n7)).alloc (.cells #[.int .u8 n2] 5)) (.slice (some ⟨w7.heap.size, 0, none⟩) 1 1) [n2]) := by
          have q := owns_one (w7.setCell ⟨w.heap.size, 5, none⟩ (.int .u64 n7)) n2 S7s.out.1.size
          rwa [show (w7.setCell ⟨w.heap.size, 5, none⟩ (.int .u64 n7)).heap.size = w7.heap.size by simp [World.setCell]] at q
        have hR : PBlk ((w7.setCell ⟨w.heap.size, 5, none⟩ (.int .u64 n7)).alloc (.cells #[.int .u8 n2] 5)) (w.heap.size + 1) zf nilS := PBlk.alloc (w := (w7.setCell ⟨w.heap.size, 5, none⟩ (.int .u64 n7))) S7s.out.2.2.2.1 _
        go_wp2_with (first | (refine st23 (.tmp 31) (.tmp 30) rfl _ _ rfl _ rfl rfl 11 30 _ S7.out.blk (by omega) ?_) | (go_at_call 27; refine (must_true _).mono ?_; rintro e w8 ⟨rfl, rfl⟩) | (refine ld25 (.tmp 3) rfl _ rfl rfl (upd (upd h 4 n4) 5 n7) hbl ?_) | (refine bld27 (.tmp 39) (.tmp 42) rfl (upd (upd h 4 n4) 5 n7) _ _ _ rfl rfl rfl ?_) | (refine st27 (.tmp 4) (.tmp 43) rfl _ rfl (upd (upd h 4 n4) 5 n7) _ rfl rfl rfl zf nilS hR ?_))
        refine bodyPost_ret (v := pv (upd (upd h 4 n4) 5 n7) _) (res30 _ _ (w.heap.size + 1) (upd (upd h 4 n4) 5 n7) _ rfl (hR.setRow _ _)) rfl ⟨(S7s.out.1.alloc _).setRow _ (by omega), Or.inr ⟨(upd (upd h 4 n4) 5 n7), [n2], _, HP.out, rfl, hO.out.setRow _ hR (by decide)⟩⟩
      · have hd9 : ((r7.length : Int) == 0) = false := by simpa using hz
        have hd9' : (r7.length == 0) = false := by simpa using hz
        have HP : Hid (pArp h bs = none) := by show pArp h bs = _; simp [pArp, T1, T2, T3, T4, T6, T7, if_neg hz]
        clear hz
        go_wp2_with (first | (refine st23 (.tmp 31) (.tmp 30) rfl _ _ rfl _ rfl rfl 11 30 _ S7.out.blk (by omega) ?_) | (go_at_call 27; refine (must_false _).mono ?_; rintro e w8 ⟨rfl, rfl⟩))
        exact ⟨rfl, S7s.out.1, Or.inl ⟨HP.out, rfl⟩⟩
    · have hd : (n2 == 1) = false := by simp [h1]
      have hd' : (n2 == 2) = false := by simp [h2]
      have HP : Hid (pArp h bs = none) := by show pArp h bs = _; simp [pArp, T1, T2, h1, h2]
      clear h1 h2
      go_wp2_with (go_at_call 27; refine (must_false _).mono ?_; rintro e w2 ⟨rfl, rfl⟩)
      exact ⟨rfl, S2.out.1, Or.inl ⟨HP.out, rfl⟩⟩

set_option maxHeartbeats 400000 in
/-- WHAT body TAKES. -/
theorem body_any (c : Nat) (bs : List Int) (w : World) (hc : Cur w c bs) (hlen : bs.length ≤ 1500) :
    Calls Tryd.prog 31 #[.pointer (some ⟨c, 0, none⟩)] w fun e w' => ∃ v, e = .returned v ∧ Gr c w w' ∧ Owns w.heap.size w' v bs := by
  have hlt := hc.lt
  obtain ⟨v, h1, h2⟩ := hc
  have c0 := cell_of_one h1
  have HS : Hid (Sl c w v bs) := h2
  clear h2
  go_enter Tryd.func31, Tryd.ntmps31
  go_wp2_with (at_builtin; refine app22 (base := w.heap.size) (xs := []) (.const nilS) (.tmp 7) rfl rfl rfl rfl Owns.isNil HS.out (Nat.le_refl _) (by simp only [List.length_nil]; omega) ?_; intro v' w' X; have h1' : w'.heap[c]? = some (.cells #[v] 51 (0, 0)) := (X.belowNil.block c hlt).trans h1; have c1 := cell_of_one h1'; have f1 := free_of_one h1')
  rw [List.nil_append] at X
  have hG : Gr c w (w'.setCell ⟨c, 0, none⟩ nilS) := ⟨X.grown.os, X.grown.tape, X.grown.output, by simpa [World.setCell] using X.grown.size, fun k hk hne => by
    rw [Below.heap_setCell _ _ _ _ (by simpa using hne)]; exact X.belowNil.block k hk⟩
  have hO : Hid (Owns w.heap.size (w'.setCell ⟨c, 0, none⟩ nilS) v' bs) := by
    refine ownsRow_setCell_other X.own ?_ _
    intro e
    have := (X.own.lt c e).1
    omega
  clear X c0 HS h1
  go_ret
  exact ⟨v', rfl, hG, hO.out⟩
end Go.Proofs.YtioohgcaakcgaaaDoor
