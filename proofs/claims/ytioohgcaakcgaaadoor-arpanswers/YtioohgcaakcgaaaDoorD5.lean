/-
  Proved here: the cursor's method packet reads what 'pPkt' says, or panics with ErrFrame; of the old memory the cursor's own cell alone turns. Condition: the widths' table holds its eleven numbers.
-/
import Derived.Test.YtioohgcaakcgaaaDoorD4
import Derived.Test.YtioohgcaakcgaaaDoorE2
namespace Go.Proofs.YtioohgcaakcgaaaDoor
open Go.RowKit

/-- What packet reads. -/
def pPkt (bs : List Int) : Option ((Nat → Int) × List Int) :=
  (pEth bs).bind fun q => if q.2.length ≤ 1500 then (if q.1 2 = 2054 then pArp q.1 q.2 else if q.1 2 = 2048 then (pIp q.1 q.2).bind fun u => pPorts u.1 u.2 else some (q.1, q.2)) else none
theorem res18 (tmps : Array Value) (w : World) (g : Nat) (m : Nat → Int) (v : Value) (hp : tmps.getD 2 undef = .pointer (some ⟨g, 0, none⟩)) (hg : PBlk w g m v) :
    (results Tryd.f22 tmps).run Tryd.prog w = .ok (pv m v) w :=
  results_cell_row Tryd.results22 tmps w g 32 _ (0, 0) _ hp hg Tryd.underlying32 rfl (size27 m v)
theorem Owns.mono {base base' : Nat} {w : World} {v : Value} {xs : List Int} (h : Owns base w v xs) (hb : base' ≤ base) : Owns base' w v xs := by
  refine ⟨h.1, ?_⟩
  rcases h.2 with h' | ⟨g, cap, cur, e, h1, r⟩
  · exact Or.inl h'
  · exact Or.inr ⟨g, cap, cur, e, by omega, r⟩
theorem Owns.slice {base : Nat} {w : World} {v : Value} {xs : List Int} (h : Owns base w v xs) : ∃ ao n c, v = .slice ao n c := by
  rcases h.2 with ⟨rfl, _⟩ | ⟨g, cap, cur, rfl, _⟩
  · exact ⟨_, _, _, rfl⟩
  · exact ⟨_, _, _, rfl⟩
theorem yB27 {ops : Array Oper} {o : Oper} {a : Act} {S : World → Prop} (x y : Operand) (ho : o.op = .build 32 #[(0, x), (1, y)]) (H : Nat → Int) (ao : Option Addr) (n c : Nat) (hx : a.eval x = hv H) (hy : a.eval y = .slice ao n c) (hw : Region.wanted o (yielded ops a.tmps) = true) :
    YieldsIf Tryd.prog ops S o (pv H (.slice ao n c)) a :=
  .inl ⟨hw, fun w _ => by
    unfold execOp
    have := run_build (P := Tryd.prog) w 32 #[(0, hv H), (1, .slice ao n c)] _ (built27 H ao n c)
    simp only [ho, List.map_toArray, List.map_cons, List.map_nil, hx, hy, Sem.run_bind, Sem.run_pure, Result.andThen_ok, this]⟩
/-- A header into the block that was made last. -/
theorem st25n {ops : Array Oper} {rest : List Oper} {o : Oper} {a : Act} {w : World} {Q : Exit → Act → World → Prop} (x y : Operand) (ho : o.op = .store 30 x y) (w0 : World) (z : Nat → Int) (hW : w = w0.alloc (.cells (row 11 z) 30)) (hx : a.eval x = .pointer (some ⟨w0.heap.size, 0, none⟩)) (m : Nat → Int) (hy : a.eval y = hv m) (hw : Region.wanted o (yielded ops a.tmps) = true)
    (h : wpList Tryd.prog ops Q rest (a.put o.dst undef) (w0.alloc (.cells (row 11 m) 30))) : wpList Tryd.prog ops Q (o :: rest) a w := by
  subst hW
  refine st25 x y ho _ hx m hy hw z (Blk.new w0 11 30 z) ?_
  rw [World.setRow_alloc_new]
  exact h
section
variable {w W W' : World} {c g rb : Nat} {r r' : List Int} {H : Nat → Int} {ob : Obj}
theorem Est.drew (h : Est w W c r g rb H ob) : Est w W.drew c r g rb H ob := by
  obtain ⟨h1, h2, h3, h4, h5⟩ := h
  exact ⟨⟨h1.os, h1.tape, h1.output, h1.size, h1.block⟩, h2.on (Below.refl _ _).drew, h3, h4, h5⟩
theorem ite_yes {p : Prop} [Decidable p] {A B : Prop} (hp : p) (h : A) : if p then A else B := by rw [if_pos hp]; exact h
theorem Est.row (h : Est w W c r g rb H ob) (H' : Nat → Int) : Est w (W.setRow g (row 11 H')) c r g rb H' ob := by
  obtain ⟨h1, h2, h3, h4, h5, h6, h7, h8⟩ := h
  exact ⟨h1.setRow _ h6, h2.setRow _ (by omega), h3.setRow H', by rw [setRow_other W g rb _ (by omega)]; exact h4, h5, h6, h7, h8⟩
/-- Behind ethernet: the header in a block of its own. -/
theorem pkt_start {w w1 : World} (hG : Gr c (w.alloc pz) w1) (hC : Cur w1 c r) (hlt : c < w.heap.size) (h : Nat → Int) : Est w (w1.alloc (.cells (row 11 h) 30)) c r w1.heap.size w.heap.size h pz := by
  have hs : w.heap.size + 1 ≤ w1.heap.size := by have := hG.size; simpa using this
  refine ⟨((Gr.refl c w).alloc _).trans (hG.alloc _), hC.alloc _, Blk.new w1 11 30 h, ?_, hlt, by omega, by omega, by omega⟩
  have hp : w1.heap[w.heap.size]? = some pz := by
    rw [hG.block w.heap.size (by simp) (by simp; omega)]; exact heap_alloc_new w pz
  rw [Below.heap_alloc _ _ _ (by omega)]; exact hp
end

theorem ex_len {k : Nat} {n : Int} {l r : List Int} (h : ex k n l = some r) : l.length = k + r.length := by
  unfold ex at h
  cases e : tk k l with
  | none => simp [e] at h
  | some p =>
    simp only [e, Option.bind_some] at h
    split at h
    · simp only [Option.some.injEq] at h
      subst h
      exact tk_len (n := p.1) (by rw [e])
    · cases h
theorem pIp_len {h h' : Nat → Int} {l r : List Int} (e : pIp h l = some (h', r)) (hl : l.length ≤ 1500) : r.length ≤ 1500 := by
  unfold pIp at e
  simp only [Option.bind_eq_some_iff] at e
  obtain ⟨a1, e1, a2, e2, a3, e3, a4, e4, p, e5, s, e6, f, e7, t, e8, e9⟩ := e
  split at e9
  · simp only [Option.some.injEq, Prod.mk.injEq] at e9
    have := ex_len e1; have := ex_len e2; have := ex_len e3; have := ex_len e4
    have := tk_len (n := p.1) (r := p.2) e5; have := tk_len (n := s.1) (r := s.2) e6; have := tk_len (n := f.1) (r := f.2) e7; have := tk_len (n := t.1) (r := t.2) e8
    rw [← e9.2]; omega
  · cases e9
theorem pPorts_len {h h' : Nat → Int} {l r : List Int} (e : pPorts h l = some (h', r)) (hl : l.length ≤ 1500) : r.length ≤ 1500 := by
  unfold pPorts at e
  split at e
  · simp only [Option.bind_eq_some_iff, Option.some.injEq, Prod.mk.injEq] at e
    obtain ⟨s, e1, d, e2, a1, e3, a2, e4, a3, e5, e6⟩ := e
    have := ex_len e3; have := ex_len e4; have := ex_len e5
    have := tk_len (n := s.1) (r := s.2) e1; have := tk_len (n := d.1) (r := d.2) e2
    rw [← e6.2]; omega
  · split at e
    · simp only [Option.bind_eq_some_iff, Option.some.injEq, Prod.mk.injEq] at e
      obtain ⟨s, e1, d, e2, a1, e3, a2, e4, e6⟩ := e
      have := ex_len e3; have := ex_len e4
      have := tk_len (n := s.1) (r := s.2) e1; have := tk_len (n := d.1) (r := d.2) e2
      rw [← e6.2]; omega
    · simp only [Option.some.injEq, Prod.mk.injEq] at e
      rw [← e.2]; exact hl

set_option maxHeartbeats 3200000 in
/-- WHAT packet READS. -/
theorem packet_any (c : Nat) (bs : List Int) (w : World) (hc : Cur w c bs) (hw : Tab w) (hc0 : 0 < c) :
    Calls Tryd.prog 22 #[.pointer (some ⟨c, 0, none⟩)] w fun e w' => OutP w c (pPkt bs) e w' := by
  have hlt := hc.lt
  have hC0 : Hid (Cur (w.alloc (.cells (prow zf nilS) 32)) c bs) := hc.alloc _
  have hT0 : Hid (Tab (w.alloc (.cells (prow zf nilS) 32))) := hw.on ((Below.refl _ _).alloc (Nat.le_refl _) _)
  clear hc hw
  go_enter Tryd.func22, Tryd.ntmps22
  go_wp2_with (refine alc27 rfl rfl ?_)
  go_fit (ethernet_any c bs _ hC0.out hT0.out hc0)
  rintro e w1 ⟨hG1, ⟨T1, rfl⟩ | ⟨h, r, T1, rfl, hC1⟩⟩
  · exact ⟨rfl, ((Gr.refl c w).alloc _).trans hG1, Or.inl ⟨by simp [pPkt, T1], rfl⟩⟩
  have E1 : Hid (Est w (w1.alloc (.cells (row 11 h) 30)) c r w1.heap.size w.heap.size h pz) := pkt_start hG1 hC1 hlt h
  clear hC0 hT0 hG1 hC1
  obtain ⟨W, hW⟩ : ∃ W, W = w1.alloc (.cells (row 11 h) 30) := ⟨_, rfl⟩
  obtain ⟨g, hg⟩ : ∃ g, g = w1.heap.size := ⟨_, rfl⟩
  have E2 : Hid (Est w W c r g w.heap.size h pz) := by rw [hW, hg]; exact E1
  have HW : Hid (W = w1.alloc (.cells (row 11 h) 30)) := hW
  have HG : Hid (g = w1.heap.size) := hg
  obtain ⟨ao, cap, c0⟩ := E1.out.bytes
  have hrl := E1.out.len
  have c2 := E1.out.blk.cell 2 (by omega)
  clear hW hg
  by_cases hl : r.length ≤ 1500
  · have hd : decide (r.length ≤ 1500) = true := by simpa using hl
    have hd' : decide ((r.length : Int) ≤ 1500) = true := decide_eq_true (by omega)
    by_cases hk : h 2 = 2054
    · have hk1 : (h 2 == 2054) = true := by simp [hk]
      have HP : Hid (pPkt bs = pArp h r) := by show pPkt bs = _; simp [pPkt, T1, hl, hk]
      clear hk
      go_wp2_with (first | (refine alc25 rfl rfl ?_) | (refine st25n (.tmp 3) (.tmp 5) rfl w1 zf rfl rfl h rfl rfl ?_) | (go_at_call 27; refine (must_true _).mono ?_; rintro e w8 ⟨rfl, rfl⟩) | (refine ld25 (.tmp 3) rfl _ rfl rfl h E1.out.blk ?_))
      go_fit (arp_any c h r _ E1.out.2.1)
      rintro e w3 ⟨hG3, ⟨T3, rfl⟩ | ⟨h', b, v, T3, rfl, hO3⟩⟩
      · exact ⟨rfl, E1.out.1.trans hG3, Or.inl ⟨by rw [HP.out, T3], rfl⟩⟩
      have hP3 : PBlk w3 w.heap.size zf nilS := hG3.pblk (f := zf) (v := nilS) E1.out.2.2.2.1 (by omega)
      obtain ⟨ao9, n9, c9, rfl⟩ := hO3.slice
      go_wp2_with (refine st27 (.tmp 2) (.tmp 19) rfl _ rfl h' _ rfl rfl rfl zf nilS hP3 ?_)
      refine bodyPost_ret (v := pv h' (.slice ao9 n9 c9)) (res18 _ _ w.heap.size h' _ rfl (hP3.setRow _ _)) rfl ⟨(E1.out.1.trans hG3).setRow _ (Nat.le_refl _), Or.inr ⟨h', b, _, by rw [HP.out, T3], rfl, (hO3.mono E1.out.1.size).setRow _ hP3 (by decide)⟩⟩
    · have hk1 : (h 2 == 2054) = false := by simp [hk]
      by_cases hk2 : h 2 = 2048
      · have hk3 : (h 2 == 2048) = true := by simp [hk2]
        have HP : Hid (pPkt bs = (pIp h r).bind fun u => pPorts u.1 u.2) := by show pPkt bs = _; simp [pPkt, T1, hl, hk2]
        clear hk hk2
        go_wp2_with (first | (refine alc25 rfl rfl ?_) | (refine st25n (.tmp 3) (.tmp 5) rfl w1 zf rfl rfl h rfl rfl ?_) | (go_at_call 27; refine (must_true _).mono ?_; rintro e w8 ⟨rfl, rfl⟩) | (refine ld25 (.tmp 3) rfl _ rfl rfl h E1.out.blk ?_))
        go_fit (ip_any c h r _ E1.out.2.1 hl)
        rintro e w3 ⟨hG3, ⟨T3, rfl⟩ | ⟨h', r', T3, rfl, hC3⟩⟩
        · exact ⟨rfl, E1.out.1.trans hG3, Or.inl ⟨by rw [HP.out, T3]; rfl, rfl⟩⟩
        have E3 : Hid (Est w w3 c r' g w.heap.size h pz) := by rw [HG.out]; exact E1.out.num hG3 hC3
        have hl3 : r'.length ≤ 1500 := pIp_len T3 hl
        clear E1 E2 hG3 hC3 c0 c2 HW hd hd'
        go_wp2_with fail
        go_fit (ports_any c h' r' _ E3.out.2.1 hl3)
        rintro e w4 ⟨hG4, ⟨T4, rfl⟩ | ⟨h2, r2, T4, rfl, hC4⟩⟩
        · exact ⟨rfl, E3.out.1.trans hG4, Or.inl ⟨by rw [HP.out, T3]; exact T4, rfl⟩⟩
        have E4 : Hid (Est w w4 c r2 g w.heap.size h pz) := E3.out.num hG4 hC4
        have E5 : Hid (Est w (w4.setRow g (row 11 h2)) c r2 g w.heap.size h2 pz) := E4.out.row h2
        have hl : r2.length ≤ 1500 := pPorts_len T4 hl3
        have HP2 : Hid (pPkt bs = some (h2, r2)) := by show pPkt bs = _; rw [HP.out, T3]; exact T4
        clear E3 hG4 hC4 HP
        have hg : w1.heap.size = g := HG.out.symm
        rw [hg]
        clear hg HG
        go_wp2_with (refine st25 (.tmp 3) (.tmp 26) rfl _ rfl h2 rfl rfl h E4.out.blk ?_)
        have E8 : Hid (Est w (w4.setRow g (row 11 h2)).drew c r2 g w.heap.size h2 pz) := E5.out.drew
        refine wp_region_noPanic ?_
        refine wp_region_held_drew (S := (fun w' => Blk w' g 11 30 h2)) (by kernel_rfl) (E8.out.blk) (fun hHeld => ?_)
        refine wpAnyH_take (i := 0) rfl (by kernel_rfl) (by kernel_rfl) (by kernel_rfl) (fun _ _ _ h => h) (y25 (.tmp 3) rfl _ rfl rfl h2 (fun _ hh => hh)) hHeld ?_
        simp only [Act.put, List.getElem_toArray, List.getElem_cons_zero, List.setIfInBounds_toArray, List.set_cons_zero, List.set_cons_succ]
        refine wpAnyH_take (i := 1) (v := ?_) rfl (by kernel_rfl) (by kernel_rfl) (by kernel_rfl) (fun _ _ _ h => h) (Or.inl ⟨by rfl, ?_⟩) hHeld ?_
        rotate_left
        · intro w hSw
          go_simp
          first | done | with_reducible rfl
        simp only [Act.put, List.getElem_toArray, List.getElem_cons_succ, List.getElem_cons_zero, List.setIfInBounds_toArray, List.set_cons_zero, List.set_cons_succ]
        refine wpAnyH_ready (rs := [2]) (by kernel_rfl) (by simp) ?_
        refine AllReadyH.cons rfl (fun K hK => ?_) AllReadyH.nil
        go_simp
        go_fit (body_any c r2 _ E8.out.2.1 hl)
        rintro e w9 ⟨v9, rfl, hG9, hO9⟩
        go_simp
        refine hK.out _ _ (hG9.blk hHeld (by have := E8.out.2.2.2.2; omega)) (fun hHeld => ?_)
        clear hK K
        obtain ⟨ao9, n9, c9, rfl⟩ := hO9.slice
        have hP9 : PBlk w9 w.heap.size zf nilS := hG9.pblk (f := zf) (v := nilS) E8.out.2.2.2.1 (by have := E8.out.2.2.2.2; omega)
        refine wpAnyH_take (i := 3) rfl (by kernel_rfl) (by kernel_rfl) (by kernel_rfl) (fun _ _ _ h => h) (yB27 (.tmp 27) (.tmp 29) rfl h2 ao9 n9 c9 rfl rfl rfl) hHeld ?_
        simp only [Act.put, List.getElem_toArray, List.getElem_cons_succ, List.getElem_cons_zero, List.setIfInBounds_toArray, List.set_cons_zero, List.set_cons_succ]
        refine wpAnyH_ready (rs := [4]) (by kernel_rfl) (by simp) ?_
        refine AllReadyH.cons rfl (fun K hK => ?_) AllReadyH.nil
        refine ite_yes (by rfl) ?_
        refine wp_store_row 32 (.tmp 2) (.tmp 30) rfl w.heap.size (prow h2 (.slice ao9 n9 c9)) rfl rfl 32 (prow zf nilS) hP9 (size27 _ _) (by rw [prow_size, prow_size]) (prow_one _ rfl) ?_
        refine hK.out _ _ (hHeld.setRowOther w.heap.size _ E8.out.2.2.2.2.2.2.2) (fun hHeld => ?_)
        clear hK K
        simp only [Act.put]
        refine wpAnyH_done (by kernel_rfl) ?_ _
        refine NoPanic.normal ?_
        clear hHeld
        go_wp2_with fail
        refine bodyPost_ret (v := pv h2 (.slice ao9 n9 c9)) (res18 _ _ w.heap.size h2 _ rfl (hP9.setRow _ _)) rfl ⟨(E8.out.1.trans hG9).setRow _ (Nat.le_refl _), Or.inr ⟨h2, r2, _, HP2.out, rfl, (hO9.mono E8.out.1.size).setRow _ hP9 (by decide)⟩⟩
      · have hk3 : (h 2 == 2048) = false := by simp [hk2]
        have HP : Hid (pPkt bs = some (h, r)) := by show pPkt bs = _; simp [pPkt, T1, hl, hk, hk2]
        clear hk hk2
        go_wp2_with (first | (refine alc25 rfl rfl ?_) | (refine st25n (.tmp 3) (.tmp 5) rfl w1 zf rfl rfl h rfl rfl ?_) | (go_at_call 27; refine (must_true _).mono ?_; rintro e w8 ⟨rfl, rfl⟩))
        have hg : w1.heap.size = g := HG.out.symm
        have hWW : w1.alloc (.cells (row 11 h) 30) = W := HW.out.symm
        rw [hWW, hg]
        clear hg hWW HG HW E1 c0 c2
        have E8 : Hid (Est w W.drew c r g w.heap.size h pz) := E2.out.drew
        refine wp_region_noPanic ?_
        refine wp_region_held_drew (S := (fun w' => Blk w' g 11 30 h)) (by kernel_rfl) (E8.out.blk) (fun hHeld => ?_)
        refine wpAnyH_take (i := 0) rfl (by kernel_rfl) (by kernel_rfl) (by kernel_rfl) (fun _ _ _ h => h) (y25 (.tmp 3) rfl _ rfl rfl h (fun _ hh => hh)) hHeld ?_
        simp only [Act.put, List.getElem_toArray, List.getElem_cons_zero, List.setIfInBounds_toArray, List.set_cons_zero, List.set_cons_succ]
        refine wpAnyH_take (i := 1) (v := ?_) rfl (by kernel_rfl) (by kernel_rfl) (by kernel_rfl) (fun _ _ _ h => h) (Or.inl ⟨by rfl, ?_⟩) hHeld ?_
        rotate_left
        · intro w hSw
          go_simp
          first | done | with_reducible rfl
        simp only [Act.put, List.getElem_toArray, List.getElem_cons_succ, List.getElem_cons_zero, List.setIfInBounds_toArray, List.set_cons_zero, List.set_cons_succ]
        refine wpAnyH_ready (rs := [2]) (by kernel_rfl) (by simp) ?_
        refine AllReadyH.cons rfl (fun K hK => ?_) AllReadyH.nil
        go_simp
        go_fit (body_any c r _ E8.out.2.1 hl)
        rintro e w9 ⟨v9, rfl, hG9, hO9⟩
        go_simp
        refine hK.out _ _ (hG9.blk hHeld (by have := E8.out.2.2.2.2; omega)) (fun hHeld => ?_)
        clear hK K
        obtain ⟨ao9, n9, c9, rfl⟩ := hO9.slice
        have hP9 : PBlk w9 w.heap.size zf nilS := hG9.pblk (f := zf) (v := nilS) E8.out.2.2.2.1 (by have := E8.out.2.2.2.2; omega)
        refine wpAnyH_take (i := 3) rfl (by kernel_rfl) (by kernel_rfl) (by kernel_rfl) (fun _ _ _ h => h) (yB27 (.tmp 27) (.tmp 29) rfl h ao9 n9 c9 rfl rfl rfl) hHeld ?_
        simp only [Act.put, List.getElem_toArray, List.getElem_cons_succ, List.getElem_cons_zero, List.setIfInBounds_toArray, List.set_cons_zero, List.set_cons_succ]
        refine wpAnyH_ready (rs := [4]) (by kernel_rfl) (by simp) ?_
        refine AllReadyH.cons rfl (fun K hK => ?_) AllReadyH.nil
        refine ite_yes (by rfl) ?_
        refine wp_store_row 32 (.tmp 2) (.tmp 30) rfl w.heap.size (prow h (.slice ao9 n9 c9)) rfl rfl 32 (prow zf nilS) hP9 (size27 _ _) (by rw [prow_size, prow_size]) (prow_one _ rfl) ?_
        refine hK.out _ _ (hHeld.setRowOther w.heap.size _ E8.out.2.2.2.2.2.2.2) (fun hHeld => ?_)
        clear hK K
        simp only [Act.put]
        refine wpAnyH_done (by kernel_rfl) ?_ _
        refine NoPanic.normal ?_
        clear hHeld
        go_wp2_with fail
        refine bodyPost_ret (v := pv h (.slice ao9 n9 c9)) (res18 _ _ w.heap.size h _ rfl (hP9.setRow _ _)) rfl ⟨(E8.out.1.trans hG9).setRow _ (Nat.le_refl _), Or.inr ⟨h, r, _, HP.out, rfl, (hO9.mono E8.out.1.size).setRow _ hP9 (by decide)⟩⟩
  · have hd : decide (r.length ≤ 1500) = false := by simpa using hl
    have hd' : decide ((r.length : Int) ≤ 1500) = false := decide_eq_false (by omega)
    have HP : Hid (pPkt bs = none) := by show pPkt bs = _; simp [pPkt, T1, hl]
    go_wp2_with (first | (refine alc25 rfl rfl ?_) | (refine st25n (.tmp 3) (.tmp 5) rfl w1 zf rfl rfl h rfl rfl ?_) | (go_at_call 27; refine (must_false _).mono ?_; rintro e w8 ⟨rfl, rfl⟩))
    exact ⟨rfl, E1.out.1, Or.inl ⟨HP.out, rfl⟩⟩
end Go.Proofs.YtioohgcaakcgaaaDoor
