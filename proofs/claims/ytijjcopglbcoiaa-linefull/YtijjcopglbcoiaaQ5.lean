/-
  Proved here: take of package line makes of an end what 'hear' says. Conditions: all blocks to come are the end's, the messages lie in none of its blocks; its numbers are below 2 to 31.
-/
import Derived.Test.YtijjcopglbcoiaaQ4
import Derived.Test.YtijjcopglbcoiaaD4
namespace Go.Proofs.Ytijjcopglbcoiaa
open Go.RowKit Seal

/-- Within take: the end v stands for e, its memory lies in S; the datagram lies in block d, its messages in T. -/
structure TkS (S T : Nat → Prop) (d : Nat) (v vl : Value) (p c q : Nat) (l : List (List Int)) (w : World) (e : E) : Prop where
  qe : QE S w v e
  fresh : Fresh S w
  nd : ¬ S d
  blk : w.heap[d]? = some (.cells (dgc p c q vl) 62 (0, 0))
  ls : Ls T w vl l
  tS : ∀ k, T k → ¬ S k
theorem TkS.step {S T : Nat → Prop} {d : Nat} {v vl : Value} {p c q : Nat} {l : List (List Int)} {w w' : World} {e e' : E} (h : TkS S T d v vl p c q l w e) (ho : Only S w w') (hq : QE S w' v e') : TkS S T d v vl p c q l w' e' :=
  ⟨hq, h.fresh.on ho.size, h.nd, by rw [ho.block d h.nd]; exact h.blk, h.ls.on ho h.tS, h.tS⟩
theorem TkS.drewN {S T : Nat → Prop} {d : Nat} {v vl : Value} {p c q : Nat} {l : List (List Int)} {w : World} {e : E} (h : TkS S T d v vl p c q l w e) (n : Nat) : TkS S T d v vl p c q l (w.drewN n) e :=
  h.step ⟨rfl, rfl, rfl, Nat.le_refl _, fun _ _ => rfl⟩ (h.qe.carry fun _ _ h => ⟨h, rfl⟩)
/-- The cells that take reads. -/
theorem TkS.cells {S T : Nat → Prop} {d g : Nat} {vl : Value} {p c q : Nat} {l : List (List Int)} {w : World} {e : E} (h : TkS S T d (.pointer (some ⟨g, 0, none⟩)) vl p c q l w e) :
    w.cell? ⟨g, 0, none⟩ = some (.int .u32 e.ep) ∧ w.cell? ⟨g, 3, none⟩ = some (.int .u64 e.come) ∧ w.cell? ⟨d, 0, none⟩ = some (.int .u32 (p : Nat)) ∧ w.cell? ⟨d, 1, none⟩ = some (.int .u64 (c : Nat)) ∧ w.cell? ⟨d, 2, none⟩ = some (.int .u64 (q : Nat)) ∧ w.cell? ⟨d, 3, none⟩ = some vl := by
  obtain ⟨g', f, vs, vn, hv, h2, h3, h4, h5, h6⟩ := h.qe
  simp only [Value.pointer.injEq, Option.some.injEq, Addr.mk.injEq, and_true] at hv
  subst hv
  obtain ⟨c0, _, _, c3, _⟩ := end_cells h4
  obtain ⟨d0, d1, d2, d3, _⟩ := dg_cells h.blk
  exact ⟨c0, c3, d0, d1, d2, d3⟩

set_option maxRecDepth 100000 in
set_option maxHeartbeats 1600000 in
theorem take_any (S T : Nat → Prop) (v vl : Value) (e : E) (p c q : Nat) (l : List (List Int)) (w : World) (h : QE S w v e) (hf : Fresh S w) (hfit : Fit e) (hc : c < 4294967296) (hq : q < 4294967296) (hll : l.length ≤ 32) (hl : Ls T w vl l) (hT : ∀ k, T k → ¬ S k) :
    Calls Try.prog 35 #[v, .agg (dgc p c q vl)] w fun r w' => r = .returned (.tuple #[]) ∧ Only S w w' ∧ QE S w' v (hear e p c q l) := by
  obtain ⟨g, hv⟩ : ∃ g, v = .pointer (some ⟨g, 0, none⟩) := by
    obtain ⟨g, _, _, _, hv, _⟩ := h
    exact ⟨g, hv⟩
  subst hv
  obtain ⟨lo, lc, hle, -⟩ := id hl
  subst hle
  obtain ⟨W, hW⟩ : ∃ W, W = w.alloc (.cells (dgc p c q (.slice lo l.length lc)) 62) := ⟨_, rfl⟩
  obtain ⟨S3, hS3⟩ : ∃ S3 : Nat → Prop, S3 = fun k => S k ∧ k ≠ w.heap.size := ⟨_, rfl⟩
  have hWo : Only S w W := by rw [hW]; exact (Only.refl S w).alloc hf _
  have hSS : ∀ k, S3 k → S k := fun k hk => by rw [hS3] at hk; exact hk.1
  have H0 : Hid (TkS S3 T w.heap.size (.pointer (some ⟨g, 0, none⟩)) (.slice lo l.length lc) p c q l W e) := by
    refine ⟨h.carry fun k hk hk2 => ?_, fun k hk => ?_, fun hk => ?_, ?_, ?_, fun k hk hk3 => hT k hk (hSS k hk3)⟩
    · rw [hS3, hW]; exact ⟨⟨hk2, by omega⟩, heap_alloc_old _ _ hk⟩
    · rw [hS3]; rw [hW] at hk; simp at hk; exact ⟨hf k (by omega), by omega⟩
    · rw [hS3] at hk; exact hk.2 rfl
    · rw [hW]; exact heap_alloc_new _ _
    · rw [hW]; exact hl.carry fun k hk hk2 => ⟨hk2, heap_alloc_old _ _ hk⟩
  have HW : Hid (W = w.alloc (.cells (dgc p c q (.slice lo l.length lc)) 62)) := hW
  have HO : Hid (∀ wx ex, TkS S3 T w.heap.size (.pointer (some ⟨g, 0, none⟩)) (.slice lo l.length lc) p c q l wx ex → Only S w wx → QE S wx (.pointer (some ⟨g, 0, none⟩)) ex) := fun wx ex ht _ => ht.qe.carry fun k _ hk => ⟨hSS k hk, rfl⟩
  have HWo : Hid (Only S w W) := hWo
  have HSS : Hid (∀ a b, Only S3 a b → Only S a b) := fun a b hab => hab.mono hSS
  have HF : Hid (Fit e) := hfit
  clear h hf hl hT hW hS3 hWo hSS hfit
  go_enter Try.func35, Try.ntmps35
  go_upto_region 1 with fail
  rw [← HW.out]
  clear HW
  obtain ⟨c0, c3, d0, d1, d2, d3⟩ := H0.out.cells
  by_cases hlow : p < e.ep
  · have HE : Hid (hear e p c q l = e) := by show _ = _; unfold hear; rw [if_pos hlow]
    go_quiet (fail)
    go_wp2
    first | go_end0 | refine bodyPost_ret (results_none rfl _ _ _) rfl ?_
    have ho : Only S w (W.drewN nq) := ⟨HWo.out.os, HWo.out.tape, HWo.out.output, HWo.out.size, HWo.out.block⟩
    exact ⟨rfl, ho, by rw [HE.out]; exact HO.out _ _ (H0.out.drewN nq) ho⟩
  · have HE : Hid (hear e p c q l = ad (gt (rs e p) c) q l) := by show _ = _; unfold hear; rw [if_neg hlow]
    have hd1 : decide ((p : Int) < (e.ep : Int)) = false := by simp; omega
    go_quiet (fail)
    go_upto_region 2 with fail
    have H1 : Hid (TkS S3 T w.heap.size (.pointer (some ⟨g, 0, none⟩)) (.slice lo l.length lc) p c q l (W.drewN nq) e) := H0.out.drewN nq
    have HO1 : Hid (Only S w (W.drewN nq)) := ⟨HWo.out.os, HWo.out.tape, HWo.out.output, HWo.out.size, HWo.out.block⟩
    clear c0 c3 d0 d1 d2 d3 H0 HWo
    generalize W.drewN nq = W1 at H1 HO1 ⊢
    obtain ⟨c0, c3, d0, d1, d2, d3⟩ := H1.out.cells
    go_cut [19] (fun s wx => s = .bool (decide (e.ep < p)) ∧ TkS S3 T w.heap.size (.pointer (some ⟨g, 0, none⟩)) (.slice lo l.length lc) p c q l wx e ∧ Only S w wx)
    case first =>
      by_cases hgt : e.ep < p
      · go_quiet (fail)
        go_wp2_with fail
        go_meet
        case rel => exact ⟨by simp [hgt], H1.out.drewN nq, ⟨HO1.out.os, HO1.out.tape, HO1.out.output, HO1.out.size, HO1.out.block⟩⟩
      · go_quiet (fail)
        go_wp2_with fail
        go_meet
        case rel => exact ⟨by simp [hgt], H1.out.drewN nq, ⟨HO1.out.os, HO1.out.tape, HO1.out.output, HO1.out.size, HO1.out.block⟩⟩
    case rest =>
      obtain ⟨rfl, h2, ho2⟩ := hcut
      clear c0 c3 d0 d1 d2 d3 H1 HO1
      obtain ⟨c0, c3, d0, d1, d2, d3⟩ := h2.cells
      have H2 : Hid (TkS S3 T w.heap.size (.pointer (some ⟨g, 0, none⟩)) (.slice lo l.length lc) p c q l wc e) := h2
      have HO2 : Hid (Only S w wc) := ho2
      clear h2 ho2
      go_upto_if 19 with fail
      go_cut [] (fun wx => TkS S3 T w.heap.size (.pointer (some ⟨g, 0, none⟩)) (.slice lo l.length lc) p c q l wx (rs e p) ∧ Only S w wx)
      case first =>
        by_cases hgt : e.ep < p
        · have hdt : decide (e.ep < p) = true := by simpa using hgt
          rw [hdt]
          go_wp2_with (go_at_call 17; refine (qreset_any S3 _ e p wc H2.out.qe).mono ?_; rintro r w3 ⟨rfl, ho3, h3⟩)
          go_meet
          case rel => exact ⟨by rw [show rs e p = E.mk0 p from if_pos hgt]; exact H2.out.step ho3 h3, HO2.out.trans (HSS.out _ _ ho3)⟩
        · have hdt : decide (e.ep < p) = false := by simpa using hgt
          rw [hdt]
          go_wp2_with fail
          go_meet
          case rel => exact ⟨by rw [show rs e p = e from if_neg hgt]; exact H2.out, HO2.out⟩
      case rest =>
        obtain ⟨h3, ho3⟩ := hcut
        have hfit1 : (rs e p).got + (rs e p).sent.length < 2000000000 ∧ (rs e p).come < 2000000000 ∧ (rs e p).new.length < 2000000000 := by
          have := HF.out
          unfold rs; split
          · simp [E.mk0]
          · exact ⟨this.got, this.come, this.new⟩
        clear c0 c3 d0 d1 d2 d3 H2 HO2
        generalize rs e p = e1 at *
        obtain ⟨c0, c3, d0, d1, d2, d3⟩ := h3.cells
        have H3 : Hid (TkS S3 T w.heap.size (.pointer (some ⟨g, 0, none⟩)) (.slice lo l.length lc) p c q l wc e1) := h3
        have HO3 : Hid (Only S w wc) := ho3
        clear h3 ho3
        have HSet : Hid (Calls Try.prog 47 #[.pointer (some ⟨g, 0, none⟩), .int .u64 (c : Nat)] wc fun r w' => r = .returned (.tuple #[]) ∧ Only S3 wc w' ∧ QE S3 w' (.pointer (some ⟨g, 0, none⟩)) (gt e1 c)) := settle_any S3 _ e1 c wc H3.out.qe H3.out.fresh hc hfit1.1
        have hfit2 : (gt e1 c).come < 2000000000 ∧ (gt e1 c).new.length < 2000000000 := by
          unfold gt; split
          · exact hfit1.2
          · exact hfit1.2
        go_upto_region 5 with (go_at_call 47; refine (HSet.out).mono ?_; rintro r w4 ⟨rfl, ho4, h4⟩
                               have H4 : Hid (TkS S3 T w.heap.size (.pointer (some ⟨g, 0, none⟩)) (.slice lo l.length lc) p c q l w4 (gt e1 c)) := H3.out.step ho4 h4
                               have HO4 : Hid (Only S w w4) := HO3.out.trans (HSS.out _ _ ho4)
                               clear ho4 h4)
        clear HSet H3 HO3 c0 c3 d0 d1 d2 d3 hfit1
        generalize gt e1 c = e2 at *
        obtain ⟨c0, c3, d0, d1, d2, d3⟩ := H4.out.cells
        go_wp2
        go_loopw [4, 5, 31] (fun x y i wr => ∃ j : Nat, j ≤ l.length ∧ i = .int .i64 j ∧ TkS S3 T w.heap.size (.pointer (some ⟨g, 0, none⟩)) (.slice lo l.length lc) p c q l wr (ad e2 q (l.take j)) ∧ Only S w wr) (fun _ _ i _ => l.length - (intOf i).toNat)
        case atStart => exact ⟨0, by omega, rfl, H4.out, HO4.out⟩
        case round =>
          obtain ⟨j, hj, rfl, ht, ho⟩ := hrel
          clear c0 c3 d0 d1 d2 d3 H4 HO4
          have HT : Hid (TkS S3 T w.heap.size (.pointer (some ⟨g, 0, none⟩)) (.slice lo l.length lc) p c q l wr (ad e2 q (l.take j))) := ht
          have HOr : Hid (Only S w wr) := ho
          clear ho
          by_cases hlt : j < l.length
          · have HN := ad_take hlt e2 q
            have hbd := ad_bd (l.take j) e2 q
            rw [List.length_take, Nat.min_eq_left hj] at hbd
            have HNX : Hid (ad e2 q (l.take (j + 1)) = adS (ad e2 q (l.take j)) (q + j) (l.getD j [])) := HN
            obtain ⟨_, _, e9, -, -, -, h9⟩ := ht.ls
            obtain ⟨b, o, hTb, e8, h7⟩ := h9 (fun e => by rw [e] at hlt; simp at hlt)
            obtain ⟨um, hum, hus⟩ := h7 j hlt
            simp only [Value.slice.injEq] at e9
            have e7 : lo = some ⟨b, o, none⟩ := e9.1.trans e8
            clear e9 h9 e8 h7 HN ht
            subst e7
            obtain ⟨m, hm⟩ : ∃ m, m = l.getD j [] := ⟨_, rfl⟩
            rw [← hm] at hus HNX
            clear hm
            generalize ad e2 q (l.take j) = ej at *
            have hcj : ej.come < 2000000100 := by omega
            have hnj : ej.new.length < 2000000100 := by omega
            have HU : Hid (SlC T wr um m) := hus
            obtain ⟨ua, uc, rfl, -⟩ := hus
            obtain ⟨c0, c3, d0, d1, d2, d3⟩ := HT.out.cells
            clear hbd
            go_upto_region 8 with fail
            by_cases hqj : q + j = ej.come
            · have HA : Hid (adS ej (q + j) m = { ej with new := ej.new ++ [m], come := ej.come + 1 }) := by show _ = _; unfold adS; rw [if_pos hqj]
              have hqf : ((q : Int) + (j : Int) == (ej.come : Int)) = true := by simp; omega
              clear hqj
              go_quiet (fail)
              go_upto_region 9 with fail
              have HT2 : Hid (TkS S3 T w.heap.size (.pointer (some ⟨g, 0, none⟩)) (.slice (some ⟨b, o, none⟩) l.length lc) p c q l (wr.drewN nq) ej) := HT.out.drewN nq
              have HU2 : Hid (SlC T (wr.drewN nq) (.slice ua m.length uc) m) := HU.out.carry fun _ _ h => ⟨h, rfl⟩
              have HO2 : Hid (Only S w (wr.drewN nq)) := ⟨HOr.out.os, HOr.out.tape, HOr.out.output, HOr.out.size, HOr.out.block⟩
              clear c0 c3 d0 d1 d2 d3 HT HU HOr hum
              generalize wr.drewN nq = wq at HT2 HU2 HO2 ⊢
              have HAc : Hid (Calls Try.prog 48 #[.pointer (some ⟨g, 0, none⟩), .slice ua m.length uc] wq fun r w' => r = .returned (.tuple #[]) ∧ Only S3 wq w' ∧ QE S3 w' (.pointer (some ⟨g, 0, none⟩)) { ej with new := ej.new ++ [m], come := ej.come + 1 }) := accept_any S3 _ ej wq.heap.size _ m wq HT2.out.qe HT2.out.fresh HU2.out.sl (Nat.le_refl _) hcj hnj
              go_wp2_with (go_at_call 48; refine (HAc.out).mono ?_; rintro r w5 ⟨rfl, ho5, h5⟩)
              go_roundw
              case rel => exact ⟨j + 1, by omega, by go_num, by rw [HNX.out, HA.out]; exact HT2.out.step ho5 h5, HO2.out.trans (HSS.out _ _ ho5)⟩
              case measure => simp [intOf]; omega
            · have HA : Hid (adS ej (q + j) m = ej) := by show _ = _; unfold adS; rw [if_neg hqj]
              have hqf : ((q : Int) + (j : Int) == (ej.come : Int)) = false := by simp; omega
              clear hqj
              go_quiet (fail)
              go_wp2
              go_roundw
              case rel => exact ⟨j + 1, by omega, by go_num, by rw [HNX.out, HA.out]; exact HT.out.drewN nq, ⟨HOr.out.os, HOr.out.tape, HOr.out.output, HOr.out.size, HOr.out.block⟩⟩
              case measure => simp [intOf]; omega
          · obtain rfl : j = l.length := by omega
            rw [List.take_length] at HT
            go_wp2
            first | go_end0 | refine bodyPost_ret (results_none rfl _ _ _) rfl ?_
            exact ⟨rfl, HOr.out, by rw [HE.out]; exact HO.out _ _ HT.out HOr.out⟩
end Go.Proofs.Ytijjcopglbcoiaa
