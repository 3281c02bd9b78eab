/-
  Proved here: ScanKnown of the statements returns true. Condition: the laid variables.
-/
import Derived.Test.YtbbankcmeanjaaaDoorL5
import Derived.Test.YtbbankcmeanjaaaDoorL2
namespace Go.Proofs.YtbbankcmeanjaaaDoor
open Go.RowKit Go.Maps
set_option maxRecDepth 100000

set_option maxHeartbeats 3200000 in
theorem known_any (w : World) (hT : Tab w) : Calls Tryd.prog 5 #[] w fun e w' => e = .returned (.bool true) ∧ Below w.heap.size w w' := by
  have HAll : Hid (∀ s W, s.size ≤ 100 → Below w.heap.size w W → Calls Tryd.prog 6 #[.string s] W (AlP s W)) := fun s W hs hb => all_any s W (hT.on hb) (by omega)
  have HTd : Hid (∀ N c t W, c ≠ 0 → Below w.heap.size w W → W.heap[N]? = some (.cells (flc c 0 t) 41 (0, 0)) → Calls Tryd.prog 8 #[.iface 39 (.pointer (some ⟨N, 0, none⟩)), .agg (dfc c 0 t)] W fun e w' => e = .returned (.bool true) ∧ Below W.heap.size W w') := fun N c t W hc hb hN => told_hit N c 0 t W (hT.on hb) hc hN
  have HWk : Hid (∀ W, Below w.heap.size w W → Calls Tryd.prog 7 #[] W fun e w' => e = .returned (.bool true) ∧ Below W.heap.size W w') := fun W hb => wakes_any W (hT.on hb)
  have hmm := @run_makeMap Tryd.prog
  obtain ⟨W1, r1, L1⟩ := (Laid.new w).put (t := 33) Tryd.underlying33 kt1 (.int .u64 0) (by decide) (by decide)
  obtain ⟨W2, r2, L2⟩ := L1.put (t := 33) Tryd.underlying33 kt2 (.int .u64 18446744073709551615) (by decide) (by decide)
  obtain ⟨W3, r3, L3⟩ := L2.put (t := 33) Tryd.underlying33 kt3 (.int .u64 31) (by decide) (by decide)
  obtain ⟨W4, r4, L4⟩ := L3.put (t := 33) Tryd.underlying33 kt4 (.int .u64 4294967295) (by decide) (by decide)
  obtain ⟨W5, r5, L5⟩ := L4.put (t := 33) Tryd.underlying33 kt5 (.int .u64 10) (by decide) (by decide)
  obtain ⟨W6, r6, L6⟩ := L5.put (t := 33) Tryd.underlying33 kt6 (.int .u64 188900966474565) (by decide) (by decide)
  obtain ⟨n, D, hown, hwalk⟩ := L6.walk
  have HO := hid hown
  have HW := hid hwalk
  clear hown hwalk L1 L2 L3 L4 L5 L6
  go_enter Tryd.func5, Tryd.ntmps5
  go_upto_region 2 with (at_range; refine wpList_range_own _ rfl _ 33 rfl 9 29 lawS Tryd.underlying33 tok w.heap.size n D rfl HO.out ?_; intro w0 hrg0 hg0 hs0; have HG0 := hid (HW.out w0 hrg0 hg0); clear hrg0 hg0 hs0 HW)
  clear r1 r2 r3 r4 r5 r6 HO
  go_frame
  go_loopw [0] (fun v wr => v = .bool false ∧ Hid (Wk w w.heap.size W6.heap.size lK wr)) (fun _ wr => wr.rangeLeft w.heap.size W6.heap.size)
  case atStart => exact ⟨rfl, HG0⟩
  case round =>
    obtain ⟨rfl, HG⟩ := hrel
    generalize wr = wx at *
    obtain ⟨n1, D1, left, cnt, hrg, hstep⟩ := HG.out.step
    have HRg := hid hrg
    have HS := hid hstep
    have HLw := hid HG.out.low
    clear hrg hstep HG0
    obtain ⟨V1, r1, L1⟩ := (Laid.new wx).put (t := 37) Tryd.underlying37 ft1 (.agg (dfc 150 0 ft1)) (by decide) (by decide)
    obtain ⟨V2, r2, L2⟩ := L1.put (t := 37) Tryd.underlying37 ft2 (.agg (dfc 150 0 ft2)) (by decide) (by decide)
    obtain ⟨V3, r3, L3⟩ := L2.put (t := 37) Tryd.underlying37 ft3 (.agg (dfc 150 0 ⟨#[48, 120]⟩)) (by decide) (by decide)
    obtain ⟨V4, r4, L4⟩ := L3.put (t := 37) Tryd.underlying37 ft4 (.agg (dfc 3 0 ft4)) (by decide) (by decide)
    obtain ⟨V5, r5, L5⟩ := L4.put (t := 37) Tryd.underlying37 ft5 (.agg (dfc 150 0 ⟨#[55]⟩)) (by decide) (by decide)
    obtain ⟨V6, r6, L6⟩ := L5.put (t := 37) Tryd.underlying37 ft6 (.agg (dfc 150 0 ⟨#[64]⟩)) (by decide) (by decide)
    obtain ⟨m, E, hown, hwalk⟩ := L6.walk
    have HO := hid hown
    have HW := hid hwalk
    clear hown hwalk L1 L2 L3 L4 L5 L6
    go_wp2_with (first
      | (at_next; refine wpList_next_ranges _ rfl _ rfl 9 lawS tok (fun x : ByteArray => .string x) (fun x : Value => x) (fun key kl h => by obtain ⟨s, h, -⟩ := WideMaps.string_of_keyOf Tryd.underlying9 h; exact ⟨s, h⟩) (fun v _ _ => ⟨v, rfl⟩) w.heap.size W6.heap.size n1 D1 left cnt rfl HRg.out ?_ ?_
         all_goals (first
                   | (intro x c kl' y w1 cnt1 hkey hlk hv hat hrg1 hlt hg1 hs1 hen
                      obtain ⟨hN1, hN2, hN3⟩ := HS.out x c kl' y w1 cnt1 hkey hlk hv hat hrg1 hlt hg1 hs1
                      obtain ⟨num, z, e1, e2, e3⟩ := lK_all _ hN3
                      dsimp only at e1 e2 e3
                      subst e1
                      have HN := hid hN1
                      have HLt := hid hN2
                      have HAl := hid e3
                      have H1 := hid (HAll.out x w1 e2 hN1.low)
                      clear hkey hlk hv hat hrg1 hlt hg1 hs1 hN1 hN2 hN3 e2 e3 HO HW r1 r2 r3 r4 r5 r6)
                   | (intro hc0 hl0
                      clear hc0 hl0)))
      | (show wpList _ _ _ ({ dst := some 45, op := _, type := _, pos := _, after := _, guard := _ } :: _) _ _; refine stepVal (.agg (dfc 150 0 ft1)) rfl (by kernel_rfl) ?_)
      | (show wpList _ _ _ ({ dst := some 46, op := _, type := _, pos := _, after := _, guard := _ } :: _) _ _; refine stepVal (.agg (dfc 150 0 ft2)) rfl (by kernel_rfl) ?_)
      | (show wpList _ _ _ ({ dst := some 47, op := _, type := _, pos := _, after := _, guard := _ } :: _) _ _; refine stepVal (.agg (dfc 150 0 ⟨#[48, 120]⟩)) rfl (by kernel_rfl) ?_)
      | (show wpList _ _ _ ({ dst := some 48, op := _, type := _, pos := _, after := _, guard := _ } :: _) _ _; refine stepVal (.agg (dfc 3 0 ft4)) rfl (by kernel_rfl) ?_)
      | (show wpList _ _ _ ({ dst := some 49, op := _, type := _, pos := _, after := _, guard := _ } :: _) _ _; refine stepVal (.agg (dfc 150 0 ⟨#[55]⟩)) rfl (by kernel_rfl) ?_)
      | (show wpList _ _ _ ({ dst := some 50, op := _, type := _, pos := _, after := _, guard := _ } :: _) _ _; refine stepVal (.agg (dfc 150 0 ⟨#[64]⟩)) rfl (by kernel_rfl) ?_)
      | (at_range; refine wpList_range_own _ rfl _ 37 rfl 9 36 lawS Tryd.underlying37 tok wx.heap.size m E rfl HO.out ?_; intro w0 hrg0 hg0 hs0; have HG2 := hid (HW.out w0 hrg0 hg0); clear hrg0 hg0 hs0 HW)
      | (go_at_call 6; refine (H1.out).mono ?_; rintro e Wa ⟨hb1, hr1⟩; rw [HAl.out] at hr1; obtain ⟨v1, rfl, hw1⟩ := hr1
         obtain ⟨b, o, cap, rfl, hcap, -, hbl, hcl⟩ := hw1.cells (by simp)
         have c0 : Wa.cell? ⟨b, o, none⟩ = some (.int .i8 2) := by have := hcl 0 (by simp); exact this
         have c2 : Wa.cell? ⟨b, o + 2, none⟩ = some (.int .u64 num) := by have := hcl 2 (by simp); exact this
         have hcap' : 2 ≤ cap := hcap
         have HB1 := hid hb1; clear hb1 hw1 H1 hbl hcl hcap))
    · clear r1 r2 r3 r4 r5 r6 HO HS HRg HG
      go_frame
      go_loopw [0] (fun v wr => v = .bool false ∧ Hid (Wk wx wx.heap.size V6.heap.size lF wr)) (fun _ wr => wr.rangeLeft wx.heap.size V6.heap.size)
      case atStart => exact ⟨rfl, HG2⟩
      case round =>
        obtain ⟨rfl, HG⟩ := hrel
        generalize wr = wy at *
        obtain ⟨n2, D2, left2, cnt2, hrg, hstep⟩ := HG.out.step
        have HRg := hid hrg
        have HS := hid hstep
        clear hrg hstep HG2
        have HBy := hid (HLw.out.trans (HG.out.low.mono HLw.out.size))
        have HW := hid (HWk.out wy HBy.out)
        go_wp2_with (first
          | (at_next; refine wpList_next_ranges _ rfl _ rfl 9 lawS tok (fun x : ByteArray => .string x) (fun x : Value => x) (fun key kl h => by obtain ⟨s, h, -⟩ := WideMaps.string_of_keyOf Tryd.underlying9 h; exact ⟨s, h⟩) (fun v _ _ => ⟨v, rfl⟩) wx.heap.size V6.heap.size n2 D2 left2 cnt2 rfl HRg.out ?_ ?_
             all_goals (first
                   | (intro x c kl' y w1 cnt1 hkey hlk hv hat hrg1 hlt hg1 hs1 hen
                      obtain ⟨hN1, hN2, hN3⟩ := HS.out x c kl' y w1 cnt1 hkey hlk hv hat hrg1 hlt hg1 hs1
                      obtain ⟨num, t, e1, e0, e2, e3⟩ := lF_all _ hN3
                      dsimp only at e1 e0 e2 e3
                      subst e1
                      have HN := hid hN1
                      have HLt := hid hN2
                      have HAl := hid e3
                      have HNe := hid e0
                      have HXs := hid e2
                      clear hkey hlk hv hat hrg1 hlt hg1 hs1 hN1 hN2 hN3 e2 e3 e0 HW)
                   | (intro hc0 hl0
                      clear hc0 hl0)))
          | (go_at_call 7; refine (HW.out).mono ?_; rintro e W9 ⟨rfl, hb9⟩; have HB9 := hid hb9; clear hb9 HW)
          | (go_at_call 6
             have hA1 : Below w1.heap.size w1 (w1.alloc (.cells #[.int .i64 num, .int .i64 0, .string t] 36)) := (Below.refl _ _).alloc (Nat.le_refl _) _
             have hw1 := HLw.out.trans (HN.out.low.mono HLw.out.size)
             refine (HAll.out x _ HXs.out (hw1.trans (hA1.mono hw1.size))).mono ?_; rintro e Wb ⟨hb1, hr1⟩; rw [HAl.out] at hr1; obtain ⟨N, rfl, -, hf⟩ := hr1
             have q := (hb1.block w1.heap.size (by simp)).trans (heap_alloc_new w1 _)
             have c0 : Wb.cell? ⟨w1.heap.size, 0, none⟩ = some (.int .i64 num) := (cell_of_row _ _ _ _ _ _ q).trans rfl
             have c1 : Wb.cell? ⟨w1.heap.size, 1, none⟩ = some (.int .i64 0) := (cell_of_row _ _ _ _ _ _ q).trans rfl
             have c2 : Wb.cell? ⟨w1.heap.size, 2, none⟩ = some (.string t) := (cell_of_row _ _ _ _ _ _ q).trans rfl
             have hB1 := hA1.trans (hb1.mono hA1.size)
             have HB1 := hid hB1
             have HTx := hid (HTd.out N num t Wb HNe.out (hw1.trans (hB1.mono hw1.size)) hf)
             clear hb1 hf q hA1 hw1 hB1)
          | (go_at_call 8; refine (HTx.out).mono ?_; rintro e Wc ⟨rfl, hb3⟩; have HB3 := hid (HB1.out.trans (hb3.mono HB1.out.size)); clear hb3 HTx))
        · go_ret
          exact ⟨rfl, HBy.out.trans (HB9.out.mono HBy.out.size)⟩
        · exact ⟨⟨rfl, (HN.out.on HB3.out).1⟩, by rw [(HN.out.on HB3.out).2]; exact HLt.out⟩
    · exact ⟨⟨rfl, (HN.out.on HB1.out).1⟩, by rw [(HN.out.on HB1.out).2]; exact HLt.out⟩
end Go.Proofs.YtbbankcmeanjaaaDoor
