/-
  Proved here: wakes of the statements says true. Condition: the laid variables.
-/
import Derived.Test.YtcifeankgnjndaaGreatDoorFBL
import Derived.Test.YtcifeankgnjndaaGreatDoorFE3
namespace Go.Proofs.YtcifeankgnjndaaGreatDoor
set_option maxRecDepth 100000
open Go.RowKit
set_option maxRecDepth 100000

abbrev tW1 : ByteArray := ⟨#[102, 105, 108, 116, 101, 114, 32, 116, 111, 61, 49, 48, 46, 48, 46, 48, 46, 49, 32, 59, 32, 112, 111, 114, 116, 58, 61, 50]⟩
abbrev tW2 : ByteArray := ⟨#[102, 105, 108, 116, 101, 114]⟩
abbrev tW3 : ByteArray := ⟨#[105, 102, 32, 112, 114, 111, 116, 111, 61, 54, 32, 116, 104, 101, 110, 32, 112, 111, 114, 116, 58, 61, 49, 32, 101, 108, 115, 101, 32, 100, 114, 111, 112, 32, 99, 111, 117, 110, 116, 32, 119, 101, 98, 32, 61, 32, 100, 112, 111, 114, 116, 61, 56, 48, 32, 38, 32, 112, 114, 111, 116, 111, 61, 54]⟩
abbrev pW1 : Po := ⟨ov 9 [ov 6 [.mk 2 5 167772161 []], .mk 7 9 2 []], []⟩
theorem prs_W1 : prs tW1 = .ok pW1 := by kernel_rfl
theorem prs_W2 : prs tW2 = .no 160 6 ⟨#[]⟩ := by kernel_rfl
abbrev pr6 : Tm := .mk 2 6 6 []
abbrev pW3 : Po := ⟨iteT pr6 (.mk 7 9 1 []) (ov 6 [ov 0 []]), [⟨⟨#[119, 101, 98]⟩, ov 4 [.mk 2 8 80 [], pr6]⟩]⟩
theorem prs_W3 : prs tW3 = .ok pW3 := by kernel_rfl
theorem TmL.rng {S : Nat → Prop} {w : World} {ks : List Tm} {v : Value} {xs : List Value} (h : Rw S 4 27 w v ks.length xs) (hl : TmL S w ks xs) {j : Nat} (hj : j < ks.length) : ∃ g o cap, v = .slice (some ⟨g, o, none⟩) ks.length cap ∧ ks.length ≤ cap ∧ S g ∧ g < w.heap.size ∧ ∃ ds, TmV S w ks[j] ds ∧ w.rangeAt g (o + j * 4) ds.toList := by
  obtain ⟨hx, ⟨e, h0⟩ | ⟨g, o, cap', cur, e, hS, hg, hc, hs, ht⟩⟩ := h
  · omega
  · obtain ⟨ds, h4, h5⟩ := TmL.at ks xs j hj hl
    refine ⟨g, o, cap', e, hc, hS, (Array.getElem?_eq_some_iff.1 hg).1, ds, h4, range_of fun i hi => ?_⟩
    have hi4 : i < 4 := by rw [h4.size] at hi; exact hi
    have hb : j * 4 + i < ks.length * 4 := by omega
    rw [cell_of_row _ _ _ _ _ _ hg, Nat.add_assoc, cells_at ht hb, h5 i hi4]
theorem wk1 (w : World) (hT : Tab w) : Calls Tryz.prog 9 #[.string tW1] w fun e w' => Below w.heap.size w w' ∧ ∃ g o cap qa qn qc xa xn xc, e = .returned (.tuple #[.agg #[.int .i8 9, .int .i8 0, .int .u64 0, .slice (some ⟨g, o, none⟩) 2 cap, .slice qa qn qc], .nilIface]) ∧ 2 ≤ cap ∧ g < w'.heap.size ∧ w'.rangeAt g (o + 4) (#[.int .i8 7, .int .i8 9, .int .u64 2, .slice xa xn xc] : Array Value).toList := by
  refine (policy_any tW1 w hT.z (by decide)).mono ?_
  intro e w' h
  unfold PlP at h
  rw [prs_W1] at h
  obtain ⟨h1, cs, rfl, ms, qv, xs, rfl, h2, h3, -⟩ := h
  obtain ⟨v, ys, rfl, h5, h6⟩ := h2.get
  obtain ⟨g, o, cap, rfl, hc, -, hg, ds, ht, hr⟩ := TmL.rng h5 h6 (j := 1) (by decide)
  obtain ⟨v2, zs, rfl, h7, -⟩ := TmV.get ht
  obtain ⟨xa, xc, rfl⟩ := h7.form
  obtain ⟨qa, qc, rfl⟩ := h3.form
  exact ⟨h1, g, o, cap, qa, _, qc, xa, _, xc, rfl, hc, hg, hr⟩
theorem wk3 (w : World) (hT : Tab w) : Calls Tryz.prog 9 #[.string tW3] w fun e w' => Below w.heap.size w w' ∧ ∃ g o cap xa xn xc, e = .returned (.tuple #[.agg #[.int .i8 8, .int .i8 0, .int .u64 0, .slice xa xn xc, .slice (some ⟨g, o, none⟩) 1 cap], .nilIface]) ∧ 1 ≤ cap ∧ g < w'.heap.size ∧ w'.cell? ⟨g, o, none⟩ = some (.string ⟨#[119, 101, 98]⟩) := by
  refine (policy_any tW3 w hT.z (by decide)).mono ?_
  intro e w' h
  unfold PlP at h
  rw [prs_W3] at h
  obtain ⟨h1, cs, rfl, ms, qv, xs, rfl, h2, h3, h4⟩ := h
  obtain ⟨v, ys, rfl, h5, -⟩ := TmV.get h2
  obtain ⟨xa, xc, rfl⟩ := h5.form
  obtain ⟨ds, -, hq⟩ := QyL.at _ xs 0 (by decide) h4
  obtain ⟨hx, ⟨e, h0⟩ | ⟨g, o, cap, cur, rfl, hS, hg, hc, hs, ht⟩⟩ := h3
  · exact absurd h0 (by decide)
  · refine ⟨h1, g, o, cap, xa, _, xc, rfl, hc, (Array.getElem?_eq_some_iff.1 hg).1, ?_⟩
    have h0 := hq 0 (by decide)
    have := cells_at ht (j := 0) (by decide)
    rw [cell_of_row _ _ _ _ _ _ hg]
    rw [Nat.add_zero] at this
    rw [this]
    exact h0
theorem wk2 (w : World) (hT : Tab w) : Calls Tryz.prog 9 #[.string tW2] w fun e w' => Below w.heap.size w w' ∧ ∃ N, e = .returned (.tuple #[.agg #[.int .i8 0, .int .i8 0, .int .u64 0, .slice none 0 0, .slice none 0 0], .iface 66 (ptr N)]) ∧ w'.heap[N]? = some (.cells (flc 160 6 ⟨#[]⟩) 68 (0, 0)) := by
  refine (policy_any tW2 w hT.z (by decide)).mono ?_
  intro e w' h
  unfold PlP at h
  rw [prs_W2] at h
  obtain ⟨h1, N, h2, -, h4⟩ := h
  exact ⟨h1, N, h2, h4⟩
set_option maxHeartbeats 6400000 in
theorem wakes_any (w : World) (hT : Tab w) : Calls Tryz.prog 8 #[] w fun e w' => e = .returned (.bool true) ∧ Below w.heap.size w w' := by
  have H1 := hid (wk1 w hT)
  have HTb := hid hT
  clear hT
  go_enter Tryz.func8, Tryz.ntmps8
  go_upto_region 2 with (go_at_call 9; refine (H1.out).mono ?_; rintro e W1 ⟨hb1, g, o, cap, qa, qn, qc, xa, xn, xc, rfl, h1, h2, h3⟩; have HX1 := hid (And.intro h2 h3); have HB1 := hid hb1; clear hb1 h2 h3 H1)
  have b1 : Below W1.heap.size W1 (W1.alloc (.cells #[.int .i8 9, .int .i8 0, .int .u64 0, .slice (some ⟨g, o, none⟩) 2 cap, .slice qa qn qc] 30)) := (Below.refl _ _).alloc (Nat.le_refl _) _
  have n1 : (W1.alloc (.cells #[.int .i8 9, .int .i8 0, .int .u64 0, .slice (some ⟨g, o, none⟩) 2 cap, .slice qa qn qc] 30)).heap[W1.heap.size]? = some (.cells #[.int .i8 9, .int .i8 0, .int .u64 0, .slice (some ⟨g, o, none⟩) 2 cap, .slice qa qn qc] 30 (0, 0)) := heap_alloc_new _ _
  have HB1' := hid (HB1.out.trans (b1.mono HB1.out.size))
  have HR1 : Hid ((W1.alloc (.cells #[.int .i8 9, .int .i8 0, .int .u64 0, .slice (some ⟨g, o, none⟩) 2 cap, .slice qa qn qc] 30)).rangeAt g (o + 4) (#[.int .i8 7, .int .i8 9, .int .u64 2, .slice xa xn xc] : Array Value).toList) := fun j v hj => (cell_same (b1.block _ HX1.out.1)).trans (HX1.out.2 j v hj)
  have hg1 : g < (W1.alloc (.cells #[.int .i8 9, .int .i8 0, .int .u64 0, .slice (some ⟨g, o, none⟩) 2 cap, .slice qa qn qc] 30)).heap.size := Nat.lt_of_lt_of_le HX1.out.1 b1.size
  have HN1 := hid n1
  clear b1 n1 HB1 HX1
  generalize W1.alloc (.cells #[.int .i8 9, .int .i8 0, .int .u64 0, .slice (some ⟨g, o, none⟩) 2 cap, .slice qa qn qc] 30) = V1 at HB1' HR1 hg1 HN1 ⊢
  generalize W1.heap.size = P1 at HN1 ⊢
  have H2 := hid (wk2 V1 (HTb.out.on HB1'.out))
  go_upto_region 3 with (go_at_call 9; refine (H2.out).mono ?_; rintro e W2 ⟨hb2, N, rfl, hN⟩; have HB2 := hid hb2; have HF := hid hN; clear hb2 hN H2)
  have b2 : Below V1.heap.size V1 (W2.alloc (.cells #[.int .i8 0, .int .i8 0, .int .u64 0, .slice none 0 0, .slice none 0 0] 30)) := HB2.out.alloc HB2.out.size _
  have HB2' := hid b2
  have HF2 : Hid ((W2.alloc (.cells #[.int .i8 0, .int .i8 0, .int .u64 0, .slice none 0 0, .slice none 0 0] 30)).heap[N]? = some (.cells (flc 160 6 ⟨#[]⟩) 68 (0, 0))) := (heap_alloc_old _ _ (Array.getElem?_eq_some_iff.1 HF.out).1).trans HF.out
  clear b2 HB2 HF
  generalize W2.alloc (.cells #[.int .i8 0, .int .i8 0, .int .u64 0, .slice none 0 0, .slice none 0 0] 30) = V2 at HB2' HF2 ⊢
  have HBw2 := hid (HB1'.out.trans (HB2'.out.mono HB1'.out.size))
  have H3 : Hid (Calls Tryz.prog 11 #[.iface 66 (ptr N)] V2 fun e w' => e = .returned (.tuple #[.agg #[.int .i64 160, .int .i64 6, .string ⟨#[]⟩], .bool true]) ∧ Below V2.heap.size V2 w') := fault_hit N 160 6 ⟨#[]⟩ V2 (HTb.out.on HBw2.out) (by decide) HF2.out
  go_upto_region 4 with (go_at_call 11; refine (H3.out).mono ?_; rintro e W3 ⟨rfl, hb3⟩; have HB3 := hid hb3; clear hb3 H3)
  have b3 : Below V2.heap.size V2 (W3.alloc (.cells #[.int .i64 160, .int .i64 6, .string ⟨#[]⟩] 37)) := HB3.out.alloc HB3.out.size _
  have n3 : (W3.alloc (.cells #[.int .i64 160, .int .i64 6, .string ⟨#[]⟩] 37)).heap[W3.heap.size]? = some (.cells #[.int .i64 160, .int .i64 6, .string ⟨#[]⟩] 37 (0, 0)) := heap_alloc_new _ _
  have HB3' := hid b3
  have HN3 := hid n3
  clear b3 n3 HB3
  generalize W3.alloc (.cells #[.int .i64 160, .int .i64 6, .string ⟨#[]⟩] 37) = V3 at HB3' HN3 ⊢
  generalize W3.heap.size = P3 at HN3 ⊢
  have HBw3 := hid (HBw2.out.trans (HB3'.out.mono HBw2.out.size))
  have H4 := hid (wk3 V3 (HTb.out.on HBw3.out))
  go_upto_region 5 with (go_at_call 9; refine (H4.out).mono ?_; rintro e W4 ⟨hb4, g4, o4, cap4, ya, yn, yc, rfl, h4, h5, h6⟩; have HB4 := hid hb4; have HX4 := hid (And.intro h5 h6); clear hb4 h5 h6 H4)
  have b4 : Below V3.heap.size V3 (W4.alloc (.cells #[.int .i8 8, .int .i8 0, .int .u64 0, .slice ya yn yc, .slice (some ⟨g4, o4, none⟩) 1 cap4] 30)) := HB4.out.alloc HB4.out.size _
  have n4 : (W4.alloc (.cells #[.int .i8 8, .int .i8 0, .int .u64 0, .slice ya yn yc, .slice (some ⟨g4, o4, none⟩) 1 cap4] 30)).heap[W4.heap.size]? = some (.cells #[.int .i8 8, .int .i8 0, .int .u64 0, .slice ya yn yc, .slice (some ⟨g4, o4, none⟩) 1 cap4] 30 (0, 0)) := heap_alloc_new _ _
  have q4 : (W4.alloc (.cells #[.int .i8 8, .int .i8 0, .int .u64 0, .slice ya yn yc, .slice (some ⟨g4, o4, none⟩) 1 cap4] 30)).cell? ⟨g4, o4, none⟩ = some (.string ⟨#[119, 101, 98]⟩) := (cell_same (heap_alloc_old _ _ HX4.out.1)).trans HX4.out.2
  have HBw4 := hid (HBw3.out.trans (b4.mono HBw3.out.size))
  have hz2 := HB2'.out.size
  have hz3 := HB3'.out.size
  have hP1 := (Array.getElem?_eq_some_iff.1 HN1.out).1
  have hP3 := (Array.getElem?_eq_some_iff.1 HN3.out).1
  have m1 := (b4.block P1 (by omega)).trans ((HB3'.out.block P1 (by omega)).trans ((HB2'.out.block P1 hP1).trans HN1.out))
  have m3 := (b4.block P3 (by omega)).trans HN3.out
  have HR4 : Hid ((W4.alloc (.cells #[.int .i8 8, .int .i8 0, .int .u64 0, .slice ya yn yc, .slice (some ⟨g4, o4, none⟩) 1 cap4] 30)).rangeAt g (o + 4) (#[.int .i8 7, .int .i8 9, .int .u64 2, .slice xa xn xc] : Array Value).toList) := fun j v hj => (cell_same ((b4.block g (by omega)).trans ((HB3'.out.block g (by omega)).trans (HB2'.out.block g hg1)))).trans (HR1.out j v hj)
  clear HB4 HX4 b4 HBw3 HBw2 HB1' HB2' HB3' HN1 HN3 HR1 HF2
  generalize W4.alloc (.cells #[.int .i8 8, .int .i8 0, .int .u64 0, .slice ya yn yc, .slice (some ⟨g4, o4, none⟩) 1 cap4] 30) = V4 at n4 q4 HBw4 m1 m3 HR4 ⊢
  generalize W4.heap.size = P4 at n4 ⊢
  have c10 : V4.cell? ⟨P1, 0, none⟩ = some (.int .i8 9) := (cell_of_row _ _ _ _ _ _ m1).trans rfl
  have c13 : V4.cell? ⟨P1, 3, none⟩ = some (.slice (some ⟨g, o, none⟩) 2 cap) := (cell_of_row _ _ _ _ _ _ m1).trans rfl
  have c40 : V4.cell? ⟨P4, 0, none⟩ = some (.int .i8 8) := (cell_of_row _ _ _ _ _ _ n4).trans rfl
  have c44 : V4.cell? ⟨P4, 4, none⟩ = some (.slice (some ⟨g4, o4, none⟩) 1 cap4) := (cell_of_row _ _ _ _ _ _ n4).trans rfl
  have f0 : V4.cell? ⟨P3, 0, none⟩ = some (.int .i64 160) := (cell_of_row _ _ _ _ _ _ m3).trans rfl
  have f1 : V4.cell? ⟨P3, 1, none⟩ = some (.int .i64 6) := (cell_of_row _ _ _ _ _ _ m3).trans rfl
  have f2 : V4.cell? ⟨P3, 2, none⟩ = some (.string ⟨#[]⟩) := (cell_of_row _ _ _ _ _ _ m3).trans rfl
  have hP3' := (Array.getElem?_eq_some_iff.1 m3).1
  clear m1 m3 n4
  go_upto_region 8 with (refine ldMid 27 (.tmp 69) rfl rfl g (o + 4) rfl #[.int .i8 7, .int .i8 9, .int .u64 2, .slice xa xn xc] _ Tryz.underlying27 rfl rfl HR4.out ?_)
  have b5 : Below V4.heap.size V4 (V4.alloc (.cells #[.int .i8 7, .int .i8 9, .int .u64 2, .slice xa xn xc] 27)) := (Below.refl _ _).alloc (Nat.le_refl _) _
  have n5 : (V4.alloc (.cells #[.int .i8 7, .int .i8 9, .int .u64 2, .slice xa xn xc] 27)).heap[V4.heap.size]? = some (.cells #[.int .i8 7, .int .i8 9, .int .u64 2, .slice xa xn xc] 27 (0, 0)) := heap_alloc_new _ _
  obtain ⟨t0, t1, t2, -⟩ := four_cells n5
  have e0 := (cell_same (o := 0) (b5.block P3 hP3')).trans f0
  have e1 := (cell_same (o := 1) (b5.block P3 hP3')).trans f1
  have e2 := (cell_same (o := 2) (b5.block P3 hP3')).trans f2
  have HB5 := hid (HBw4.out.trans (b5.mono HBw4.out.size))
  clear b5 n5 f0 f1 f2 c10 c13 c40 c44 q4 HR4 HBw4
  generalize V4.alloc (.cells #[.int .i8 7, .int .i8 9, .int .u64 2, .slice xa xn xc] 27) = V5 at t0 t1 t2 e0 e1 e2 HB5 ⊢
  go_wp2
  go_ret
  exact ⟨rfl, HB5.out⟩
end Go.Proofs.YtcifeankgnjndaaGreatDoor
