/-
  Proved here: ParseCuts of the statements says true of every text and number. Condition: the laid variables; a text is no longer than there can be.
-/
import Derived.Test.YtdpmllfapjjihaaGreatDoorW1
import Derived.Test.YtdpmllfapjjihaaGreatDoorJ7
import Derived.Test.YtdpmllfapjjihaaGreatDoorDG
namespace Go.Proofs.YtdpmllfapjjihaaGreatDoor
set_option maxRecDepth 100000
open Go.RowKit
set_option maxRecDepth 100000

/-- What Policy answers, told apart. -/
theorem pol_ok {s : ByteArray} {p : Po} (w : World) (hT : Tab w) (hs : s.size ≤ 9223372036854775806) (hp : prs s = .ok p) : Calls Tryz.prog 9 #[.string s] w fun e w' => Below w.heap.size w w' ∧ ∃ cs, e = .returned (.tuple #[.agg cs, .nilIface]) ∧ PoV (fun b => w.heap.size ≤ b) w' p cs := by
  refine (policy_any s w hT hs).mono ?_
  intro e w' h
  unfold PlP at h
  rw [hp] at h
  exact h
theorem pol_no {s : ByteArray} {c a : Nat} {t : ByteArray} (w : World) (hT : Tab w) (hs : s.size ≤ 9223372036854775806) (hp : prs s = .no c a t) : Calls Tryz.prog 9 #[.string s] w fun e w' => Below w.heap.size w w' ∧ ∃ N, e = .returned (.tuple #[.agg #[.int .i8 0, .int .i8 0, .int .u64 0, .slice none 0 0, .slice none 0 0], .iface 65 (ptr N)]) ∧ w.heap.size ≤ N ∧ w'.heap[N]? = some (.cells (flc c a t) 67 (0, 0)) := by
  refine (policy_any s w hT hs).mono ?_
  intro e w' h
  unfold PlP at h
  rw [hp] at h
  exact h
theorem prs_all {s : ByteArray} {p : Po} (h : prs s = .ok p) : ∃ l, all s = .ok l := by
  unfold prs at h
  cases ha : all s with
  | ok l => exact ⟨l, rfl⟩
  | no c a t => rw [ha] at h; cases h
theorem tmod_in {c n : Int} (hn : 0 < n) : 0 ≤ (c.tmod n + n).tmod n ∧ (c.tmod n + n).tmod n < n ∧ 0 ≤ c.tmod n + n ∧ c.tmod n + n < 2 * n := by
  have h1 := Int.lt_tmod_of_pos c hn
  have h2 := Int.tmod_lt_of_pos c hn
  have h3 : 0 ≤ c.tmod n + n := by omega
  exact ⟨Int.tmod_nonneg _ h3, Int.tmod_lt_of_pos _ hn, h3, by omega⟩
set_option maxHeartbeats 12800000 in
theorem cuts_any (s : ByteArray) (c : Int) (w : World) (hT : Tab w) (hs : s.size ≤ 9223372036854775806) : Calls Tryz.prog 7 #[.string s, .int .i64 c] w fun e w' => e = .returned (.bool true) ∧ Below w.heap.size w w' := by
  have HT := hid hT
  have HW := hid (wakes_any w hT)
  by_cases h1 : 4096 < s.size
  · have g1 : decide ((4096 : Int) < (s.size : Int)) = true := by simp; omega
    clear hT h1
    go_enter Tryz.func7, Tryz.ntmps7
    go_wp2_with (go_at_call 8; refine (HW.out).mono ?_; rintro e w' ⟨rfl, hw⟩; have HX := hid hw; clear hw)
    go_ret
    exact ⟨rfl, HX.out⟩
  · have g1 : decide ((4096 : Int) < (s.size : Int)) = false := by simp; omega
    by_cases h0 : s.size = 0
    · have g2 : ((s.size : Int) == 0) = true := by rw [h0]; rfl
      clear hT h1
      go_enter Tryz.func7, Tryz.ntmps7
      go_wp2_with (go_at_call 8; refine (HW.out).mono ?_; rintro e w' ⟨rfl, hw⟩; have HX := hid hw; clear hw)
      go_ret
      exact ⟨rfl, HX.out⟩
    · have g2 : ((s.size : Int) == 0) = false := beq_eq_false_iff_ne.2 (by omega)
      have HWk : Hid (∀ W, Below w.heap.size w W → Calls Tryz.prog 8 #[] W fun e w' => e = .returned (.bool true) ∧ Below W.heap.size W w') := fun W hb => wakes_any W (hT.on hb)
      have HDA : Hid (∀ W, Calls Tryz.prog 15 #[.string s] W (DaP s W)) := fun W => dAll_any s W hs
      clear HW
      cases hp : prs s with
      | no c0 a0 t0 =>
        have HP := hid (pol_no w hT hs hp)
        clear hT hp
        go_enter Tryz.func7, Tryz.ntmps7
        go_upto_region 4 with (go_at_call 9; refine (HP.out).mono ?_; rintro e W1 ⟨hb, N, rfl, -, -⟩; have HB1 := hid hb; clear hb HP)
        have HB1' : Hid (Below w.heap.size w (W1.alloc (.cells #[.int .i8 0, .int .i8 0, .int .u64 0, .slice none 0 0, .slice none 0 0] 30))) := HB1.out.alloc HB1.out.size _
        generalize W1.alloc (.cells #[.int .i8 0, .int .i8 0, .int .u64 0, .slice none 0 0, .slice none 0 0] 30) = V1 at HB1' ⊢
        have HD : Hid (Calls Tryz.prog 15 #[.string s] V1 fun e w' => Below V1.heap.size V1 w' ∧ ∃ ao n ca k a t, e = .returned (.tuple #[.slice ao n ca, .agg #[.int .i64 k, .int .i64 a, .string t]])) := by
          refine (HDA.out V1).mono ?_
          intro e w' h
          unfold DaP at h
          obtain ⟨h1, h2⟩ := h
          cases ha : all s with
          | ok l =>
            rw [ha] at h2
            obtain ⟨v, rfl, h3⟩ := h2
            obtain ⟨ao, ca, rfl⟩ := h3.form
            exact ⟨h1, ao, _, ca, _, _, _, rfl⟩
          | no c a t =>
            rw [ha] at h2
            exact ⟨h1, none, 0, 0, _, _, _, h2⟩
        clear HDA HB1
        go_wp2_with (first
          | (go_at_call 15; refine (HD.out).mono ?_; rintro e W2 ⟨hb, ao, n, ca, k, a, t, rfl⟩
             have HB2 := hid ((HB1'.out.trans (hb.mono HB1'.out.size)).alloc (by have := HB1'.out.size; have := hb.size; omega) (.cells #[.int .i64 k, .int .i64 a, .string t] 37))
             have HW2 := hid (HWk.out _ HB2.out)
             clear hb HD)
          | (go_at_call 8; refine (HW2.out).mono ?_; rintro e W3 ⟨rfl, hw⟩; have HX := hid (HB2.out.trans (hw.mono HB2.out.size)); clear hw))
        go_ret
        exact ⟨rfl, HX.out⟩
      | ok p =>
        obtain ⟨l, hl⟩ := prs_all hp
        have hok := all_wok hl
        have HP := hid (pol_ok w hT hs hp)
        have HCut := hid (fun k hk => prs_cut hl hp hok.cl (k := k) hk)
        have HAt := hid (fun k hk => all_at hl (k := k) hk)
        have hlp := hok.cl.pos
        have hll := hok.len
        clear hT hp
        go_enter Tryz.func7, Tryz.ntmps7
        go_upto_region 4 with (first
          | (go_at_call 9; refine (HP.out).mono ?_; rintro e W1 ⟨hb, cs, rfl, hpv⟩; have HB1 := hid hb; have HV1 := hid hpv; clear hb hpv HP)
          | (refine stNew 30 (.tmp 5) (.tmp 26) rfl rfl W1 30 pz cs rfl rfl rfl HV1.out.info (by rw [HV1.out.size]; rfl) HV1.out.one ?_))
        have HB1' : Hid (Below w.heap.size w (W1.alloc (.cells cs 30))) := HB1.out.alloc HB1.out.size _
        clear HV1 HB1
        generalize W1.alloc (.cells cs 30) = V1 at HB1' ⊢
        have HD : Hid (Calls Tryz.prog 15 #[.string s] V1 fun e w' => Below V1.heap.size V1 w' ∧ ∃ g o ca, e = .returned (.tuple #[.slice (some ⟨g, o, none⟩) l.length ca, .agg #[.int .i64 0, .int .i64 0, .string ⟨#[]⟩]]) ∧ l.length ≤ ca ∧ g < w'.heap.size ∧ ∀ k, k < l.length → w'.rangeAt g (o + k * 4) (wdc (wat l k)).toList) := by
          refine (HDA.out V1).mono ?_
          intro e w' h
          unfold DaP at h
          rw [hl] at h
          obtain ⟨h1, v, rfl, hx, ⟨-, h0⟩ | ⟨g, o, cap, cur, rfl, hS, hg, hc, hsz, ht⟩⟩ := h
          · omega
          · refine ⟨h1, g, o, cap, rfl, hc, (Array.getElem?_eq_some_iff.1 hg).1, fun k hk => range_of fun j hj => ?_⟩
            have hj4 : j < 4 := hj
            have hb : k * 4 + j < l.length * 4 := by omega
            rw [cell_of_row _ _ _ _ _ _ hg, Nat.add_assoc, cells_at ht hb, wcs_wat l k hk j hj4]
        clear HDA hl hok
        have g3 : ((l.length : Int) == 0) = false := beq_eq_false_iff_ne.2 (by omega)
        go_upto_region 5 with (go_at_call 15; refine (HD.out).mono ?_; rintro e W2 ⟨hb, g, o, ca, rfl, hca, hg, hra⟩; have HB2 := hid hb; have HRA := hid (And.intro hg hra); clear hb hg hra HD)
        have b2 : Below V1.heap.size V1 (W2.alloc (.cells #[.int .i64 0, .int .i64 0, .string ⟨#[]⟩] 37)) := HB2.out.alloc HB2.out.size _
        have n2 : (W2.alloc (.cells #[.int .i64 0, .int .i64 0, .string ⟨#[]⟩] 37)).heap[W2.heap.size]? = some (.cells #[.int .i64 0, .int .i64 0, .string ⟨#[]⟩] 37 (0, 0)) := heap_alloc_new _ _
        have c0 : (W2.alloc (.cells #[.int .i64 0, .int .i64 0, .string ⟨#[]⟩] 37)).cell? ⟨W2.heap.size, 0, none⟩ = some (.int .i64 0) := (cell_of_row _ _ _ _ _ _ n2).trans rfl
        have HBV2 := hid (HB1'.out.trans (b2.mono HB1'.out.size))
        have HRV2 : Hid (∀ k, k < l.length → (W2.alloc (.cells #[.int .i64 0, .int .i64 0, .string ⟨#[]⟩] 37)).rangeAt g (o + k * 4) (wdc (wat l k)).toList) := fun k hk j v hj => (cell_same (heap_alloc_old _ _ HRA.out.1)).trans (HRA.out.2 k hk j v hj)
        clear b2 n2 HB2 HRA HB1'
        generalize W2.alloc (.cells #[.int .i64 0, .int .i64 0, .string ⟨#[]⟩] 37) = V2 at c0 HBV2 HRV2 ⊢
        generalize W2.heap.size = P2 at c0 ⊢
        obtain ⟨q1, q2, q3, q4⟩ := tmod_in (c := c) (n := (l.length : Int)) (by omega)
        obtain ⟨k, hk⟩ : ∃ k : Nat, (c.tmod (l.length : Int) + (l.length : Int)).tmod (l.length : Int) = (k : Int) := ⟨_, (Int.toNat_of_nonneg q1).symm⟩
        have hkl : k < l.length := by omega
        go_upto_region 7 with fail
        clear c0
        have HC := hid (HCut.out k hkl)
        have hxa := HAt.out k hkl
        have HR := hid (HRV2.out k hkl)
        clear HCut HAt HRV2
        generalize wat l k = x at HC hxa HR
        obtain ⟨xk, xt, xn, xa⟩ := x
        simp only at HC hxa HR
        have HCsz : Hid ((s.extract 0 xa).size ≤ 9223372036854775806) := by show _ ≤ _; rw [ByteArray.size_extract]; omega
        go_upto_region 8 with (refine ldMid 56 (.tmp 57) rfl rfl g (o + k * 4) rfl #[.int .i8 ((xk : Nat) : Int), .string xt, .int .u64 ((xn : Nat) : Int), .int .i64 ((xa : Nat) : Int)] _ Tryz.underlying56 rfl rfl HR.out ?_)
        have b3 : Below V2.heap.size V2 (V2.alloc (.cells #[.int .i8 ((xk : Nat) : Int), .string xt, .int .u64 ((xn : Nat) : Int), .int .i64 ((xa : Nat) : Int)] 56)) := (Below.refl _ _).alloc (Nat.le_refl _) _
        have n3 : (V2.alloc (.cells #[.int .i8 ((xk : Nat) : Int), .string xt, .int .u64 ((xn : Nat) : Int), .int .i64 ((xa : Nat) : Int)] 56)).heap[V2.heap.size]? = some (.cells #[.int .i8 ((xk : Nat) : Int), .string xt, .int .u64 ((xn : Nat) : Int), .int .i64 ((xa : Nat) : Int)] 56 (0, 0)) := heap_alloc_new _ _
        have HBV3 := hid (HBV2.out.trans (b3.mono HBV2.out.size))
        have HN3 := hid n3
        have d3 := (four_cells n3).2.2.2
        clear b3 n3 HBV2 HR hk hkl q1 q2 q3 q4
        generalize V2.alloc (.cells #[.int .i8 ((xk : Nat) : Int), .string xt, .int .u64 ((xn : Nat) : Int), .int .i64 ((xa : Nat) : Int)] 56) = V3 at HBV3 HN3 d3 ⊢
        generalize V2.heap.size = P3 at HN3 d3 ⊢
        have hP3 := (Array.getElem?_eq_some_iff.1 HN3.out).1
        have hT3 := HT.out.on HBV3.out
        rcases HC.out with hpc | ⟨p', hpc⟩
        · have HPC := hid (pol_no V3 hT3 HCsz.out hpc)
          clear hpc hT3 HC
          go_upto_region 9 with (go_at_call 9; refine (HPC.out).mono ?_; rintro e W4 ⟨hb, N, rfl, hNn, hN⟩; have HB4 := hid hb; have HF4 := hid hN; clear hb hN HPC)
          have b5 : Below V3.heap.size V3 (W4.alloc (.cells #[.int .i8 0, .int .i8 0, .int .u64 0, .slice none 0 0, .slice none 0 0] 30)) := HB4.out.alloc HB4.out.size _
          have HF5 : Hid ((W4.alloc (.cells #[.int .i8 0, .int .i8 0, .int .u64 0, .slice none 0 0, .slice none 0 0] 30)).heap[N]? = some (.cells (flc 160 xa ⟨#[]⟩) 67 (0, 0))) := (heap_alloc_old _ _ (Array.getElem?_eq_some_iff.1 HF4.out).1).trans HF4.out
          have HN5 := hid ((b5.block P3 hP3).trans HN3.out)
          have HBV5 := hid (HBV3.out.trans (b5.mono HBV3.out.size))
          clear b5 HF4 HB4 HN3 d3 HBV3
          generalize W4.alloc (.cells #[.int .i8 0, .int .i8 0, .int .u64 0, .slice none 0 0, .slice none 0 0] 30) = V5 at HF5 HN5 HBV5 ⊢
          have hP5 := (Array.getElem?_eq_some_iff.1 HN5.out).1
          have HFa : Hid (Calls Tryz.prog 11 #[.iface 65 (ptr N)] V5 fun e w' => e = .returned (.tuple #[.agg #[.int .i64 160, .int .i64 ((xa : Nat) : Int), .string ⟨#[]⟩], .bool true]) ∧ Below V5.heap.size V5 w') := fault_hit N 160 xa ⟨#[]⟩ V5 (HT.out.on HBV5.out) (by decide) HF5.out
          go_upto_region 10 with (go_at_call 11; refine (HFa.out).mono ?_; rintro e W6 ⟨rfl, hb⟩; have HB6 := hid hb; clear hb HFa)
          have b6 : Below V5.heap.size V5 (W6.alloc (.cells #[.int .i64 160, .int .i64 ((xa : Nat) : Int), .string ⟨#[]⟩] 37)) := HB6.out.alloc HB6.out.size _
          have n6 : (W6.alloc (.cells #[.int .i64 160, .int .i64 ((xa : Nat) : Int), .string ⟨#[]⟩] 37)).heap[W6.heap.size]? = some (.cells #[.int .i64 160, .int .i64 ((xa : Nat) : Int), .string ⟨#[]⟩] 37 (0, 0)) := heap_alloc_new _ _
          have f0 : (W6.alloc (.cells #[.int .i64 160, .int .i64 ((xa : Nat) : Int), .string ⟨#[]⟩] 37)).cell? ⟨W6.heap.size, 0, none⟩ = some (.int .i64 160) := (cell_of_row _ _ _ _ _ _ n6).trans rfl
          have f1 : (W6.alloc (.cells #[.int .i64 160, .int .i64 ((xa : Nat) : Int), .string ⟨#[]⟩] 37)).cell? ⟨W6.heap.size, 1, none⟩ = some (.int .i64 ((xa : Nat) : Int)) := (cell_of_row _ _ _ _ _ _ n6).trans rfl
          have f2 : (W6.alloc (.cells #[.int .i64 160, .int .i64 ((xa : Nat) : Int), .string ⟨#[]⟩] 37)).cell? ⟨W6.heap.size, 2, none⟩ = some (.string ⟨#[]⟩) := (cell_of_row _ _ _ _ _ _ n6).trans rfl
          have d3 := (four_cells ((b6.block P3 hP5).trans HN5.out)).2.2.2
          have HBV6 := hid (HBV5.out.trans (b6.mono HBV5.out.size))
          have HW6 := hid (HWk.out _ HBV6.out)
          clear b6 n6 HB6 HN5 HBV5 HF5
          generalize W6.alloc (.cells #[.int .i64 160, .int .i64 ((xa : Nat) : Int), .string ⟨#[]⟩] 37) = V6 at f0 f1 f2 d3 HBV6 HW6 ⊢
          generalize W6.heap.size = P6 at f0 f1 f2 ⊢
          go_wp2_with (go_at_call 8; refine (HW6.out).mono ?_; rintro e W7 ⟨rfl, hw⟩; have HX := hid (HBV6.out.trans (hw.mono HBV6.out.size)); clear hw)
          go_ret
          exact ⟨rfl, HX.out⟩
        · have HPC := hid (pol_ok V3 hT3 HCsz.out hpc)
          clear hpc hT3 HC
          go_upto_region 9 with (first
            | (go_at_call 9; refine (HPC.out).mono ?_; rintro e W4 ⟨hb, ds, rfl, hpv⟩; have HB4 := hid hb; have HV4 := hid hpv; clear hb hpv HPC)
            | (refine stNew 30 (.tmp 10) (.tmp 65) rfl rfl W4 30 pz ds rfl rfl rfl HV4.out.info (by rw [HV4.out.size]; rfl) HV4.out.one ?_))
          have HBV5 : Hid (Below w.heap.size w (W4.alloc (.cells ds 30))) := (HBV3.out.trans (HB4.out.mono HBV3.out.size)).alloc (by have := HBV3.out.size; have := HB4.out.size; omega) _
          clear HB4 HV4 HN3 d3 HBV3
          generalize W4.alloc (.cells ds 30) = V5 at HBV5 ⊢
          have HFa : Hid (Calls Tryz.prog 11 #[.nilIface] V5 fun e w' => e = .returned (.tuple #[.agg #[.int .i64 0, .int .i64 0, .string ⟨#[]⟩], .bool true]) ∧ Below V5.heap.size V5 w') := fault_nil V5
          go_upto_region 10 with (go_at_call 11; refine (HFa.out).mono ?_; rintro e W6 ⟨rfl, hb⟩; have HB6 := hid hb; clear hb HFa)
          have HBV6 : Hid (Below w.heap.size w (W6.alloc (.cells #[.int .i64 0, .int .i64 0, .string ⟨#[]⟩] 37))) := (HBV5.out.trans (HB6.out.mono HBV5.out.size)).alloc (by have := HBV5.out.size; have := HB6.out.size; omega) _
          have HW6 := hid (HWk.out _ HBV6.out)
          clear HB6 HBV5
          generalize W6.alloc (.cells #[.int .i64 0, .int .i64 0, .string ⟨#[]⟩] 37) = V6 at HBV6 HW6 ⊢
          go_wp2_with (go_at_call 8; refine (HW6.out).mono ?_; rintro e W7 ⟨rfl, hw⟩; have HX := hid (HBV6.out.trans (hw.mono HBV6.out.size)); clear hw)
          go_ret
          exact ⟨rfl, HX.out⟩
end Go.Proofs.YtdpmllfapjjihaaGreatDoor
