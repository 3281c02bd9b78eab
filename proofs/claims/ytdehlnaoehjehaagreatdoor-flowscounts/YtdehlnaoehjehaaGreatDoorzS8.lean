/-
  Laid here at this program's own numbers: the structures of the library's contracts for generic functions. Conditions: those of the contracts.
-/
/-
  Proved here: breakPatternsOrdered does what the plain one does. Conditions: the numbers lie as they say; the bounds lie within them, more than twelve apart.
-/
import Derived.Shelf.SortG.Walk7aIn
import Derived.Test.YtdehlnaoehjehaaGreatDoorProg
import Derived.Test.YtdehlnaoehjehaaGreatDoorzS2
import Derived.Sort.EveryDepth
import Derived.Laws.Bits64b
namespace Go.Proofs
open Go.Shelf
def Tryz.layNP_ren : Go.Shelf.Ren := ⟨fun | 89 => 198 | 64 => 132 | 78 => 168 | 79 => 169 | n => n, fun | 3 => 3 | 51 => 235 | 67 => 144 | 69 => 28 | 4 => 4 | 5 => 5 | 9 => 9 | n => n, fun | n => n⟩
theorem Tryz.layNP : Go.Proofs.SlLaysN.n89 Tryz.prog Tryz.layNP_ren := {
  mixed := by kernel_rfl
  f64 := Tryz.func132.trans (congrArg some (by kernel_rfl))
  f78 := Tryz.func168.trans (congrArg some (by kernel_rfl))
  f79 := Tryz.func169.trans (congrArg some (by kernel_rfl))
  f89 := Tryz.func198.trans (congrArg some (by kernel_rfl))
  t3 := Tryz.underlying3
  a3 := Tryz.isAgg3
  z3 := Tryz.sizeOf3
  v3 := Tryz.zeroValue3
  t4 := Tryz.underlying4
  a4 := Tryz.isAgg4
  z4 := Tryz.sizeOf4
  v4 := Tryz.zeroValue4
  t5 := Tryz.underlying5
  a5 := Tryz.isAgg5
  z5 := Tryz.sizeOf5
  v5 := Tryz.zeroValue5
  t9 := Tryz.underlying9
  a9 := Tryz.isAgg9
  z9 := Tryz.sizeOf9
  v9 := Tryz.zeroValue9
  t51 := Tryz.underlying235
  a51 := Tryz.isAgg235
  z51 := Tryz.sizeOf235
  v51 := Tryz.zeroValue235
  t67 := Tryz.underlying144
  a67 := Tryz.isAgg144
  z67 := Tryz.sizeOf144
  v67 := Tryz.zeroValue144
  t69 := Tryz.underlying28
  a69 := Tryz.isAgg28
  z69 := Tryz.sizeOf28
  v69 := Tryz.zeroValue28 }
def Tryz.layXN_ren : Go.Shelf.Ren := ⟨fun | 90 => 199 | n => n, fun | 83 => 305 | 69 => 28 | 0 => 0 | 75 => 291 | 51 => 235 | n => n, fun | n => n⟩
theorem Tryz.layXN : Go.Proofs.SlLaysN.n90 Tryz.prog Tryz.layXN_ren := {
  mixed := by kernel_rfl
  f90 := Tryz.func199.trans (congrArg some (by kernel_rfl))
  t0 := Tryz.underlying0
  a0 := Tryz.isAgg0
  z0 := Tryz.sizeOf0
  v0 := Tryz.zeroValue0
  t51 := Tryz.underlying235
  a51 := Tryz.isAgg235
  z51 := Tryz.sizeOf235
  v51 := Tryz.zeroValue235
  t69 := Tryz.underlying28
  a69 := Tryz.isAgg28
  z69 := Tryz.sizeOf28
  v69 := Tryz.zeroValue28
  t75 := Tryz.underlying291
  a75 := Tryz.isAgg291
  z75 := Tryz.sizeOf291
  v75 := Tryz.zeroValue291
  t83 := Tryz.underlying305
  a83 := Tryz.isAgg305
  z83 := Tryz.sizeOf305
  v83 := Tryz.zeroValue305 }
end Go.Proofs
namespace Go.Proofs.YtdehlnaoehjehaaGreatDoor
open Go.RowKit Go.Sort

theorem nextP_any (n : Nat) (hn : n < 4611686018427387904) (w : World) : Calls Tryz.prog 198 #[.int .i64 n] w fun e w' => e = .returned (.int .u64 ((1 <<< bitsLen n : Nat) : Int)) ∧ w' = w := calls_of_every_depth fun D => AnySG.nextPowerOfTwoIn Tryz.layNP D n hn w
theorem xorN_any (q X : Nat) (hX : X < 18446744073709551616) (w : World) (hc : w.cell? ⟨q, 0, none⟩ = some (.int .u64 X)) (hf : w.frozen? ⟨q, 0, none⟩ = false) : Calls Tryz.prog 199 #[.pointer (some ⟨q, 0, none⟩)] w fun e w' => e = .returned (.int .u64 (xorNextN X : Nat)) ∧ w' = (w.setCell ⟨q, 0, none⟩ (.int .u64 (xorNextN X : Nat))).drewN 3 := calls_of_every_depth fun D => AnySG.xorshift_NextIn Tryz.layXN D q 0 X hX w hc hf
/-- The steps that are left. -/
def bpR (a L M : Nat) : Nat → Nat → UInt64 × Array Int → Array Int
  | 0, _, st => st.2
  | n + 1, idx, st => bpR a L M n (idx + 1) (breakStep a L M st idx)
theorem bp_eq {d : Array Int} {a b L : Nat} (hL : L = b - a) (h8 : L ≥ 8) : breakPatterns d a b = bpR a L (1 <<< bitsLen L) 3 (a + L / 4 * 2 - 1) (UInt64.ofNat L, d) := by
  subst hL
  unfold breakPatterns
  simp only [if_pos h8]
  rfl
/-- The numbers, and the random number in a block of its own. -/
structure Sx (w : World) (g o cap t q : Nat) (d' : Array Int) (X : Nat) (w' : World) : Prop where
  only : Only (fun b => b = g ∨ w.heap.size ≤ b) w w'
  dt : Dt w' g o cap t d'
  rnd : w'.heap[q]? = some (.cells #[.int .u64 (X : Int)] 291 (0, 0))
theorem Sx.cell {w w' : World} {g o cap t q X : Nat} {d : Array Int} (h : Sx w g o cap t q d X w') : w'.cell? ⟨q, 0, none⟩ = some (.int .u64 (X : Int)) := (cell_of_row w' q 0 _ _ _ h.rnd).trans rfl
theorem Sx.free {w w' : World} {g o cap t q X : Nat} {d : Array Int} (h : Sx w g o cap t q d X w') : w'.frozen? ⟨q, 0, none⟩ = false := by simp [World.frozen?, h.rnd]
theorem Sx.next {w w' : World} {g o cap t q X Y : Nat} {d : Array Int} (h : Sx w g o cap t q d X w') (hq : w.heap.size ≤ q) (hgq : g ≠ q) (n : Nat) : Sx w g o cap t q d Y ((w'.setCell ⟨q, 0, none⟩ (.int .u64 (Y : Int))).drewN n) := by
  have ho : Only (fun b => b = q) w' ((w'.setCell ⟨q, 0, none⟩ (.int .u64 (Y : Int))).drewN n) := by
    have := (Only.refl (fun b => b = q) w').setCell (p := ⟨q, 0, none⟩) rfl (.int .u64 (Y : Int))
    exact ⟨this.os, this.tape, this.output, this.size, this.block⟩
  refine ⟨h.only.trans (ho.mono fun b hb => Or.inr (by omega)), h.dt.same (ho.block g hgq), ?_⟩
  have := heap_setCell_same w' q 0 _ _ (.int .u64 (Y : Int)) h.rnd
  exact this
theorem Sx.swp {w w' : World} {g o cap t q X : Nat} {d : Array Int} (h : Sx w g o cap t q d X w') (hgq : q ≠ g) (i j : Nat) (hi : i < d.size) (hj : j < d.size) : Sx w g o cap t q (Go.Sort.swp d i j) X ((w'.setCell ⟨g, o + i, none⟩ (.int .u64 d[j]!)).setCell ⟨g, o + j, none⟩ (.int .u64 d[i]!)).drew := by
  have ho : Only (fun b => b = g) w' ((w'.setCell ⟨g, o + i, none⟩ (.int .u64 d[j]!)).setCell ⟨g, o + j, none⟩ (.int .u64 d[i]!)).drew := (((Only.refl (fun b => b = g) w').setCell (p := ⟨g, o + i, none⟩) rfl _).setCell (p := ⟨g, o + j, none⟩) rfl _).drew
  exact ⟨h.only.trans (ho.mono fun b hb => Or.inl hb), h.dt.swp i j hi hj, (ho.block q hgq).trans h.rnd⟩
def oth (L M : Nat) (r : Nat) : Nat := if (r &&& (M - 1)) ≥ L then (r &&& (M - 1)) - L else (r &&& (M - 1))
theorem bstep {a L M idx : Nat} {r : UInt64} {d : Array Int} {X : Nat} (hX : r.toNat = X) : breakStep a L M (r, d) idx = (xorNext r, Go.Sort.swp d idx (a + oth L M (xorNextN X))) := by
  unfold breakStep oth
  simp only [xorNext_toNat, hX]
set_option maxHeartbeats 6400000 in
set_option maxRecDepth 100000 in
theorem brk_any (w : World) (g o cap t : Nat) (d : Array Int) (a b : Nat) (h : Dt w g o cap t d) (hab : a + 12 < b) (hb : b ≤ d.size) (hs : d.size < 4611686018427387904) :
    Calls Tryz.prog 161 #[.slice (some ⟨g, o, none⟩) d.size cap, .int .i64 a, .int .i64 b] w fun e w' => e = .returned (.tuple #[]) ∧ Only (fun k => k = g ∨ w.heap.size ≤ k) w w' ∧ Dt w' g o cap t (breakPatterns d a b) := by
  have hg := h.lt
  obtain ⟨q, hq⟩ : ∃ q, q = w.heap.size := ⟨_, rfl⟩
  obtain ⟨L, hL⟩ : ∃ L, L = b - a := ⟨_, rfl⟩
  obtain ⟨u, hu⟩ : ∃ u, u = L / 4 := ⟨_, rfl⟩
  have HB := hid (bp_eq (d := d) hL (by omega))
  have hbL : (b : Int) - (a : Int) = (L : Int) := by omega
  have hq4 : Int.tdiv (L : Int) 4 = (u : Int) := by rw [hu]; rfl
  have hL12 : 12 < L := by omega
  have hu4 : 4 * u ≤ L ∧ L < 4 * u + 4 := by omega
  have haL : a + L ≤ d.size := by omega
  have hge8 : decide ((8 : Int) ≤ (L : Int)) = true := decide_eq_true (by omega)
  have hwL : IntKind.u64.wrap (L : Int) = (L : Int) := by rw [IntKind.wrap_u64]; omega
  obtain ⟨W1, hW1⟩ : ∃ W, W = w.alloc (.cells #[.int .u64 (L : Int)] 291) := ⟨_, rfl⟩
  have hO1 : Only (fun k => k = g ∨ w.heap.size ≤ k) w W1 := by rw [hW1]; exact (Only.refl _ w).alloc (fun k hk => Or.inr hk) _
  have hD1 : Dt W1 g o cap t d := h.same (by rw [hW1]; exact ((Only.refl (fun k => w.heap.size ≤ k) w).alloc (fun k hk => hk) _).block g (by omega))
  have HS : Hid (Sx w g o cap t q d L W1) := ⟨hO1, hD1, by rw [hq, hW1]; exact heap_alloc_new _ _⟩
  have HW1 := hid hW1
  have HQ := hid hq
  have hgq : g ≠ q := by omega
  have hqw : w.heap.size ≤ q := by omega
  rw [← hu] at HB
  obtain ⟨M, hM⟩ : ∃ M, M = 1 <<< bitsLen L := ⟨_, rfl⟩
  have hM2 : M ≤ 2 * L := by
    rw [hM, Nat.one_shiftLeft]
    exact two_pow_bitsLen_le (by omega)
  have hM0 : 1 ≤ M := by
    rw [hM, Nat.one_shiftLeft]
    exact Nat.one_le_two_pow
  have HNP := hid (fun w => nextP_any L (by omega) w)
  rw [← hM] at HNP HB
  obtain ⟨R, hR⟩ : ∃ R, R = breakPatterns d a b := ⟨_, rfl⟩
  rw [← hR] at HB ⊢
  have HLn : Hid ((UInt64.ofNat L).toNat = L) := by
    show _ = _
    rw [UInt64.toNat_ofNat']
    exact Nat.mod_eq_of_lt (by omega)
  obtain ⟨N, hN⟩ : ∃ N, N = d.size := ⟨_, rfl⟩
  rw [← hN] at hs hb haL ⊢
  have HN := hid hN.symm
  clear h hO1 hD1 hW1 hq hL hu hM hR hN
  go_enter Tryz.func161, Tryz.ntmps161
  go_upto_region 3 with fail
  rw [← HW1.out, ← HQ.out]
  go_upto_region 5 with (go_at_call 198; refine (HNP.out _).mono ?_; rintro e z ⟨rfl, hz⟩; rw [hz]; clear hz z HNP)
  obtain ⟨i0, hi0⟩ : ∃ i0, i0 = a + u * 2 - 1 := ⟨_, rfl⟩
  rw [← hi0] at HB
  have hi1 : i0 + 1 ≤ a + u * 2 ∧ a + u * 2 ≤ i0 + 1 := by omega
  have HI0 := hid hi0
  clear hi0
  go_loopw [9] (fun x wr => ∃ (n k : Nat) (r : UInt64) (X : Nat) (d' : Array Int), (n + k = 3) ∧ x = .int .i64 ((i0 : Int) + (k : Int)) ∧ r.toNat = X ∧ X < 18446744073709551616 ∧ d'.size = N ∧ Sx w g o cap t q d' X wr ∧ bpR a L M n (i0 + k) (r, d') = R) (fun x _ => (3 - (intOf x - (i0 : Int))).toNat)
  case atStart => exact ⟨3, 0, UInt64.ofNat L, L, d, rfl, by rw [HI0.out, show ((a + u * 2 - 1 : Nat) : Int) = (a : Int) + (u : Int) * 2 - 1 by omega]; go_num, HLn.out, by omega, HN.out, HS.out, HB.out.symm⟩
  case round =>
    obtain ⟨n, k, r, X, d', hnk, rfl, hrX, hX, hsz, hS, hE⟩ := hrel
    generalize wr = wx at *
    have HS' := hid hS
    have HE := hid hE
    have HZ := hid hsz
    have HrX := hid hrX
    clear hS hE hsz HS hrX HB
    cases n with
    | zero =>
      have hle : decide ((i0 : Int) + (k : Int) ≤ (a : Int) + (u : Int) * 2 + 1) = false := decide_eq_false (by omega)
      have hleI : ¬ (i0 : Int) + (k : Int) ≤ (a : Int) + (u : Int) * 2 + 1 := by omega
      have HE2 : Hid (d' = R) := HE.out
      go_wp2
      first | go_end0 | refine bodyPost_ret (results_none rfl _ _ _) rfl ?_
      exact ⟨rfl, HS'.out.only, by rw [← HE2.out]; exact HS'.out.dt⟩
    | succ n =>
      have hle : decide ((i0 : Int) + (k : Int) ≤ (a : Int) + (u : Int) * 2 + 1) = true := decide_eq_true (by omega)
      have hleI : (i0 : Int) + (k : Int) ≤ (a : Int) + (u : Int) * 2 + 1 := by omega
      have hE2 := HE.out
      rw [show bpR a L M (n + 1) (i0 + k) (r, d') = bpR a L M n (i0 + k + 1) (breakStep a L M (r, d') (i0 + k)) from rfl, bstep HrX.out] at hE2
      have hXn := xorNextN_lt X hX
      have HXr : Hid ((xorNext r).toNat = xorNextN X) := by show _ = _; rw [xorNext_toNat, HrX.out]
      have HXN := hid (xorN_any q X hX wx HS'.out.cell HS'.out.free)
      obtain ⟨Y, hY⟩ : ∃ Y, Y = xorNextN X := ⟨_, rfl⟩
      rw [← hY] at hE2 hXn HXr HXN
      have HS2 := hid (HS'.out.next (Y := Y) hqw hgq 3)
      obtain ⟨v, hv⟩ : ∃ v, v = Y &&& (M - 1) := ⟨_, rfl⟩
      have hvM : v ≤ M - 1 := by rw [hv]; exact Nat.and_le_right
      have hand : bits .and .u64 (Y : Int) ((M : Int) - 1) = (v : Int) := by
        rw [show (M : Int) - 1 = ((M - 1 : Nat) : Int) by omega, bits_and_u64_nat _ _ hXn (by omega), hv]
      have hoth : oth L M Y = if v ≥ L then v - L else v := by unfold oth; rw [← hv]
      rw [hoth] at hE2
      have HE2 := hid hE2
      clear hE2 hoth hv hY
      go_upto_region 8 with (go_at_call 199; refine (HXN.out).mono ?_; rintro e z ⟨rfl, hz⟩; rw [hz]; clear hz z HXN)
      generalize (wx.setCell ⟨q, 0, none⟩ (.int .u64 (Y : Int))).drewN 3 = wy at HS2 ⊢
      clear HS' HE
      obtain ⟨p, hp⟩ : ∃ p, p = if v ≥ L then v - L else v := ⟨_, rfl⟩
      have hpL : p < L := by rw [hp]; split <;> omega
      rw [← hp] at HE2
      go_upto_if 43 with fail
      go_cut [10] (fun x wz => x = .int .i64 (p : Nat) ∧ wz = wy)
      case first =>
        by_cases hvL : v ≥ L
        · have hd : decide ((L : Int) ≤ (v : Int)) = true := decide_eq_true (by omega)
          have hdI : (L : Int) ≤ (v : Int) := by omega
          have hpv : (p : Int) = (v : Int) - (L : Int) := by rw [hp, if_pos hvL]; omega
          clear hp
          have HPV := hid hpv
          clear hpv
          go_wp2
          go_meet
          case rel => exact ⟨by rw [HPV.out], rfl⟩
        · have hd : decide ((L : Int) ≤ (v : Int)) = false := decide_eq_false (by omega)
          have hdI : ¬ (L : Int) ≤ (v : Int) := by omega
          have hpv : p = v := by rw [hp, if_neg hvL]
          have HPV := hid hpv
          clear hp hpv
          go_wp2
          go_meet
          case rel => exact ⟨by rw [HPV.out], rfl⟩
      case rest =>
        obtain ⟨rfl, hwc⟩ := hcut
        rw [hwc]
        clear hwc
        have hidx : i0 + k < N := by omega
        have ci := HS2.out.dt.cell (i0 + k) (by rw [HZ.out]; omega)
        have cj := HS2.out.dt.cell (a + p) (by rw [HZ.out]; omega)
        have fi := HS2.out.dt.free (o + (i0 + k))
        have fj := HS2.out.dt.free (o + (a + p))
        have hii : (i0 : Int) + (k : Int) < (N : Int) := by omega
        have hij : (a : Int) + (p : Int) < (N : Int) := by omega
        have HSw := hid (HS2.out.swp (Ne.symm hgq) (i0 + k) (a + p) (by rw [HZ.out]; omega) (by rw [HZ.out]; omega))
        have cs := (HS2.out.dt.set (i0 + k) (by rw [HZ.out]; omega) d'[a + p]!).cell (a + p) (by rw [Array.size_setIfInBounds, HZ.out]; omega)
        generalize (d'.setIfInBounds (i0 + k) d'[a + p]!)[a + p]! = xz at cs
        generalize d'[i0 + k]! = xi at ci HSw
        generalize d'[a + p]! = xj at cj HSw cs
        clear hp
        go_upto_region 10 with fail
        go_region
        go_wp2
        go_roundw
        case rel => exact ⟨n, k + 1, xorNext r, Y, _, by omega, by go_num, HXr.out, hXn, by rw [swp_size, HZ.out], HSw.out, HE2.out⟩
        case measure => simp [intOf]; omega
end Go.Proofs.YtdehlnaoehjehaaGreatDoor
