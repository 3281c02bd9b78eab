/-
  Proved here: reverseRangeOrdered, siftDownOrdered, heapSortOrdered do what the plain ones do. Conditions: the numbers lie as they say; the bounds lie within them.
-/
import Derived.Test.YtdehlnaoehjehaaGreatDoorzS3
namespace Go.Proofs.YtdehlnaoehjehaaGreatDoor
open Go.RowKit Go.Sort

set_option maxHeartbeats 3200000 in
set_option maxRecDepth 100000 in
theorem rev_any (w : World) (g o cap t : Nat) (d : Array Int) (a b : Nat) (h : Dt w g o cap t d) (hab : a < b) (hb : b ≤ d.size) (hs : d.size < 4611686018427387904) :
    Calls Tryz.prog 163 #[.slice (some ⟨g, o, none⟩) d.size cap, .int .i64 a, .int .i64 b] w fun e w' => e = .returned (.tuple #[]) ∧ Sd w g o cap t (reverseRange d a b) w' := by
  have HS := hid (Sd.refl h)
  obtain ⟨N, hN⟩ : ∃ N, N = d.size := ⟨_, rfl⟩
  have HI : Hid (reverseRange d a b = reverseLoop a (b - 1) d) := rfl
  rw [← hN] at hb hs ⊢
  have HN : Hid (N = d.size) := hN
  clear h hN
  go_enter Tryz.func163, Tryz.ntmps163
  go_upto_region 2 with fail
  go_loopw [6, 7] (fun x y wr => ∃ (i j : Nat) (d' : Array Int), (i ≤ j + 1 ∧ j < N) ∧ x = .int .i64 i ∧ y = .int .i64 j ∧ d'.size = N ∧ Sd w g o cap t d' wr ∧ reverseLoop i j d' = reverseRange d a b) (fun x y _ => (intOf y + 1 - intOf x).toNat)
  case atStart => exact ⟨a, b - 1, d, ⟨by omega, by omega⟩, rfl, by rw [show ((b - 1 : Nat) : Int) = (b : Int) - 1 by omega], HN.out.symm, HS.out, HI.out.symm⟩
  case round =>
    obtain ⟨i, j, d', ⟨hi1, hi2⟩, rfl, rfl, hsz, hS, hE⟩ := hrel
    generalize wr = wx at *
    have HS' := hid hS
    have HE := hid hE
    have HZ := hid hsz
    clear hS hE hsz HS
    by_cases hlt : i < j
    · have hkl : decide ((i : Int) < (j : Int)) = true := decide_eq_true (by omega)
      have HE2 : Hid (reverseLoop (i + 1) (j - 1) (Go.Sort.swp d' i j) = reverseRange d a b) := by
        have := HE.out
        rw [reverseLoop, if_pos hlt] at this
        exact this
      have ci := HS'.out.dt.cell i (by rw [HZ.out]; omega)
      have cj := HS'.out.dt.cell j (by rw [HZ.out]; omega)
      have fi := HS'.out.dt.free (o + i)
      have fj := HS'.out.dt.free (o + j)
      have hii : (i : Int) < (N : Int) := by omega
      have hij : (j : Int) < (N : Int) := by omega
      have hne : o + i ≠ o + j := by omega
      have HSw : Hid (∀ n, Sd w g o cap t (Go.Sort.swp d' i j) (((wx.drewN n).drew.setCell ⟨g, o + i, none⟩ (.int .u64 d'[j]!)).setCell ⟨g, o + j, none⟩ (.int .u64 d'[i]!))) := fun n => (HS'.out.drewN n).drew.swp i j (by rw [HZ.out]; omega) (by rw [HZ.out]; omega)
      generalize d'[i]! = xi at ci HSw
      generalize d'[j]! = xj at cj HSw
      go_wp2
      go_region
      go_wp2
      go_roundw
      case rel => exact ⟨i + 1, j - 1, _, ⟨by omega, by omega⟩, by go_num, by rw [show ((j - 1 : Nat) : Int) = (j : Int) - 1 by omega], by rw [swp_size, HZ.out], HSw.out 0, HE2.out⟩
      case measure => simp [intOf]; omega
    · have hkl : decide ((i : Int) < (j : Int)) = false := decide_eq_false (by omega)
      have HE2 : Hid (d' = reverseRange d a b) := by
        have := HE.out
        rw [reverseLoop, if_neg hlt] at this
        exact this
      go_wp2
      first | go_end0 | refine bodyPost_ret (results_none rfl _ _ _) rfl ?_
      exact ⟨rfl, by rw [← HE2.out]; exact HS'.out⟩
set_option maxHeartbeats 3200000 in
set_option maxRecDepth 100000 in
theorem sift_any (w : World) (g o cap t : Nat) (d : Array Int) (lo hi first : Nat) (h : Dt w g o cap t d) (hb : first + hi ≤ d.size) (hlo : lo ≤ d.size) (hs : d.size < 4611686018427387904) :
    Calls Tryz.prog 197 #[.slice (some ⟨g, o, none⟩) d.size cap, .int .i64 lo, .int .i64 hi, .int .i64 first] w fun e w' => e = .returned (.tuple #[]) ∧ Sd w g o cap t (siftDown ltInt hi first lo d) w' := by
  have HS := hid (Sd.refl h)
  obtain ⟨N, hN⟩ : ∃ N, N = d.size := ⟨_, rfl⟩
  rw [← hN] at hb hlo hs ⊢
  have HN : Hid (N = d.size) := hN
  clear h hN
  go_enter Tryz.func197, Tryz.ntmps197
  go_upto_region 1 with fail
  go_loopw [8] (fun x wr => ∃ (r : Nat) (d' : Array Int), r ≤ N ∧ x = .int .i64 r ∧ d'.size = N ∧ Sd w g o cap t d' wr ∧ siftDown ltInt hi first r d' = siftDown ltInt hi first lo d) (fun x _ => N - (intOf x).toNat)
  case atStart => exact ⟨lo, d, hlo, rfl, HN.out.symm, HS.out, rfl⟩
  case round =>
    obtain ⟨r, d', hr, rfl, hsz, hS, hE⟩ := hrel
    generalize wr = wx at *
    have HS' := hid hS
    have HE := hid hE
    have HZ := hid hsz
    clear hS hE hsz HS
    by_cases hge : hi ≤ 2 * r + 1
    · have hkl : decide ((hi : Int) ≤ 2 * (r : Int) + 1) = true := decide_eq_true (by omega)
      have HE2 : Hid (d' = siftDown ltInt hi first lo d) := by
        have := HE.out
        rw [siftDown, dif_pos hge] at this
        exact this
      clear hge
      go_wp2
      first | go_end0 | refine bodyPost_ret (results_none rfl _ _ _) rfl ?_
      exact ⟨rfl, by rw [← HE2.out]; exact HS'.out⟩
    · have hkl : decide ((hi : Int) ≤ 2 * (r : Int) + 1) = false := decide_eq_false (by omega)
      have hE := HE.out
      rw [siftDown, dif_neg hge] at hE
      by_cases h2 : 2 * r + 2 < hi
      · have hk2 : decide (2 * (r : Int) + 1 + 1 < (hi : Int)) = true := decide_eq_true (by omega)
        have ca := HS'.out.dt.cell (first + (2 * r + 1)) (by rw [HZ.out]; omega)
        have cb := HS'.out.dt.cell (first + (2 * r + 1) + 1) (by rw [HZ.out]; omega)
        have hia : (first : Int) + (2 * (r : Int) + 1) < (N : Int) := by omega
        have hib : (first : Int) + (2 * (r : Int) + 1) + 1 < (N : Int) := by omega
        have HLa := hid (fun w => less_any d'[first + (2 * r + 1)]! d'[first + (2 * r + 1) + 1]! w)
        obtain ⟨xa, hxa⟩ : ∃ x, x = d'[first + (2 * r + 1)]! := ⟨_, rfl⟩
        obtain ⟨xb, hxb⟩ : ∃ x, x = d'[first + (2 * r + 1) + 1]! := ⟨_, rfl⟩
        rw [← hxa] at ca
        rw [← hxb] at cb
        rw [← hxa, ← hxb] at HLa
        have HXa := hid (And.intro hxa hxb)
        clear hxa hxb
        cases hc0 : ltInt xa xb with
        | true =>
          rw [hc0] at HLa
          have HEq : Hid ((if (!ltInt d'[first + r]! d'[first + (2 * r + 2)]!) = true then d' else siftDown ltInt hi first (2 * r + 2) (Go.Sort.swp d' (first + r) (first + (2 * r + 2)))) = siftDown ltInt hi first lo d) := by
            have := hE
            rw [if_pos (by rw [← HXa.out.1, ← HXa.out.2, hc0]; simp; omega), dif_pos h2] at this
            exact this
          clear hE hc0
          go_wp2
          go_quiet (first | (go_at_call 165; refine Calls.quiet_of_same (HLa.out _)))
          have HS'' := hid (HS'.out.drewN nq)
          clear HS' ca cb
          generalize wx.drewN nq = wx at HS'' ⊢
          have HS' := HS''
          clear HS'' HLa
          go_wp2
          have cr := HS'.out.dt.cell (first + r) (by rw [HZ.out]; omega)
          have cc := HS'.out.dt.cell (first + (2 * r + 2)) (by rw [HZ.out]; omega)
          have fr := HS'.out.dt.free (o + (first + r))
          have fc := HS'.out.dt.free (o + (first + (2 * r + 2)))
          have hir : (first : Int) + (r : Int) < (N : Int) := by omega
          have hic : (first : Int) + (2 * (r : Int) + 2) < (N : Int) := by omega
          have HLs := hid (fun w => less_any d'[first + r]! d'[first + (2 * r + 2)]! w)
          obtain ⟨xr, hxr⟩ : ∃ x, x = d'[first + r]! := ⟨_, rfl⟩
          obtain ⟨xc, hxc⟩ : ∃ x, x = d'[first + (2 * r + 2)]! := ⟨_, rfl⟩
          rw [← hxr] at cr
          rw [← hxc] at cc
          rw [← hxr, ← hxc] at HLs
          have HX := hid (And.intro hxr hxc)
          clear hxr hxc
          cases hc : ltInt xr xc with
          | false =>
            rw [hc] at HLs
            have HEn : Hid (d' = siftDown ltInt hi first lo d) := by
              have := HEq.out
              rw [if_pos (by rw [← HX.out.1, ← HX.out.2, hc]; rfl)] at this
              exact this
            clear hc
            go_quiet (first | (go_at_call 165; refine Calls.quiet_of_same (HLs.out _)))
            go_wp2
            first | go_end0 | refine bodyPost_ret (results_none rfl _ _ _) rfl ?_
            exact ⟨rfl, by rw [← HEn.out]; exact HS'.out.drewN _⟩
          | true =>
            rw [hc] at HLs
            have HEn : Hid (siftDown ltInt hi first (2 * r + 2) (Go.Sort.swp d' (first + r) (first + (2 * r + 2))) = siftDown ltInt hi first lo d) := by
              have := HEq.out
              rw [if_neg (by rw [← HX.out.1, ← HX.out.2, hc]; decide)] at this
              exact this
            have HSw : Hid (∀ n, Sd w g o cap t (Go.Sort.swp d' (first + r) (first + (2 * r + 2))) (((wx.drewN n).drew.setCell ⟨g, o + (first + r), none⟩ (.int .u64 xc)).setCell ⟨g, o + (first + (2 * r + 2)), none⟩ (.int .u64 xr))) := fun n => by
              have hSw := (HS'.out.drewN n).drew.swp (first + r) (first + (2 * r + 2)) (by rw [HZ.out]; omega) (by rw [HZ.out]; omega)
              rw [← HX.out.1, ← HX.out.2] at hSw
              exact hSw
            clear hc
            go_quiet (first | (go_at_call 165; refine Calls.quiet_of_same (HLs.out _)))
            go_wp2
            go_region
            go_wp2
            go_roundw
            case rel => exact ⟨2 * r + 2, _, by omega, by go_num, by rw [swp_size, HZ.out], HSw.out _, HEn.out⟩
            case measure => simp [intOf]; omega
        | false =>
          rw [hc0] at HLa
          have HEq : Hid ((if (!ltInt d'[first + r]! d'[first + (2 * r + 1)]!) = true then d' else siftDown ltInt hi first (2 * r + 1) (Go.Sort.swp d' (first + r) (first + (2 * r + 1)))) = siftDown ltInt hi first lo d) := by
            have := hE
            rw [if_neg (by rw [← HXa.out.1, ← HXa.out.2, hc0]; simp)] at this
            exact this
          clear hE hc0
          go_wp2
          go_quiet (first | (go_at_call 165; refine Calls.quiet_of_same (HLa.out _)))
          have HS'' := hid (HS'.out.drewN nq)
          clear HS' ca cb
          generalize wx.drewN nq = wx at HS'' ⊢
          have HS' := HS''
          clear HS'' HLa
          go_wp2
          have cr := HS'.out.dt.cell (first + r) (by rw [HZ.out]; omega)
          have cc := HS'.out.dt.cell (first + (2 * r + 1)) (by rw [HZ.out]; omega)
          have fr := HS'.out.dt.free (o + (first + r))
          have fc := HS'.out.dt.free (o + (first + (2 * r + 1)))
          have hir : (first : Int) + (r : Int) < (N : Int) := by omega
          have hic : (first : Int) + (2 * (r : Int) + 1) < (N : Int) := by omega
          have HLs := hid (fun w => less_any d'[first + r]! d'[first + (2 * r + 1)]! w)
          obtain ⟨xr, hxr⟩ : ∃ x, x = d'[first + r]! := ⟨_, rfl⟩
          obtain ⟨xc, hxc⟩ : ∃ x, x = d'[first + (2 * r + 1)]! := ⟨_, rfl⟩
          rw [← hxr] at cr
          rw [← hxc] at cc
          rw [← hxr, ← hxc] at HLs
          have HX := hid (And.intro hxr hxc)
          clear hxr hxc
          cases hc : ltInt xr xc with
          | false =>
            rw [hc] at HLs
            have HEn : Hid (d' = siftDown ltInt hi first lo d) := by
              have := HEq.out
              rw [if_pos (by rw [← HX.out.1, ← HX.out.2, hc]; rfl)] at this
              exact this
            clear hc
            go_quiet (first | (go_at_call 165; refine Calls.quiet_of_same (HLs.out _)))
            go_wp2
            first | go_end0 | refine bodyPost_ret (results_none rfl _ _ _) rfl ?_
            exact ⟨rfl, by rw [← HEn.out]; exact HS'.out.drewN _⟩
          | true =>
            rw [hc] at HLs
            have HEn : Hid (siftDown ltInt hi first (2 * r + 1) (Go.Sort.swp d' (first + r) (first + (2 * r + 1))) = siftDown ltInt hi first lo d) := by
              have := HEq.out
              rw [if_neg (by rw [← HX.out.1, ← HX.out.2, hc]; decide)] at this
              exact this
            have HSw : Hid (∀ n, Sd w g o cap t (Go.Sort.swp d' (first + r) (first + (2 * r + 1))) (((wx.drewN n).drew.setCell ⟨g, o + (first + r), none⟩ (.int .u64 xc)).setCell ⟨g, o + (first + (2 * r + 1)), none⟩ (.int .u64 xr))) := fun n => by
              have hSw := (HS'.out.drewN n).drew.swp (first + r) (first + (2 * r + 1)) (by rw [HZ.out]; omega) (by rw [HZ.out]; omega)
              rw [← HX.out.1, ← HX.out.2] at hSw
              exact hSw
            clear hc
            go_quiet (first | (go_at_call 165; refine Calls.quiet_of_same (HLs.out _)))
            go_wp2
            go_region
            go_wp2
            go_roundw
            case rel => exact ⟨2 * r + 1, _, by omega, by go_num, by rw [swp_size, HZ.out], HSw.out _, HEn.out⟩
            case measure => simp [intOf]; omega
      · have hk2 : decide (2 * (r : Int) + 1 + 1 < (hi : Int)) = false := decide_eq_false (by omega)
        have HEq : Hid ((if (!ltInt d'[first + r]! d'[first + (2 * r + 1)]!) = true then d' else siftDown ltInt hi first (2 * r + 1) (Go.Sort.swp d' (first + r) (first + (2 * r + 1)))) = siftDown ltInt hi first lo d) := by
          have := hE
          rw [if_neg (by simp; omega)] at this
          exact this
        clear hE
        go_wp2
        go_quiet (fail)
        have HS'' := hid (HS'.out.drewN nq)
        clear HS'
        generalize wx.drewN nq = wx at HS'' ⊢
        have HS' := HS''
        clear HS''
        go_wp2
        have cr := HS'.out.dt.cell (first + r) (by rw [HZ.out]; omega)
        have cc := HS'.out.dt.cell (first + (2 * r + 1)) (by rw [HZ.out]; omega)
        have fr := HS'.out.dt.free (o + (first + r))
        have fc := HS'.out.dt.free (o + (first + (2 * r + 1)))
        have hir : (first : Int) + (r : Int) < (N : Int) := by omega
        have hic : (first : Int) + (2 * (r : Int) + 1) < (N : Int) := by omega
        have HLs := hid (fun w => less_any d'[first + r]! d'[first + (2 * r + 1)]! w)
        obtain ⟨xr, hxr⟩ : ∃ x, x = d'[first + r]! := ⟨_, rfl⟩
        obtain ⟨xc, hxc⟩ : ∃ x, x = d'[first + (2 * r + 1)]! := ⟨_, rfl⟩
        rw [← hxr] at cr
        rw [← hxc] at cc
        rw [← hxr, ← hxc] at HLs
        have HX := hid (And.intro hxr hxc)
        clear hxr hxc
        cases hc : ltInt xr xc with
        | false =>
          rw [hc] at HLs
          have HEn : Hid (d' = siftDown ltInt hi first lo d) := by
            have := HEq.out
            rw [if_pos (by rw [← HX.out.1, ← HX.out.2, hc]; rfl)] at this
            exact this
          clear hc
          go_quiet (first | (go_at_call 165; refine Calls.quiet_of_same (HLs.out _)))
          go_wp2
          first | go_end0 | refine bodyPost_ret (results_none rfl _ _ _) rfl ?_
          exact ⟨rfl, by rw [← HEn.out]; exact HS'.out.drewN _⟩
        | true =>
          rw [hc] at HLs
          have HEn : Hid (siftDown ltInt hi first (2 * r + 1) (Go.Sort.swp d' (first + r) (first + (2 * r + 1))) = siftDown ltInt hi first lo d) := by
            have := HEq.out
            rw [if_neg (by rw [← HX.out.1, ← HX.out.2, hc]; decide)] at this
            exact this
          have HSw : Hid (∀ n, Sd w g o cap t (Go.Sort.swp d' (first + r) (first + (2 * r + 1))) (((wx.drewN n).drew.setCell ⟨g, o + (first + r), none⟩ (.int .u64 xc)).setCell ⟨g, o + (first + (2 * r + 1)), none⟩ (.int .u64 xr))) := fun n => by
            have hSw := (HS'.out.drewN n).drew.swp (first + r) (first + (2 * r + 1)) (by rw [HZ.out]; omega) (by rw [HZ.out]; omega)
            rw [← HX.out.1, ← HX.out.2] at hSw
            exact hSw
          clear hc
          go_quiet (first | (go_at_call 165; refine Calls.quiet_of_same (HLs.out _)))
          go_wp2
          go_region
          go_wp2
          go_roundw
          case rel => exact ⟨2 * r + 1, _, by omega, by go_num, by rw [swp_size, HZ.out], HSw.out _, HEn.out⟩
          case measure => simp [intOf]; omega
theorem siftDown_size (hi first : Nat) : ∀ (n root : Nat) (d : Array Int), hi - root ≤ n → (siftDown ltInt hi first root d).size = d.size := by
  intro n
  induction n with
  | zero =>
    intro root d hn
    rw [siftDown, dif_pos (by omega)]
  | succ n ih =>
    intro root d hn
    rw [siftDown]
    split
    · rfl
    · split
      · split
        · rfl
        · split
          · rw [ih _ _ (by omega), swp_size]
          · rfl
      · split
        · rfl
        · rw [ih _ _ (by omega), swp_size]
theorem sift_sz (hi first root : Nat) (d : Array Int) : (siftDown ltInt hi first root d).size = d.size := siftDown_size hi first _ root d (Nat.le_refl _)
set_option maxHeartbeats 3200000 in
set_option maxRecDepth 100000 in
theorem heap_any (w : World) (g o cap t : Nat) (d : Array Int) (a b : Nat) (h : Dt w g o cap t d) (hab : a < b) (hb : b ≤ d.size) (hs : d.size < 4611686018427387904) :
    Calls Tryz.prog 160 #[.slice (some ⟨g, o, none⟩) d.size cap, .int .i64 a, .int .i64 b] w fun e w' => e = .returned (.tuple #[]) ∧ Sd w g o cap t (heapSort ltInt d a b) w' := by
  have HS := hid (Sd.refl h)
  obtain ⟨N, hN⟩ : ∃ N, N = d.size := ⟨_, rfl⟩
  obtain ⟨H, hH⟩ : ∃ H, H = b - a := ⟨_, rfl⟩
  have HI : Hid (heapSort ltInt d a b = heapPop ltInt a H (heapBuild ltInt H a ((H - 1) / 2 + 1) d)) := by rw [hH]; rfl
  rw [← hN] at hb hs ⊢
  have HN : Hid (N = d.size) := hN
  have hbH : (b : Int) - (a : Int) = (H : Int) := by omega
  have hH0 : 0 < H := by omega
  have haH : a + H ≤ N := by omega
  have hq : Int.tdiv ((H : Int) - 1) 2 = (((H - 1) / 2 : Nat) : Int) := by
    rw [show (H : Int) - 1 = ((H - 1 : Nat) : Int) by omega]
    rfl
  have HSf : Hid (∀ (w' : World) (d' : Array Int) (lo hi : Nat), Dt w' g o cap t d' → d'.size = N → a + hi ≤ N → lo ≤ N → Calls Tryz.prog 197 #[.slice (some ⟨g, o, none⟩) N cap, .int .i64 lo, .int .i64 hi, .int .i64 a] w' fun e w'' => e = .returned (.tuple #[]) ∧ Sd w' g o cap t (siftDown ltInt hi a lo d') w'') := fun w' d' lo hi hd hz h1 h2 => by
    rw [← hz]
    exact sift_any w' g o cap t d' lo hi a hd (by omega) (by omega) (by omega)
  have HSz : Hid (∀ (w' : World) (d' : Array Int) (hi : Nat), Dt w' g o cap t d' → d'.size = N → a + hi ≤ N → Calls Tryz.prog 197 #[.slice (some ⟨g, o, none⟩) N cap, .int .i64 0, .int .i64 hi, .int .i64 a] w' fun e w'' => e = .returned (.tuple #[]) ∧ Sd w' g o cap t (siftDown ltInt hi a 0 d') w'') := fun w' d' hi hd hz h1 => HSf.out w' d' 0 hi hd hz h1 (by omega)
  clear h hN hH
  go_enter Tryz.func160, Tryz.ntmps160
  go_upto_region 4 with fail
  go_loopw [9] (fun x wr => ∃ (k : Nat) (d' : Array Int), k ≤ N ∧ x = .int .i64 ((k : Int) - 1) ∧ d'.size = N ∧ Sd w g o cap t d' wr ∧ heapBuild ltInt H a k d' = heapBuild ltInt H a ((H - 1) / 2 + 1) d) (fun x _ => (intOf x + 1).toNat)
  case atStart => exact ⟨(H - 1) / 2 + 1, d, by omega, by rw [show ((((H - 1) / 2 + 1 : Nat) : Int) - 1) = ((H - 1 : Nat) : Int) / 2 by omega], HN.out.symm, HS.out, rfl⟩
  case round =>
    obtain ⟨k, d', hk, rfl, hsz, hS, hE⟩ := hrel
    generalize wr = wx at *
    have HS' := hid hS
    have HE := hid hE
    have HZ := hid hsz
    clear hS hE hsz HS
    cases k with
    | succ k =>
      have hkk : (((k + 1 : Nat) : Int) - 1) = (k : Int) := by omega
      rw [hkk]
      have hge : decide ((0 : Int) ≤ (k : Int)) = true := decide_eq_true (by omega)
      have HC := hid (HSf.out wx d' k H HS'.out.dt HZ.out (by omega) (by omega))
      go_wp2_with (go_at_call 197; refine (HC.out).mono ?_; rintro e x1 ⟨rfl, h1⟩; have H1 := hid (HS'.out.trans h1); clear h1 HC)
      go_roundw
      case rel => exact ⟨k, _, by omega, by go_num, by rw [sift_sz, HZ.out], H1.out, HE.out⟩
      case measure => simp [intOf]
    | zero =>
      have hE0 : d' = heapBuild ltInt H a ((H - 1) / 2 + 1) d := HE.out
      have HE0 := hid hE0
      clear hE0
      rw [show (((0 : Nat) : Int) - 1) = -1 by omega]
      go_upto_region 8 with fail
      go_loopw [10] (fun x wr => ∃ (k : Nat) (d2 : Array Int), k ≤ H ∧ x = .int .i64 ((k : Int) - 1) ∧ d2.size = N ∧ Sd w g o cap t d2 wr ∧ heapPop ltInt a k d2 = heapSort ltInt d a b) (fun x _ => (intOf x + 1).toNat)
      case atStart => exact ⟨H, d', by omega, by go_num, HZ.out, HS'.out, by rw [HI.out, ← HE0.out]⟩
      case round =>
        obtain ⟨k, d2, hk, rfl, hsz, hS, hE⟩ := hrel
        generalize wr = wy at *
        have HS2 := hid hS
        have HE2 := hid hE
        have HZ2 := hid hsz
        clear hS hE hsz HS'
        cases k with
        | succ k =>
          have hkk : (((k + 1 : Nat) : Int) - 1) = (k : Int) := by omega
          rw [hkk]
          have hge : decide ((0 : Int) ≤ (k : Int)) = true := decide_eq_true (by omega)
          have ci := HS2.out.dt.cell a (by rw [HZ2.out]; omega)
          have cj := HS2.out.dt.cell (a + k) (by rw [HZ2.out]; omega)
          have fi := HS2.out.dt.free (o + a)
          have fj := HS2.out.dt.free (o + (a + k))
          have hia : (a : Int) < (N : Int) := by omega
          have hij : (a : Int) + (k : Int) < (N : Int) := by omega
          have HSw : Hid (Sd w g o cap t (Go.Sort.swp d2 a (a + k)) ((wy.setCell ⟨g, o + a, none⟩ (.int .u64 d2[a + k]!)).setCell ⟨g, o + (a + k), none⟩ (.int .u64 d2[a]!)).drew) := (HS2.out.swp a (a + k) (by rw [HZ2.out]; omega) (by rw [HZ2.out]; omega)).drew
          have cs := (HS2.out.dt.set a (by rw [HZ2.out]; omega) d2[a + k]!).cell (a + k) (by rw [Array.size_setIfInBounds, HZ2.out]; omega)
          generalize (d2.setIfInBounds a d2[a + k]!)[a + k]! = xz at cs
          generalize d2[a]! = xi at ci HSw
          generalize d2[a + k]! = xj at cj HSw cs
          go_upto_region 10 with fail
          go_region
          go_upto_region 11 with fail
          have HC := hid (HSz.out _ _ k HSw.out.dt (by rw [swp_size, HZ2.out]) (by omega))
          clear ci cj fi fj cs
          generalize ((wy.setCell ⟨g, o + a, none⟩ (.int .u64 xj)).setCell ⟨g, o + (a + k), none⟩ (.int .u64 xi)).drew = wz at HSw HC ⊢
          go_wp2_with (go_at_call 197; refine (HC.out).mono ?_; rintro e x1 ⟨rfl, h1⟩; have H1 := hid (HSw.out.trans h1); clear h1 HC)
          go_roundw
          case rel => exact ⟨k, _, by omega, by go_num, by rw [sift_sz, swp_size, HZ2.out], H1.out, HE2.out⟩
          case measure => simp [intOf]
        | zero =>
          have HE3 : Hid (d2 = heapSort ltInt d a b) := HE2.out
          rw [show (((0 : Nat) : Int) - 1) = -1 by omega]
          go_wp2
          first | go_end0 | refine bodyPost_ret (results_none rfl _ _ _) rfl ?_
          exact ⟨rfl, by rw [← HE3.out]; exact HS2.out⟩
end Go.Proofs.YtdehlnaoehjehaaGreatDoor
