/-
  Proved here: partitionOrdered does what the plain one does. Conditions: the numbers lie as they say; the bounds lie within them.
-/
import Derived.Test.YtdehlnaoehjehaaGreatDoorzS5
namespace Go.Proofs.YtdehlnaoehjehaaGreatDoor
open Go.RowKit Go.Sort

theorem part_eq {d d1 : Array Int} {a j0 pv i2 j2 : Nat} (hd : Go.Sort.swp d a pv = d1) (h1 : scanUp (fun x => ltInt x d1[a]!) d1 j0 (a + 1) = i2) (h2 : scanDown (fun x => !ltInt x d1[a]!) d1 i2 j0 = j2) :
    partition ltInt d a (j0 + 1) pv = if i2 > j2 then (j2, true, Go.Sort.swp d1 j2 a) else ((partLoop ltInt a (i2 + 1) (j2 - 1) (Go.Sort.swp d1 i2 j2)).1, false, Go.Sort.swp (partLoop ltInt a (i2 + 1) (j2 - 1) (Go.Sort.swp d1 i2 j2)).2 (partLoop ltInt a (i2 + 1) (j2 - 1) (Go.Sort.swp d1 i2 j2)).1 a) := by
  unfold partition
  simp only [hd, Nat.add_sub_cancel, h1, h2]
set_option maxHeartbeats 6400000 in
set_option maxRecDepth 100000 in
theorem part_any (w : World) (g o cap t : Nat) (d : Array Int) (a b pv : Nat) (h : Dt w g o cap t d) (hap : a ≤ pv) (hpb : pv < b) (hb : b ≤ d.size) (hs : d.size < 4611686018427387904) :
    Calls Tryz.prog 167 #[.slice (some ⟨g, o, none⟩) d.size cap, .int .i64 a, .int .i64 b, .int .i64 pv] w fun e w' => e = .returned (.tuple #[.int .i64 ((partition ltInt d a b pv).1 : Nat), .bool (partition ltInt d a b pv).2.1]) ∧ Sd w g o cap t (partition ltInt d a b pv).2.2 w' := by
  have HS := hid (Sd.refl h)
  obtain ⟨N, hN⟩ : ∃ N, N = d.size := ⟨_, rfl⟩
  obtain ⟨j0, rfl⟩ : ∃ j0, b = j0 + 1 := ⟨b - 1, by omega⟩
  have HI : Hid (∀ d1 i2 j2, Go.Sort.swp d a pv = d1 → scanUp (fun x => ltInt x d1[a]!) d1 j0 (a + 1) = i2 → scanDown (fun x => !ltInt x d1[a]!) d1 i2 j0 = j2 → partition ltInt d a (j0 + 1) pv = _) := fun d1 i2 j2 hd h1 h2 => part_eq hd h1 h2
  rw [← hN] at hb hs ⊢
  have HN : Hid (d.size = N) := hN.symm
  clear h hN
  generalize partition ltInt d a (j0 + 1) pv = R at *
  go_enter Tryz.func167, Tryz.ntmps167
  have ci := HS.out.dt.cell (a) (by rw [HN.out]; omega)
  have cj := HS.out.dt.cell (pv) (by rw [HN.out]; omega)
  have fi := HS.out.dt.free (o + (a))
  have fj := HS.out.dt.free (o + (pv))
  have hii : ((a : Nat) : Int) < (N : Int) := by omega
  have hij : ((pv : Nat) : Int) < (N : Int) := by omega
  have HSw : Hid (Sd w g o cap t (Go.Sort.swp d (a) (pv)) ((w.setCell ⟨g, o + (a), none⟩ (.int .u64 d[pv]!)).setCell ⟨g, o + (pv), none⟩ (.int .u64 d[a]!)).drew) := (HS.out.swp (a) (pv) (by rw [HN.out]; omega) (by rw [HN.out]; omega)).drew
  have cs := (HS.out.dt.set (a) (by rw [HN.out]; omega) d[pv]!).cell (pv) (by rw [Array.size_setIfInBounds, HN.out]; omega)
  generalize (d.setIfInBounds (a) d[pv]!)[pv]! = xz at cs
  generalize d[a]! = xi at ci HSw cs
  generalize d[pv]! = xj at cj HSw cs
  go_upto_region 1 with fail
  go_region
  clear ci cj fi fj cs
  generalize ((w.setCell ⟨g, o + a, none⟩ (.int .u64 xj)).setCell ⟨g, o + pv, none⟩ (.int .u64 xi)).drew = W1 at HSw ⊢
  have HZ : Hid ((Go.Sort.swp d a pv).size = N) := by show _ = _; rw [swp_size, HN.out]
  have HI1 := hid (fun i2 j2 => HI.out _ i2 j2 rfl)
  clear HI
  generalize Go.Sort.swp d a pv = d1 at *
  clear HS hii hij
  go_upto_block 0 with fail
  go_cut [10] (fun x wy => ∃ i2 : Nat, x = .int .i64 i2 ∧ scanUp (fun x => ltInt x d1[a]!) d1 j0 ((a + 1)) = i2 ∧ ((a + 1) ≤ i2 ∧ i2 ≤ j0 + 2) ∧ Sd w g o cap t d1 wy)
  case first =>
    go_wp2_with fail
    go_loopw [10] (fun x wr => ∃ i2 : Nat, ((a + 1) ≤ i2 ∧ i2 ≤ j0 + 2) ∧ x = .int .i64 i2 ∧ Sd w g o cap t d1 wr ∧ scanUp (fun x => ltInt x d1[a]!) d1 j0 (i2) = scanUp (fun x => ltInt x d1[a]!) d1 j0 ((a + 1))) (fun x _ => j0 + 1 - (intOf x).toNat)
    case atStart => exact ⟨(a + 1), ⟨by omega, by omega⟩, by first | rfl | go_num, HSw.out, rfl⟩
    case round =>
      obtain ⟨i2, ⟨hi1, hi2⟩, rfl, hS, hE⟩ := hrel
      generalize wr = wy at *
      have HSy := hid hS
      have HEy := hid hE
      clear hS hE HSw
      by_cases hle : i2 ≤ j0
      · have hdl : decide ((i2 : Int) ≤ (j0 : Int)) = true := decide_eq_true (by omega)
        have c1 := HSy.out.dt.cell (i2) (by rw [HZ.out]; omega)
        have c2 := HSy.out.dt.cell (a) (by rw [HZ.out]; omega)
        have hia : ((i2 : Nat) : Int) < (N : Int) := by omega
        have hii : ((a : Nat) : Int) < (N : Int) := by omega
        have HLs := hid (fun w => less_any d1[i2]! d1[a]! w)
        skip
        cases hc : ltInt d1[i2]! d1[a]! with
        | true =>
          rw [hc] at HLs
          have hcc : (fun x => ltInt x d1[a]!) d1[i2]! = true := by show (ltInt d1[i2]! d1[a]!) = true; rw [hc]
          have HE3 : Hid (scanUp (fun x => ltInt x d1[a]!) d1 j0 (i2 + 1) = scanUp (fun x => ltInt x d1[a]!) d1 j0 ((a + 1))) := by
            have := HEy.out
            rw [scanUp_yes (p := fun x => ltInt x d1[a]!) hle hcc] at this
            exact this
          clear hc hcc
          obtain ⟨xa, hxa⟩ : ∃ x, x = d1[i2]! := ⟨_, rfl⟩
          obtain ⟨xb, hxb⟩ : ∃ x, x = d1[a]! := ⟨_, rfl⟩
          rw [← hxa] at c1 HLs
          rw [← hxb] at c2 HLs
          clear hxa hxb
          go_wp2
          go_quiet (first | (go_at_call 165; refine Calls.quiet_of_same (HLs.out _)))
          go_wp2
          go_roundw
          case rel => exact ⟨i2 + 1, ⟨by omega, by omega⟩, by go_num, HSy.out.drewN _, HE3.out⟩
          case measure => simp [intOf]; omega
        | false =>
          rw [hc] at HLs
          have hcc : (fun x => ltInt x d1[a]!) d1[i2]! = false := by show (ltInt d1[i2]! d1[a]!) = false; rw [hc]
          have HE3 : Hid (scanUp (fun x => ltInt x d1[a]!) d1 j0 ((a + 1)) = i2) := by
            have := HEy.out
            rw [scanUp_no (p := fun x => ltInt x d1[a]!) (Or.inr hcc)] at this
            exact this.symm
          clear hc hcc
          obtain ⟨xa, hxa⟩ : ∃ x, x = d1[i2]! := ⟨_, rfl⟩
          obtain ⟨xb, hxb⟩ : ∃ x, x = d1[a]! := ⟨_, rfl⟩
          rw [← hxa] at c1 HLs
          rw [← hxb] at c2 HLs
          clear hxa hxb
          go_wp2
          go_quiet (first | (go_at_call 165; refine Calls.quiet_of_same (HLs.out _)))
          go_wp2
          go_meet
          case rel => exact ⟨i2, rfl, HE3.out, ⟨by omega, by omega⟩, HSy.out.drewN _⟩
      · have hdl : decide ((i2 : Int) ≤ (j0 : Int)) = false := decide_eq_false (by omega)
        have HE3 : Hid (scanUp (fun x => ltInt x d1[a]!) d1 j0 ((a + 1)) = i2) := by
          have := HEy.out
          rw [scanUp_no (p := fun x => ltInt x d1[a]!) (Or.inl hle)] at this
          exact this.symm
        go_wp2
        go_quiet (fail)
        go_wp2
        go_meet
        case rel => exact ⟨i2, rfl, HE3.out, ⟨by omega, by omega⟩, HSy.out.drewN _⟩
  case rest =>
    obtain ⟨i2, rfl, hE1, ⟨hu1, hu2⟩, hS2⟩ := hcut
    generalize wc = wx2 at *
    have HS2 := hid hS2
    have HE1 := hid hE1
    clear hS2 hE1 HSw
    go_upto_block 2 with fail
    go_cut [11] (fun x wy => ∃ j2 : Nat, x = .int .i64 j2 ∧ scanDown (fun x => !ltInt x d1[a]!) d1 i2 (j0) = j2 ∧ (i2 ≤ j2 + 2 ∧ j2 ≤ j0) ∧ Sd w g o cap t d1 wy)
    case first =>
      go_wp2_with fail
      go_loopw [11] (fun x wr => ∃ j2 : Nat, (i2 ≤ j2 + 2 ∧ j2 ≤ j0) ∧ x = .int .i64 j2 ∧ Sd w g o cap t d1 wr ∧ scanDown (fun x => !ltInt x d1[a]!) d1 i2 (j2) = scanDown (fun x => !ltInt x d1[a]!) d1 i2 (j0)) (fun x _ => (intOf x).toNat)
      case atStart => exact ⟨j0, ⟨by omega, by omega⟩, by first | rfl | go_num, HS2.out, rfl⟩
      case round =>
        obtain ⟨j2, ⟨hi1, hi2⟩, rfl, hS, hE⟩ := hrel
        generalize wr = wy at *
        have HSy := hid hS
        have HEy := hid hE
        clear hS hE HS2
        by_cases hle : i2 ≤ j2
        · have hdl : decide ((i2 : Int) ≤ (j2 : Int)) = true := decide_eq_true (by omega)
          have c1 := HSy.out.dt.cell (j2) (by rw [HZ.out]; omega)
          have c2 := HSy.out.dt.cell (a) (by rw [HZ.out]; omega)
          have hia : ((j2 : Nat) : Int) < (N : Int) := by omega
          have hii : ((a : Nat) : Int) < (N : Int) := by omega
          have HLs := hid (fun w => less_any d1[j2]! d1[a]! w)
          have hj0 : 0 < j2 := by omega
          cases hc : ltInt d1[j2]! d1[a]! with
          | false =>
            rw [hc] at HLs
            have hcc : (fun x => !ltInt x d1[a]!) d1[j2]! = true := by show (!ltInt d1[j2]! d1[a]!) = true; rw [hc]; rfl
            have HE3 : Hid (scanDown (fun x => !ltInt x d1[a]!) d1 i2 (j2 - 1) = scanDown (fun x => !ltInt x d1[a]!) d1 i2 (j0)) := by
              have := HEy.out
              rw [scanDown_yes (p := fun x => !ltInt x d1[a]!) hj0 hle hcc] at this
              exact this
            clear hc hcc
            obtain ⟨xa, hxa⟩ : ∃ x, x = d1[j2]! := ⟨_, rfl⟩
            obtain ⟨xb, hxb⟩ : ∃ x, x = d1[a]! := ⟨_, rfl⟩
            rw [← hxa] at c1 HLs
            rw [← hxb] at c2 HLs
            clear hxa hxb
            go_wp2
            go_quiet (first | (go_at_call 165; refine Calls.quiet_of_same (HLs.out _)))
            go_wp2
            go_roundw
            case rel => exact ⟨j2 - 1, ⟨by omega, by omega⟩, by rw [show ((j2 - 1 : Nat) : Int) = (j2 : Int) - 1 by omega], HSy.out.drewN _, HE3.out⟩
            case measure => simp [intOf]; omega
          | true =>
            rw [hc] at HLs
            have hcc : (fun x => !ltInt x d1[a]!) d1[j2]! = false := by show (!ltInt d1[j2]! d1[a]!) = false; rw [hc]; rfl
            have HE3 : Hid (scanDown (fun x => !ltInt x d1[a]!) d1 i2 (j0) = j2) := by
              have := HEy.out
              rw [scanDown_no (p := fun x => !ltInt x d1[a]!) (Or.inr hcc)] at this
              exact this.symm
            clear hc hcc
            obtain ⟨xa, hxa⟩ : ∃ x, x = d1[j2]! := ⟨_, rfl⟩
            obtain ⟨xb, hxb⟩ : ∃ x, x = d1[a]! := ⟨_, rfl⟩
            rw [← hxa] at c1 HLs
            rw [← hxb] at c2 HLs
            clear hxa hxb
            go_wp2
            go_quiet (first | (go_at_call 165; refine Calls.quiet_of_same (HLs.out _)))
            go_wp2
            go_meet
            case rel => exact ⟨j2, rfl, HE3.out, ⟨by omega, by omega⟩, HSy.out.drewN _⟩
        · have hdl : decide ((i2 : Int) ≤ (j2 : Int)) = false := decide_eq_false (by omega)
          have HE3 : Hid (scanDown (fun x => !ltInt x d1[a]!) d1 i2 (j0) = j2) := by
            have := HEy.out
            rw [scanDown_no (p := fun x => !ltInt x d1[a]!) (Or.inl hle)] at this
            exact this.symm
          go_wp2
          go_quiet (fail)
          go_wp2
          go_meet
          case rel => exact ⟨j2, rfl, HE3.out, ⟨by omega, by omega⟩, HSy.out.drewN _⟩
    case rest =>
      obtain ⟨j2, rfl, hE2, ⟨hv1, hv2⟩, hS3⟩ := hcut
      generalize wc = wx3 at *
      have HS3 := hid hS3
      have hstep := HI1.out i2 j2 HE1.out hE2
      clear hS3 hE2 HS2
      by_cases hgt : i2 > j2
      · have hdg : decide ((j2 : Int) < (i2 : Int)) = true := decide_eq_true (by omega)
        rw [if_pos hgt] at hstep
        have HR := hid hstep
        have hgI : (j2 : Int) < (i2 : Int) := by omega
        clear hstep hgt
        have ci := HS3.out.dt.cell (j2) (by rw [HZ.out]; omega)
        have cj := HS3.out.dt.cell (a) (by rw [HZ.out]; omega)
        have fi := HS3.out.dt.free (o + (j2))
        have fj := HS3.out.dt.free (o + (a))
        have hii : ((j2 : Nat) : Int) < (N : Int) := by omega
        have hij : ((a : Nat) : Int) < (N : Int) := by omega
        have HSw : Hid (Sd w g o cap t (Go.Sort.swp d1 (j2) (a)) ((wx3.setCell ⟨g, o + (j2), none⟩ (.int .u64 d1[a]!)).setCell ⟨g, o + (a), none⟩ (.int .u64 d1[j2]!)).drew) := (HS3.out.swp (j2) (a) (by rw [HZ.out]; omega) (by rw [HZ.out]; omega)).drew
        have cs := (HS3.out.dt.set (j2) (by rw [HZ.out]; omega) d1[a]!).cell (a) (by rw [Array.size_setIfInBounds, HZ.out]; omega)
        generalize (d1.setIfInBounds (j2) d1[a]!)[a]! = xz at cs
        generalize d1[j2]! = xi at ci HSw cs
        generalize d1[a]! = xj at cj HSw cs
        go_upto_region 8 with fail
        go_region
        go_wp2
        go_ret2
        exact ⟨by rw [HR.out]; rfl, by rw [HR.out]; exact HSw.out⟩
      · have hdg : decide ((j2 : Int) < (i2 : Int)) = false := decide_eq_false (by omega)
        rw [if_neg hgt] at hstep
        have HR := hid hstep
        have hgI : ¬ (j2 : Int) < (i2 : Int) := by omega
        clear hstep
        have ci := HS3.out.dt.cell (i2) (by rw [HZ.out]; omega)
        have cj := HS3.out.dt.cell (j2) (by rw [HZ.out]; omega)
        have fi := HS3.out.dt.free (o + (i2))
        have fj := HS3.out.dt.free (o + (j2))
        have hii : ((i2 : Nat) : Int) < (N : Int) := by omega
        have hij : ((j2 : Nat) : Int) < (N : Int) := by omega
        have HSw : Hid (Sd w g o cap t (Go.Sort.swp d1 (i2) (j2)) ((wx3.setCell ⟨g, o + (i2), none⟩ (.int .u64 d1[j2]!)).setCell ⟨g, o + (j2), none⟩ (.int .u64 d1[i2]!)).drew) := (HS3.out.swp (i2) (j2) (by rw [HZ.out]; omega) (by rw [HZ.out]; omega)).drew
        have cs := (HS3.out.dt.set (i2) (by rw [HZ.out]; omega) d1[j2]!).cell (j2) (by rw [Array.size_setIfInBounds, HZ.out]; omega)
        generalize (d1.setIfInBounds (i2) d1[j2]!)[j2]! = xz at cs
        generalize d1[i2]! = xi at ci HSw cs
        generalize d1[j2]! = xj at cj HSw cs
        go_upto_region 10 with fail
        go_region
        clear ci cj fi fj cs
        generalize ((wx3.setCell ⟨g, o + i2, none⟩ (.int .u64 xj)).setCell ⟨g, o + j2, none⟩ (.int .u64 xi)).drew = W4 at HSw ⊢
        have HZ4 : Hid ((Go.Sort.swp d1 i2 j2).size = N) := by show _ = _; rw [swp_size, HZ.out]
        generalize Go.Sort.swp d1 i2 j2 = d4 at *
        clear HS3 hii hij HI1 HE1
        obtain ⟨i4, hi4⟩ : ∃ x, x = i2 + 1 := ⟨_, rfl⟩
        obtain ⟨j4, hj4⟩ : ∃ x, x = j2 - 1 := ⟨_, rfl⟩
        have hi4b : a < i4 ∧ i4 ≤ j4 + 2 ∧ j4 < j0 + 1 := by omega
        rw [← hi4, ← hj4] at HR
        generalize hRl : partLoop ltInt a i4 j4 d4 = RL at *
        have HRl := hid hRl
        clear hRl
        go_wp2
        go_loopw [10, 11] (fun x y wr => ∃ (i j : Nat) (d' : Array Int), (a < i ∧ i ≤ j + 2 ∧ j < j0 + 1) ∧ x = .int .i64 i ∧ y = .int .i64 j ∧ d'.size = N ∧ Sd w g o cap t d' wr ∧ partLoop ltInt a i j d' = RL) (fun x y _ => (intOf y + 1 - intOf x).toNat)
        case atStart => exact ⟨i4, j4, d4, hi4b, by rw [hi4]; go_num, by rw [hj4, show ((j2 - 1 : Nat) : Int) = (j2 : Int) - 1 by omega], HZ4.out, HSw.out, HRl.out⟩
        case round =>
          obtain ⟨i, j, d', ⟨hi0, hij, hjb⟩, rfl, rfl, hsz, hS, hE⟩ := hrel
          generalize wr = wx at *
          have HS' := hid hS
          have HE := hid hE
          have HZ := hid hsz
          clear hS hE hsz HSw HRl hi4 hj4
          go_upto_block 6 with fail
          go_cut [10] (fun x wy => ∃ i2 : Nat, x = .int .i64 i2 ∧ scanUp (fun x => ltInt x d'[a]!) d' j (i) = i2 ∧ (i ≤ i2 ∧ i2 ≤ j + 2) ∧ Sd w g o cap t d' wy)
          case first =>
            go_wp2_with fail
            go_loopw [10] (fun x wr => ∃ i2 : Nat, (i ≤ i2 ∧ i2 ≤ j + 2) ∧ x = .int .i64 i2 ∧ Sd w g o cap t d' wr ∧ scanUp (fun x => ltInt x d'[a]!) d' j (i2) = scanUp (fun x => ltInt x d'[a]!) d' j (i)) (fun x _ => j + 1 - (intOf x).toNat)
            case atStart => exact ⟨i, ⟨by omega, by omega⟩, by first | rfl | go_num, HS'.out, rfl⟩
            case round =>
              obtain ⟨i2, ⟨hi1, hi2⟩, rfl, hS, hE⟩ := hrel
              generalize wr = wy at *
              have HSy := hid hS
              have HEy := hid hE
              clear hS hE HS'
              by_cases hle : i2 ≤ j
              · have hdl : decide ((i2 : Int) ≤ (j : Int)) = true := decide_eq_true (by omega)
                have c1 := HSy.out.dt.cell (i2) (by rw [HZ.out]; omega)
                have c2 := HSy.out.dt.cell (a) (by rw [HZ.out]; omega)
                have hia : ((i2 : Nat) : Int) < (N : Int) := by omega
                have hii : ((a : Nat) : Int) < (N : Int) := by omega
                have HLs := hid (fun w => less_any d'[i2]! d'[a]! w)
                skip
                cases hc : ltInt d'[i2]! d'[a]! with
                | true =>
                  rw [hc] at HLs
                  have hcc : (fun x => ltInt x d'[a]!) d'[i2]! = true := by show (ltInt d'[i2]! d'[a]!) = true; rw [hc]
                  have HE3 : Hid (scanUp (fun x => ltInt x d'[a]!) d' j (i2 + 1) = scanUp (fun x => ltInt x d'[a]!) d' j (i)) := by
                    have := HEy.out
                    rw [scanUp_yes (p := fun x => ltInt x d'[a]!) hle hcc] at this
                    exact this
                  clear hc hcc
                  obtain ⟨xa, hxa⟩ : ∃ x, x = d'[i2]! := ⟨_, rfl⟩
                  obtain ⟨xb, hxb⟩ : ∃ x, x = d'[a]! := ⟨_, rfl⟩
                  rw [← hxa] at c1 HLs
                  rw [← hxb] at c2 HLs
                  clear hxa hxb
                  go_wp2
                  go_quiet (first | (go_at_call 165; refine Calls.quiet_of_same (HLs.out _)))
                  go_wp2
                  go_roundw
                  case rel => exact ⟨i2 + 1, ⟨by omega, by omega⟩, by go_num, HSy.out.drewN _, HE3.out⟩
                  case measure => simp [intOf]; omega
                | false =>
                  rw [hc] at HLs
                  have hcc : (fun x => ltInt x d'[a]!) d'[i2]! = false := by show (ltInt d'[i2]! d'[a]!) = false; rw [hc]
                  have HE3 : Hid (scanUp (fun x => ltInt x d'[a]!) d' j (i) = i2) := by
                    have := HEy.out
                    rw [scanUp_no (p := fun x => ltInt x d'[a]!) (Or.inr hcc)] at this
                    exact this.symm
                  clear hc hcc
                  obtain ⟨xa, hxa⟩ : ∃ x, x = d'[i2]! := ⟨_, rfl⟩
                  obtain ⟨xb, hxb⟩ : ∃ x, x = d'[a]! := ⟨_, rfl⟩
                  rw [← hxa] at c1 HLs
                  rw [← hxb] at c2 HLs
                  clear hxa hxb
                  go_wp2
                  go_quiet (first | (go_at_call 165; refine Calls.quiet_of_same (HLs.out _)))
                  go_wp2
                  go_meet
                  case rel => exact ⟨i2, rfl, HE3.out, ⟨by omega, by omega⟩, HSy.out.drewN _⟩
              · have hdl : decide ((i2 : Int) ≤ (j : Int)) = false := decide_eq_false (by omega)
                have HE3 : Hid (scanUp (fun x => ltInt x d'[a]!) d' j (i) = i2) := by
                  have := HEy.out
                  rw [scanUp_no (p := fun x => ltInt x d'[a]!) (Or.inl hle)] at this
                  exact this.symm
                go_wp2
                go_quiet (fail)
                go_wp2
                go_meet
                case rel => exact ⟨i2, rfl, HE3.out, ⟨by omega, by omega⟩, HSy.out.drewN _⟩
          case rest =>
            obtain ⟨i5, rfl, hE1, ⟨hu1, hu2⟩, hS2⟩ := hcut
            generalize wc = wx5 at *
            have HS2 := hid hS2
            have HE1 := hid hE1
            clear hS2 hE1 HS'
            go_upto_block 8 with fail
            go_cut [11] (fun x wy => ∃ j2 : Nat, x = .int .i64 j2 ∧ scanDown (fun x => !ltInt x d'[a]!) d' i5 (j) = j2 ∧ (i5 ≤ j2 + 2 ∧ j2 ≤ j) ∧ Sd w g o cap t d' wy)
            case first =>
              go_wp2_with fail
              go_loopw [11] (fun x wr => ∃ j2 : Nat, (i5 ≤ j2 + 2 ∧ j2 ≤ j) ∧ x = .int .i64 j2 ∧ Sd w g o cap t d' wr ∧ scanDown (fun x => !ltInt x d'[a]!) d' i5 (j2) = scanDown (fun x => !ltInt x d'[a]!) d' i5 (j)) (fun x _ => (intOf x).toNat)
              case atStart => exact ⟨j, ⟨by omega, by omega⟩, by first | rfl | go_num, HS2.out, rfl⟩
              case round =>
                obtain ⟨j2, ⟨hi1, hi2⟩, rfl, hS, hE⟩ := hrel
                generalize wr = wy at *
                have HSy := hid hS
                have HEy := hid hE
                clear hS hE HS2
                by_cases hle : i5 ≤ j2
                · have hdl : decide ((i5 : Int) ≤ (j2 : Int)) = true := decide_eq_true (by omega)
                  have c1 := HSy.out.dt.cell (j2) (by rw [HZ.out]; omega)
                  have c2 := HSy.out.dt.cell (a) (by rw [HZ.out]; omega)
                  have hia : ((j2 : Nat) : Int) < (N : Int) := by omega
                  have hii : ((a : Nat) : Int) < (N : Int) := by omega
                  have HLs := hid (fun w => less_any d'[j2]! d'[a]! w)
                  have hj0 : 0 < j2 := by omega
                  cases hc : ltInt d'[j2]! d'[a]! with
                  | false =>
                    rw [hc] at HLs
                    have hcc : (fun x => !ltInt x d'[a]!) d'[j2]! = true := by show (!ltInt d'[j2]! d'[a]!) = true; rw [hc]; rfl
                    have HE3 : Hid (scanDown (fun x => !ltInt x d'[a]!) d' i5 (j2 - 1) = scanDown (fun x => !ltInt x d'[a]!) d' i5 (j)) := by
                      have := HEy.out
                      rw [scanDown_yes (p := fun x => !ltInt x d'[a]!) hj0 hle hcc] at this
                      exact this
                    clear hc hcc
                    obtain ⟨xa, hxa⟩ : ∃ x, x = d'[j2]! := ⟨_, rfl⟩
                    obtain ⟨xb, hxb⟩ : ∃ x, x = d'[a]! := ⟨_, rfl⟩
                    rw [← hxa] at c1 HLs
                    rw [← hxb] at c2 HLs
                    clear hxa hxb
                    go_wp2
                    go_quiet (first | (go_at_call 165; refine Calls.quiet_of_same (HLs.out _)))
                    go_wp2
                    go_roundw
                    case rel => exact ⟨j2 - 1, ⟨by omega, by omega⟩, by rw [show ((j2 - 1 : Nat) : Int) = (j2 : Int) - 1 by omega], HSy.out.drewN _, HE3.out⟩
                    case measure => simp [intOf]; omega
                  | true =>
                    rw [hc] at HLs
                    have hcc : (fun x => !ltInt x d'[a]!) d'[j2]! = false := by show (!ltInt d'[j2]! d'[a]!) = false; rw [hc]; rfl
                    have HE3 : Hid (scanDown (fun x => !ltInt x d'[a]!) d' i5 (j) = j2) := by
                      have := HEy.out
                      rw [scanDown_no (p := fun x => !ltInt x d'[a]!) (Or.inr hcc)] at this
                      exact this.symm
                    clear hc hcc
                    obtain ⟨xa, hxa⟩ : ∃ x, x = d'[j2]! := ⟨_, rfl⟩
                    obtain ⟨xb, hxb⟩ : ∃ x, x = d'[a]! := ⟨_, rfl⟩
                    rw [← hxa] at c1 HLs
                    rw [← hxb] at c2 HLs
                    clear hxa hxb
                    go_wp2
                    go_quiet (first | (go_at_call 165; refine Calls.quiet_of_same (HLs.out _)))
                    go_wp2
                    go_meet
                    case rel => exact ⟨j2, rfl, HE3.out, ⟨by omega, by omega⟩, HSy.out.drewN _⟩
                · have hdl : decide ((i5 : Int) ≤ (j2 : Int)) = false := decide_eq_false (by omega)
                  have HE3 : Hid (scanDown (fun x => !ltInt x d'[a]!) d' i5 (j) = j2) := by
                    have := HEy.out
                    rw [scanDown_no (p := fun x => !ltInt x d'[a]!) (Or.inl hle)] at this
                    exact this.symm
                  go_wp2
                  go_quiet (fail)
                  go_wp2
                  go_meet
                  case rel => exact ⟨j2, rfl, HE3.out, ⟨by omega, by omega⟩, HSy.out.drewN _⟩
            case rest =>
              obtain ⟨j5, rfl, hE2, ⟨hv1, hv2⟩, hS3⟩ := hcut
              generalize wc = wx6 at *
              have HS6 := hid hS3
              have hstep := part_step HE1.out hE2 hu1 hv2
              rw [HE.out] at hstep
              clear hS3 hE2 HS2
              by_cases hgt : i5 > j5
              · have hdg : decide ((j5 : Int) < (i5 : Int)) = true := decide_eq_true (by omega)
                rw [if_pos hgt] at hstep
                have hR2 := HR.out
                rw [hstep] at hR2
                have HR2 := hid hR2
                have hgI : (j5 : Int) < (i5 : Int) := by omega
                clear hstep hgt hR2
                have ci := HS6.out.dt.cell (j5) (by rw [HZ.out]; omega)
                have cj := HS6.out.dt.cell (a) (by rw [HZ.out]; omega)
                have fi := HS6.out.dt.free (o + (j5))
                have fj := HS6.out.dt.free (o + (a))
                have hii : ((j5 : Nat) : Int) < (N : Int) := by omega
                have hij : ((a : Nat) : Int) < (N : Int) := by omega
                have HSw : Hid (Sd w g o cap t (Go.Sort.swp d' (j5) (a)) ((wx6.setCell ⟨g, o + (j5), none⟩ (.int .u64 d'[a]!)).setCell ⟨g, o + (a), none⟩ (.int .u64 d'[j5]!)).drew) := (HS6.out.swp (j5) (a) (by rw [HZ.out]; omega) (by rw [HZ.out]; omega)).drew
                have cs := (HS6.out.dt.set (j5) (by rw [HZ.out]; omega) d'[a]!).cell (a) (by rw [Array.size_setIfInBounds, HZ.out]; omega)
                generalize (d'.setIfInBounds (j5) d'[a]!)[a]! = xz at cs
                generalize d'[j5]! = xi at ci HSw cs
                generalize d'[a]! = xj at cj HSw cs
                go_upto_region 21 with fail
                go_region
                go_wp2
                go_ret2
                exact ⟨by rw [HR2.out]; rfl, by rw [HR2.out]; exact HSw.out⟩
              · have hdg : decide ((j5 : Int) < (i5 : Int)) = false := decide_eq_false (by omega)
                rw [if_neg hgt] at hstep
                have HR2 := hid hstep
                have hgI : ¬ (j5 : Int) < (i5 : Int) := by omega
                clear hstep
                have ci := HS6.out.dt.cell (i5) (by rw [HZ.out]; omega)
                have cj := HS6.out.dt.cell (j5) (by rw [HZ.out]; omega)
                have fi := HS6.out.dt.free (o + (i5))
                have fj := HS6.out.dt.free (o + (j5))
                have hii : ((i5 : Nat) : Int) < (N : Int) := by omega
                have hij : ((j5 : Nat) : Int) < (N : Int) := by omega
                have HSw : Hid (Sd w g o cap t (Go.Sort.swp d' (i5) (j5)) ((wx6.setCell ⟨g, o + (i5), none⟩ (.int .u64 d'[j5]!)).setCell ⟨g, o + (j5), none⟩ (.int .u64 d'[i5]!)).drew) := (HS6.out.swp (i5) (j5) (by rw [HZ.out]; omega) (by rw [HZ.out]; omega)).drew
                have cs := (HS6.out.dt.set (i5) (by rw [HZ.out]; omega) d'[j5]!).cell (j5) (by rw [Array.size_setIfInBounds, HZ.out]; omega)
                generalize (d'.setIfInBounds (i5) d'[j5]!)[j5]! = xz at cs
                generalize d'[i5]! = xi at ci HSw cs
                generalize d'[j5]! = xj at cj HSw cs
                go_upto_region 18 with fail
                go_region
                go_wp2
                go_roundw
                case rel => exact ⟨i5 + 1, j5 - 1, _, ⟨by omega, by omega, by omega⟩, by go_num, by rw [show ((j5 - 1 : Nat) : Int) = (j5 : Int) - 1 by omega], by rw [swp_size, HZ.out], HSw.out, HR2.out.symm⟩
                case measure => simp [intOf]; omega
end Go.Proofs.YtdehlnaoehjehaaGreatDoor
