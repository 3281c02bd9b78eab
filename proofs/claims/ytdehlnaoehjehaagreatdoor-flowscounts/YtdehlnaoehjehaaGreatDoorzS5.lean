/-
  Proved here: partitionEqualOrdered does what the plain one does. Conditions: the numbers lie as they say; the bounds lie within them.
-/
import Derived.Test.YtdehlnaoehjehaaGreatDoorzS2
import Derived.Deep.CutBlock
namespace Go.Proofs.YtdehlnaoehjehaaGreatDoor
open Go.RowKit Go.Sort

section
variable {p : Int → Bool} {d : Array Int} {i j : Nat}
theorem scanUp_yes (h : i ≤ j) (hp : p d[i]! = true) : scanUp p d j i = scanUp p d j (i + 1) := by
  rw [scanUp, if_pos (by simp [h, hp])]
theorem scanUp_no (h : ¬ i ≤ j ∨ p d[i]! = false) : scanUp p d j i = i := by
  rw [scanUp, if_neg (by rcases h with h | h <;> simp [h])]
theorem scanDown_yes (h0 : 0 < j) (h : i ≤ j) (hp : p d[j]! = true) : scanDown p d i j = scanDown p d i (j - 1) := by
  obtain ⟨k, rfl⟩ : ∃ k, j = k + 1 := ⟨j - 1, by omega⟩
  rw [scanDown, if_pos (by simp [h, hp])]
  simp
theorem scanDown_no (h : ¬ i ≤ j ∨ p d[j]! = false) : scanDown p d i j = j := by
  cases j with
  | zero => rfl
  | succ k => rw [scanDown, if_neg (by rcases h with h | h <;> simp [h])]
end
theorem partEq_step {a i j : Nat} {d : Array Int} {i2 j2 : Nat} (h1 : scanUp (fun x => !ltInt d[a]! x) d j i = i2) (h2 : scanDown (fun x => ltInt d[a]! x) d i2 j = j2) (hi : i ≤ i2) (hj : j2 ≤ j) : partEqLoop ltInt a i j d = if i2 > j2 then (i2, d) else partEqLoop ltInt a (i2 + 1) (j2 - 1) (Go.Sort.swp d i2 j2) := by
  rw [partEqLoop]
  simp only [h1, h2]
  split
  · rfl
  · rw [dif_pos (by omega)]
theorem part_step {a i j : Nat} {d : Array Int} {i2 j2 : Nat} (h1 : scanUp (fun x => ltInt x d[a]!) d j i = i2) (h2 : scanDown (fun x => !ltInt x d[a]!) d i2 j = j2) (hi : i ≤ i2) (hj : j2 ≤ j) : partLoop ltInt a i j d = if i2 > j2 then (j2, d) else partLoop ltInt a (i2 + 1) (j2 - 1) (Go.Sort.swp d i2 j2) := by
  rw [partLoop]
  simp only [h1, h2]
  split
  · rfl
  · rw [dif_pos (by omega)]
set_option maxHeartbeats 6400000 in
set_option maxRecDepth 100000 in
theorem peq_any (w : World) (g o cap t : Nat) (d : Array Int) (a b pv : Nat) (h : Dt w g o cap t d) (hap : a ≤ pv) (hpb : pv < b) (hb : b ≤ d.size) (hs : d.size < 4611686018427387904) :
    Calls Tryz.prog 166 #[.slice (some ⟨g, o, none⟩) d.size cap, .int .i64 a, .int .i64 b, .int .i64 pv] w fun e w' => e = .returned (.int .i64 ((partitionEqual ltInt d a b pv).1 : Nat)) ∧ Sd w g o cap t (partitionEqual ltInt d a b pv).2 w' := by
  have HS := hid (Sd.refl h)
  obtain ⟨N, hN⟩ : ∃ N, N = d.size := ⟨_, rfl⟩
  have HI : Hid (partitionEqual ltInt d a b pv = partEqLoop ltInt a (a + 1) (b - 1) (Go.Sort.swp d a pv)) := rfl
  rw [← hN] at hb hs ⊢
  have HN : Hid (d.size = N) := hN.symm
  clear h hN
  generalize partitionEqual ltInt d a b pv = R at *
  go_enter Tryz.func166, Tryz.ntmps166
  have ci := HS.out.dt.cell (a) (by rw [HN.out]; omega)
  have cj := HS.out.dt.cell (pv) (by rw [HN.out]; omega)
  have fi := HS.out.dt.free (o + (a))
  have fj := HS.out.dt.free (o + (pv))
  have hii : ((a : Nat) : Int) < (N : Int) := by omega
  have hij : ((pv : Nat) : Int) < (N : Int) := by omega
  have HSw : Hid (Sd w g o cap t (Go.Sort.swp d (a) (pv)) ((w.setCell ⟨g, o + (a), none⟩ (.int .u64 d[pv]!)).setCell ⟨g, o + (pv), none⟩ (.int .u64 d[a]!)).drew) := (HS.out.swp (a) (pv) (by rw [HN.out]; omega) (by rw [HN.out]; omega)).drew
  have cs := (HS.out.dt.set (a) (by rw [HN.out]; omega) d[pv]!).cell (pv) (by rw [Array.size_setIfInBounds, HN.out]; omega)
  generalize (d.setIfInBounds (a) d[pv]!)[pv]! = xz at cs
  generalize d[a]! = xi at ci HSw cs
  generalize d[pv]! = xj at cj HSw cs
  go_upto_region 1 with fail
  go_region
  clear ci cj fi fj cs
  generalize ((w.setCell ⟨g, o + a, none⟩ (.int .u64 xj)).setCell ⟨g, o + pv, none⟩ (.int .u64 xi)).drew = W1 at HSw ⊢
  have HZ1 : Hid ((Go.Sort.swp d a pv).size = N) := by show _ = _; rw [swp_size, HN.out]
  generalize Go.Sort.swp d a pv = d1 at *
  clear HS hii hij
  go_wp2
  go_loopw [9, 10] (fun x y wr => ∃ (i j : Nat) (d' : Array Int), (a < i ∧ i ≤ j + 2 ∧ j < b) ∧ x = .int .i64 i ∧ y = .int .i64 j ∧ d'.size = N ∧ Sd w g o cap t d' wr ∧ partEqLoop ltInt a i j d' = R) (fun x y _ => (intOf y + 1 - intOf x).toNat)
  case atStart => exact ⟨a + 1, b - 1, d1, ⟨by omega, by omega, by omega⟩, by go_num, by rw [show ((b - 1 : Nat) : Int) = (b : Int) - 1 by omega], HZ1.out, HSw.out, HI.out.symm⟩
  case round =>
    obtain ⟨i, j, d', ⟨hi0, hij, hjb⟩, rfl, rfl, hsz, hS, hE⟩ := hrel
    generalize wr = wx at *
    have HS' := hid hS
    have HE := hid hE
    have HZ := hid hsz
    clear hS hE hsz HSw HI
    go_upto_block 2 with fail
    go_cut [9] (fun x wy => ∃ i2 : Nat, x = .int .i64 i2 ∧ scanUp (fun x => !ltInt d'[a]! x) d' j (i) = i2 ∧ (i ≤ i2 ∧ i2 ≤ j + 2) ∧ Sd w g o cap t d' wy)
    case first =>
      go_wp2_with fail
      go_loopw [9] (fun x wr => ∃ i2 : Nat, (i ≤ i2 ∧ i2 ≤ j + 2) ∧ x = .int .i64 i2 ∧ Sd w g o cap t d' wr ∧ scanUp (fun x => !ltInt d'[a]! x) d' j (i2) = scanUp (fun x => !ltInt d'[a]! x) d' j (i)) (fun x _ => j + 1 - (intOf x).toNat)
      case atStart => exact ⟨i, ⟨by omega, by omega⟩, by first | rfl | go_num, HS'.out, rfl⟩
      case round =>
        obtain ⟨i2, ⟨hi1, hi2⟩, rfl, hS, hE⟩ := hrel
        generalize wr = wy at *
        have HSy := hid hS
        have HEy := hid hE
        clear hS hE HS'
        by_cases hle : i2 ≤ j
        · have hdl : decide ((i2 : Int) ≤ (j : Int)) = true := decide_eq_true (by omega)
          have c1 := HSy.out.dt.cell (a) (by rw [HZ.out]; omega)
          have c2 := HSy.out.dt.cell (i2) (by rw [HZ.out]; omega)
          have hia : ((a : Nat) : Int) < (N : Int) := by omega
          have hii : ((i2 : Nat) : Int) < (N : Int) := by omega
          have HLs := hid (fun w => less_any d'[a]! d'[i2]! w)
          skip
          cases hc : ltInt d'[a]! d'[i2]! with
          | false =>
            rw [hc] at HLs
            have hcc : (fun x => !ltInt d'[a]! x) d'[i2]! = true := by show (!ltInt d'[a]! d'[i2]!) = true; rw [hc]; rfl
            have HE3 : Hid (scanUp (fun x => !ltInt d'[a]! x) d' j (i2 + 1) = scanUp (fun x => !ltInt d'[a]! x) d' j (i)) := by
              have := HEy.out
              rw [scanUp_yes (p := fun x => !ltInt d'[a]! x) hle hcc] at this
              exact this
            clear hc hcc
            obtain ⟨xa, hxa⟩ : ∃ x, x = d'[a]! := ⟨_, rfl⟩
            obtain ⟨xb, hxb⟩ : ∃ x, x = d'[i2]! := ⟨_, rfl⟩
            rw [← hxa] at c1 HLs
            rw [← hxb] at c2 HLs
            clear hxa hxb
            go_wp2
            go_quiet (first | (go_at_call 165; refine Calls.quiet_of_same (HLs.out _)))
            go_wp2
            go_roundw
            case rel => exact ⟨i2 + 1, ⟨by omega, by omega⟩, by go_num, HSy.out.drewN _, HE3.out⟩
            case measure => simp [intOf]; omega
          | true =>
            rw [hc] at HLs
            have hcc : (fun x => !ltInt d'[a]! x) d'[i2]! = false := by show (!ltInt d'[a]! d'[i2]!) = false; rw [hc]; rfl
            have HE3 : Hid (scanUp (fun x => !ltInt d'[a]! x) d' j (i) = i2) := by
              have := HEy.out
              rw [scanUp_no (p := fun x => !ltInt d'[a]! x) (Or.inr hcc)] at this
              exact this.symm
            clear hc hcc
            obtain ⟨xa, hxa⟩ : ∃ x, x = d'[a]! := ⟨_, rfl⟩
            obtain ⟨xb, hxb⟩ : ∃ x, x = d'[i2]! := ⟨_, rfl⟩
            rw [← hxa] at c1 HLs
            rw [← hxb] at c2 HLs
            clear hxa hxb
            go_wp2
            go_quiet (first | (go_at_call 165; refine Calls.quiet_of_same (HLs.out _)))
            go_wp2
            go_meet
            case rel => exact ⟨i2, rfl, HE3.out, ⟨by omega, by omega⟩, HSy.out.drewN _⟩
        · have hdl : decide ((i2 : Int) ≤ (j : Int)) = false := decide_eq_false (by omega)
          have HE3 : Hid (scanUp (fun x => !ltInt d'[a]! x) d' j (i) = i2) := by
            have := HEy.out
            rw [scanUp_no (p := fun x => !ltInt d'[a]! x) (Or.inl hle)] at this
            exact this.symm
          go_wp2
          go_quiet (fail)
          go_wp2
          go_meet
          case rel => exact ⟨i2, rfl, HE3.out, ⟨by omega, by omega⟩, HSy.out.drewN _⟩
    case rest =>
      obtain ⟨i2, rfl, hE1, ⟨hu1, hu2⟩, hS2⟩ := hcut
      generalize wc = wx2 at *
      have HS2 := hid hS2
      have HE1 := hid hE1
      clear hS2 hE1 HS'
      go_upto_block 4 with fail
      go_cut [10] (fun x wy => ∃ j2 : Nat, x = .int .i64 j2 ∧ scanDown (fun x => ltInt d'[a]! x) d' i2 (j) = j2 ∧ (i2 ≤ j2 + 2 ∧ j2 ≤ j) ∧ Sd w g o cap t d' wy)
      case first =>
        go_wp2_with fail
        go_loopw [10] (fun x wr => ∃ j2 : Nat, (i2 ≤ j2 + 2 ∧ j2 ≤ j) ∧ x = .int .i64 j2 ∧ Sd w g o cap t d' wr ∧ scanDown (fun x => ltInt d'[a]! x) d' i2 (j2) = scanDown (fun x => ltInt d'[a]! x) d' i2 (j)) (fun x _ => (intOf x).toNat)
        case atStart => exact ⟨j, ⟨by omega, by omega⟩, by first | rfl | go_num, HS2.out, rfl⟩
        case round =>
          obtain ⟨j2, ⟨hi1, hi2⟩, rfl, hS, hE⟩ := hrel
          generalize wr = wy at *
          have HSy := hid hS
          have HEy := hid hE
          clear hS hE HS2
          by_cases hle : i2 ≤ j2
          · have hdl : decide ((i2 : Int) ≤ (j2 : Int)) = true := decide_eq_true (by omega)
            have c1 := HSy.out.dt.cell (a) (by rw [HZ.out]; omega)
            have c2 := HSy.out.dt.cell (j2) (by rw [HZ.out]; omega)
            have hia : ((a : Nat) : Int) < (N : Int) := by omega
            have hii : ((j2 : Nat) : Int) < (N : Int) := by omega
            have HLs := hid (fun w => less_any d'[a]! d'[j2]! w)
            have hj0 : 0 < j2 := by omega
            cases hc : ltInt d'[a]! d'[j2]! with
            | true =>
              rw [hc] at HLs
              have hcc : (fun x => ltInt d'[a]! x) d'[j2]! = true := by show (ltInt d'[a]! d'[j2]!) = true; rw [hc]
              have HE3 : Hid (scanDown (fun x => ltInt d'[a]! x) d' i2 (j2 - 1) = scanDown (fun x => ltInt d'[a]! x) d' i2 (j)) := by
                have := HEy.out
                rw [scanDown_yes (p := fun x => ltInt d'[a]! x) hj0 hle hcc] at this
                exact this
              clear hc hcc
              obtain ⟨xa, hxa⟩ : ∃ x, x = d'[a]! := ⟨_, rfl⟩
              obtain ⟨xb, hxb⟩ : ∃ x, x = d'[j2]! := ⟨_, rfl⟩
              rw [← hxa] at c1 HLs
              rw [← hxb] at c2 HLs
              clear hxa hxb
              go_wp2
              go_quiet (first | (go_at_call 165; refine Calls.quiet_of_same (HLs.out _)))
              go_wp2
              go_roundw
              case rel => exact ⟨j2 - 1, ⟨by omega, by omega⟩, by rw [show ((j2 - 1 : Nat) : Int) = (j2 : Int) - 1 by omega], HSy.out.drewN _, HE3.out⟩
              case measure => simp [intOf]; omega
            | false =>
              rw [hc] at HLs
              have hcc : (fun x => ltInt d'[a]! x) d'[j2]! = false := by show (ltInt d'[a]! d'[j2]!) = false; rw [hc]
              have HE3 : Hid (scanDown (fun x => ltInt d'[a]! x) d' i2 (j) = j2) := by
                have := HEy.out
                rw [scanDown_no (p := fun x => ltInt d'[a]! x) (Or.inr hcc)] at this
                exact this.symm
              clear hc hcc
              obtain ⟨xa, hxa⟩ : ∃ x, x = d'[a]! := ⟨_, rfl⟩
              obtain ⟨xb, hxb⟩ : ∃ x, x = d'[j2]! := ⟨_, rfl⟩
              rw [← hxa] at c1 HLs
              rw [← hxb] at c2 HLs
              clear hxa hxb
              go_wp2
              go_quiet (first | (go_at_call 165; refine Calls.quiet_of_same (HLs.out _)))
              go_wp2
              go_meet
              case rel => exact ⟨j2, rfl, HE3.out, ⟨by omega, by omega⟩, HSy.out.drewN _⟩
          · have hdl : decide ((i2 : Int) ≤ (j2 : Int)) = false := decide_eq_false (by omega)
            have HE3 : Hid (scanDown (fun x => ltInt d'[a]! x) d' i2 (j) = j2) := by
              have := HEy.out
              rw [scanDown_no (p := fun x => ltInt d'[a]! x) (Or.inl hle)] at this
              exact this.symm
            go_wp2
            go_quiet (fail)
            go_wp2
            go_meet
            case rel => exact ⟨j2, rfl, HE3.out, ⟨by omega, by omega⟩, HSy.out.drewN _⟩
      case rest =>
        obtain ⟨j2, rfl, hE2, ⟨hv1, hv2⟩, hS3⟩ := hcut
        generalize wc = wx3 at *
        have HS3 := hid hS3
        have hstep := partEq_step HE1.out hE2 hu1 hv2
        rw [HE.out] at hstep
        clear hS3 hE2 HS2
        by_cases hgt : i2 > j2
        · have hdg : decide ((j2 : Int) < (i2 : Int)) = true := decide_eq_true (by omega)
          rw [if_pos hgt] at hstep
          have HR := hid hstep
          have hgI : (j2 : Int) < (i2 : Int) := by omega
          clear hstep hgt
          go_wp2
          go_ret
          exact ⟨by rw [HR.out]; rfl, by rw [HR.out]; exact HS3.out⟩
        · have hdg : decide ((j2 : Int) < (i2 : Int)) = false := decide_eq_false (by omega)
          rw [if_neg hgt] at hstep
          have HR := hid hstep
          clear hstep
          have hgI : ¬ (j2 : Int) < (i2 : Int) := by omega
          have ci := HS3.out.dt.cell (i2) (by rw [HZ.out]; omega)
          have cj := HS3.out.dt.cell (j2) (by rw [HZ.out]; omega)
          have fi := HS3.out.dt.free (o + (i2))
          have fj := HS3.out.dt.free (o + (j2))
          have hii : ((i2 : Nat) : Int) < (N : Int) := by omega
          have hij : ((j2 : Nat) : Int) < (N : Int) := by omega
          have HSw : Hid (Sd w g o cap t (Go.Sort.swp d' (i2) (j2)) ((wx3.setCell ⟨g, o + (i2), none⟩ (.int .u64 d'[j2]!)).setCell ⟨g, o + (j2), none⟩ (.int .u64 d'[i2]!)).drew) := (HS3.out.swp (i2) (j2) (by rw [HZ.out]; omega) (by rw [HZ.out]; omega)).drew
          have cs := (HS3.out.dt.set (i2) (by rw [HZ.out]; omega) d'[j2]!).cell (j2) (by rw [Array.size_setIfInBounds, HZ.out]; omega)
          generalize (d'.setIfInBounds (i2) d'[j2]!)[j2]! = xz at cs
          generalize d'[i2]! = xi at ci HSw cs
          generalize d'[j2]! = xj at cj HSw cs
          go_upto_region 8 with fail
          go_region
          go_wp2
          go_roundw
          case rel => exact ⟨i2 + 1, j2 - 1, _, ⟨by omega, by omega, by omega⟩, by go_num, by rw [show ((j2 - 1 : Nat) : Int) = (j2 : Int) - 1 by omega], by rw [swp_size, HZ.out], HSw.out, HR.out.symm⟩
          case measure => simp [intOf]; omega
end Go.Proofs.YtdehlnaoehjehaaGreatDoor
