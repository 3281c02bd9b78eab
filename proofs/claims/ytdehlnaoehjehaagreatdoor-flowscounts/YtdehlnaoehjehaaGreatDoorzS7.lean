/-
  Proved here: partialInsertionSortOrdered does what the plain one does. Conditions: the numbers lie as they say; the bounds lie within them.
-/
import Derived.Test.YtdehlnaoehjehaaGreatDoorzS5
namespace Go.Proofs.YtdehlnaoehjehaaGreatDoor
open Go.RowKit Go.Sort

section
variable {d : Array Int} {b m : Nat}
theorem scanSorted_yes (h : m + 1 < b) (hp : ltInt d[m + 1]! d[m]! = false) : scanSorted ltInt d b (m + 1) = scanSorted ltInt d b (m + 2) := by
  rw [scanSorted, if_pos (by simp [h, hp])]
theorem scanSorted_no (h : ¬ m + 1 < b ∨ ltInt d[m + 1]! d[m]! = true) : scanSorted ltInt d b (m + 1) = m + 1 := by
  rw [scanSorted, if_neg (by rcases h with h | h <;> simp [h])]
theorem shiftUp_yes (h : m + 1 < b) (hp : ltInt d[m + 1]! d[m]! = true) : shiftUp ltInt b (m + 1) d = shiftUp ltInt b (m + 2) (Go.Sort.swp d (m + 1) m) := by
  rw [shiftUp, if_pos h, if_neg (by simp [hp])]
  rfl
theorem shiftUp_no (h : ¬ m + 1 < b ∨ ltInt d[m + 1]! d[m]! = false) : shiftUp ltInt b (m + 1) d = d := by
  rw [shiftUp]
  rcases h with h | h
  · rw [if_neg h]
  · split
    · rw [if_pos (by simp [h])]
    · rfl
end
theorem shiftDown_size : ∀ (j : Nat) (d : Array Int), (shiftDown ltInt j d).size = d.size
  | 0, d => rfl
  | j + 1, d => by
    unfold shiftDown
    split
    · rfl
    · rw [shiftDown_size j, swp_size]
theorem shiftUp_size (b : Nat) : ∀ (n j : Nat) (d : Array Int), b - j ≤ n → (shiftUp ltInt b j d).size = d.size := by
  intro n
  induction n with
  | zero =>
    intro j d hn
    rw [shiftUp, if_neg (by omega)]
  | succ n ih =>
    intro j d hn
    rw [shiftUp]
    split
    · split
      · rfl
      · rw [ih _ _ (by omega), swp_size]
    · rfl
/-- One step of the plain one, where it goes on. -/
theorem pIns_go {a b s i m : Nat} {d : Array Int} (h1 : scanSorted ltInt d b i = m + 1) (h2 : m + 1 ≠ b) (h3 : ¬ b - a < 50) : partialIns ltInt a b (s + 1) i d = partialIns ltInt a b s (m + 1) (if b - (m + 1) ≥ 2 then shiftUp ltInt b (m + 2) (if m + 1 - a ≥ 2 then shiftDown ltInt m (Go.Sort.swp d (m + 1) m) else Go.Sort.swp d (m + 1) m) else (if m + 1 - a ≥ 2 then shiftDown ltInt m (Go.Sort.swp d (m + 1) m) else Go.Sort.swp d (m + 1) m)) := by
  conv => lhs; unfold partialIns
  simp only [h1, if_neg h2, if_neg h3, Nat.add_sub_cancel]
theorem pIns_yes {a b s i m : Nat} {d : Array Int} (h1 : scanSorted ltInt d b i = m + 1) (h2 : m + 1 = b) : partialIns ltInt a b (s + 1) i d = (d, true) := by
  conv => lhs; unfold partialIns
  simp only [h1, if_pos h2]
theorem pIns_no {a b s i m : Nat} {d : Array Int} (h1 : scanSorted ltInt d b i = m + 1) (h2 : m + 1 ≠ b) (h3 : b - a < 50) : partialIns ltInt a b (s + 1) i d = (d, false) := by
  conv => lhs; unfold partialIns
  simp only [h1, if_neg h2, if_pos h3]
set_option maxHeartbeats 6400000 in
set_option maxRecDepth 100000 in
theorem pins_any (w : World) (g o cap t : Nat) (d : Array Int) (a b : Nat) (h : Dt w g o cap t d) (hab : a < b) (hb : b ≤ d.size) (hs : d.size < 4611686018427387904) :
    Calls Tryz.prog 164 #[.slice (some ⟨g, o, none⟩) d.size cap, .int .i64 a, .int .i64 b] w fun e w' => e = .returned (.bool (partialInsertionSort ltInt d a b).2) ∧ Sd w g o cap t (partialInsertionSort ltInt d a b).1 w' := by
  have HS := hid (Sd.refl h)
  obtain ⟨N, hN⟩ : ∃ N, N = d.size := ⟨_, rfl⟩
  have HI : Hid (partialIns ltInt a b 5 (a + 1) d = partialInsertionSort ltInt d a b) := rfl
  rw [← hN] at hb hs ⊢
  have HN : Hid (d.size = N) := hN.symm
  clear h hN
  generalize partialInsertionSort ltInt d a b = R at *
  go_enter Tryz.func164, Tryz.ntmps164
  go_upto_region 3 with fail
  go_loopw [7, 8] (fun x y wr => ∃ (i s : Nat) (d' : Array Int), (a ≤ i ∧ i + 1 ≤ b ∧ s ≤ 5) ∧ x = .int .i64 ((i : Int) + 1) ∧ y = .int .i64 (5 - (s : Int)) ∧ d'.size = N ∧ Sd w g o cap t d' wr ∧ partialIns ltInt a b s (i + 1) d' = R) (fun _ y _ => (5 - intOf y).toNat)
  case atStart => exact ⟨a, 5, d, ⟨by omega, by omega, by omega⟩, by go_num, rfl, HN.out, HS.out, HI.out⟩
  case round =>
    obtain ⟨i, s, d', ⟨hi0, hib, hs5⟩, rfl, rfl, hsz, hS, hE⟩ := hrel
    generalize wr = wx at *
    have HS' := hid hS
    have HE := hid hE
    have HZ := hid hsz
    clear hS hE hsz HS HI
    cases s with
    | zero =>
      have HR : Hid (R = (d', false)) := HE.out.symm
      rw [show (5 : Int) - ((0 : Nat) : Int) = 5 by omega]
      go_wp2
      go_ret
      exact ⟨by rw [HR.out]; rfl, by rw [HR.out]; exact HS'.out⟩
    | succ s =>
      obtain ⟨y0, hy0⟩ : ∃ y0 : Int, y0 = 5 - ((s + 1 : Nat) : Int) := ⟨_, rfl⟩
      rw [← hy0]
      have hy5 : decide (y0 < 5) = true := decide_eq_true (by omega)
      have hyb : 0 ≤ y0 ∧ y0 < 5 := by omega
      have HY := hid hy0
      clear hy0
      go_upto_block 2 with fail
      go_cut [7] (fun x wy => ∃ m : Nat, x = .int .i64 ((m : Int) + 1) ∧ scanSorted ltInt d' b (i + 1) = m + 1 ∧ (i ≤ m ∧ m + 1 ≤ b) ∧ Sd w g o cap t d' wy)
      case first =>
        go_wp2_with fail
        go_loopw [7] (fun x wr => ∃ m : Nat, (i ≤ m ∧ m + 1 ≤ b) ∧ x = .int .i64 ((m : Int) + 1) ∧ Sd w g o cap t d' wr ∧ scanSorted ltInt d' b (m + 1) = scanSorted ltInt d' b (i + 1)) (fun x _ => b - (intOf x).toNat)
        case atStart => exact ⟨i, ⟨by omega, by omega⟩, rfl, HS'.out, rfl⟩
        case round =>
          obtain ⟨m, ⟨hm1, hm2⟩, rfl, hS, hE⟩ := hrel
          generalize wr = wy at *
          have HSy := hid hS
          have HEy := hid hE
          clear hS hE HS'
          by_cases hlt : m + 1 < b
          · have hdl : decide ((m : Int) + 1 < (b : Int)) = true := decide_eq_true (by omega)
            have hi1 : (m : Int) + 1 < (N : Int) := by omega
            have hi2 : (m : Int) < (N : Int) := by omega
            have c1 := HSy.out.dt.cell (m + 1) (by rw [HZ.out]; omega)
            have c0 := HSy.out.dt.cell (m) (by rw [HZ.out]; omega)
            have HLs := hid (fun w => less_any d'[m + 1]! d'[m]! w)
            cases hc : ltInt d'[m + 1]! d'[m]! with
            | false =>
              rw [hc] at HLs
              have HE3 : Hid (scanSorted ltInt d' b (m + 2) = scanSorted ltInt d' b (i + 1)) := by
                have := HEy.out
                rw [scanSorted_yes hlt hc] at this
                exact this
              clear hc
              obtain ⟨xa, hxa⟩ : ∃ x, x = d'[m + 1]! := ⟨_, rfl⟩
              obtain ⟨xb, hxb⟩ : ∃ x, x = d'[m]! := ⟨_, rfl⟩
              rw [← hxa] at c1 HLs
              rw [← hxb] at c0 HLs
              clear hxa hxb
              go_wp2
              go_quiet (first | (go_at_call 165; refine Calls.quiet_of_same (HLs.out _)))
              go_wp2
              go_roundw
              case rel => exact ⟨m + 1, ⟨by omega, by omega⟩, by go_num, HSy.out.drewN _, HE3.out⟩
              case measure => simp [intOf]; omega
            | true =>
              rw [hc] at HLs
              have HE3 : Hid (scanSorted ltInt d' b (i + 1) = m + 1) := by
                have := HEy.out
                rw [scanSorted_no (Or.inr hc)] at this
                exact this.symm
              clear hc
              obtain ⟨xa, hxa⟩ : ∃ x, x = d'[m + 1]! := ⟨_, rfl⟩
              obtain ⟨xb, hxb⟩ : ∃ x, x = d'[m]! := ⟨_, rfl⟩
              rw [← hxa] at c1 HLs
              rw [← hxb] at c0 HLs
              clear hxa hxb
              go_wp2
              go_quiet (first | (go_at_call 165; refine Calls.quiet_of_same (HLs.out _)))
              go_wp2
              go_meet
              case rel => exact ⟨m, rfl, HE3.out, ⟨by omega, by omega⟩, HSy.out.drewN _⟩
          · have hdl : decide ((m : Int) + 1 < (b : Int)) = false := decide_eq_false (by omega)
            have HE3 : Hid (scanSorted ltInt d' b (i + 1) = m + 1) := by
              have := HEy.out
              rw [scanSorted_no (Or.inl hlt)] at this
              exact this.symm
            go_wp2
            go_quiet (fail)
            go_wp2
            go_meet
            case rel => exact ⟨m, rfl, HE3.out, ⟨by omega, by omega⟩, HSy.out.drewN _⟩
      case rest =>
        obtain ⟨m, rfl, hE1, ⟨hm1, hm2⟩, hS2⟩ := hcut
        generalize wc = wx2 at *
        have HS2 := hid hS2
        clear hS2 HS'
        by_cases hmb : m + 1 = b
        · have hq : ((m : Int) + 1 == (b : Int)) = true := by simp; omega
          have hR := pIns_yes (a := a) (s := s) hE1 hmb
          rw [HE.out] at hR
          have HR := hid hR
          have hmI : (m : Int) + 1 = (b : Int) := by omega
          clear hR hE1 hmb
          go_wp2
          go_ret
          exact ⟨by rw [HR.out]; rfl, by rw [HR.out]; exact HS2.out⟩
        · have hq : ((m : Int) + 1 == (b : Int)) = false := by simp; omega
          by_cases h50 : b - a < 50
          · have hd50 : decide ((b : Int) - (a : Int) < 50) = true := decide_eq_true (by omega)
            have hR := pIns_no (a := a) (s := s) hE1 hmb h50
            rw [HE.out] at hR
            have HR := hid hR
            have hmI : ¬ (m : Int) + 1 = (b : Int) := by omega
            clear hR hE1 hmb h50
            go_wp2
            go_ret
            exact ⟨by rw [HR.out]; rfl, by rw [HR.out]; exact HS2.out⟩
          · have hd50 : decide ((b : Int) - (a : Int) < 50) = false := decide_eq_false (by omega)
            have hR := pIns_go (a := a) (s := s) hE1 hmb h50
            rw [HE.out] at hR
            have HR := hid hR
            have hmI : ¬ (m : Int) + 1 = (b : Int) := by omega
            clear hR hE1 h50
            have ci := HS2.out.dt.cell (m + 1) (by rw [HZ.out]; omega)
            have cj := HS2.out.dt.cell m (by rw [HZ.out]; omega)
            have fi := HS2.out.dt.free (o + (m + 1))
            have fj := HS2.out.dt.free (o + m)
            have hsi : (m : Int) + 1 < (N : Int) := by omega
            have hsj : (m : Int) < (N : Int) := by omega
            have HSw : Hid (Sd w g o cap t (Go.Sort.swp d' (m + 1) m) ((wx2.setCell ⟨g, o + (m + 1), none⟩ (.int .u64 d'[m]!)).setCell ⟨g, o + m, none⟩ (.int .u64 d'[m + 1]!)).drew) := (HS2.out.swp (m + 1) m (by rw [HZ.out]; omega) (by rw [HZ.out]; omega)).drew
            generalize d'[m + 1]! = xi at ci HSw
            generalize d'[m]! = xj at cj HSw
            go_upto_region 11 with fail
            go_region
            clear ci cj fi fj
            generalize ((wx2.setCell ⟨g, o + (m + 1), none⟩ (.int .u64 xj)).setCell ⟨g, o + m, none⟩ (.int .u64 xi)).drew = W3 at HSw ⊢
            have HZ3 : Hid ((Go.Sort.swp d' (m + 1) m).size = N) := by show _ = _; rw [swp_size, HZ.out]
            generalize Go.Sort.swp d' (m + 1) m = d3 at *
            have HS3 := HSw
            clear HSw HS2 hsi hsj
            obtain ⟨d4, hd4⟩ : ∃ d4, d4 = if m + 1 - a ≥ 2 then shiftDown ltInt m d3 else d3 := ⟨_, rfl⟩
            rw [← hd4] at HR
            have HD4 := hid hd4
            clear hd4
            have HZ4 : Hid (d4.size = N) := by
              show _ = _
              rw [HD4.out]
              split
              · rw [shiftDown_size, HZ3.out]
              · exact HZ3.out
            go_upto_if 61 with fail
            go_cut [9] (fun _ wy => Sd w g o cap t d4 wy)
            case first =>
              by_cases h2 : m + 1 - a ≥ 2
              · have hd2 : decide ((2 : Int) ≤ (m : Int) + 1 - (a : Int)) = true := decide_eq_true (by omega)
                have hD4 := HD4.out
                rw [if_pos h2] at hD4
                have HD5 := hid hD4
                clear hD4
                go_wp2_with fail
                go_loopw [9] (fun x wr => ∃ (k : Nat) (d2 : Array Int), k ≤ m ∧ x = .int .i64 k ∧ d2.size = N ∧ Sd w g o cap t d2 wr ∧ d4 = shiftDown ltInt k d2) (fun x _ => (intOf x).toNat)
                case atStart => exact ⟨m, d3, by omega, by first | rfl | go_num, HZ3.out, HS3.out, HD5.out⟩
                case round =>
                  obtain ⟨k, d2, hk, rfl, hsz, hS, hE⟩ := hrel
                  generalize wr = wy at *
                  have HSy := hid hS
                  have HEy := hid hE
                  have HZy := hid hsz
                  clear hS hE hsz HS3
                  cases k with
                  | zero =>
                    have HE3 : Hid (d4 = d2) := HEy.out
                    go_wp2
                    go_meet
                    case rel => rw [HE3.out]; exact HSy.out
                  | succ k =>
                    have hge : decide ((1 : Int) ≤ (k : Int) + 1) = true := decide_eq_true (by omega)
                    have hi1 : (k : Int) + 1 < (N : Int) := by omega
                    have hi2 : (k : Int) < (N : Int) := by omega
                    have c1 := HSy.out.dt.cell (k + 1) (by rw [HZy.out]; omega)
                    have c0 := HSy.out.dt.cell (k) (by rw [HZy.out]; omega)
                    have HLs := hid (fun w => less_any d2[k + 1]! d2[k]! w)
                    cases hc : ltInt d2[k + 1]! d2[k]! with
                    | false =>
                      rw [hc] at HLs
                      have HE3 : Hid (d4 = d2) := by
                        have := HEy.out
                        rw [shiftDown, if_pos (by rw [hc]; rfl)] at this
                        exact this
                      clear hc
                      obtain ⟨xa, hxa⟩ : ∃ x, x = d2[k + 1]! := ⟨_, rfl⟩
                      obtain ⟨xb, hxb⟩ : ∃ x, x = d2[k]! := ⟨_, rfl⟩
                      rw [← hxa] at c1 HLs
                      rw [← hxb] at c0 HLs
                      clear hxa hxb
                      go_wp2
                      go_quiet (first | (go_at_call 165; refine Calls.quiet_of_same (HLs.out _)))
                      go_wp2
                      go_meet
                      case rel => rw [HE3.out]; exact HSy.out.drewN _
                    | true =>
                      rw [hc] at HLs
                      have HE3 : Hid (d4 = shiftDown ltInt k (Go.Sort.swp d2 (k + 1) k)) := by
                        have := HEy.out
                        rw [shiftDown, if_neg (by rw [hc]; decide)] at this
                        exact this
                      clear hc
                      obtain ⟨xa, hxa⟩ : ∃ x, x = d2[k + 1]! := ⟨_, rfl⟩
                      obtain ⟨xb, hxb⟩ : ∃ x, x = d2[k]! := ⟨_, rfl⟩
                      rw [← hxa] at c1 HLs
                      rw [← hxb] at c0 HLs
                      clear hxa hxb
                      go_wp2
                      go_quiet (first | (go_at_call 165; refine Calls.quiet_of_same (HLs.out _)))
                      have HSz := hid (HSy.out.drewN nq)
                      clear HSy c1 c0
                      generalize wy.drewN nq = wz at HSz ⊢
                      have ci := HSz.out.dt.cell (k + 1) (by rw [HZy.out]; omega)
                      have cj := HSz.out.dt.cell k (by rw [HZy.out]; omega)
                      have fi := HSz.out.dt.free (o + (k + 1))
                      have fj := HSz.out.dt.free (o + k)
                      have hsi : (k : Int) + 1 < (N : Int) := by omega
                      have hsj : (k : Int) < (N : Int) := by omega
                      have HSw : Hid (Sd w g o cap t (Go.Sort.swp d2 (k + 1) k) ((wz.setCell ⟨g, o + (k + 1), none⟩ (.int .u64 d2[k]!)).setCell ⟨g, o + k, none⟩ (.int .u64 d2[k + 1]!)).drew) := (HSz.out.swp (k + 1) k (by rw [HZy.out]; omega) (by rw [HZy.out]; omega)).drew
                      generalize d2[k + 1]! = xi at ci HSw
                      generalize d2[k]! = xj at cj HSw
                      go_wp2
                      go_region
                      go_wp2
                      go_roundw
                      case rel => exact ⟨k, _, by omega, by go_num, by rw [swp_size, HZy.out], HSw.out, HE3.out⟩
                      case measure => simp [intOf]
              · have hd2 : decide ((2 : Int) ≤ (m : Int) + 1 - (a : Int)) = false := decide_eq_false (by omega)
                have hD4 := HD4.out
                rw [if_neg h2] at hD4
                have HD5 := hid hD4
                have h2I : ¬ (2 : Int) ≤ (m : Int) + 1 - (a : Int) := by omega
                clear hD4
                go_wp2
                go_meet
                case rel => rw [HD5.out]; exact HS3.out
            case rest =>
              have HS4 := hid hcut
              generalize wc = wx4 at *
              clear hcut HS3
              obtain ⟨d5, hd5⟩ : ∃ d5, d5 = if b - (m + 1) ≥ 2 then shiftUp ltInt b (m + 2) d4 else d4 := ⟨_, rfl⟩
              rw [← hd5] at HR
              have HD5 := hid hd5
              clear hd5
              have HZ5 : Hid (d5.size = N) := by
                show _ = _
                rw [HD5.out]
                split
                · rw [shiftUp_size b _ _ _ (Nat.le_refl _), HZ4.out]
                · exact HZ4.out
              by_cases h2 : b - (m + 1) ≥ 2
              · have hd2 : decide ((2 : Int) ≤ (b : Int) - ((m : Int) + 1)) = true := decide_eq_true (by omega)
                have hD5 := HD5.out
                rw [if_pos h2] at hD5
                have HD6 := hid hD5
                clear hD5
                go_wp2_with fail
                go_loopw [10] (fun x wr => ∃ (k : Nat) (d2 : Array Int), (m + 1 ≤ k ∧ k < b) ∧ x = .int .i64 ((k : Int) + 1) ∧ d2.size = N ∧ Sd w g o cap t d2 wr ∧ d5 = shiftUp ltInt b (k + 1) d2) (fun x _ => b - (intOf x).toNat)
                case atStart => exact ⟨m + 1, d4, ⟨by omega, by omega⟩, by first | rfl | go_num, HZ4.out, HS4.out, HD6.out⟩
                case round =>
                  obtain ⟨k, d2, ⟨hk1, hk2⟩, rfl, hsz, hS, hE⟩ := hrel
                  generalize wr = wy at *
                  have HSy := hid hS
                  have HEy := hid hE
                  have HZy := hid hsz
                  clear hS hE hsz HS4
                  by_cases hlt : k + 1 < b
                  · have hdl : decide ((k : Int) + 1 < (b : Int)) = true := decide_eq_true (by omega)
                    have hi1 : (k : Int) + 1 < (N : Int) := by omega
                    have hi2 : (k : Int) < (N : Int) := by omega
                    have c1 := HSy.out.dt.cell (k + 1) (by rw [HZy.out]; omega)
                    have c0 := HSy.out.dt.cell (k) (by rw [HZy.out]; omega)
                    have HLs := hid (fun w => less_any d2[k + 1]! d2[k]! w)
                    cases hc : ltInt d2[k + 1]! d2[k]! with
                    | false =>
                      rw [hc] at HLs
                      have HE3 : Hid (d5 = d2) := by
                        have := HEy.out
                        rw [shiftUp_no (Or.inr hc)] at this
                        exact this
                      clear hc
                      obtain ⟨xa, hxa⟩ : ∃ x, x = d2[k + 1]! := ⟨_, rfl⟩
                      obtain ⟨xb, hxb⟩ : ∃ x, x = d2[k]! := ⟨_, rfl⟩
                      rw [← hxa] at c1 HLs
                      rw [← hxb] at c0 HLs
                      clear hxa hxb
                      go_wp2
                      go_quiet (first | (go_at_call 165; refine Calls.quiet_of_same (HLs.out _)))
                      go_wp2
                      go_roundw
                      case rel => exact ⟨m, s, d5, ⟨by omega, by omega, by omega⟩, rfl, by rw [HY.out]; go_num, HZ5.out, (by rw [HE3.out]; exact HSy.out.drewN _), HR.out.symm⟩
                      case measure => rw [HY.out]; simp [intOf]; omega
                    | true =>
                      rw [hc] at HLs
                      have HE3 : Hid (d5 = shiftUp ltInt b (k + 2) (Go.Sort.swp d2 (k + 1) k)) := by
                        have := HEy.out
                        rw [shiftUp_yes hlt hc] at this
                        exact this
                      clear hc
                      obtain ⟨xa, hxa⟩ : ∃ x, x = d2[k + 1]! := ⟨_, rfl⟩
                      obtain ⟨xb, hxb⟩ : ∃ x, x = d2[k]! := ⟨_, rfl⟩
                      rw [← hxa] at c1 HLs
                      rw [← hxb] at c0 HLs
                      clear hxa hxb
                      go_wp2
                      go_quiet (first | (go_at_call 165; refine Calls.quiet_of_same (HLs.out _)))
                      have HSz := hid (HSy.out.drewN nq)
                      clear HSy c1 c0
                      generalize wy.drewN nq = wz at HSz ⊢
                      have ci := HSz.out.dt.cell (k + 1) (by rw [HZy.out]; omega)
                      have cj := HSz.out.dt.cell k (by rw [HZy.out]; omega)
                      have fi := HSz.out.dt.free (o + (k + 1))
                      have fj := HSz.out.dt.free (o + k)
                      have hsi : (k : Int) + 1 < (N : Int) := by omega
                      have hsj : (k : Int) < (N : Int) := by omega
                      have HSw : Hid (Sd w g o cap t (Go.Sort.swp d2 (k + 1) k) ((wz.setCell ⟨g, o + (k + 1), none⟩ (.int .u64 d2[k]!)).setCell ⟨g, o + k, none⟩ (.int .u64 d2[k + 1]!)).drew) := (HSz.out.swp (k + 1) k (by rw [HZy.out]; omega) (by rw [HZy.out]; omega)).drew
                      generalize d2[k + 1]! = xi at ci HSw
                      generalize d2[k]! = xj at cj HSw
                      go_wp2
                      go_region
                      go_wp2
                      go_roundw
                      case rel => exact ⟨k + 1, _, ⟨by omega, by omega⟩, by go_num, by rw [swp_size, HZy.out], HSw.out, HE3.out⟩
                      case measure => simp [intOf]; omega
                  · have hdl : decide ((k : Int) + 1 < (b : Int)) = false := decide_eq_false (by omega)
                    have HE3 : Hid (d5 = d2) := by
                      have := HEy.out
                      rw [shiftUp_no (Or.inl hlt)] at this
                      exact this
                    have hltI : ¬ (k : Int) + 1 < (b : Int) := by omega
                    go_wp2
                    go_roundw
                    case rel => exact ⟨m, s, d5, ⟨by omega, by omega, by omega⟩, rfl, by rw [HY.out]; go_num, HZ5.out, (by rw [HE3.out]; exact HSy.out), HR.out.symm⟩
                    case measure => rw [HY.out]; simp [intOf]; omega
              · have hd2 : decide ((2 : Int) ≤ (b : Int) - ((m : Int) + 1)) = false := decide_eq_false (by omega)
                have hD5 := HD5.out
                rw [if_neg h2] at hD5
                have HD6 := hid hD5
                have h2I : ¬ (2 : Int) ≤ (b : Int) - ((m : Int) + 1) := by omega
                clear hD5
                go_wp2
                go_roundw
                case rel => exact ⟨m, s, d5, ⟨by omega, by omega, by omega⟩, rfl, by rw [HY.out]; go_num, HZ5.out, (by rw [HD6.out]; exact HS4.out), HR.out.symm⟩
                case measure => rw [HY.out]; simp [intOf]; omega
end Go.Proofs.YtdehlnaoehjehaaGreatDoor
