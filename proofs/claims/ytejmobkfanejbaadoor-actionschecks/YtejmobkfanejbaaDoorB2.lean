/-
  Proved here: areFew, areActions and Check of package actions tell what the plain functions say; no old memory turns. Condition: the widths' table holds its eleven numbers.
-/
import Derived.Test.YtejmobkfanejbaaDoorB1
namespace Go.Proofs.YtejmobkfanejbaaDoor
open Go.RowKit

/-- One of the copies, in a later world. -/
theorem Cps.at {T : Nat → Prop} {w w' : World} {ao : Option Addr} {n cap : Nat} {c : List (List Ac)} (h : Cps T w (.slice ao n cap) c) (hb : Below w.heap.size w w') {j : Nat} (hj : j < c.length) : ∃ b o a1 c1, ao = some ⟨b, o, none⟩ ∧ w'.cell? ⟨b, o + j, none⟩ = some (.slice a1 c[j].length c1) ∧ c[j].length ≤ c1 ∧ c[j].length ≤ 140737488355328 ∧ Acs T w' (.slice a1 c[j].length c1) c[j] := by
  obtain ⟨b, o, rfl, -, u, f0, hu⟩ := (Cps.on h hb).cell j hj
  obtain ⟨a1, c1, rfl, hc1⟩ := hu.form
  simp only [Nat.add_zero, Nat.mul_one] at f0
  exact ⟨b, o, a1, c1, rfl, f0, hc1, hu.len, hu⟩
/-- One of the actions, in a later world. -/
theorem Acs.at {T : Nat → Prop} {w w' : World} {ao : Option Addr} {n cap : Nat} {l : List Ac} (h : Acs T w (.slice ao n cap) l) (hb : Below w.heap.size w w') {j : Nat} (hj : j < l.length) : ∃ b o, ao = some ⟨b, o, none⟩ ∧ w'.cell? ⟨b, o + j * 3, none⟩ = some (.int .i8 l[j].dw) ∧ w'.cell? ⟨b, o + j * 3 + 1, none⟩ = some (.int .i8 l[j].fd) ∧ w'.cell? ⟨b, o + j * 3 + 2, none⟩ = some (.int .u64 l[j].n) ∧ l[j].Fit := by
  obtain ⟨b, o, rfl, -, g0, g1, g2, hf⟩ := (Acs.on h hb).cell j hj
  exact ⟨b, o, rfl, g0, g1, g2, hf⟩
theorem all_false {α : Type} {p : α → Bool} {l : List α} {k : Nat} (hk : k < l.length) (h : p l[k] = false) : l.all p = false := by
  rw [Bool.eq_false_iff]
  intro ha
  rw [List.all_eq_true] at ha
  have := ha l[k] (List.getElem_mem hk)
  rw [h] at this; cases this
theorem all_take {α : Type} {p : α → Bool} {l : List α} {k : Nat} (hk : k < l.length) (h : (l.take k).all p = true) (h' : p l[k] = true) : (l.take (k + 1)).all p = true := by
  rw [take_one' l k hk, List.all_append, h]
  simp [h']
theorem few_iff {c : List (List Ac)} : few c = true ↔ c.length ≤ 64 ∧ (c.all (fun l => decide (l.length ≤ 16)) = true) ∧ cnt c ≤ 640 := by
  simp [few, and_assoc]
theorem few_no {c : List (List Ac)} (h : ¬ (c.length ≤ 64 ∧ (c.all (fun l => decide (l.length ≤ 16)) = true) ∧ cnt c ≤ 640)) : few c = false := by
  rw [← few_iff] at h; simpa using h
theorem cnt_le {c : List (List Ac)} {k : Nat} (h : (c.take k).all (fun l => decide (l.length ≤ 16)) = true) : cnt (c.take k) ≤ 16 * k := by
  induction k with
  | zero => simp [cnt]
  | succ k ih =>
    by_cases hk : k < c.length
    · rw [take_one' c k hk, List.all_append, Bool.and_eq_true] at h
      rw [take_one' c k hk, cnt_one]
      have h1 := ih h.1
      have h2 : c[k].length ≤ 16 := by simpa using h.2
      omega
    · rw [List.take_of_length_le (by omega)] at h ⊢
      rw [List.take_of_length_le (by omega)] at ih
      have := ih h; omega
set_option maxHeartbeats 1600000 in
set_option maxRecDepth 100000 in
theorem areFew_any {T : Nat → Prop} {w : World} {v : Value} {c : List (List Ac)} (h : Cps T w v c) : Calls Tryd.prog 21 #[v] w fun e w' => e = .returned (.bool (few c)) ∧ w' = w := by
  obtain ⟨ao, cap, rfl, hcap⟩ := h.form
  have hlen := h.len
  have H := hid h
  clear h
  by_cases h64 : 64 < c.length
  · rw [few_no (by omega)]
    have hd : decide ((64 : Int) < (c.length : Int)) = true := decide_eq_true (by omega)
    go_enter Tryd.func21, Tryd.ntmps21
    go_wp2
    go_ret
    exact ⟨rfl, rfl⟩
  · have hd : decide ((64 : Int) < (c.length : Int)) = false := by simp; omega
    go_enter Tryd.func21, Tryd.ntmps21
    go_wp2
    go_loop [3, 11] (fun s i => ∃ k : Nat, k ≤ c.length ∧ i = .int .i64 k ∧ s = .int .i64 (cnt (c.take k) : Nat) ∧ (c.take k).all (fun l => decide (l.length ≤ 16)) = true) (fun _ i => c.length - (intOf i).toNat)
    case atStart => exact ⟨0, by omega, rfl, by simp [cnt], by simp⟩
    case round =>
      obtain ⟨k, hk, rfl, rfl, hall⟩ := hrel
      have hcn := cnt_le hall
      have HA := hid hall
      clear hall
      by_cases hlt : k < c.length
      · obtain ⟨b, o, a1, c1, rfl, f0, hc1, hl1, -⟩ := H.out.at (Below.refl _ _) hlt
        have HT := hid (take_one' c k hlt)
        obtain ⟨y, hy⟩ : ∃ y, y = c[k] := ⟨_, rfl⟩
        rw [← hy] at f0 hc1 hl1
        have HY := hid hy
        clear hy
        by_cases h16 : 16 < y.length
        · have hd16 : decide ((16 : Int) < (y.length : Int)) = true := decide_eq_true (by omega)
          have HF : Hid (few c = false) := few_no (by
            rintro ⟨-, h2, -⟩
            rw [all_false hlt (by rw [← HY.out]; simp; omega)] at h2
            cases h2)
          go_wp2
          go_ret
          exact ⟨by rw [HF.out]; rfl, rfl⟩
        · have hd16 : decide ((16 : Int) < (y.length : Int)) = false := by simp; omega
          have HC : Hid (cnt (c.take (k + 1)) = cnt (c.take k) + y.length) := by show _ = _; rw [HT.out, cnt_one, ← HY.out]
          generalize cnt (c.take k) = s at hcn HC
          go_wp2
          go_round
          case rel => exact ⟨k + 1, by omega, by go_num, by rw [HC.out]; go_num, all_take hlt HA.out (by rw [← HY.out]; simp; omega)⟩
          case measure => simp [intOf]; omega
      · obtain rfl : k = c.length := by omega
        have HF : Hid (few c = decide ((cnt (c.take c.length) : Int) ≤ 640)) := by
          show few c = _
          rw [List.take_length] at hcn ⊢
          have ha := HA.out
          rw [List.take_length] at ha
          rw [Bool.eq_iff_iff, few_iff, decide_eq_true_iff]
          constructor
          · rintro ⟨_, _, h⟩; omega
          · intro h; exact ⟨by omega, ha, by omega⟩
        clear HA
        generalize cnt (c.take c.length) = s at hcn HF
        go_wp2
        go_ret
        exact ⟨by rw [HF.out]; rfl, rfl⟩
theorem okC_no {c : List (List Ac)} {k j : Nat} (hk : k < c.length) (hj : j < c[k].length) (h : isAc c[k][j] = false) : okC c = false := by
  unfold okC
  exact all_false hk (all_false hj h)
set_option maxHeartbeats 3200000 in
set_option maxRecDepth 100000 in
theorem areActions_any {T : Nat → Prop} {w : World} {v : Value} {c : List (List Ac)} (h : Cps T w v c) (hw : Tab w) : Calls Tryd.prog 22 #[v] w fun e w' => e = .returned (.bool (okC c)) ∧ Below w.heap.size w w' := by
  obtain ⟨ao, cap, rfl, hcap⟩ := h.form
  have hlen := h.len
  have H := hid h
  have HT := hid hw
  clear h hw
  go_enter Tryd.func22, Tryd.ntmps22
  go_wp2
  go_loopw [9] (fun i wr => ∃ k : Nat, k ≤ c.length ∧ i = .int .i64 k ∧ okC (c.take k) = true ∧ Below w.heap.size w wr) (fun i _ => c.length - (intOf i).toNat)
  case atStart => exact ⟨0, by omega, rfl, by simp [okC], Below.refl _ _⟩
  case round =>
    obtain ⟨k, hk, rfl, hall, hlow⟩ := hrel
    generalize wr = wx at *
    have HA := hid hall
    have HL := hid hlow
    clear hall hlow
    by_cases hlt : k < c.length
    · obtain ⟨b, o, a1, c1, rfl, f0, hc1, hl1, hu⟩ := H.out.at HL.out hlt
      have HU := hid hu
      have HTk := hid (all_take (p := fun l => l.all isAc) hlt (show (c.take k).all (fun l => l.all isAc) = true from HA.out))
      have HNo : Hid (∀ j, (hj : j < c[k].length) → isAc c[k][j] = false → okC c = false) := fun j hj he => okC_no hlt hj he
      clear hu HA
      generalize c[k] = y at f0 hc1 hl1 HU HTk HNo
      go_wp2
      go_loopw [15] (fun i wr => ∃ j : Nat, j ≤ y.length ∧ i = .int .i64 j ∧ (y.take j).all isAc = true ∧ Below w.heap.size w wr ∧ Below wx.heap.size wx wr) (fun i _ => y.length - (intOf i).toNat)
      case atStart => exact ⟨0, by omega, rfl, by simp, HL.out, Below.refl _ _⟩
      case round =>
        obtain ⟨j, hj, rfl, hall, hlow, hlx⟩ := hrel
        have HA := hid hall
        have HL2 := hid hlow
        have HLx := hid hlx
        clear hall hlow hlx
        by_cases hjt : j < y.length
        · obtain ⟨p, q, rfl, g0, g1, g2, hfit⟩ := HU.out.at HLx.out hjt
          have HAj := hid (all_take (p := isAc) hjt HA.out)
          have HNj := hid (HNo.out j hjt)
          clear HA
          generalize y[j] = a at g0 g1 g2 hfit HAj HNj
          obtain ⟨d, f, n⟩ := a
          have hl0 : Below wr.heap.size wr (wr.alloc (.cells #[.int .i8 d, .int .i8 f, .int .u64 n] 48)) := (Below.refl _ _).alloc (Nat.le_refl _) _
          have HC := hid (isAction_any ⟨d, f, n⟩ hfit _ (HT.out.on (HL2.out.trans (hl0.mono HL2.out.size))))
          have HB : Hid (∀ w', Below (wr.alloc (.cells #[.int .i8 d, .int .i8 f, .int .u64 n] 48)).heap.size (wr.alloc (.cells #[.int .i8 d, .int .i8 f, .int .u64 n] 48)) w' → Below w.heap.size w w' ∧ Below wx.heap.size wx w') := fun w' h' => by
            have h2 := hl0.trans (h'.mono hl0.size)
            exact ⟨HL2.out.trans (h2.mono HL2.out.size), HLx.out.trans (h2.mono HLx.out.size)⟩
          clear hl0 hfit
          cases hb : isAc ⟨d, f, n⟩
          · rw [hb] at HC
            have HF := hid (HNj.out hb)
            go_wp2_with (go_at_call 30; refine (HC.out).mono ?_; rintro e w1 ⟨rfl, hb1⟩; have HB1 := hid (HB.out w1 hb1); clear hb1 HC)
            go_ret
            exact ⟨by rw [HF.out]; rfl, HB1.out.1⟩
          · rw [hb] at HC
            have HF := hid (HAj.out hb)
            go_wp2_with (go_at_call 30; refine (HC.out).mono ?_; rintro e w1 ⟨rfl, hb1⟩; have HB1 := hid (HB.out w1 hb1); clear hb1 HC)
            go_roundw
            case rel => exact ⟨j + 1, by omega, by go_num, HF.out, HB1.out.1, HB1.out.2⟩
            case measure => simp [intOf]; omega
        · obtain rfl : j = y.length := by omega
          have HF : Hid (y.all isAc = true) := by have := HA.out; rw [List.take_length] at this; exact this
          go_wp2
          go_roundw
          case rel => exact ⟨k + 1, by omega, by go_num, HTk.out HF.out, HL2.out⟩
          case measure => simp [intOf]; omega
    · obtain rfl : k = c.length := by omega
      have HF : Hid (okC c = true) := by have := HA.out; rw [List.take_length] at this; exact this
      go_wp2
      go_ret
      exact ⟨by rw [HF.out]; rfl, HL.out⟩
theorem size_rl (r : Rl) (u : Value) : (Tryd.prog.info? 29).map (·.size) = some (rlc r u).size := by rw [rc_size]; kernel_rfl
theorem ckR_no {r : Rl} (h : mOk r.mt = false) : ckR r = 20 := by unfold ckR; simp [h]
theorem ckR_few {r : Rl} (h : mOk r.mt = true) (h2 : few r.cp = false) : ckR r = 2 := by unfold ckR; simp [h, h2]
theorem ckR_ok {r : Rl} (h : mOk r.mt = true) (h2 : few r.cp = true) (h3 : okC r.cp = false) : ckR r = 2 := by unfold ckR; simp [h, h2, h3]
theorem ckR_yes {r : Rl} (h : mOk r.mt = true) (h2 : few r.cp = true) (h3 : okC r.cp = true) : ckR r = 0 := by unfold ckR; simp [h, h2, h3]
set_option maxHeartbeats 3200000 in
set_option maxRecDepth 100000 in
theorem acheck_any {T : Nat → Prop} {w : World} {u : Value} {r : Rl} (h : Cps T w u r.cp) (hw : Tab w) : Calls Tryd.prog 11 #[.agg (rlc r u)] w fun e w' => e = .returned (.int .i64 (ckR r)) ∧ Below w.heap.size w w' := by
  obtain ⟨W0, hW0⟩ : ∃ W0, W0 = w.alloc (.cells (rlc r u) 29) := ⟨_, rfl⟩
  have hB0 : Below w.heap.size w W0 := by rw [hW0]; exact (Below.refl _ _).alloc (Nat.le_refl _) _
  have hG0 : W0.heap[w.heap.size]? = some (.cells (rlc r u) 29 (0, 0)) := by rw [hW0]; exact heap_alloc_new _ _
  have HRm : Hid (W0.rangeAt w.heap.size 1 (row 22 r.mt).toList) := range_of fun i hi => by
    rw [row_size] at hi
    rw [cell_of_row _ _ _ _ _ _ hG0, rc_mat _ _ _ _ _ hi, row_at 22 _ _ hi]
  have hgl : w.heap.size < W0.heap.size := (Array.getElem?_eq_some_iff.1 hG0).1
  have HC := hid (check_any r.mt W0 (hw.on hB0))
  have HK : Hid (∀ w1, Below W0.heap.size W0 w1 → w1.cell? ⟨w.heap.size, 23, none⟩ = some u ∧ Below w.heap.size w w1 ∧ Cps T w1 u r.cp ∧ Tab w1) := fun w1 hb => by
    have hb' : Below w.heap.size w w1 := hB0.trans (hb.mono hB0.size)
    refine ⟨?_, hb', Cps.on h hb', hw.on hb'⟩
    rw [cell_of_row _ _ _ _ _ _ ((hb.block _ hgl).trans hG0)]
    exact (rc_cp _ _ _ _).1
  have HB0 := hid hB0
  have HW0 := hid hW0
  clear hB0 hG0 hW0 hw h
  cases hm : mOk r.mt
  · rw [chk_bad hm] at HC
    rw [ckR_no hm]
    go_enter Tryd.func11, Tryd.ntmps11
    go_upto_region 1 with fail
    rw [← HW0.out]
    clear HW0
    go_wp2_with (first
      | (refine ldMid 26 (.tmp 4) rfl rfl w.heap.size 1 rfl (row 22 r.mt) _ Tryd.underlying26 rfl (size26 r.mt) HRm.out ?_)
      | (go_at_call 20; refine (HC.out).mono ?_; rintro e w1 ⟨rfl, hb1⟩; have HB1 := hid hb1; clear hb1))
    go_ret
    exact ⟨rfl, HB0.out.trans (HB1.out.mono HB0.out.size)⟩
  · rw [chk_ok hm] at HC
    cases hf : few r.cp
    · rw [ckR_few hm hf]
      have HX : Hid (∀ w1, Cps T w1 u r.cp → Calls Tryd.prog 21 #[u] w1 fun e w' => e = .returned (.bool false) ∧ w' = w1) := fun w1 h1 => by
        have := areFew_any h1
        rwa [hf] at this
      go_enter Tryd.func11, Tryd.ntmps11
      go_upto_region 1 with fail
      rw [← HW0.out]
      clear HW0
      go_wp2_with (first
        | (refine ldMid 26 (.tmp 4) rfl rfl w.heap.size 1 rfl (row 22 r.mt) _ Tryd.underlying26 rfl (size26 r.mt) HRm.out ?_)
        | (go_at_call 20; refine (HC.out).mono ?_; rintro e w1 ⟨rfl, hb1⟩; obtain ⟨k1, k2, k3, -⟩ := HK.out w1 hb1; have HB1 := hid k2; have HX1 := hid (HX.out w1 k3); clear hb1 k2 k3)
        | (go_at_call 21; refine (HX1.out).mono ?_; rintro e w2 ⟨rfl, rfl⟩; clear HX1))
      go_ret
      exact ⟨rfl, HB1.out⟩
    · have HX : Hid (∀ w1, Cps T w1 u r.cp → Calls Tryd.prog 21 #[u] w1 fun e w' => e = .returned (.bool true) ∧ w' = w1) := fun w1 h1 => by
        have := areFew_any h1
        rwa [hf] at this
      have HY : Hid (∀ w1, Below w.heap.size w w1 → Cps T w1 u r.cp → Tab w1 → Calls Tryd.prog 22 #[u] w1 fun e w' => e = .returned (.bool (okC r.cp)) ∧ Below w.heap.size w w') := fun w1 hb h1 ht => (areActions_any h1 ht).mono fun e w' ⟨q1, q2⟩ => ⟨q1, hb.trans (q2.mono hb.size)⟩
      cases ho : okC r.cp
      · rw [ho] at HY
        rw [ckR_ok hm hf ho]
        go_enter Tryd.func11, Tryd.ntmps11
        go_upto_region 1 with fail
        rw [← HW0.out]
        clear HW0
        go_wp2_with (first
          | (refine ldMid 26 (.tmp 4) rfl rfl w.heap.size 1 rfl (row 22 r.mt) _ Tryd.underlying26 rfl (size26 r.mt) HRm.out ?_)
          | (go_at_call 20; refine (HC.out).mono ?_; rintro e w1 ⟨rfl, hb1⟩; obtain ⟨k1, k2, k3, k4⟩ := HK.out w1 hb1; have HY1 := hid (HY.out w1 k2 k3 k4); have HX1 := hid (HX.out w1 k3); clear hb1 k2 k3 k4)
          | (go_at_call 21; refine (HX1.out).mono ?_; rintro e w2 ⟨rfl, rfl⟩; clear HX1)
          | (go_at_call 22; refine (HY1.out).mono ?_; rintro e w2 ⟨rfl, hb2⟩; have HB2 := hid hb2; clear HY1 hb2))
        go_ret
        exact ⟨rfl, HB2.out⟩
      · rw [ho] at HY
        rw [ckR_yes hm hf ho]
        go_enter Tryd.func11, Tryd.ntmps11
        go_upto_region 1 with fail
        rw [← HW0.out]
        clear HW0
        go_wp2_with (first
          | (refine ldMid 26 (.tmp 4) rfl rfl w.heap.size 1 rfl (row 22 r.mt) _ Tryd.underlying26 rfl (size26 r.mt) HRm.out ?_)
          | (go_at_call 20; refine (HC.out).mono ?_; rintro e w1 ⟨rfl, hb1⟩; obtain ⟨k1, k2, k3, k4⟩ := HK.out w1 hb1; have HY1 := hid (HY.out w1 k2 k3 k4); have HX1 := hid (HX.out w1 k3); clear hb1 k2 k3 k4)
          | (go_at_call 21; refine (HX1.out).mono ?_; rintro e w2 ⟨rfl, rfl⟩; clear HX1)
          | (go_at_call 22; refine (HY1.out).mono ?_; rintro e w2 ⟨rfl, hb2⟩; have HB2 := hid hb2; clear HY1 hb2))
        go_ret
        exact ⟨rfl, HB2.out⟩
end Go.Proofs.YtejmobkfanejbaaDoor
