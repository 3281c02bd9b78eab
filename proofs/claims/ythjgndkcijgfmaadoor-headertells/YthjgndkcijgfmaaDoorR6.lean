/-
  Proved here: the document's Text returns the string of 'rtxt' for every header of numbers below 2 to 64; no old memory turns. No further condition.
-/
import Derived.Test.YthjgndkcijgfmaaDoorR5
import Derived.Test.YthjgndkcijgfmaaDoorW9
import Derived.Deep.RegionHeld3
namespace Go.Proofs.YthjgndkcijgfmaaDoor
open Go.RowKit

theorem rchk_bad {h : Nat → Int} (e : rOk h = false) : rchk h = 10 := by simp [rchk, e]
theorem rchk_ok {h : Nat → Int} (e : rOk h = true) : rchk h = 0 := by simp [rchk, e]

set_option maxHeartbeats 400000 in
theorem rtext_bad (h : Nat → Int) (w : World) (hno : rOk h = false) :
    Calls Tryd.prog 11 #[hv h] w fun e w' => e = .returned (.string ⟨#[]⟩) ∧ Below w.heap.size w w' := by
  have hb0 : Below w.heap.size w (w.alloc (.cells (hcs h) 24)) := (Below.refl _ _).alloc (Nat.le_refl _) _
  have c := rcheck_any h (w.alloc (.cells (hcs h) 24))
  rw [rchk_bad hno] at c
  have C := Lib.hid c
  clear c
  go_enter Tryd.func11, Tryd.ntmps11
  go_wp2_with fail
  refine (C.out).mono ?_
  rintro e w1 ⟨rfl, hb1⟩
  go_wp2
  go_ret
  exact ⟨rfl, hb0.trans (hb1.mono (by simp))⟩

theorem rname_keep (k : Nat) (hk : k < 11) (NM : ByteArray) (hNM : NM = ⟨(nameL k).toArray⟩) (w : World) (b o : Nat) (v : Value) (hc : w.cell? ⟨b, o, none⟩ = some v) :
    Calls Tryd.prog 20 #[.int .i8 (k : Int)] w fun e w' => e = .returned (.string NM) ∧ Below w.heap.size w w' ∧ w'.cell? ⟨b, o, none⟩ = some v := by
  refine (rname_any k hk w).mono ?_
  rintro e w' ⟨rfl, hb⟩
  exact ⟨by rw [hNM], hb, by rw [hb.cell (p := ⟨b, o, none⟩) (lt_of_cell hc)]; exact hc⟩

set_option maxHeartbeats 1600000 in
theorem rtext_ok (h : Nat → Int) (hbd : ∀ k, 0 ≤ h k ∧ h k < 18446744073709551616) (w : World) (hyes : rOk h = true) :
    Calls Tryd.prog 11 #[hv h] w fun e w' => e = .returned (.string ⟨(txtL h).toArray⟩) ∧ Below w.heap.size w w' := by
  have hb0 : Below w.heap.size w (w.alloc (.cells (hcs h) 24)) := (Below.refl _ _).alloc (Nat.le_refl _) _
  have c := rcheck_any h (w.alloc (.cells (hcs h) 24))
  rw [rchk_ok hyes] at c
  have C := Lib.hid c
  clear c
  go_enter Tryd.func11, Tryd.ntmps11
  go_wp2_with fail
  refine (C.out).mono ?_
  rintro e w1 ⟨rfl, hb1⟩
  have hh : w1.heap[w.heap.size]? = some (Obj.cells (hcs h) 24 (0, 0)) := by rw [hb1.block _ (by simp), heap_alloc_new]
  have hlow : Below w.heap.size w w1 := hb0.trans (hb1.mono (by simp))
  have hlt1 : w.heap.size < w1.heap.size := by have := hb1.size; simp at this; omega
  clear C hb0 hb1
  go_wp2_with fail
  go_loopw [3, 4] (fun s i wr => ∃ (k : Nat), k ≤ 11 ∧ i = .int .i8 k ∧ s = .string ⟨(txtUpto h k).toArray⟩ ∧ Below w1.heap.size w1 wr) (fun _ i _ => 11 - (intOf i).toNat)
  case atStart => exact ⟨0, by omega, rfl, rfl, Below.refl _ _⟩
  case round =>
    obtain ⟨k, hk, rfl, hs5, hbl⟩ := hrel
    obtain ⟨s5, HS⟩ : ∃ s5 : ByteArray, Hid (s5 = ⟨(txtUpto h k).toArray⟩) := ⟨_, rfl⟩
    rw [← HS.out] at hs5
    subst hs5
    by_cases hlt : k < 11
    · have g1 : (k : Int) < 11 := by omega
      have g0 : (0 : Int) ≤ (k : Int) := by omega
      have hhr : wr.heap[w.heap.size]? = some (Obj.cells (hcs h) 24 (0, 0)) := by rw [hbl.block _ hlt1]; exact hh
      have hc := cell_h hhr k hlt
      obtain ⟨m, hm⟩ := Int.eq_ofNat_of_zero_le (hbd k).1
      have hm64 : m < 18446744073709551616 := by have := (hbd k).2; omega
      rw [hm] at hc
      have HM : Hid (h k = (m : Int)) := hm
      have HSTEP : Hid (txtUpto h (k + 1) = if h k = 0 then txtUpto h k else sep (txtUpto h k) ++ (nameL k ++ 61 :: numL k (h k).toNat)) := rfl
      have hsl : s5.size ≤ 1100 := by have := txtUpto_len h hbd k; rw [HS.out]; show (txtUpto h k).toArray.size ≤ 1100; simp; omega
      clear hm hhr
      cases t0 : ((m : Int) == 0)
      · have hm0 : ¬ (m : Int) = 0 := by simpa using t0
        obtain ⟨NM, HNM⟩ : ∃ NM : ByteArray, Hid (NM = ⟨(nameL k).toArray⟩) := ⟨_, rfl⟩
        obtain ⟨NU, HNU⟩ : ∃ NU : ByteArray, Hid ((⟨(numL k m).toArray⟩ : ByteArray) = NU) := ⟨_, rfl⟩
        have hNM : NM.size ≤ 6 := by rw [HNM.out]; show (nameL k).toArray.size ≤ 6; simp; exact nameL_len k
        have hNU : NU.size ≤ 20 := by rw [← HNU.out]; show (numL k m).toArray.size ≤ 20; simp; exact numL_len k m hm64
        by_cases he : s5.size = 0
        · have hs0 : s5 = ⟨#[]⟩ := by
            apply ByteArray.ext
            exact Array.eq_empty_of_size_eq_zero he
          have HSEP : Hid ((⟨(sep (txtUpto h k)).toArray⟩ : ByteArray) = ⟨#[]⟩) := by
            show (⟨(sep (txtUpto h k)).toArray⟩ : ByteArray) = ⟨#[]⟩
            have e := HS.out
            rw [hs0] at e
            have e2 : (txtUpto h k).toArray = #[] := (congrArg ByteArray.data e).symm
            have e3 : txtUpto h k = [] := by simpa using e2
            rw [sep, if_pos e3]
          subst hs0
          clear he hsl
          by_cases hk2 : k = 2
          · subst hk2
            obtain ⟨XX, HXX⟩ : ∃ XX : ByteArray, Hid ((⟨(hexL m 4).toArray⟩ : ByteArray) = XX) := ⟨_, rfl⟩
            have zX : XX.size = 4 := by rw [← HXX.out]; show (hexL m 4).toArray.size = 4; simp [hexL_length]
            have e7 : (⟨#[107, 105, 110, 100, 61, 48, 120]⟩ : ByteArray).size = 7 := rfl
            obtain ⟨Q2, HQ2⟩ : ∃ Q2 : ByteArray, Hid ((⟨#[107, 105, 110, 100, 61, 48, 120]⟩ : ByteArray) ++ XX = Q2) := ⟨_, rfl⟩
            have z2 : Q2.size ≤ 27 := by rw [← HQ2.out, ByteArray.size_append, e7]; omega
            have hadd2 : ∀ W, (Op.stringOp .add ⟨#[107, 105, 110, 100, 61, 48, 120]⟩ XX).run Tryd.prog W = .ok (.string Q2) W := fun W => by
              rw [run_string_add_sum _ _ _ (by rw [e7]; omega), HQ2.out]
            have HT : Hid ((⟨(nameL 2 ++ 61 :: numL 2 m).toArray⟩ : ByteArray) = Q2) := by
              show (⟨(nameL 2 ++ 61 :: numL 2 m).toArray⟩ : ByteArray) = Q2
              rw [← HQ2.out, ← HXX.out, show (⟨#[107, 105, 110, 100, 61, 48, 120]⟩ : ByteArray) = ⟨[107, 105, 110, 100, 61, 48, 120].toArray⟩ from rfl, str_app]; rfl
            obtain ⟨Q3, HQ3⟩ : ∃ Q3 : ByteArray, Hid (⟨#[]⟩ ++ Q2 = Q3) := ⟨_, rfl⟩
            have hadd3 : ∀ W, (Op.stringOp .add ⟨#[]⟩ Q2).run Tryd.prog W = .ok (.string Q3) W := fun W => by
              rw [run_string_add_sum _ _ _ (by show 0 + Q2.size ≤ _; omega), HQ3.out]
            have HFIN : Hid (Q3 = ⟨(txtUpto h (2 + 1)).toArray⟩) := by
              show Q3 = ⟨(txtUpto h (2 + 1)).toArray⟩
              rw [HSTEP.out, if_neg (by rw [HM.out]; exact hm0), ← HQ3.out, ← HSEP.out, ← str_app, HM.out, Int.toNat_natCast, HT.out]
            clear e7
            go_wp2_with (go_at_call 19; refine (rhex_any m 4 hm64 (by decide) _).mono ?_; rw [HXX.out]; rintro e w2 ⟨rfl, rfl⟩)
            go_roundw
            case rel => exact ⟨3, by omega, by go_num, by rw [← HFIN.out], hbl⟩
            case measure => simp [intOf]
          · have t2 : ((k : Int) == 2) = false := beq_eq_false_iff_ne.2 (by omega)
            have e61 : (⟨#[61]⟩ : ByteArray).size = 1 := rfl
            obtain ⟨Q1, HQ1⟩ : ∃ Q1 : ByteArray, Hid (NM ++ ⟨#[61]⟩ = Q1) := ⟨_, rfl⟩
            have z1 : Q1.size ≤ 7 := by rw [← HQ1.out, ByteArray.size_append, e61]; omega
            have hadd1 : ∀ W, (Op.stringOp .add NM ⟨#[61]⟩).run Tryd.prog W = .ok (.string Q1) W := fun W => by
              rw [run_string_add_sum _ _ _ (by rw [e61]; omega), HQ1.out]
            obtain ⟨Q2, HQ2⟩ : ∃ Q2 : ByteArray, Hid (Q1 ++ NU = Q2) := ⟨_, rfl⟩
            have z2 : Q2.size ≤ 27 := by rw [← HQ2.out, ByteArray.size_append]; omega
            have hadd2 : ∀ W, (Op.stringOp .add Q1 NU).run Tryd.prog W = .ok (.string Q2) W := fun W => by
              rw [run_string_add_sum _ _ _ (by omega), HQ2.out]
            have HT : Hid ((⟨(nameL k ++ 61 :: numL k m).toArray⟩ : ByteArray) = Q2) := by
              show (⟨(nameL k ++ 61 :: numL k m).toArray⟩ : ByteArray) = Q2
              rw [← HQ2.out, ← HQ1.out, HNM.out, ← HNU.out, show (⟨#[61]⟩ : ByteArray) = ⟨[61].toArray⟩ from rfl, str_app, str_app, List.append_assoc]; rfl
            obtain ⟨Q3, HQ3⟩ : ∃ Q3 : ByteArray, Hid (⟨#[]⟩ ++ Q2 = Q3) := ⟨_, rfl⟩
            have hadd3 : ∀ W, (Op.stringOp .add ⟨#[]⟩ Q2).run Tryd.prog W = .ok (.string Q3) W := fun W => by
              rw [run_string_add_sum _ _ _ (by show 0 + Q2.size ≤ _; omega), HQ3.out]
            have HFIN : Hid (Q3 = ⟨(txtUpto h (k + 1)).toArray⟩) := by
              show Q3 = ⟨(txtUpto h (k + 1)).toArray⟩
              rw [HSTEP.out, if_neg (by rw [HM.out]; exact hm0), ← HQ3.out, ← HSEP.out, ← str_app, HM.out, Int.toNat_natCast, HT.out]
            clear e61
            go_wp2
            go_region_held3 (fun w' => w'.cell? ⟨w.heap.size, k, none⟩ = some (.int .u64 (m : Int))) (go_keep) (first | (go_at_call 20; refine (rname_keep k hlt NM HNM.out _ w.heap.size k (.int .u64 (m : Int)) ?_).mono ?_; (simp [*]); rintro e w2 ⟨rfl, hb2, hc2⟩) | (go_at_call 21; refine (rnum_any k m hlt hk2 hm64 _).mono ?_; rw [HNU.out]; rintro e w3 ⟨rfl, rfl⟩))
            go_wp2
            go_roundw
            case rel => exact ⟨k + 1, by omega, by go_num, by rw [← HFIN.out], hbl.drew.trans (hb2.mono hbl.size)⟩
            case measure => simp [intOf]; omega
        · obtain ⟨q, hq⟩ : ∃ q, s5.size = q + 1 := ⟨s5.size - 1, by omega⟩
          have hne := not_empty hq
          have e32 : (⟨#[32]⟩ : ByteArray).size = 1 := rfl
          obtain ⟨S2, HS2⟩ : ∃ S2 : ByteArray, Hid (s5 ++ ⟨#[32]⟩ = S2) := ⟨_, rfl⟩
          have z0 : S2.size ≤ 1101 := by rw [← HS2.out, ByteArray.size_append, e32]; omega
          have hadd0 : ∀ W, (Op.stringOp .add s5 ⟨#[32]⟩).run Tryd.prog W = .ok (.string S2) W := fun W => by
            rw [run_string_add_sum _ _ _ (by rw [e32]; omega), HS2.out]
          have HSEP : Hid ((⟨(sep (txtUpto h k)).toArray⟩ : ByteArray) = S2) := by
            show (⟨(sep (txtUpto h k)).toArray⟩ : ByteArray) = S2
            have e3 : txtUpto h k ≠ [] := by
              intro e
              apply he
              rw [HS.out, e]; rfl
            rw [sep, if_neg e3, ← HS2.out, HS.out, show (⟨#[32]⟩ : ByteArray) = ⟨[32].toArray⟩ from rfl, str_app]
          clear he hsl hq e32
          by_cases hk2 : k = 2
          · subst hk2
            obtain ⟨XX, HXX⟩ : ∃ XX : ByteArray, Hid ((⟨(hexL m 4).toArray⟩ : ByteArray) = XX) := ⟨_, rfl⟩
            have zX : XX.size = 4 := by rw [← HXX.out]; show (hexL m 4).toArray.size = 4; simp [hexL_length]
            have e7 : (⟨#[107, 105, 110, 100, 61, 48, 120]⟩ : ByteArray).size = 7 := rfl
            obtain ⟨Q2, HQ2⟩ : ∃ Q2 : ByteArray, Hid ((⟨#[107, 105, 110, 100, 61, 48, 120]⟩ : ByteArray) ++ XX = Q2) := ⟨_, rfl⟩
            have z2 : Q2.size ≤ 27 := by rw [← HQ2.out, ByteArray.size_append, e7]; omega
            have hadd2 : ∀ W, (Op.stringOp .add ⟨#[107, 105, 110, 100, 61, 48, 120]⟩ XX).run Tryd.prog W = .ok (.string Q2) W := fun W => by
              rw [run_string_add_sum _ _ _ (by rw [e7]; omega), HQ2.out]
            have HT : Hid ((⟨(nameL 2 ++ 61 :: numL 2 m).toArray⟩ : ByteArray) = Q2) := by
              show (⟨(nameL 2 ++ 61 :: numL 2 m).toArray⟩ : ByteArray) = Q2
              rw [← HQ2.out, ← HXX.out, show (⟨#[107, 105, 110, 100, 61, 48, 120]⟩ : ByteArray) = ⟨[107, 105, 110, 100, 61, 48, 120].toArray⟩ from rfl, str_app]; rfl
            obtain ⟨Q3, HQ3⟩ : ∃ Q3 : ByteArray, Hid (S2 ++ Q2 = Q3) := ⟨_, rfl⟩
            have hadd3 : ∀ W, (Op.stringOp .add S2 Q2).run Tryd.prog W = .ok (.string Q3) W := fun W => by
              rw [run_string_add_sum _ _ _ (by omega), HQ3.out]
            have HFIN : Hid (Q3 = ⟨(txtUpto h (2 + 1)).toArray⟩) := by
              show Q3 = ⟨(txtUpto h (2 + 1)).toArray⟩
              rw [HSTEP.out, if_neg (by rw [HM.out]; exact hm0), ← HQ3.out, ← HSEP.out, ← str_app, HM.out, Int.toNat_natCast, HT.out]
            clear e7
            go_wp2_with (go_at_call 19; refine (rhex_any m 4 hm64 (by decide) _).mono ?_; rw [HXX.out]; rintro e w2 ⟨rfl, rfl⟩)
            go_roundw
            case rel => exact ⟨3, by omega, by go_num, by rw [← HFIN.out], hbl⟩
            case measure => simp [intOf]
          · have t2 : ((k : Int) == 2) = false := beq_eq_false_iff_ne.2 (by omega)
            have e61 : (⟨#[61]⟩ : ByteArray).size = 1 := rfl
            obtain ⟨Q1, HQ1⟩ : ∃ Q1 : ByteArray, Hid (NM ++ ⟨#[61]⟩ = Q1) := ⟨_, rfl⟩
            have z1 : Q1.size ≤ 7 := by rw [← HQ1.out, ByteArray.size_append, e61]; omega
            have hadd1 : ∀ W, (Op.stringOp .add NM ⟨#[61]⟩).run Tryd.prog W = .ok (.string Q1) W := fun W => by
              rw [run_string_add_sum _ _ _ (by rw [e61]; omega), HQ1.out]
            obtain ⟨Q2, HQ2⟩ : ∃ Q2 : ByteArray, Hid (Q1 ++ NU = Q2) := ⟨_, rfl⟩
            have z2 : Q2.size ≤ 27 := by rw [← HQ2.out, ByteArray.size_append]; omega
            have hadd2 : ∀ W, (Op.stringOp .add Q1 NU).run Tryd.prog W = .ok (.string Q2) W := fun W => by
              rw [run_string_add_sum _ _ _ (by omega), HQ2.out]
            have HT : Hid ((⟨(nameL k ++ 61 :: numL k m).toArray⟩ : ByteArray) = Q2) := by
              show (⟨(nameL k ++ 61 :: numL k m).toArray⟩ : ByteArray) = Q2
              rw [← HQ2.out, ← HQ1.out, HNM.out, ← HNU.out, show (⟨#[61]⟩ : ByteArray) = ⟨[61].toArray⟩ from rfl, str_app, str_app, List.append_assoc]; rfl
            obtain ⟨Q3, HQ3⟩ : ∃ Q3 : ByteArray, Hid (S2 ++ Q2 = Q3) := ⟨_, rfl⟩
            have hadd3 : ∀ W, (Op.stringOp .add S2 Q2).run Tryd.prog W = .ok (.string Q3) W := fun W => by
              rw [run_string_add_sum _ _ _ (by omega), HQ3.out]
            have HFIN : Hid (Q3 = ⟨(txtUpto h (k + 1)).toArray⟩) := by
              show Q3 = ⟨(txtUpto h (k + 1)).toArray⟩
              rw [HSTEP.out, if_neg (by rw [HM.out]; exact hm0), ← HQ3.out, ← HSEP.out, ← str_app, HM.out, Int.toNat_natCast, HT.out]
            clear e61
            go_wp2
            go_region_held3 (fun w' => w'.cell? ⟨w.heap.size, k, none⟩ = some (.int .u64 (m : Int))) (go_keep) (first | (go_at_call 20; refine (rname_keep k hlt NM HNM.out _ w.heap.size k (.int .u64 (m : Int)) ?_).mono ?_; (simp [*]); rintro e w2 ⟨rfl, hb2, hc2⟩) | (go_at_call 21; refine (rnum_any k m hlt hk2 hm64 _).mono ?_; rw [HNU.out]; rintro e w3 ⟨rfl, rfl⟩))
            go_wp2
            go_roundw
            case rel => exact ⟨k + 1, by omega, by go_num, by rw [← HFIN.out], hbl.drew.trans (hb2.mono hbl.size)⟩
            case measure => simp [intOf]; omega
      · have m0 : m = 0 := by simpa using t0
        have HN : Hid (txtUpto h (k + 1) = txtUpto h k) := by show txtUpto h (k + 1) = txtUpto h k; rw [HSTEP.out, HM.out, m0]; simp
        go_wp2
        go_roundw
        case rel => exact ⟨k + 1, by omega, by go_num, by rw [HN.out, HS.out], hbl⟩
        case measure => simp [intOf]; omega
    · obtain rfl : k = 11 := by omega
      go_wp2
      go_ret
      exact ⟨by rw [txtL, ← HS.out]; rfl, hlow.trans (hbl.mono hlow.size)⟩
end Go.Proofs.YthjgndkcijgfmaaDoor
