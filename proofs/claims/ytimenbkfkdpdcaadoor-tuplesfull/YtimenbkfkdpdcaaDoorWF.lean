/-
  Proved here: TuplesFull's body says true. Condition: the widths' table holds its numbers.
-/
import Derived.Test.YtimenbkfkdpdcaaDoorTQ
import Derived.Test.YtimenbkfkdpdcaaDoorWK
namespace Go.Proofs.YtimenbkfkdpdcaaDoor
open Go.RowKit

theorem rcz (r : Int) : (Value.agg #[.int .i64 r, .int .u64 0, .int .u64 0, .int .u64 0, .int .u64 0, .int .u64 0, .int .u64 0, .int .u64 0, .int .u64 0, .int .u64 0, .int .u64 0, .int .u64 0, .int .u64 0, .int .u64 0, .int .u64 0, .int .u64 0, .int .u64 0, .int .u64 0, .int .u64 0, .int .u64 0, .int .u64 0, .int .u64 0, .int .u64 0, .slice none 0 0, .int .u64 0]) = .agg (rc r zf nilS 0) := by kernel_rfl
theorem cntF_same : ∀ (T p : List Ru) (v : Ru), v ∈ p → (∀ u ∈ T, eqR 11 (mkk v) (mkk u) = true) → cntF p T = 0
  | [], _, _, _, _ => rfl
  | u :: T, p, v, hv, h => by
    show (if p.any (fun v => eqR 11 (mkk v) (mkk u)) then 0 else 1) + cntF (p ++ [u]) T = 0
    rw [if_pos (List.any_eq_true.2 ⟨v, hv, h u (by simp)⟩), cntF_same T (p ++ [u]) v (by simp [hv]) fun u hu => h u (by simp [hu])]
theorem nMask_same {T : List Ru} (hne : T ≠ []) (h : ∀ u ∈ T, u.m = zf) : nMask T = 1 := by
  cases T with
  | nil => exact absurd rfl hne
  | cons a T =>
    unfold nMask
    show (if ([] : List Ru).any (fun v => eqR 11 (mkk v) (mkk a)) then 0 else 1) + cntF ([] ++ [a]) T = 1
    rw [cntF_same T ([] ++ [a]) a (by simp) fun u hu => eqR_iff.2 fun k _ => by unfold mkk; rw [h a (by simp), h u (by simp [hu])]]
    rfl
/-- A table with the rules 1 to q, all of the mask that asks nothing. -/
def Fu (w : World) (v : Value) (q : Nat) (wr : World) : Prop := Below w.heap.size w wr ∧ ∃ T, Tbl (fun b => w.heap.size ≤ b) wr v T q ∧ T.length = q ∧ (∀ u ∈ T, u.m = zf) ∧ ∀ j : Nat, 1 ≤ j → j ≤ q → ∃ u ∈ T, u.k = (j : Int)
theorem Fu.add {w wr : World} {v : Value} {q : Nat} (h : Fu w v q wr) (ht : Tab w) (hq : q < 1024) (r : Int) : Calls Tryd.prog 8 #[v, .agg #[.int .i64 r, .int .u64 0, .int .u64 0, .int .u64 0, .int .u64 0, .int .u64 0, .int .u64 0, .int .u64 0, .int .u64 0, .int .u64 0, .int .u64 0, .int .u64 0, .int .u64 0, .int .u64 0, .int .u64 0, .int .u64 0, .int .u64 0, .int .u64 0, .int .u64 0, .int .u64 0, .int .u64 0, .int .u64 0, .int .u64 0, .slice none 0 0, .int .u64 0]] wr fun e w' => e = .returned (.tuple #[.int .i64 ((q : Int) + 1), .int .i64 0]) ∧ Fu w v (q + 1) w' := by
  obtain ⟨hb, T, hT, hl, hz, hj⟩ := h
  rw [rcz]
  refine (tAdd_any wr v T q r zf nilS 0 hT (fun b hb' => Nat.le_trans hb.size hb') (ht.on hb) wf_zf (by omega)).mono ?_
  have e0 : adE T zf = 0 := by simp [adE, ok_zf]; omega
  unfold adN adT adA
  rw [e0]
  rintro e w' ⟨rfl, hO, hT'⟩
  refine ⟨rfl, hb.trans (hO.below fun k hk => hk), T ++ [⟨(q : Int) + 1, r, zf⟩], ?_, by simp [hl], fun u hu => ?_, fun j h1 h2 => ?_⟩
  · exact hT'
  · rcases List.mem_append.1 hu with hu | hu
    · exact hz u hu
    · rw [List.mem_singleton.1 hu]
  · by_cases hjq : j ≤ q
    · obtain ⟨u, hu, hk⟩ := hj j h1 hjq
      exact ⟨u, by simp [hu], hk⟩
    · exact ⟨⟨(q : Int) + 1, r, zf⟩, by simp, by show (q : Int) + 1 = (j : Int); omega⟩
/-- Behind the full table: one more is refused, one goes, one comes, one row is left. -/
theorem Fu.full {w wr : World} {v : Value} (h : Fu w v 1024 wr) (ht : Tab w) : Calls Tryd.prog 8 #[v, .agg #[.int .i64 0, .int .u64 0, .int .u64 0, .int .u64 0, .int .u64 0, .int .u64 0, .int .u64 0, .int .u64 0, .int .u64 0, .int .u64 0, .int .u64 0, .int .u64 0, .int .u64 0, .int .u64 0, .int .u64 0, .int .u64 0, .int .u64 0, .int .u64 0, .int .u64 0, .int .u64 0, .int .u64 0, .int .u64 0, .int .u64 0, .slice none 0 0, .int .u64 0]] wr fun e w' => e = .returned (.tuple #[.int .i64 0, .int .i64 4]) ∧ Fu w v 1024 w' := by
  obtain ⟨hb, T, hT, hl, hz, hj⟩ := h
  rw [rcz]
  refine (tAdd_any wr v T 1024 0 zf nilS 0 hT (fun b hb' => Nat.le_trans hb.size hb') (ht.on hb) wf_zf (by omega)).mono ?_
  have e0 : adE T zf = 4 := by simp [adE, ok_zf, hl]
  unfold adN adT adA
  rw [e0]
  rintro e w' ⟨rfl, hO, hT'⟩
  exact ⟨rfl, hb.trans (hO.below fun k hk => hk), T, hT', hl, hz, hj⟩
/-- A table of 1023 rules, 1024 were added. -/
def Fd (w : World) (v : Value) (wr : World) : Prop := Below w.heap.size w wr ∧ ∃ T, Tbl (fun b => w.heap.size ≤ b) wr v T 1024 ∧ T.length = 1023 ∧ (∀ u ∈ T, u.m = zf)
theorem Fu.drop {w wr : World} {v : Value} (h : Fu w v 1024 wr) : Calls Tryd.prog 10 #[v, .int .i64 5] wr fun e w' => e = .returned (.bool true) ∧ Fd w v w' := by
  obtain ⟨hb, T, hT, hl, hz, hj⟩ := h
  obtain ⟨u, hu, hk⟩ := hj 5 (by omega) (by omega)
  refine (tDrop_any wr v T 1024 5 hT (fun b hb' => Nat.le_trans hb.size hb') (by decide) (by omega)).mono ?_
  rintro e w' ⟨rfl, hO, hT'⟩
  obtain ⟨g, o, bm, nm, Gm, vr, rs, -, -, hI⟩ := hT
  have hlen := rmT_len hI.num ⟨u, hu, hk⟩
  refine ⟨by rw [show (T.any fun u => u.k == 5) = true from List.any_eq_true.2 ⟨u, hu, by simp [hk]⟩], hb.trans (hO.below fun k hk => hk), rmT T 5, hT', by have : ((5 : Nat) : Int) = 5 := rfl; rw [this] at hlen; omega, fun x hx => hz x (mem_rmT.1 hx).1⟩
/-- And one more. -/
theorem Fd.add {w wr : World} {v : Value} (h : Fd w v wr) (ht : Tab w) : Calls Tryd.prog 8 #[v, .agg #[.int .i64 0, .int .u64 0, .int .u64 0, .int .u64 0, .int .u64 0, .int .u64 0, .int .u64 0, .int .u64 0, .int .u64 0, .int .u64 0, .int .u64 0, .int .u64 0, .int .u64 0, .int .u64 0, .int .u64 0, .int .u64 0, .int .u64 0, .int .u64 0, .int .u64 0, .int .u64 0, .int .u64 0, .int .u64 0, .int .u64 0, .slice none 0 0, .int .u64 0]] wr fun e w' => e = .returned (.tuple #[.int .i64 1025, .int .i64 0]) ∧ Below w.heap.size w w' ∧ Calls Tryd.prog 14 #[v] w' fun e w2 => e = .returned (.int .i64 1) ∧ w2 = w' := by
  obtain ⟨hb, T, hT, hl, hz⟩ := h
  rw [rcz]
  refine (tAdd_any wr v T 1024 0 zf nilS 0 hT (fun b hb' => Nat.le_trans hb.size hb') (ht.on hb) wf_zf (by omega)).mono ?_
  have e0 : adE T zf = 0 := by simp [adE, ok_zf, hl]
  unfold adN adT adA
  rw [e0]
  rintro e w' ⟨rfl, hO, hT'⟩
  refine ⟨rfl, hb.trans (hO.below fun k hk => hk), ?_⟩
  have := tRows_any w' v _ _ hT'
  rw [show nMask (if (0 : Int) = 0 then T ++ [⟨1024 + 1, 0, zf⟩] else T) = 1 by
    rw [if_pos rfl]
    refine nMask_same (by simp) fun u hu => ?_
    rcases List.mem_append.1 hu with hu | hu
    · exact hz u hu
    · rw [List.mem_singleton.1 hu]] at this
  exact this
set_option maxHeartbeats 3200000 in
set_option maxRecDepth 100000 in
theorem full_any (w : World) (ht : Tab w) : Calls Tryd.prog 6 #[] w fun e w' => e = .returned (.bool true) ∧ Below w.heap.size w w' := by
  have HT := hid ht
  have HW : Hid (∀ W, Below w.heap.size w W → Calls Tryd.prog 16 #[] W fun e w' => e = .returned (.bool true) ∧ Below w.heap.size w w') := fun W hW => (wakes_any W (HT.out.on hW)).mono fun e w' ⟨h1, h2⟩ => ⟨h1, hW.trans (h2.mono hW.size)⟩
  clear ht
  go_enter Tryd.func6, Tryd.ntmps6
  go_upto_region 3 with (go_at_call 7; refine (tnew_any w).mono ?_; rintro e w1 ⟨v, rfl, hb1, hT1⟩
                         have HF0 : Hid (Fu w v 0 w1) := ⟨hb1, [], hT1, rfl, (fun u hu => by cases hu), fun j h1 h2 => by omega⟩
                         clear hb1 hT1)
  go_loopw [9] (fun i wr => ∃ q : Nat, q ≤ 1024 ∧ i = .int .i64 q ∧ Fu w v q wr) (fun i _ => 1024 - (intOf i).toNat)
  case atStart => exact ⟨0, by omega, rfl, HF0.out⟩
  case round =>
    obtain ⟨q, hq, rfl, hF⟩ := hrel
    generalize wr = wx at *
    have HF := hid hF
    clear hF HF0
    by_cases hlt : q < 1024
    · have hd : decide ((q : Int) < 1024) = true := decide_eq_true (by omega)
      have hw1 : IntKind.i64.wrap ((q : Int) + 1) = (q : Int) + 1 := by rw [IntKind.wrap_i64]; omega
      have HA := hid (HF.out.add HT.out hlt)
      have hne : ((q : Int) + 1 != (q : Int) + 1) = false := by simp
      go_wp2_with (go_at_call 8; refine (HA.out _).mono ?_; rintro e w2 ⟨rfl, hF2⟩; have HF2 := hid hF2; clear hF2 HA)
      go_roundw
      case rel => exact ⟨q + 1, by omega, by go_num, HF2.out⟩
      case measure => simp [intOf]; omega
    · obtain rfl : q = 1024 := by omega
      have HA := hid (HF.out.full HT.out)
      have HR : Hid (∀ W, Fd w v W → Calls Tryd.prog 8 #[v, .agg #[.int .i64 0, .int .u64 0, .int .u64 0, .int .u64 0, .int .u64 0, .int .u64 0, .int .u64 0, .int .u64 0, .int .u64 0, .int .u64 0, .int .u64 0, .int .u64 0, .int .u64 0, .int .u64 0, .int .u64 0, .int .u64 0, .int .u64 0, .int .u64 0, .int .u64 0, .int .u64 0, .int .u64 0, .int .u64 0, .int .u64 0, .slice none 0 0, .int .u64 0]] W fun e w' => e = .returned (.tuple #[.int .i64 1025, .int .i64 0]) ∧ Below w.heap.size w w' ∧ Calls Tryd.prog 14 #[v] w' fun e w2 => e = .returned (.int .i64 1) ∧ w2 = w') := fun W hW => hW.add HT.out
      go_wp2_with (first
        | (go_at_call 8; refine (HA.out).mono ?_; rintro e w2 ⟨rfl, hF2⟩; have HD := hid hF2.drop; clear hF2 HA)
        | (go_at_call 10; refine (HD.out).mono ?_; rintro e w3 ⟨rfl, hF3⟩; have HA3 := hid (HR.out w3 hF3); clear hF3 HD HR)
        | (go_at_call 8; refine (HA3.out).mono ?_; rintro e w4 ⟨rfl, hb4, hR4⟩; have HR4 := hid hR4; have HB4 := hid hb4; clear hb4 hR4 HA3)
        | (go_at_call 14; refine (HR4.out).mono ?_; rintro e w5 ⟨rfl, rfl⟩; clear HR4)
        | (go_at_call 16; refine (HW.out _ HB4.out).mono ?_; rintro e w6 ⟨rfl, hb6⟩; have HB6 := hid hb6; clear hb6))
      go_ret
      exact ⟨rfl, HB6.out⟩
end Go.Proofs.YtimenbkfkdpdcaaDoor
