/-
  Proved here: the writer's methods count, short, do, more, up, frame, action write what the document says, or panic with ErrMessage where what is written is not right. Conditions: numbers are of their types.
-/
import Derived.Test.YtllbbbfkdgjffaaDoorW1
import Derived.Test.YtllbbbfkdgjffaaDoorV1
import Derived.Test.YtllbbbfkdgjffaaDoorJ3
namespace Go.Proofs.YtllbbbfkdgjffaaDoor
open Go.RowKit

/-- What a writing call leaves: nothing but the writer and blocks of S has turned; the bytes zs are written, or it ends by the panic. -/
def WrP (S : Nat → Prop) (c m : Nat) (xs zs : List Int) (ok : Bool) (w : World) (e : Ending) (w' : World) : Prop :=
  Only (OS c S) w w' ∧ ((ok = true ∧ e = .returned (.tuple #[]) ∧ Wt S w' c m (xs ++ zs)) ∨ (ok = false ∧ e = .panicked PC))

set_option maxHeartbeats 800000 in
theorem wnumber_any {S : Nat → Prop} {w : World} {c m : Nat} {xs : List Int} (hW : Wt S w c m xs) (k : Nat) (n : Int) (hk : k ≤ 8) (hk0 : 0 < k) :
    Calls Tryd.prog 15 #[.pointer (some ⟨c, 0, none⟩), .int .i64 k, .int .u64 n] w fun e w' => e = .returned (.tuple #[]) ∧ Only (OS c S) w w' ∧ Wt S w' c m (xs ++ dg n k) := by
  have HW : Hid (Wt S w c m xs) := hW
  clear hW
  have HZ := by8_zero n
  have HB0 : Hid (Below w.heap.size w (w.alloc (.cells (by8 n 0) 72))) := (Below.refl _ _).alloc (Nat.le_refl _) _
  have HN0 : Hid ((w.alloc (.cells (by8 n 0) 72)).heap[w.heap.size]? = some (.cells (by8 n 0) 72 (0, 0))) := heap_alloc_new _ _
  have HS0 : Hid ((w.alloc (.cells (by8 n 0) 72)).heap.size = w.heap.size + 1) := by show _ = _; simp
  go_enter Tryd.func15, Tryd.ntmps15
  go_upto_region 1 with fail
  rw [← HZ]
  clear HZ
  generalize w.alloc (.cells (by8 n 0) 72) = w0 at HB0 HN0 HS0 ⊢
  go_wp2
  go_loopw [8] (fun i wr => ∃ j : Nat, j ≤ 8 ∧ i = .int .i64 j ∧ Below w.heap.size w wr ∧ wr.heap[w.heap.size]? = some (.cells (by8 n j) 72 (0, 0)) ∧ wr.heap.size = w.heap.size + 1) (fun i _ => 8 - (intOf i).toNat)
  case atStart => exact ⟨0, by omega, rfl, HB0.out, HN0.out, HS0.out⟩
  case round =>
    obtain ⟨j, hj, rfl, hb, hg, hs⟩ := hrel
    have HB : Hid (Below w.heap.size w wr) := hb
    have HG : Hid (wr.heap[w.heap.size]? = some (.cells (by8 n j) 72 (0, 0))) := hg
    have HS : Hid (wr.heap.size = w.heap.size + 1) := hs
    clear hb hg hs HB0 HN0 HS0
    by_cases hlt : j < 8
    · have hcl : ∃ x, wr.cell? ⟨w.heap.size, j, none⟩ = some x := ⟨_, (cell_of_row wr _ j _ _ _ HG.out).trans (by8_at n j j hlt)⟩
      obtain ⟨x, hcl⟩ := hcl
      have hfz : wr.frozen? ⟨w.heap.size, j, none⟩ = false := by
        have := HG.out
        simp [World.frozen?, this]
      have hsh : (56 - 8 * (j : Int)).toNat = 56 - 8 * j := by omega
      have h56 : 0 ≤ 56 - 8 * (j : Int) := by omega
      go_wp2
      go_roundw
      case rel =>
        refine ⟨j + 1, by omega, by go_num, HB.out.setCell (p := ⟨w.heap.size, j, none⟩) (Nat.le_refl _) _, ?_, ?_⟩
        · rw [heap_setCell_same wr _ j _ _ _ HG.out]
          rw [by8_set n j hlt]
        · rw [← HS.out]; simp
      case measure => simp [intOf]; omega
    · obtain rfl : j = 8 := by omega
      have hb := HW.out.hide HB.out
      have HC := wbytes_any hb (by8_sl HG.out hk) (fun e => by have := HW.out.gd.lt; omega)
      have HC' : Hid (Calls Tryd.prog 21 #[.pointer (some ⟨c, 0, none⟩), .slice (some ⟨w.heap.size, 8 - k, none⟩) k k] wr fun e w' => e = .returned (.tuple #[]) ∧ Only (OS c S) w w' ∧ Wt S w' c m (xs ++ dg n k)) := by
        refine HC.mono ?_
        rintro e w' ⟨rfl, ho, hq⟩
        have ho2 := only_back HW.out.gd HB.out ho
        exact ⟨rfl, ho2, hq.back HW.out.gd ho2.size⟩
      clear HC hb
      have hk' : k = 1 ∨ k = 2 ∨ k = 3 ∨ k = 4 ∨ k = 5 ∨ k = 6 ∨ k = 7 ∨ k = 8 := by omega
      rcases hk' with rfl | rfl | rfl | rfl | rfl | rfl | rfl | rfl
      all_goals
        go_wp2_with (go_at_call 21; refine (HC'.out).mono ?_; rintro e w' ⟨rfl, hq⟩; have HQ : Hid _ := hq; clear hq)
        first | go_end0 | refine bodyPost_ret (results_none rfl _ _ _) rfl ?_
        exact ⟨rfl, HQ.out⟩
end Go.Proofs.YtllbbbfkdgjffaaDoor
namespace Go.Proofs.YtllbbbfkdgjffaaDoor
open Go.RowKit

section
variable {S : Nat → Prop} {w : World} {c m : Nat} {xs : List Int}
theorem WrP.yes {zs : List Int} {w' : World} (h : Only (OS c S) w w') (h2 : Wt S w' c m (xs ++ zs)) : WrP S c m xs zs true w (.returned (.tuple #[])) w' := ⟨h, Or.inl ⟨rfl, rfl, h2⟩⟩
theorem WrP.no {zs : List Int} {w' : World} (h : Only (OS c S) w w') : WrP S c m xs zs false w (.panicked PC) w' := ⟨h, Or.inr ⟨rfl, rfl⟩⟩
theorem wcount_any (hW : Wt S w c m xs) (n : Nat) (hn : n ≤ 140737488355328) :
    Calls Tryd.prog 81 #[.pointer (some ⟨c, 0, none⟩), .int .i64 n] w fun e w' => e = .returned (.tuple #[]) ∧ Only (OS c S) w w' ∧ Wt S w' c m (xs ++ dg n 2) := by
  have HN := hid (wnumber_any hW 2 n (by omega) (by omega))
  clear hW
  go_enter Tryd.func81, Tryd.ntmps81
  go_wp2_with (go_at_call 15; refine (HN.out).mono ?_; rintro e w' ⟨rfl, hq⟩; have HQ : Hid _ := hq; clear hq)
  first | go_end0 | refine bodyPost_ret (results_none rfl _ _ _) rfl ?_
  exact ⟨rfl, HQ.out⟩
theorem wshort_any (hW : Wt S w c m xs) (x : Int) (hx : In16 x) :
    Calls Tryd.prog 25 #[.pointer (some ⟨c, 0, none⟩), .int .u16 x] w (WrP S c m xs (dg x 2) true w) := by
  have HN := hid (wnumber_any hW 2 x (by omega) (by omega))
  clear hW
  obtain ⟨h0, h1⟩ := hx
  go_enter Tryd.func25, Tryd.ntmps25
  go_wp2_with (go_at_call 15; refine (HN.out).mono ?_; rintro e w' ⟨rfl, hq⟩; have HQ : Hid _ := hq; clear hq)
  first | go_end0 | refine bodyPost_ret (results_none rfl _ _ _) rfl ?_
  exact WrP.yes HQ.out.1 HQ.out.2
theorem isDo_any (x : Int) (w : World) (_ : -128 ≤ x) (_ : x < 128) : Calls Tryd.prog 68 #[.int .i8 x] w fun e w' => e = .returned (.bool (okDo x)) ∧ w' = w := by
  by_cases h : 0 ≤ x
  · by_cases h2 : x ≤ 3
    · have e : okDo x = true := by simp [okDo, h, h2]
      rw [e]
      go_enter Tryd.func68, Tryd.ntmps68
      go_wp2
      go_ret
      exact ⟨rfl, rfl⟩
    · have e : okDo x = false := by simp [okDo]; omega
      have d : decide (x ≤ 3) = false := by simpa using h2
      rw [e]
      go_enter Tryd.func68, Tryd.ntmps68
      go_wp2
      go_ret
      exact ⟨rfl, rfl⟩
  · have e : okDo x = false := by simp [okDo]; omega
    have d : decide (0 ≤ x) = false := by simpa using h
    rw [e]
    go_enter Tryd.func68, Tryd.ntmps68
    go_wp2
    go_ret
    exact ⟨rfl, rfl⟩
theorem wdo_any (hW : Wt S w c m xs) (x : Int) (hx : -128 ≤ x ∧ x < 128) :
    Calls Tryd.prog 34 #[.pointer (some ⟨c, 0, none⟩), .int .i8 x] w (WrP S c m xs (dg x 1) (okDo x) w) := by
  have HN := hid (wnumber_any hW 1 x (by omega) (by omega))
  have HD := hid (isDo_any x w hx.1 hx.2)
  clear hW
  cases hd : okDo x with
  | false =>
    rw [hd] at HD
    clear hd hx
    go_enter Tryd.func34, Tryd.ntmps34
    go_wp2_with (first
      | (go_at_call 68; refine (HD.out).mono ?_; rintro e w' ⟨rfl, hw⟩; rw [hw]; clear hw w')
      | (go_at_call 13; refine (must_false _).mono ?_; rintro e w' ⟨rfl, hw⟩; rw [hw]; clear hw w'))
    exact ⟨rfl, WrP.no (Only.refl _ _)⟩
  | true =>
    have hq := of_decide_eq_true hd
    obtain ⟨h0, h1⟩ := hq
    rw [hd] at HD
    clear hd hx
    go_enter Tryd.func34, Tryd.ntmps34
    go_wp2_with (first
      | (go_at_call 68; refine (HD.out).mono ?_; rintro e w' ⟨rfl, hw⟩; rw [hw]; clear hw w')
      | (go_at_call 13; refine (must_true _).mono ?_; rintro e w' ⟨rfl, hw⟩; rw [hw]; clear hw w')
      | (go_at_call 15; refine (HN.out).mono ?_; rintro e w' ⟨rfl, hq⟩; have HQ : Hid _ := hq; clear hq))
    first | go_end0 | refine bodyPost_ret (results_none rfl _ _ _) rfl ?_
    exact WrP.yes HQ.out.1 HQ.out.2
theorem wmore_any (hW : Wt S w c m xs) (x : Int) (hx : In16 x) :
    Calls Tryd.prog 42 #[.pointer (some ⟨c, 0, none⟩), .int .u16 x] w (WrP S c m xs (dg x 2) (okMo x) w) := by
  have HN := hid (wshort_any hW x hx)
  clear hW
  obtain ⟨h0, h1⟩ := hx
  cases hd : okMo x with
  | false =>
    have d : decide (x ≤ 1) = false := hd
    clear hd
    go_enter Tryd.func42, Tryd.ntmps42
    go_wp2_with (go_at_call 13; refine (must_false _).mono ?_; rintro e w' ⟨rfl, hw⟩; rw [hw]; clear hw w')
    exact ⟨rfl, WrP.no (Only.refl _ _)⟩
  | true =>
    have d : x ≤ 1 := of_decide_eq_true hd
    clear hd
    go_enter Tryd.func42, Tryd.ntmps42
    go_wp2_with (first
      | (go_at_call 13; refine (must_true _).mono ?_; rintro e w' ⟨rfl, hw⟩; rw [hw]; clear hw w')
      | (go_at_call 25; refine (HN.out).mono ?_; rintro e w' ⟨ho, ⟨_, rfl, hq⟩ | ⟨hno, _⟩⟩; rotate_left; cases hno; have HQ : Hid _ := And.intro ho hq; clear hq ho))
    first | go_end0 | refine bodyPost_ret (results_none rfl _ _ _) rfl ?_
    exact WrP.yes HQ.out.1 HQ.out.2
theorem wup_any (hW : Wt S w c m xs) (b : Bool) :
    Calls Tryd.prog 54 #[.pointer (some ⟨c, 0, none⟩), .bool b] w (WrP S c m xs (dg (flag b) 1) true w) := by
  have HN := hid (wnumber_any hW 1 (flag b) (by omega) (by omega))
  clear hW
  cases b with
  | false =>
    go_enter Tryd.func54, Tryd.ntmps54
    go_wp2_with (go_at_call 15; refine (HN.out).mono ?_; rintro e w' ⟨rfl, hq⟩; have HQ : Hid _ := hq; clear hq)
    first | go_end0 | refine bodyPost_ret (results_none rfl _ _ _) rfl ?_
    exact WrP.yes HQ.out.1 HQ.out.2
  | true =>
    go_enter Tryd.func54, Tryd.ntmps54
    go_wp2_with (go_at_call 15; refine (HN.out).mono ?_; rintro e w' ⟨rfl, hq⟩; have HQ : Hid _ := hq; clear hq)
    first | go_end0 | refine bodyPost_ret (results_none rfl _ _ _) rfl ?_
    exact WrP.yes HQ.out.1 HQ.out.2
theorem wframe_any {T : Nat → Prop} (hW : Wt S w c m xs) (u : Value) (bs : List Int) (hu : SlC T w u bs) (hT : ∀ k, T k → ¬ S k ∧ k ≠ c) :
    Calls Tryd.prog 46 #[.pointer (some ⟨c, 0, none⟩), u] w (WrP S c m xs (dg bs.length 2 ++ bs) true w) := by
  have HN := hid (wcount_any hW bs.length hu.len)
  have HB : Hid (∀ w', Only (OS c S) w w' → Wt S w' c m (xs ++ dg bs.length 2) → Calls Tryd.prog 21 #[.pointer (some ⟨c, 0, none⟩), u] w' fun e w2 => e = .returned (.tuple #[]) ∧ Only (OS c S) w w2 ∧ Wt S w2 c m (xs ++ (dg bs.length 2 ++ bs))) := by
    show ∀ _, _
    intro w' ho hW'
    refine (wbytes_any hW' (hu.carry (T := T) fun k _ hk => ⟨hk, ho.block k (by rintro (e | e); exact (hT k hk).2 e; exact (hT k hk).1 e)⟩) (fun h => (hT c h).2 rfl)).mono ?_
    rintro e w2 ⟨rfl, ho2, h2⟩
    exact ⟨rfl, ho.trans ho2, by rw [← List.append_assoc]; exact h2⟩
  obtain ⟨ua, uc, rfl, -⟩ := hu
  clear hW hT
  go_enter Tryd.func46, Tryd.ntmps46
  go_wp2_with (first
    | (go_at_call 21; refine (HB.out _ HQ.out.1 HQ.out.2).mono ?_; rintro e w' ⟨rfl, hq⟩; have HQ2 : Hid _ := hq; clear hq)
    | (go_at_call 81; refine (HN.out).mono ?_; rintro e w' ⟨rfl, hq⟩; have HQ : Hid (Only (OS c S) w w' ∧ Wt S w' c m (xs ++ dg bs.length 2)) := hq; clear hq))
  first | go_end0 | refine bodyPost_ret (results_none rfl _ _ _) rfl ?_
  exact WrP.yes HQ2.out.1 HQ2.out.2
end
end Go.Proofs.YtllbbbfkdgjffaaDoor
