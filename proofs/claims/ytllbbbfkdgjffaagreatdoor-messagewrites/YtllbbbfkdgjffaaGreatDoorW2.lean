/-
  Proved here: the document's Put, Width, size, flag, ports (of package tollbridgeref07) append what they should. Condition where it is named: fewer than 2 to 31 bytes.
-/
/-
  Proved here: the writer's methods number, count, short write the lowest bytes of a number. Conditions: at most 8 bytes.
-/
import Derived.Test.YtllbbbfkdgjffaaGreatDoorV1
import Derived.Test.YtllbbbfkdgjffaaGreatDoorW1
namespace Go.Proofs.YtllbbbfkdgjffaaGreatDoor
open Go.RowKit

theorem dg_at7 (n : Int) : ∀ (k j : Nat), j < k → (dg n k)[j]? = some (n / 2 ^ (8 * (k - 1 - j)) % 256)
  | 0, _, h => absurd h (by omega)
  | k + 1, 0, _ => by simp [dg]
  | k + 1, j + 1, h => by
    simp only [dg, List.getElem?_cons_succ]
    rw [dg_at7 n k j (by omega)]
    congr 4
    omega
theorem take_step (n : Int) (k j : Nat) (h : j < k) : (dg n k).take (j + 1) = (dg n k).take j ++ [n / 2 ^ (8 * (k - 1 - j)) % 256] := by
  rw [List.take_add_one, dg_at7 n k j h]; rfl
theorem take_all (n : Int) (k : Nat) : (dg n k).take k = dg n k := List.take_of_length_le (by rw [dg_len]; exact Nat.le_refl _)
theorem Ext.step {base : Nat} {w wr w' : World} {v u v' : Value} {xs : List Int} {x : Int} {o : Obj} (hE : Ext base w v wr u xs) (h : Ext base (wr.alloc o) u w' v' (xs ++ [x])) : Ext base w v w' v' (xs ++ [x]) := hE.trans (h.allocFirst hE.own)
set_option maxHeartbeats 400000 in
/-- WHAT THE DOCUMENT's Put APPENDS. -/
theorem put7_any (base k : Nat) (n : Int) (v : Value) (xs : List Int) (w : World) (hk : k ≤ 8) (hown : Owns base w v xs) (hlen : xs.length ≤ 2147483648) (hbase : base ≤ w.heap.size) :
    Calls Tryz.prog 33 #[v, .int .u64 n, .int .i64 k] w fun e w' => ∃ v', e = .returned v' ∧ Ext base w v w' v' (xs ++ dg n k) := by
  go_enter Tryz.func33, Tryz.ntmps33
  go_wp2
  go_loopw [0, 7] (fun b s wr => ∃ j : Nat, j ≤ k ∧ s = .int .i64 ((k : Int) - 1 - j) ∧ Ext base w v wr b (xs ++ (dg n k).take j)) (fun _ s _ => (intOf s + 1).toNat)
  case atStart => exact ⟨0, by omega, by go_num, by simpa using Ext.refl hown⟩
  case round =>
    obtain ⟨j, hj, rfl, hE⟩ := hrel
    have hb2 := Nat.le_trans hbase hE.grown.size
    have hl2 : (xs ++ (dg n k).take j).length ≤ 2147483656 := by simp only [List.length_append, List.length_take, dg_len]; omega
    by_cases hlt : j < k
    · have HE : Hid (Ext base w v wr u0 (xs ++ (dg n k).take j)) := hE
      clear hE hown
      go_wp2_with (at_builtin; refine app22 (.tmp 14) (.tmp 21) rfl rfl rfl rfl (HE.out.own.alloc _) (sl_one wr _ (Int.emod_nonneg _ (by omega)) (Int.emod_lt_of_pos _ (by omega))) (by simp; omega) (by simp only [List.length_cons, List.length_nil]; omega) ?_; intro v' w' hE1)
      have R := HE.out.step hE1
      rw [List.append_assoc, ← take_step n k j hlt] at R
      have HR : Hid (Ext base w v w' v' (xs ++ (dg n k).take (j + 1))) := R
      clear R hE1 HE
      go_wp2
      go_roundw
      case rel => exact ⟨j + 1, by omega, by go_num, HR.out⟩
      case measure => simp [intOf]; omega
    · obtain rfl : j = k := by omega
      rw [take_all] at hE
      go_wp2
      go_ret
      exact ⟨u0, rfl, hE⟩
set_option maxHeartbeats 1600000 in
theorem rwidth_in (f : Int) (hf : f = 0 ∨ f = 1 ∨ f = 2 ∨ f = 3 ∨ f = 4 ∨ f = 5 ∨ f = 6 ∨ f = 7 ∨ f = 8 ∨ f = 9 ∨ f = 10) (w : World) :
    Calls Tryz.prog 52 #[.int .i8 f] w fun e w' => e = .returned (.int .i64 (widV f)) ∧ w' = w := by
  rcases hf with rfl | rfl | rfl | rfl | rfl | rfl | rfl | rfl | rfl | rfl | rfl
  all_goals
    go_enter Tryz.func52, Tryz.ntmps52
    go_wp2
    go_ret
    exact ⟨rfl, rfl⟩

set_option maxHeartbeats 1600000 in
theorem rwidth_out (f : Int) (hf : f < 0 ∨ 10 < f) (w : World) :
    Calls Tryz.prog 52 #[.int .i8 f] w fun e w' => e = .returned (.int .i64 (widV f)) ∧ w' = w := by
  have e0 : widV f = 0 := by unfold widV; rw [if_neg (by omega)]
  rw [e0]
  have t0 : (f == 0) = false := beq_eq_false_iff_ne.2 (by omega)
  have t1 : (f == 1) = false := beq_eq_false_iff_ne.2 (by omega)
  have t2 : (f == 2) = false := beq_eq_false_iff_ne.2 (by omega)
  have t3 : (f == 3) = false := beq_eq_false_iff_ne.2 (by omega)
  have t4 : (f == 4) = false := beq_eq_false_iff_ne.2 (by omega)
  have t5 : (f == 5) = false := beq_eq_false_iff_ne.2 (by omega)
  have t6 : (f == 6) = false := beq_eq_false_iff_ne.2 (by omega)
  have t7 : (f == 7) = false := beq_eq_false_iff_ne.2 (by omega)
  have t8 : (f == 8) = false := beq_eq_false_iff_ne.2 (by omega)
  have t9 : (f == 9) = false := beq_eq_false_iff_ne.2 (by omega)
  have t10 : (f == 10) = false := beq_eq_false_iff_ne.2 (by omega)
  clear hf e0
  go_enter Tryz.func52, Tryz.ntmps52
  go_wp2
  go_ret
  exact ⟨rfl, rfl⟩

/-- The document's Width. -/
theorem rwidth_any (f : Int) (w : World) : Calls Tryz.prog 52 #[.int .i8 f] w fun e w' => e = .returned (.int .i64 (widV f)) ∧ w' = w := by
  by_cases h : f < 0 ∨ 10 < f
  · exact rwidth_out f h w
  · exact rwidth_in f (by omega) w
theorem rsize_any (k : Nat) (hk : k < 11) (w : World) : Calls Tryz.prog 42 #[.int .i8 (k : Int)] w fun e w' => e = .returned (.int .i64 (sz k : Nat)) ∧ w' = w := by
  have HC := hid (rwidth_any (k : Int) w)
  have e0 : widV (k : Int) = wid k := by unfold widV; rw [if_pos (by omega)]; simp
  rw [e0] at HC
  have hz := sz_wid k hk
  have hbd : 0 ≤ wid k ∧ wid k ≤ 48 := by unfold wid; split <;> omega
  have hle := sz_le k
  obtain ⟨x, hx⟩ : ∃ x, x = wid k := ⟨_, rfl⟩
  rw [← hx] at HC hz hbd
  obtain ⟨s, hs⟩ : ∃ s, s = sz k := ⟨_, rfl⟩
  rw [← hs] at hz hle
  rw [← hs]
  have hx0 : 0 ≤ x ∧ x ≤ 48 := hbd
  have hw1 : IntKind.i64.wrap (x + 7) = x + 7 := by rw [IntKind.wrap_i64]; omega
  have hq : (x + 7).tdiv 8 = (s : Int) := by rw [Int.tdiv_eq_ediv_of_nonneg (by omega)]; exact hz
  have hw2 : IntKind.i64.wrap (s : Int) = (s : Int) := by rw [IntKind.wrap_i64]; omega
  clear hx hs e0
  go_enter Tryz.func42, Tryz.ntmps42
  go_wp2_with (go_at_call 52; refine (HC.out).mono ?_; rintro e w1 ⟨rfl, rfl⟩)
  go_ret
  exact ⟨by simp, rfl⟩
theorem rflag_any (b : Bool) (w : World) : Calls Tryz.prog 36 #[.bool b] w fun e w' => e = .returned (.int .u64 (flag b)) ∧ w' = w := by
  cases b
  all_goals
    go_enter Tryz.func36, Tryz.ntmps36
    go_wp2
    go_ret
    exact ⟨rfl, rfl⟩
theorem flat2 (l : List Int) : (l.flatMap fun x => dg x 2).length = 2 * l.length := by
  induction l with
  | nil => rfl
  | cons a l ih => simp only [List.flatMap_cons, List.length_append, dg_len, ih, List.length_cons]; omega
set_option maxHeartbeats 1600000 in
/-- WHAT ports APPENDS. -/
theorem rports_any {T : Nat → Prop} (base : Nat) (v u : Value) (xs l : List Int) (w : World) (hown : Owns base w v xs) (hl : Shs T w u l) (hT : ∀ b, T b → b < base) (hlen : xs.length + 2 + 2 * l.length ≤ 2147483648) (hbase : base ≤ w.heap.size) :
    Calls Tryz.prog 34 #[v, u] w fun e w' => ∃ v', e = .returned v' ∧ Ext base w v w' v' (xs ++ encSh l) := by
  obtain ⟨ao, cap, rfl, hcap⟩ := hl.form
  have HL := hid hl
  have HO := hid hown
  have hlc : (l.length : Int) < 9223372036854775808 := by omega
  have hcv : IntKind.u64.wrap (l.length : Int) = (l.length : Int) := by rw [IntKind.wrap_u64]; omega
  have HP := hid (put7_any base 2 (l.length : Int) v xs w (by omega) hown (by omega) hbase)
  have HPn : Hid (∀ z vz q (hq : q < l.length), Ext base w v z vz (xs ++ (dg l.length 2 ++ (l.take q).flatMap fun x => dg x 2)) → Calls Tryz.prog 33 #[vz, .int .u64 l[q], .int .i64 2] z fun e w' => ∃ v', e = .returned v' ∧ Ext base w v w' v' (xs ++ (dg l.length 2 ++ (l.take (q + 1)).flatMap fun x => dg x 2))) := fun z vz q hq hE => by
    refine (put7_any base 2 l[q] vz _ z (by omega) hE.own ?_ (Nat.le_trans hbase hE.grown.size)).mono ?_
    · have : ((l.take q).flatMap fun x => dg x 2).length = 2 * q := by
        rw [flat2]; simp; omega
      simp only [List.length_append, dg_len, this]; omega
    · rintro e w' ⟨v', rfl, h2⟩
      refine ⟨v', rfl, ?_⟩
      have := hE.trans h2
      rw [List.take_add_one, List.getElem?_eq_getElem hq, List.flatMap_append]
      simpa [List.append_assoc] using this
  have HC : Hid (∀ z vz ys, Ext base w v z vz ys → ∀ q (hq : q < l.length), ∃ b o, ao = some ⟨b, o, none⟩ ∧ z.cell? ⟨b, o + q, none⟩ = some (.int .u16 l[q]) ∧ In16 l[q]) := fun z vz ys hE q hq => by
    obtain ⟨ao', cap', h1, h2, h3, h4, h5⟩ := HL.out
    obtain ⟨b, o, hb, hao, hc⟩ := h5 (fun e => by rw [e] at hq; simp at hq)
    have e1 : ao = ao' := by simp at h1; exact h1.1
    obtain ⟨c1, c2⟩ := hc q hq
    simp only [Nat.mul_one, Nat.add_zero] at c1
    have hbb : b < base := hT b hb
    exact ⟨b, o, e1.trans hao, by rw [(hE.below HO.out hbase).cell (p := ⟨b, o + q, none⟩) hbb]; exact c1, c2⟩
  clear hl hown hT
  go_enter Tryz.func34, Tryz.ntmps34
  go_upto_region 3 with (go_at_call 33; refine (HP.out).mono ?_; rintro e w1 ⟨v1, rfl, hE1⟩; have HE1 := hid hE1; clear hE1 HP)
  go_loopw [0, 5] (fun b i wr => ∃ q : Nat, q ≤ l.length ∧ i = .int .i64 q ∧ Ext base w v wr b (xs ++ (dg l.length 2 ++ (l.take q).flatMap fun x => dg x 2))) (fun _ i _ => l.length - (intOf i).toNat)
  case atStart => exact ⟨0, by omega, rfl, by simpa using HE1.out⟩
  case round =>
    obtain ⟨q, hq, rfl, hE⟩ := hrel
    generalize wr = wx at *
    have HE := hid hE
    by_cases hlt : q < l.length
    · have hd : decide ((q : Int) < (l.length : Int)) = true := decide_eq_true (by omega)
      obtain ⟨b, o, hao, hc, h16⟩ := HC.out wx u0 _ hE q hlt
      subst hao
      have HP1 := hid (HPn.out wx u0 q hlt hE)
      obtain ⟨x, hx⟩ : ∃ x, x = l[q] := ⟨_, rfl⟩
      rw [← hx] at hc h16 HP1
      have hcx : IntKind.u64.wrap x = x := by have := h16.1; have := h16.2; rw [IntKind.wrap_u64]; omega
      have hw1 : IntKind.i64.wrap ((q : Int) + 1) = (q : Int) + 1 := by rw [IntKind.wrap_i64]; omega
      clear hx hE HPn HC HL
      go_wp2_with (go_at_call 33; refine (HP1.out).mono ?_; rintro e w2 ⟨v2, rfl, hE2⟩; have HE2 := hid hE2; clear hE2 HP1)
      go_roundw
      case rel => exact ⟨q + 1, by omega, by go_num, HE2.out⟩
      case measure => simp [intOf]; omega
    · obtain rfl : q = l.length := by omega
      have hd : decide ((l.length : Int) < (l.length : Int)) = false := by simp
      rw [List.take_length] at HE
      clear hE
      go_wp2
      go_ret
      exact ⟨u0, rfl, HE.out⟩
end Go.Proofs.YtllbbbfkdgjffaaGreatDoor
namespace Go.Proofs.YtllbbbfkdgjffaaGreatDoor
open Go.RowKit

/-- What a writing call leaves: nothing but the writer and blocks of S has turned; the bytes zs are written, or it ends by the panic. -/
def WrP (S : Nat → Prop) (c m : Nat) (xs zs : List Int) (ok : Bool) (w : World) (e : Ending) (w' : World) : Prop :=
  Only (OS c S) w w' ∧ ((ok = true ∧ e = .returned (.tuple #[]) ∧ Wt S w' c m (xs ++ zs)) ∨ (ok = false ∧ e = .panicked PC))

set_option maxHeartbeats 800000 in
theorem wnumber_any {S : Nat → Prop} {w : World} {c m : Nat} {xs : List Int} (hW : Wt S w c m xs) (k : Nat) (n : Int) (hk : k ≤ 8) (hk0 : 0 < k) :
    Calls Tryz.prog 32 #[.pointer (some ⟨c, 0, none⟩), .int .i64 k, .int .u64 n] w fun e w' => e = .returned (.tuple #[]) ∧ Only (OS c S) w w' ∧ Wt S w' c m (xs ++ dg n k) := by
  have HW : Hid (Wt S w c m xs) := hW
  clear hW
  have HZ := by8_zero n
  have HB0 : Hid (Below w.heap.size w (w.alloc (.cells (by8 n 0) 97))) := (Below.refl _ _).alloc (Nat.le_refl _) _
  have HN0 : Hid ((w.alloc (.cells (by8 n 0) 97)).heap[w.heap.size]? = some (.cells (by8 n 0) 97 (0, 0))) := heap_alloc_new _ _
  have HS0 : Hid ((w.alloc (.cells (by8 n 0) 97)).heap.size = w.heap.size + 1) := by show _ = _; simp
  go_enter Tryz.func32, Tryz.ntmps32
  go_upto_region 1 with fail
  rw [← HZ]
  clear HZ
  generalize w.alloc (.cells (by8 n 0) 97) = w0 at HB0 HN0 HS0 ⊢
  go_wp2
  go_loopw [8] (fun i wr => ∃ j : Nat, j ≤ 8 ∧ i = .int .i64 j ∧ Below w.heap.size w wr ∧ wr.heap[w.heap.size]? = some (.cells (by8 n j) 97 (0, 0)) ∧ wr.heap.size = w.heap.size + 1) (fun i _ => 8 - (intOf i).toNat)
  case atStart => exact ⟨0, by omega, rfl, HB0.out, HN0.out, HS0.out⟩
  case round =>
    obtain ⟨j, hj, rfl, hb, hg, hs⟩ := hrel
    have HB : Hid (Below w.heap.size w wr) := hb
    have HG : Hid (wr.heap[w.heap.size]? = some (.cells (by8 n j) 97 (0, 0))) := hg
    have HS : Hid (wr.heap.size = w.heap.size + 1) := hs
    clear hb hg hs HB0 HN0 HS0
    by_cases hlt : j < 8
    · have hcl : ∃ x, wr.cell? ⟨w.heap.size, j, none⟩ = some x := ⟨_, (cell_of_row wr _ j _ _ _ HG.out).trans (by8_at n j j hlt)⟩
      obtain ⟨x, hcl⟩ := hcl
      have hfz : wr.frozen? ⟨w.heap.size, j, none⟩ = false := by
        have := HG.out
        simp [World.frozen?, this]
      have hsh : (56 - 8 * (j : Int)).toNat = 56 - 8 * j := by omega
      have h56 : 0 ≤ 56 - 8 * (j : Int) := by omega
      go_wp2
      go_roundw
      case rel =>
        refine ⟨j + 1, by omega, by go_num, HB.out.setCell (p := ⟨w.heap.size, j, none⟩) (Nat.le_refl _) _, ?_, ?_⟩
        · rw [heap_setCell_same wr _ j _ _ _ HG.out]
          rw [by8_set n j hlt]
        · rw [← HS.out]; simp
      case measure => simp [intOf]; omega
    · obtain rfl : j = 8 := by omega
      have hb := HW.out.hide HB.out
      have HC := wbytes_any hb (by8_sl HG.out hk) (fun e => by have := HW.out.gd.lt; omega)
      have HC' : Hid (Calls Tryz.prog 46 #[.pointer (some ⟨c, 0, none⟩), .slice (some ⟨w.heap.size, 8 - k, none⟩) k k] wr fun e w' => e = .returned (.tuple #[]) ∧ Only (OS c S) w w' ∧ Wt S w' c m (xs ++ dg n k)) := by
        refine HC.mono ?_
        rintro e w' ⟨rfl, ho, hq⟩
        have ho2 := only_back HW.out.gd HB.out ho
        exact ⟨rfl, ho2, hq.back HW.out.gd ho2.size⟩
      clear HC hb
      have hk' : k = 1 ∨ k = 2 ∨ k = 3 ∨ k = 4 ∨ k = 5 ∨ k = 6 ∨ k = 7 ∨ k = 8 := by omega
      rcases hk' with rfl | rfl | rfl | rfl | rfl | rfl | rfl | rfl
      all_goals
        go_wp2_with (go_at_call 46; refine (HC'.out).mono ?_; rintro e w' ⟨rfl, hq⟩; have HQ : Hid _ := hq; clear hq)
        first | go_end0 | refine bodyPost_ret (results_none rfl _ _ _) rfl ?_
        exact ⟨rfl, HQ.out⟩
end Go.Proofs.YtllbbbfkdgjffaaGreatDoor
