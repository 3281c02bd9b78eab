/-
  Proved here: what the cursor's methods bytes, number, message do, and must: they take bytes off the front, or panic with ErrMessage; the cursor's own cell alone turns. Conditions: at most 4 bytes make a number.
-/
import Derived.Test.YtijjcopglbcoiaaE4
import Derived.OneCell
namespace Go.Proofs.Ytijjcopglbcoiaa
open Go.RowKit Seal

/-- The panic with ErrMessage. -/
abbrev PC : List PanicEntry := [{ v := .iface 40 (.int .i64 70), recovered := false }]
/-- Block c is a cursor's; it has the bytes bs ahead, which lie in blocks of T. -/
def Cur (T : Nat → Prop) (w : World) (c : Nat) (bs : List Int) : Prop := ∃ v, w.heap[c]? = some (.cells #[v] 75 (0, 0)) ∧ SlC T w v bs
theorem Cur.lt {T : Nat → Prop} {w : World} {c : Nat} {bs : List Int} (h : Cur T w c bs) : c < w.heap.size := by
  obtain ⟨v, h, _⟩ := h
  exact (Array.getElem?_eq_some_iff.1 h).1
theorem Cur.isB {T : Nat → Prop} {w : World} {c : Nat} {bs : List Int} (h : Cur T w c bs) : IsB bs := by
  obtain ⟨v, _, h⟩ := h
  exact h.isB
theorem Cur.carry {T T' : Nat → Prop} {w w' : World} {c : Nat} {bs : List Int} (h : Cur T w c bs) (hq : w'.heap[c]? = w.heap[c]?) (hc : ∀ k, k < w.heap.size → T k → T' k ∧ w'.heap[k]? = w.heap[k]?) : Cur T' w' c bs := by
  obtain ⟨v, h1, h2⟩ := h
  exact ⟨v, by rw [hq]; exact h1, h2.carry hc⟩

theorem must_true (w : World) : Calls Try.prog 55 #[.bool true] w fun e w' => e = .returned (.tuple #[]) ∧ w' = w := by
  go_enter Try.func55, Try.ntmps55
  go_wp2
  first | go_end0 | refine bodyPost_ret (results_none rfl _ _ _) rfl ?_
  exact ⟨rfl, rfl⟩
theorem must_false (w : World) : Calls Try.prog 55 #[.bool false] w fun e w' => e = .panicked PC ∧ w' = w := by
  go_enter Try.func55, Try.ntmps55
  go_wp2
  exact ⟨rfl, rfl, rfl⟩

set_option maxHeartbeats 400000 in
theorem bytes_no {T : Nat → Prop} (c k : Nat) (bs : List Int) (w : World) (hc : Cur T w c bs) (hk : bs.length < k) :
    Calls Try.prog 59 #[.pointer (some ⟨c, 0, none⟩), .int .i64 k] w fun e w' => e = .panicked PC ∧ w' = w := by
  obtain ⟨v, h1, ao, cap, rfl, -⟩ := hc
  have c0 := cell_of_one h1
  have hd : decide (k ≤ bs.length) = false := by simpa using hk
  clear h1 hk
  go_enter Try.func59, Try.ntmps59
  go_wp2_with (go_at_call 55; refine (must_false _).mono ?_; rintro e w' ⟨rfl, hw⟩; rw [hw]; clear hw w')
  exact ⟨rfl, rfl, rfl⟩

set_option maxHeartbeats 800000 in
theorem bytes_yes {T : Nat → Prop} (c k : Nat) (bs : List Int) (w : World) (hc : Cur T w c bs) (hT : ¬ T c) (hk : k ≤ bs.length) :
    Calls Try.prog 59 #[.pointer (some ⟨c, 0, none⟩), .int .i64 k] w fun e w' => ∃ v, e = .returned v ∧ Only (fun x => x = c) w w' ∧ SlC T w' v (bs.take k) ∧ Cur T w' c (bs.drop k) := by
  obtain ⟨v, h1, hs⟩ := hc
  have HS : Hid (SlC T w v bs) := hs
  obtain ⟨ao, cap, rfl, hcap, hlen, -, hno, h6⟩ := hs
  have c0 := cell_of_one h1
  have f0 := free_of_one h1
  have H1 : Hid (w.heap[c]? = some (.cells #[.slice ao bs.length cap] 75 (0, 0))) := h1
  have hd : decide (k ≤ bs.length) = true := by simpa using hk
  have HFin : Hid (∀ u, SlC T w u (bs.drop k) → Only (fun x => x = c) w (w.setCell ⟨c, 0, none⟩ u) ∧ Cur T (w.setCell ⟨c, 0, none⟩ u) c (bs.drop k) ∧ ∀ x ys, SlC T w x ys → SlC T (w.setCell ⟨c, 0, none⟩ u) x ys) := by
    show ∀ _, _
    intro u hu
    have hcar : ∀ i, i < w.heap.size → T i → T i ∧ (w.setCell ⟨c, 0, none⟩ u).heap[i]? = w.heap[i]? := fun i _ hi => ⟨hi, heap_setCell_other w ⟨c, 0, none⟩ i u (fun e => hT (by have e' : i = c := e; rw [← e']; exact hi))⟩
    exact ⟨(Only.refl (fun x => x = c) w).setCell (p := ⟨c, 0, none⟩) (show c = c from rfl) u, ⟨u, one_setCell H1.out, hu.carry hcar⟩, fun x ys hx => hx.carry hcar⟩
  cases ao with
  | none =>
    have hc0 := hno rfl
    subst hc0
    have hb : bs = [] := by
      rcases bs with _ | ⟨x, r⟩
      · rfl
      · simp at hcap
    subst hb
    have hk0 : k = 0 := by simpa using hk
    subst hk0
    clear h1 h6 hno hcap hlen hk hd
    go_enter Try.func59, Try.ntmps59
    go_wp2_with (go_at_call 55; refine (must_true _).mono ?_; rintro e w' ⟨rfl, hw⟩; rw [hw]; clear hw w')
    go_ret
    have := HFin.out nilS (SlC.nil T w)
    exact ⟨nilS, rfl, this.1, this.2.2 nilS _ (SlC.nil T w), this.2.1⟩
  | some a =>
    rcases Nat.eq_zero_or_pos bs.length with hb0 | hb0
    · obtain rfl : bs = [] := List.length_eq_zero_iff.1 hb0
      have hk0 : k = 0 := by simpa using hk
      subst hk0
      clear h1 h6 hno hlen hk hd hb0
      by_cases hcz : cap = 0
      · subst hcz
        go_enter Try.func59, Try.ntmps59
        go_wp2_with (go_at_call 55; refine (must_true _).mono ?_; rintro e w' ⟨rfl, hw⟩; rw [hw]; clear hw w')
        go_ret
        have := HFin.out _ HS.out
        exact ⟨_, rfl, this.1, this.2.2 _ _ HS.out, this.2.1⟩
      · go_enter Try.func59, Try.ntmps59
        go_wp2_with (go_at_call 55; refine (must_true _).mono ?_; rintro e w' ⟨rfl, hw⟩; rw [hw]; clear hw w')
        go_ret
        have hx : SlC T w (.slice (some a) 0 cap) [] := HS.out
        have := HFin.out _ hx
        exact ⟨_, rfl, this.1, this.2.2 _ _ HS.out, this.2.1⟩
    · obtain ⟨b, o, hTb, e, -⟩ := h6 (fun e => by rw [e] at hb0; simp at hb0)
      cases e
      have HL : Hid ((bs.take k).length = k ∧ (bs.drop k).length = bs.length - k) := ⟨by rw [List.length_take]; omega, List.length_drop⟩
      have HP : Hid (SlC T w (.slice (some ⟨b, o, none⟩) k cap) (bs.take k)) := by
        have := HS.out.cut 0 k cap (by omega) (by omega)
        simp only [Nat.add_zero, List.drop_zero] at this
        exact this
      have HD : Hid (SlC T w (.slice (if cap = k then some ⟨b, o, none⟩ else some ⟨b, o + k, none⟩) (bs.length - k) (cap - k)) (bs.drop k)) := by
        have := HS.out.cutif k (bs.length - k) (by omega)
        rw [List.take_of_length_le (by rw [List.length_drop]; exact Nat.le_refl _)] at this
        exact this
      clear h1 h6 hno hTb
      by_cases hck : cap = k
      · rw [if_pos hck, show cap - k = 0 by omega] at HD
        go_enter Try.func59, Try.ntmps59
        go_wp2_with (go_at_call 55; refine (must_true _).mono ?_; rintro e w' ⟨rfl, hw⟩; rw [hw]; clear hw w')
        go_ret
        have := HFin.out _ HD.out
        first
          | exact ⟨_, rfl, this.1, this.2.2 _ _ HP.out, this.2.1⟩
          | (subst hck; exact ⟨_, rfl, this.1, this.2.2 _ _ HP.out, this.2.1⟩)
      · rw [if_neg hck] at HD
        go_enter Try.func59, Try.ntmps59
        go_wp2_with (go_at_call 55; refine (must_true _).mono ?_; rintro e w' ⟨rfl, hw⟩; rw [hw]; clear hw w')
        go_ret
        have := HFin.out _ HD.out
        exact ⟨_, rfl, this.1, this.2.2 _ _ HP.out, this.2.1⟩

theorem or_byte {x y : Int} (h0 : 0 ≤ x) (h1 : x < 72057594037927936) (h2 : 0 ≤ y) (h3 : y < 256) : bits .or .u64 (x * 256) y = x * 256 + y := by
  obtain ⟨a, rfl⟩ := Int.eq_ofNat_of_zero_le h0
  obtain ⟨b, rfl⟩ := Int.eq_ofNat_of_zero_le h2
  have := u64_or_nat (a * 256) b (by omega) (by omega)
  rw [nat_join 8 _ _ (by omega) (by omega)] at this
  rw [show ((a : Int) * 256) = ((a * 256 : Nat) : Int) by omega]
  rw [this]; omega

theorem num_fld (bs : List Int) (k : Nat) : num (bs.take k) = fld bs 0 k := by simp [fld]

set_option maxHeartbeats 400000 in
theorem number_no {T : Nat → Prop} (c k : Nat) (bs : List Int) (w : World) (hc : Cur T w c bs) (hk : bs.length < k) :
    Calls Try.prog 53 #[.pointer (some ⟨c, 0, none⟩), .int .i64 k] w fun e w' => e = .panicked PC ∧ w' = w := by
  have HC : Hid (Calls Try.prog 59 #[.pointer (some ⟨c, 0, none⟩), .int .i64 k] w fun e w' => e = .panicked PC ∧ w' = w) := bytes_no c k bs w hc hk
  clear hc hk
  go_enter Try.func53, Try.ntmps53
  go_wp2_with (go_at_call 59; refine (HC.out).mono ?_; rintro e w' ⟨rfl, hw⟩; rw [hw]; clear hw w')
  exact ⟨rfl, rfl, rfl⟩

set_option maxHeartbeats 800000 in
theorem number_yes {T : Nat → Prop} (c k : Nat) (bs : List Int) (w : World) (hc : Cur T w c bs) (hT : ¬ T c) (hk : k ≤ bs.length) (h0 : 0 < k) (h4 : k ≤ 4) :
    Calls Try.prog 53 #[.pointer (some ⟨c, 0, none⟩), .int .i64 k] w fun e w' => e = .returned (.int .u64 (fld bs 0 k)) ∧ Only (fun x => x = c) w w' ∧ Cur T w' c (bs.drop k) := by
  have HC := bytes_yes c k bs w hc hT hk
  have HB : Hid (IsB bs) := hc.isB
  have hL : (bs.take k).length = k := by rw [List.length_take]; omega
  have HC' : Hid (Calls Try.prog 59 #[.pointer (some ⟨c, 0, none⟩), .int .i64 k] w fun e w' => ∃ b o k1, e = .returned (.slice (some ⟨b, o, none⟩) k k1) ∧ (Only (fun x => x = c) w w' ∧ Cur T w' c (bs.drop k)) ∧ ∀ j, j < k → w'.cell? ⟨b, o + j, none⟩ = some (.int .u8 (bs.getD j 0))) := by
    refine HC.mono ?_
    rintro e w1 ⟨v1, rfl, ho1, hs1, hc1⟩
    obtain ⟨a1, k1, rfl, -, -, -, -, h9⟩ := hs1
    obtain ⟨b, o, -, rfl, hcl⟩ := h9 (fun e => by rw [e] at hL; simp at hL; omega)
    refine ⟨b, o, k1, by rw [hL], ⟨ho1, hc1⟩, fun j hj => ?_⟩
    rw [hcl j (by rw [hL]; exact hj)]
    simp only [List.getD_eq_getElem?_getD, List.getElem?_take, if_pos hj]
  clear hc HC hL
  go_enter Try.func53, Try.ntmps53
  go_wp2_with (go_at_call 59; refine (HC'.out).mono ?_; rintro e w1 ⟨b, o, k1, rfl, ho1, hcl⟩
               have HO : Hid (Only (fun x => x = c) w w1 ∧ Cur T w1 c (bs.drop k)) := ho1
               have HCL : Hid (∀ j, j < k → w1.cell? ⟨b, o + j, none⟩ = some (.int .u8 (bs.getD j 0))) := hcl
               clear hcl ho1)
  go_loop [5, 7, 12] (fun n x i => ∃ j : Nat, j ≤ k ∧ i = .int .i64 j ∧ n = .int .u64 (fld bs 0 j)) (fun _ _ i => k - (intOf i).toNat)
  case atStart => exact ⟨0, by omega, rfl, by simp [fld, num]⟩
  case round =>
    obtain ⟨j, hj, rfl, rfl⟩ := hrel
    by_cases hlt2 : j < k
    · obtain ⟨x, hx⟩ : ∃ x, x = bs.getD j 0 := ⟨_, rfl⟩
      obtain ⟨m, hm⟩ : ∃ m, m = fld bs 0 j := ⟨_, rfl⟩
      have hc1 := HCL.out j (by omega)
      have hx0 := HB.out.at j
      have hm0 := fld_bd HB.out 0 j
      have hF := fld_step (bs := bs) (a := 0) (i := j) (by omega)
      rw [Nat.zero_add, ← hx, ← hm] at hF
      rw [← hx] at hc1 hx0
      rw [← hm] at hm0 ⊢
      have h56 : m < 72057594037927936 := Int.lt_of_lt_of_le hm0.2 (by
        have : (2 : Int) ^ (8 * j) ≤ 2 ^ 56 := by exact_mod_cast Nat.pow_le_pow_right (by omega) (show 8 * j ≤ 56 by omega)
        exact this)
      have hm1 := hm0.1
      have HR : Hid (bits .or .u64 (m * 256) x = fld bs 0 (j + 1)) := by
        show _ = _
        rw [or_byte hm1 h56 hx0.1 hx0.2, hF]
      clear hx hm hF hm0
      go_wp2
      go_round
      case rel => exact ⟨j + 1, by omega, by go_num, by rw [HR.out]⟩
      case measure => simp [intOf]; omega
    · obtain rfl : j = k := by omega
      clear HCL
      go_wp2
      go_ret
      exact ⟨rfl, HO.out⟩

/-- One message off the front. -/
def ms1 (bs : List Int) : Option (List Int × List Int) := if bs.length < 2 then none else if 8192 < fld bs 0 2 ∨ (bs.length : Int) < 2 + fld bs 0 2 then none else some ((bs.drop 2).take (fld bs 0 2).toNat, bs.drop (2 + (fld bs 0 2).toNat))

set_option maxHeartbeats 800000 in
theorem message_any {T : Nat → Prop} (c : Nat) (bs : List Int) (w : World) (hc : Cur T w c bs) (hT : ¬ T c) :
    Calls Try.prog 60 #[.pointer (some ⟨c, 0, none⟩)] w fun e w' => Only (fun x => x = c) w w' ∧ ((ms1 bs = none ∧ e = .panicked PC) ∨ ∃ m r v, ms1 bs = some (m, r) ∧ e = .returned v ∧ SlC T w' v m ∧ Cur T w' c r) := by
  have hlenB : bs.length ≤ 140737488355328 := by
    obtain ⟨_, _, hs⟩ := hc
    exact hs.len
  by_cases h2 : bs.length < 2
  · have HN : Hid (Calls Try.prog 53 #[.pointer (some ⟨c, 0, none⟩), .int .i64 2] w fun e w' => e = .panicked PC ∧ w' = w) := number_no c 2 bs w hc h2
    have HM : Hid (ms1 bs = none) := by show _ = _; unfold ms1; rw [if_pos h2]
    clear hc h2
    go_enter Try.func60, Try.ntmps60
    go_wp2_with (go_at_call 53; refine (HN.out).mono ?_; rintro e w' ⟨rfl, hw⟩; rw [hw]; clear hw w')
    exact ⟨rfl, Only.refl _ _, Or.inl ⟨HM.out, rfl⟩⟩
  · have hb := fld_bd hc.isB 0 2
    obtain ⟨n, hn⟩ : ∃ n : Nat, fld bs 0 2 = n := ⟨(fld bs 0 2).toNat, by have := hb.1; omega⟩
    have hn16 : n < 65536 := by
      have h := hb.2
      rw [hn] at h
      have e : (2 : Int) ^ (8 * 2) = 65536 := by decide
      omega
    have HN : Hid (Calls Try.prog 53 #[.pointer (some ⟨c, 0, none⟩), .int .i64 2] w fun e w' => e = .returned (.int .u64 (n : Nat)) ∧ Only (fun x => x = c) w w' ∧ Cur T w' c (bs.drop 2)) := by
      have := number_yes c 2 bs w hc hT (by omega) (by omega) (by omega)
      rw [hn] at this
      exact this
    have HD : Hid ((bs.drop 2).length = bs.length - 2) := List.length_drop
    by_cases h3 : n ≤ 8192
    · have hd : decide ((n : Int) ≤ 8192) = true := by simp; omega
      by_cases h4 : n ≤ bs.length - 2
      · have HM : Hid (ms1 bs = some ((bs.drop 2).take n, bs.drop (2 + n))) := by
          show _ = _
          unfold ms1; rw [if_neg h2, hn, if_neg (by omega), Int.toNat_natCast]
        have HB : Hid (∀ w', Cur T w' c (bs.drop 2) → Calls Try.prog 59 #[.pointer (some ⟨c, 0, none⟩), .int .i64 n] w' fun e w'' => ∃ v, e = .returned v ∧ Only (fun x => x = c) w' w'' ∧ SlC T w'' v ((bs.drop 2).take n) ∧ Cur T w'' c (bs.drop (2 + n))) := by
          show ∀ _, _
          intro w' hc'
          have := bytes_yes c n (bs.drop 2) w' hc' hT (by rw [HD.out]; exact h4)
          rw [List.drop_drop] at this
          exact this
        clear hc hb hn h2
        go_enter Try.func60, Try.ntmps60
        go_wp2_with (first
          | (go_at_call 59; refine (HB.out _ hC1.out.2).mono ?_; rintro e w2 ⟨v2, rfl, ho2, hs2, hc2⟩)
          | (go_at_call 53; refine (HN.out).mono ?_; rintro e w1 ⟨rfl, ho1, hc1⟩; have hC1 : Hid (Only (fun x => x = c) w w1 ∧ Cur T w1 c (bs.drop 2)) := ⟨ho1, hc1⟩; clear ho1 hc1)
          | (go_at_call 55; refine (must_true _).mono ?_; rintro e w' ⟨rfl, hw⟩; rw [hw]; clear hw w'))
        go_ret
        exact ⟨hC1.out.1.trans ho2, Or.inr ⟨_, _, v2, HM.out, rfl, hs2, hc2⟩⟩
      · have HM : Hid (ms1 bs = none) := by
          show _ = _
          unfold ms1; rw [if_neg h2, hn, if_pos (by omega)]
        have HB : Hid (∀ w', Cur T w' c (bs.drop 2) → Calls Try.prog 59 #[.pointer (some ⟨c, 0, none⟩), .int .i64 n] w' fun e w'' => e = .panicked PC ∧ w'' = w') := fun w' hc' => bytes_no c n (bs.drop 2) w' hc' (by rw [HD.out]; omega)
        clear hc hb hn h2
        go_enter Try.func60, Try.ntmps60
        go_wp2_with (first
          | (go_at_call 59; refine (HB.out _ hC1.out.2).mono ?_; rintro e w2 ⟨rfl, hw2⟩; rw [hw2]; clear hw2 w2)
          | (go_at_call 53; refine (HN.out).mono ?_; rintro e w1 ⟨rfl, ho1, hc1⟩; have hC1 : Hid (Only (fun x => x = c) w w1 ∧ Cur T w1 c (bs.drop 2)) := ⟨ho1, hc1⟩; clear ho1 hc1)
          | (go_at_call 55; refine (must_true _).mono ?_; rintro e w' ⟨rfl, hw⟩; rw [hw]; clear hw w'))
        exact ⟨rfl, hC1.out.1, Or.inl ⟨HM.out, rfl⟩⟩
    · have HM : Hid (ms1 bs = none) := by
        show _ = _
        unfold ms1; rw [if_neg h2, hn, if_pos (by omega)]
      have hd : decide ((n : Int) ≤ 8192) = false := by simp; omega
      clear hc hb hn h2
      go_enter Try.func60, Try.ntmps60
      go_wp2_with (first
        | (go_at_call 53; refine (HN.out).mono ?_; rintro e w1 ⟨rfl, ho1, hc1⟩; have hC1 : Hid (Only (fun x => x = c) w w1 ∧ Cur T w1 c (bs.drop 2)) := ⟨ho1, hc1⟩; clear ho1 hc1)
        | (go_at_call 55; refine (must_false _).mono ?_; rintro e w' ⟨rfl, hw⟩; rw [hw]; clear hw w'))
      exact ⟨rfl, hC1.out.1, Or.inl ⟨HM.out, rfl⟩⟩
end Go.Proofs.Ytijjcopglbcoiaa
