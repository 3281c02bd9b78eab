/-
  Proved here: the document's Tick tells one datagram, 'tkL' of the end. Condition: the end's numbers are below 2 to 31.
-/
import Derived.Test.YtijjcopglbcoiaaE5
import Derived.Deep.RegionHeld3
namespace Go.Proofs.Ytijjcopglbcoiaa
open Go.RowKit Seal

/-- How many bytes the first j messages make. -/
def sz (l : List (List Int)) (j : Nat) : Nat := 14 + (flat (l.take j)).length
theorem flat_app : ∀ (a b : List (List Int)), flat (a ++ b) = flat a ++ flat b
  | [], _ => rfl
  | m :: a, b => by simp [flat, flat_app a b]
theorem take_snoc {l : List (List Int)} {j : Nat} (h : j < l.length) : l.take (j + 1) = l.take j ++ [l.getD j []] := by
  rw [List.take_add_one, List.getD_eq_getElem?_getD, List.getElem?_eq_getElem h]; rfl
theorem sz_next {l : List (List Int)} {j : Nat} (h : j < l.length) : sz l (j + 1) = sz l j + 2 + (l.getD j []).length := by
  unfold sz; rw [take_snoc h, flat_app, List.length_append]
  have := flat_len_cons (l.getD j []) []
  simp only [flat, List.length_nil, Nat.add_zero] at this
  show 14 + ((flat (l.take j)).length + (flat [l.getD j []]).length) = _
  have e : (flat [l.getD j []]).length = 2 + (l.getD j []).length := by rw [flat_len_cons]; simp [flat]
  omega
theorem drop_cons {l : List (List Int)} {j : Nat} (h : j < l.length) : l.drop j = l.getD j [] :: l.drop (j + 1) := by
  rw [List.drop_eq_getElem_cons h, List.getD_eq_getElem?_getD, List.getElem?_eq_getElem h]; rfl
theorem wd_more {l : List (List Int)} {j k : Nat} (h : j < l.length) (hs : sz l j + 2 + (l.getD j []).length ≤ 16384) : wd (k + 1) (sz l j) (l.drop j) = l.getD j [] :: wd k (sz l (j + 1)) (l.drop (j + 1)) := by
  rw [drop_cons h]
  conv => lhs; unfold wd
  rw [if_pos hs, sz_next h]
theorem wd_stop {l : List (List Int)} {j k : Nat} (h : j < l.length) (hs : ¬ sz l j + 2 + (l.getD j []).length ≤ 16384) : wd (k + 1) (sz l j) (l.drop j) = [] := by
  rw [drop_cons h]
  unfold wd
  rw [if_neg hs]
theorem wd_nil (k s : Nat) : wd k s [] = [] := by cases k <;> rfl
/-- How the first loop ends. -/
theorem win_end {e : E} {j : Nat} (h : win e = e.sent.take j ++ wd (32 - j) (sz e.sent j) (e.sent.drop j)) (hx : wd (32 - j) (sz e.sent j) (e.sent.drop j) = []) : win e = e.sent.take j := by rw [h, hx, List.append_nil]

/-- The first bytes of a datagram. -/
def hd3 (e : E) : List Int := dg e.ep 4 ++ (dg e.come 4 ++ dg e.got 4)
theorem body_eq (e : E) : body e = (hd3 e ++ dg ((win e).length : Int) 2) ++ flat (win e) := by simp [body, bodyOf, hd3]

set_option maxRecDepth 100000 in
set_option maxHeartbeats 1600000 in
theorem rtick_any (S : Nat → Prop) (v : Value) (e : E) (w : World) (h : RE S w v e) (hfit : Fit e) :
    Calls Try.prog 28 #[v] w fun r w' => ∃ u, r = .returned u ∧ Below w.heap.size w w' ∧ Ls (fun k => w.heap.size ≤ k) w' u [tkL e] := by
  obtain ⟨g, f, vs, vn, rfl, h2, h3, h4, h5, h6⟩ := h
  have hg := (Array.getElem?_eq_some_iff.1 h4).1
  obtain ⟨so, scap, rfl, -⟩ := h5.form
  have hgot := hfit.got
  have H4 : Hid (∀ wx, Below w.heap.size w wx → wx.heap[g]? = some (.cells #[.int .u32 e.ep, .slice so e.sent.length scap, .int .u32 e.got, .int .u32 e.come, vn] 57 (0, 0))) := fun wx hb => by rw [hb.block g hg]; exact h4
  have H5 : Hid (∀ wx, Below w.heap.size w wx → Sp (fun k => S k ∧ f k = 1) (fun k => k < w.heap.size) wx (.slice so e.sent.length scap) e.sent) := fun wx hb => h5.carry (fun k hk h => ⟨h, hb.block k hk⟩) (fun k hk _ => ⟨hk, hb.block k hk⟩)
  have HF : Hid (Fit e) := hfit
  clear h5 h6 hfit
  obtain ⟨c0, c1, c2, c3, c4, -⟩ := end_cells h4
  go_enter Try.func28, Try.ntmps28
  go_wp2
  go_loopw [3, 4] (fun n s wr => wr = w ∧ ∃ j : Nat, j ≤ e.sent.length ∧ j ≤ 32 ∧ n = .int .i64 j ∧ s = .int .i64 (sz e.sent j : Nat) ∧ sz e.sent j ≤ 16384 ∧ win e = e.sent.take j ++ wd (32 - j) (sz e.sent j) (e.sent.drop j)) (fun n _ _ => 32 - (intOf n).toNat)
  case atStart => exact ⟨rfl, 0, by omega, by omega, rfl, by simp [sz, flat], by simp [sz, flat], by simp [win, sz, flat]⟩
  case round =>
    obtain ⟨hw, j, hj, hj32, rfl, rfl, hsz, hwin⟩ := hrel
    have HWin : Hid (win e = e.sent.take j ++ wd (32 - j) (sz e.sent j) (e.sent.drop j)) := hwin
    have HNx : Hid (j < e.sent.length → sz e.sent (j + 1) = sz e.sent j + 2 + (e.sent.getD j []).length) := sz_next
    have HWr : Hid (wr = w) := hw
    clear hwin
    rw [hw]
    clear hw
    generalize hs : sz e.sent j = s at *
    have HSz : Hid (sz e.sent j = s) := hs
    clear hs
    obtain ⟨m, hm⟩ : ∃ m, m = (e.sent.getD j []).length := ⟨_, rfl⟩
    have HM : Hid (m = (e.sent.getD j []).length) := hm
    rw [← hm] at HNx
    have hm8 : j < e.sent.length → m ≤ 8192 := fun h => by rw [hm]; exact HF.out.lens _ (getD_mem h)
    have hcell : j < e.sent.length → ∃ b o ua uc, so = some ⟨b, o, none⟩ ∧ w.cell? ⟨b, o + j, none⟩ = some (.slice ua m uc) := fun h => by
      obtain ⟨_, _, e9, -, h9⟩ := (H5.out w (Below.refl _ _)).form
      obtain ⟨b, o, e8, h7⟩ := h9 (fun e => by rw [e] at h; simp at h)
      obtain ⟨um, hum, hus⟩ := h7 j h
      simp only [Value.slice.injEq] at e9
      obtain ⟨ua, uc, rfl, -⟩ := hus
      exact ⟨b, o, ua, uc, e9.1.trans e8, by rw [hm]; exact hum⟩
    have HCell : Hid (j < e.sent.length → ∃ b o ua uc, so = some ⟨b, o, none⟩ ∧ w.cell? ⟨b, o + j, none⟩ = some (.slice ua m uc)) := hcell
    have HM8 : Hid (j < e.sent.length → m ≤ 8192) := hm8
    clear hm hm8 hcell
    go_upto_region 3 with fail
    go_cut [33] (fun s' wx => s' = .bool (decide (j < e.sent.length ∧ j < 32 ∧ s + 2 + m ≤ 16384)) ∧ wx = w)
    case first =>
      by_cases h1 : j < e.sent.length
      · obtain ⟨b, o, ua, uc, rfl, hcl⟩ := HCell.out h1
        have hm8 := HM8.out h1
        by_cases h2 : j < 32
        · go_wp2_with fail
          go_meet
          case rel => exact ⟨by simp [h1, h2]; omega, rfl⟩
        · go_wp2_with fail
          go_meet
          case rel => exact ⟨by simp [h2], rfl⟩
      · go_wp2_with fail
        go_meet
        case rel => exact ⟨by simp [h1], rfl⟩
    case rest =>
      obtain ⟨rfl, hwc⟩ := hcut
      rw [hwc]
      clear hwc
      by_cases hC : j < e.sent.length ∧ j < 32 ∧ s + 2 + m ≤ 16384
      · have hcf : decide (j < e.sent.length ∧ j < 32 ∧ s + 2 + m ≤ 16384) = true := by simp only [decide_eq_true_eq]; exact hC
        rw [hcf]
        obtain ⟨h1, h2, h3'⟩ := hC
        obtain ⟨b, o, ua, uc, rfl, hcl⟩ := HCell.out h1
        have HN1 : Hid (sz e.sent (j + 1) = s + 2 + m) := HNx.out h1
        have HW2 : Hid (win e = e.sent.take (j + 1) ++ wd (32 - (j + 1)) (sz e.sent (j + 1)) (e.sent.drop (j + 1))) := by
          show _ = _
          rw [HWin.out, show 32 - j = (31 - j) + 1 by omega, ← HSz.out, wd_more h1 (by rw [HSz.out, ← HM.out]; exact h3'), take_snoc h1, show 32 - (j + 1) = 31 - j by omega]
          simp
        clear hcf HWin HNx HSz HCell HM8
        go_wp2
        go_roundw
        case rel =>
          exact ⟨by first | rfl | trivial, j + 1, by omega, by omega, by go_num, by rw [HN1.out]; go_num, by rw [HN1.out]; exact h3', HW2.out⟩
        case measure => simp [intOf]; omega
      · have hcf : decide (j < e.sent.length ∧ j < 32 ∧ s + 2 + m ≤ 16384) = false := by simp only [decide_eq_false_iff_not]; exact hC
        rw [hcf]
        have HWE : Hid (win e = e.sent.take j) := by
          refine win_end (j := j) (by rw [HSz.out]; exact HWin.out) ?_
          by_cases h1 : j < e.sent.length
          · by_cases h2 : j < 32
            · rw [show 32 - j = (31 - j) + 1 by omega]
              exact wd_stop h1 (by rw [HSz.out, ← HM.out]; omega)
            · rw [show 32 - j = 0 by omega]; rfl
          · rw [List.drop_of_length_le (by omega), wd_nil]
        clear hcf hC HWin HNx HSz HCell HM8 HM
        have HN : Hid (∀ (n : Int) (k : Nat) (xs : List Int) (vx : Value) (wx : World), k ≤ 4 → Owns w.heap.size wx vx xs → xs.length ≤ 100000 → Below w.heap.size w wx → Calls Try.prog 37 #[vx, .int .u32 n, .int .i64 k] wx fun r w' => ∃ v', r = .returned v' ∧ Below w.heap.size w w' ∧ Owns w.heap.size w' v' (xs ++ dg n k)) := by
          show ∀ _, _
          intro n k xs vx wx hk ho hl hb
          refine (rnum_any w.heap.size k n vx xs wx hk ho hl hb.size).mono ?_
          rintro r w' ⟨v', rfl, X⟩
          exact ⟨v', rfl, hb.trans (X.below ho hb.size), X.own⟩
        go_upto_region 6 with fail
        refine wp_region_noPanic ?_
        refine wp_region_held_drew (S := fun wx => Below w.heap.size w wx) (by kernel_rfl) ((Below.refl _ _).drew) (fun hHeld => ?_)
        refine wpAnyH_take (i := 0) (v := ?_) rfl (by kernel_rfl) (by kernel_rfl) (by kernel_rfl) (fun _ _ _ h => h) (Or.inl ⟨by rfl, ?_⟩) hHeld ?_
        rotate_left
        · intro w hSw
          go_simp
          first | done | with_reducible rfl
        simp only [Act.put, List.getElem_toArray, List.getElem_cons_zero, List.setIfInBounds_toArray, List.set_cons_zero, List.set_cons_succ]
        refine wpAnyH_take (i := 1) (v := ?_) rfl (by kernel_rfl) (by kernel_rfl) (by kernel_rfl) (fun _ _ _ h => h) (Or.inl ⟨by rfl, ?_⟩) hHeld ?_
        rotate_left
        · intro w hSw
          go_simp
          first | done | with_reducible rfl
        simp only [Act.put, List.getElem_toArray, List.getElem_cons_succ, List.getElem_cons_zero, List.setIfInBounds_toArray, List.set_cons_zero, List.set_cons_succ]
        refine wpAnyH_take (i := 2) (v := ?_) rfl (by kernel_rfl) (by kernel_rfl) (by kernel_rfl) (fun _ _ _ h => h) (Or.inl ⟨by rfl, ?_⟩) hHeld ?_
        rotate_left
        · intro w hSw
          go_simp
          first | done | with_reducible rfl
        simp only [Act.put, List.getElem_toArray, List.getElem_cons_succ, List.getElem_cons_zero, List.setIfInBounds_toArray, List.set_cons_zero, List.set_cons_succ]
        refine wpAnyH_take (i := 3) (v := ?_) rfl (by kernel_rfl) (by kernel_rfl) (by kernel_rfl) (fun _ _ _ h => h) (Or.inl ⟨by rfl, ?_⟩) hHeld ?_
        rotate_left
        · intro w hSw
          obtain ⟨x0, x1, x2, x3, x4, -⟩ := end_cells (H4.out _ hSw)
          go_simp
          first | done | with_reducible rfl
        simp only [Act.put, List.getElem_toArray, List.getElem_cons_succ, List.getElem_cons_zero, List.setIfInBounds_toArray, List.set_cons_zero, List.set_cons_succ]
        refine wpAnyH_take (i := 5) (v := ?_) rfl (by kernel_rfl) (by kernel_rfl) (by kernel_rfl) (fun _ _ _ h => h) (Or.inl ⟨by rfl, ?_⟩) hHeld ?_
        rotate_left
        · intro w hSw
          go_simp
          first | done | with_reducible rfl
        simp only [Act.put, List.getElem_toArray, List.getElem_cons_succ, List.getElem_cons_zero, List.setIfInBounds_toArray, List.set_cons_zero, List.set_cons_succ]
        refine wpAnyH_take (i := 6) (v := ?_) rfl (by kernel_rfl) (by kernel_rfl) (by kernel_rfl) (fun _ _ _ h => h) (Or.inl ⟨by rfl, ?_⟩) hHeld ?_
        rotate_left
        · intro w hSw
          go_simp
          first | done | with_reducible rfl
        simp only [Act.put, List.getElem_toArray, List.getElem_cons_succ, List.getElem_cons_zero, List.setIfInBounds_toArray, List.set_cons_zero, List.set_cons_succ]
        refine wpAnyH_take (i := 7) (v := ?_) rfl (by kernel_rfl) (by kernel_rfl) (by kernel_rfl) (fun _ _ _ h => h) (Or.inl ⟨by rfl, ?_⟩) hHeld ?_
        rotate_left
        · intro w hSw
          go_simp
          first | done | with_reducible rfl
        simp only [Act.put, List.getElem_toArray, List.getElem_cons_succ, List.getElem_cons_zero, List.setIfInBounds_toArray, List.set_cons_zero, List.set_cons_succ]
        refine wpAnyH_take (i := 8) (v := ?_) rfl (by kernel_rfl) (by kernel_rfl) (by kernel_rfl) (fun _ _ _ h => h) (Or.inl ⟨by rfl, ?_⟩) hHeld ?_
        rotate_left
        · intro w hSw
          obtain ⟨x0, x1, x2, x3, x4, -⟩ := end_cells (H4.out _ hSw)
          go_simp
          first | done | with_reducible rfl
        simp only [Act.put, List.getElem_toArray, List.getElem_cons_succ, List.getElem_cons_zero, List.setIfInBounds_toArray, List.set_cons_zero, List.set_cons_succ]
        refine wpAnyH_take (i := 10) (v := ?_) rfl (by kernel_rfl) (by kernel_rfl) (by kernel_rfl) (fun _ _ _ h => h) (Or.inl ⟨by rfl, ?_⟩) hHeld ?_
        rotate_left
        · intro w hSw
          go_simp
          first | done | with_reducible rfl
        simp only [Act.put, List.getElem_toArray, List.getElem_cons_succ, List.getElem_cons_zero, List.setIfInBounds_toArray, List.set_cons_zero, List.set_cons_succ]
        refine wpAnyH_take (i := 11) (v := ?_) rfl (by kernel_rfl) (by kernel_rfl) (by kernel_rfl) (fun _ _ _ h => h) (Or.inl ⟨by rfl, ?_⟩) hHeld ?_
        rotate_left
        · intro w hSw
          go_simp
          first | done | with_reducible rfl
        simp only [Act.put, List.getElem_toArray, List.getElem_cons_succ, List.getElem_cons_zero, List.setIfInBounds_toArray, List.set_cons_zero, List.set_cons_succ]
        refine wpAnyH_take (i := 12) (v := ?_) rfl (by kernel_rfl) (by kernel_rfl) (by kernel_rfl) (fun _ _ _ h => h) (Or.inl ⟨by rfl, ?_⟩) hHeld ?_
        rotate_left
        · intro w hSw
          go_simp
          first | done | with_reducible rfl
        simp only [Act.put, List.getElem_toArray, List.getElem_cons_succ, List.getElem_cons_zero, List.setIfInBounds_toArray, List.set_cons_zero, List.set_cons_succ]
        refine wpAnyH_take (i := 13) (v := ?_) rfl (by kernel_rfl) (by kernel_rfl) (by kernel_rfl) (fun _ _ _ h => h) (Or.inl ⟨by rfl, ?_⟩) hHeld ?_
        rotate_left
        · intro w hSw
          obtain ⟨x0, x1, x2, x3, x4, -⟩ := end_cells (H4.out _ hSw)
          go_simp
          first | done | with_reducible rfl
        simp only [Act.put, List.getElem_toArray, List.getElem_cons_succ, List.getElem_cons_zero, List.setIfInBounds_toArray, List.set_cons_zero, List.set_cons_succ]
        refine wpAnyH_ready (rs := [4]) (by kernel_rfl) (by simp) ?_
        refine AllReadyH.cons rfl (fun K hK => ?_) AllReadyH.nil
        go_simp
        go_fit (HN.out e.ep 4 [] nilS _ (by omega) Owns.isNil (by simp) (Below.refl _ _).drew)
        rintro e w1 ⟨v1, rfl, hb1, ho1⟩
        go_simp
        refine hK.out _ _ (hb1) (fun hHeld => ?_)
        clear hK K
        refine wpAnyH_ready (rs := [9]) (by kernel_rfl) (by simp) ?_
        refine AllReadyH.cons rfl (fun K hK => ?_) AllReadyH.nil
        go_simp
        go_fit (HN.out e.come 4 _ v1 w1 (by omega) ho1 (by simp [dg_len]) hb1)
        rintro e w2 ⟨v2, rfl, hb2, ho2⟩
        go_simp
        refine hK.out _ _ (hb2) (fun hHeld => ?_)
        clear hK K
        refine wpAnyH_ready (rs := [14]) (by kernel_rfl) (by simp) ?_
        refine AllReadyH.cons rfl (fun K hK => ?_) AllReadyH.nil
        go_simp
        go_fit (HN.out e.got 4 _ v2 w2 (by omega) ho2 (by simp [dg_len]) hb2)
        rintro e w3 ⟨v3, rfl, hb3, ho3⟩
        go_simp
        refine hK.out _ _ (hb3) (fun hHeld => ?_)
        clear hK K
        refine wpAnyH_take (i := 15) (v := ?_) rfl (by kernel_rfl) (by kernel_rfl) (by kernel_rfl) (fun _ _ _ h => h) (Or.inl ⟨by rfl, ?_⟩) hHeld ?_
        rotate_left
        · intro w hSw
          go_simp
          first | done | with_reducible rfl
        simp only [Act.put, List.getElem_toArray, List.getElem_cons_succ, List.getElem_cons_zero, List.setIfInBounds_toArray, List.set_cons_zero, List.set_cons_succ]
        refine wpAnyH_done (by kernel_rfl) ?_ _
        refine NoPanic.normal ?_
        have HO3 : Hid (Owns w.heap.size w3 v3 (hd3 e)) := by show Owns _ _ _ _; unfold hd3; rw [← List.append_assoc]; exact ho3
        have HB3 : Hid (Below w.heap.size w w3) := hb3
        clear hb1 ho1 hb2 ho2 hb3 ho3
        have HN7 : Hid (Calls Try.prog 37 #[v3, .int .u32 (j : Nat), .int .i64 2] w3 fun r w' => ∃ v', r = .returned v' ∧ Below w.heap.size w w' ∧ Owns w.heap.size w' v' (hd3 e ++ dg j 2)) := HN.out j 2 _ v3 w3 (by omega) HO3.out (by simp [hd3, dg_len]) HB3.out
        have HSZ : Hid (∀ i, i ≤ j → (hd3 e ++ dg j 2 ++ flat ((e.sent.take j).take i)).length ≤ 16384) := by
          show ∀ _, _
          intro i hi
          have hb := body_len e
          rw [body_eq, HWE.out, List.length_append] at hb
          have hf : (flat ((e.sent.take j).take i)).length ≤ (flat (e.sent.take j)).length := by
            conv => rhs; rw [← List.take_append_drop i (e.sent.take j), flat_app, List.length_append]
            omega
          have hl : (dg (((e.sent.take j).length : Nat) : Int) 2).length = (dg (j : Int) 2).length := by rw [dg_len, dg_len]
          rw [List.length_append] at hb
          rw [List.length_append, List.length_append]
          omega
        clear HO3
        go_wp2_with (go_at_call 37; refine (HN7.out).mono ?_; rintro r w4 ⟨v4, rfl, hb4, ho4⟩)
        go_loopw [5, 6] (fun b i wr => ∃ k : Nat, k ≤ j ∧ i = .int .i64 k ∧ Below w.heap.size w wr ∧ Owns w.heap.size wr b (hd3 e ++ dg j 2 ++ flat ((e.sent.take j).take k))) (fun _ i _ => j - (intOf i).toNat)
        case atStart => exact ⟨0, by omega, rfl, hb4, by simpa [flat] using ho4⟩
        case round =>
          obtain ⟨k, hk, rfl, hlow, hown⟩ := hrel
          by_cases hlt : k < j
          · have HLow : Hid (Below w.heap.size w wr) := hlow
            have HOw : Hid (Owns w.heap.size wr u5 (hd3 e ++ dg j 2 ++ flat ((e.sent.take j).take k))) := hown
            have hkl : k < e.sent.length := by omega
            obtain ⟨_, _, e9, -, h9⟩ := (H5.out wr hlow).form
            obtain ⟨b, o, e8, -⟩ := h9 (fun e => by rw [e] at hkl; simp at hkl)
            simp only [Value.slice.injEq] at e9
            have e7 : so = some ⟨b, o, none⟩ := e9.1.trans e8
            clear e9 h9 e8
            subst e7
            obtain ⟨m, hm⟩ : ∃ m, m = e.sent.getD k [] := ⟨_, rfl⟩
            have hm8 : m.length ≤ 8192 := by rw [hm]; exact HF.out.lens _ (getD_mem hkl)
            have HNX : Hid (flat ((e.sent.take j).take (k + 1)) = flat ((e.sent.take j).take k) ++ (dg (m.length : Int) 2 ++ m)) := by
              show _ = _
              rw [take_snoc (by rw [List.length_take]; omega), flat_app]
              have : (e.sent.take j).getD k [] = m := by
                rw [hm]; simp only [List.getD_eq_getElem?_getD, List.getElem?_take, if_pos hlt]
              rw [this]; simp [flat]
            have HEl : Hid (∀ wx, Below w.heap.size w wx → ∃ ua uc, wx.cell? ⟨b, o + k, none⟩ = some (.slice ua m.length uc) ∧ Sl w.heap.size wx (.slice ua m.length uc) m) := by
              show ∀ _, _
              intro wx hb
              obtain ⟨_, _, e9, -, h9⟩ := (H5.out wx hb).form
              obtain ⟨b', o', e8, h7⟩ := h9 (fun e => by rw [e] at hkl; simp at hkl)
              simp only [Value.slice.injEq] at e9
              have e7 := e9.1.trans e8
              simp only [Option.some.injEq, Addr.mk.injEq] at e7
              obtain ⟨rfl, rfl, -⟩ := e7
              obtain ⟨u, hu, hs⟩ := h7 k hkl
              rw [← hm] at hs
              have hs2 : Sl w.heap.size wx u m := hs
              obtain ⟨ua, uc, rfl, -⟩ := hs
              exact ⟨ua, uc, hu, hs2⟩
            have hSk := HSZ.out k hk
            have HSk : Hid ((hd3 e ++ dg j 2 ++ flat ((e.sent.take j).take k)).length ≤ 16384) := hSk
            obtain ⟨ua, uc, hcl, -⟩ := HEl.out wr hlow
            obtain ⟨x0, x1, x2, x3, x4, -⟩ := end_cells (H4.out wr hlow)
            clear hm hlow hown hSk
            go_wp2_with (first
              | (go_at_call 37; refine (HN.out m.length 2 _ u5 wr (by omega) HOw.out (by have := HSk.out; omega) HLow.out).mono ?_; rintro r w5 ⟨v5, rfl, hb5, ho5⟩
                 have HB5 : Hid (Below w.heap.size w w5) := hb5
                 have HO5 : Hid (Owns w.heap.size w5 v5 (hd3 e ++ dg j 2 ++ flat ((e.sent.take j).take k) ++ dg (m.length : Int) 2)) := ho5
                 obtain ⟨ua2, uc2, hcl2, hsl2⟩ := HEl.out w5 hb5
                 have HS2 : Hid (Sl w.heap.size w5 (.slice ua2 m.length uc2) m) := hsl2
                 obtain ⟨y0, y1, y2, y3, y4, -⟩ := end_cells (H4.out w5 hb5)
                 clear hb5 ho5 hsl2)
              | (at_builtin; refine app22 (.tmp 82) (.tmp 89) rfl rfl rfl rfl HO5.out HS2.out HB5.out.size (by have := HSk.out; simp only [List.length_append, dg_len] at this ⊢; omega) ?_; intro v6 w6 X6))
            have HB6 : Hid (Below w.heap.size w w6) := HB5.out.trans (X6.below HO5.out HB5.out.size)
            have HO6 : Hid (Owns w.heap.size w6 v6 (hd3 e ++ dg j 2 ++ flat ((e.sent.take j).take (k + 1)))) := by
              show Owns _ _ _ _
              rw [HNX.out]
              have := X6.own
              simp only [List.append_assoc] at this ⊢
              exact this
            clear X6
            go_roundw
            case rel => exact ⟨k + 1, by omega, by go_num, HB6.out, HO6.out⟩
            case measure => simp [intOf]; omega
          · obtain rfl : k = j := by omega
            have hbody : hd3 e ++ dg k 2 ++ flat ((e.sent.take k).take k) = body e := by
              rw [body_eq, HWE.out, List.take_take, Nat.min_self, List.length_take, Nat.min_eq_left (by omega)]
            rw [hbody] at hown
            have hB : IsB (body e) := bodyOf_isB (win_allB ((H5.out w (Below.refl _ _)).allB))
            have hS := Sl.own hown (by have := body_len e; omega) hB
            have HSL := rseal_any wr.heap.size u5 (body e) wr hS (Nat.le_refl _)
            have hbl := body_len e
            rw [show seE (body e) = 0 from if_neg (by omega), show seL (body e) = tkL e from if_neg (by omega)] at HSL
            have HSL' : Hid (Calls Try.prog 38 #[u5] wr fun r w' => ∃ v', r = .returned (.tuple #[v', .int .i64 0]) ∧ Below wr.heap.size wr w' ∧ Owns wr.heap.size w' v' (tkL e)) := HSL
            have HLow : Hid (Below w.heap.size w wr) := hlow
            have HB9 : Hid (IsB (tkL e) ∧ (tkL e).length ≤ 16388) := ⟨dat_isB hB, tkL_len e⟩
            clear HSL hown hlow hS hB hbody HSZ HN HN7
            go_wp2_with (go_at_call 38; refine (HSL'.out).mono ?_; rintro r w5 ⟨v5, rfl, hb5, ho5⟩; obtain ⟨a5, c5, rfl, -⟩ := Sl.own ho5 (by have := HB9.out.2; omega) HB9.out.1)
            go_ret
            have hb6 : Below w.heap.size w w5 := HLow.out.trans (hb5.mono HLow.out.size)
            have hs5 : SlC (fun k => w.heap.size ≤ k) w5 (.slice a5 (tkL e).length c5) (tkL e) := SlC.own ho5 (by have := HB9.out.2; omega) HB9.out.1 fun k h1 _ => Nat.le_trans HLow.out.size h1
            refine ⟨_, rfl, hb6.trans (((Below.refl _ _).alloc (Nat.le_refl _) _).mono hb6.size), ?_⟩
            refine ⟨_, 1, rfl, Nat.le_refl _, by simp, (fun h => by cases h), fun _ => ⟨w5.heap.size, 0, hb6.size, rfl, fun j hj => ?_⟩⟩
            have hj0 : j = 0 := by simpa using hj
            subst hj0
            exact ⟨_, by rw [cell_of_row _ _ _ _ _ _ (heap_alloc_new _ _)]; rfl, hs5.carry fun k hk h => ⟨h, heap_alloc_old _ _ hk⟩⟩
end Go.Proofs.Ytijjcopglbcoiaa
