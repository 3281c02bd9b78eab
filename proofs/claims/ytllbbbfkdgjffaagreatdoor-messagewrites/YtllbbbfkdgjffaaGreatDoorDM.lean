/-
  Proved here: the document's match (of package tollbridgeref07) appends a match's bytes. Condition: fewer than 2 to 31 bytes.
-/
import Derived.Test.YtllbbbfkdgjffaaGreatDoorW2
import Derived.Test.YtllbbbfkdgjffaaGreatDoorW6
namespace Go.Proofs.YtllbbbfkdgjffaaGreatDoor
open Go.RowKit

/-- A value and its mask. -/
structure Hm7 (b k : Nat) (x y : Int) (w : World) : Prop where
  cv : w.cell? ⟨b, k, none⟩ = some (.int .u64 x)
  cm : w.cell? ⟨b, 11 + k, none⟩ = some (.int .u64 y)
theorem fs_len (m : Nat → Int) : ∀ q, (fs m q).length ≤ 12 * q
  | 0 => by simp [fs]
  | q + 1 => by
    have h1 := fs_len m q
    have h2 := sz_le q
    show (fs m q ++ ent m q).length ≤ _
    rw [List.length_append]
    have : (ent m q).length ≤ 12 := by
      unfold ent
      split
      · simp
      · simp only [List.length_append, dg_len]; omega
    omega
theorem ent_step {m : Nat → Int} {q : Nat} (h : m (11 + q) ≠ 0) : ent m q = dg (m q) (sz q) ++ dg (m (11 + q)) (sz q) := by unfold ent; rw [if_neg h]
set_option maxHeartbeats 3200000 in
set_option maxRecDepth 100000 in
theorem rmatch_any (base : Nat) (v : Value) (xs : List Int) (m : Nat → Int) (w : World) (hown : Owns base w v xs) (hlen : xs.length ≤ 2147480000) (hbase : base ≤ w.heap.size) :
    Calls Tryz.prog 47 #[v, mv m] w fun e w' => ∃ v', e = .returned v' ∧ Ext base w v w' v' (xs ++ encMt m) := by
  obtain ⟨W0, hW0⟩ : ∃ W0, W0 = w.alloc (.cells (row 22 m) 28) := ⟨_, rfl⟩
  obtain ⟨b, hb⟩ : ∃ b, b = w.heap.size := ⟨_, rfl⟩
  have hB : Blk W0 b 22 28 m := by rw [hW0, hb]; exact Blk.new w 22 28 m
  have hO0 : Owns base W0 v xs := by rw [hW0]; exact hown.alloc _
  have hb0 : base ≤ W0.heap.size := by rw [hW0]; simp; omega
  have HFin : Hid (∀ z vz ys, Ext base W0 v z vz ys → Ext base w v z vz ys) := fun z vz ys h => by
    rw [hW0] at h
    exact h.allocFirst hown
  have HBl : Hid (∀ z vz ys, Ext base W0 v z vz ys → Blk z b 22 28 m) := fun z vz ys h => h.block hO0 hB (by decide)
  have HP := hid (put7_any base 2 (mb m 11) v xs W0 (by omega) hO0 (by omega) hb0)
  have HPn : Hid (∀ z vz ys n k, Ext base W0 v z vz ys → ys.length ≤ 2147483648 → k ≤ 8 → Calls Tryz.prog 33 #[vz, .int .u64 n, .int .i64 (k : Nat)] z fun e w' => ∃ v', e = .returned v' ∧ Ext base W0 v w' v' (ys ++ dg n k)) := fun z vz ys n k hE hl hk => by
    refine (put7_any base k n vz ys z hk hE.own hl (Nat.le_trans hb0 hE.grown.size)).mono ?_
    rintro e w' ⟨v', rfl, h2⟩
    exact ⟨v', rfl, hE.trans h2⟩
  have HW0 := hid hW0
  have HB := hid hb
  have HB0 := hid hB
  clear hown hO0 hbase hb0 hW0 hB hb
  go_enter Tryz.func47, Tryz.ntmps47
  go_upto_region 1 with fail
  rw [← HW0.out, ← HB.out]
  clear HW0 HB
  go_upto_region 3 with fail
  go_loopw [5, 6] (fun x i wr => ∃ k : Nat, k ≤ 11 ∧ i = .int .i64 k ∧ x = .int .u64 (mb m k) ∧ wr = W0) (fun _ i _ => 11 - (intOf i).toNat)
  case atStart => exact ⟨0, by omega, rfl, rfl, rfl⟩
  case round =>
    obtain ⟨k, hk, rfl, rfl, hwr⟩ := hrel
    generalize wr = wx at *
    subst hwr
    by_cases hlt : k < 11
    · have hc := HB0.out.cell (11 + k) (by omega)
      have hbd := mb_bd m k
      have hd : decide ((k : Int) < 11) = true := decide_eq_true (by omega)
      have hw1 : IntKind.i64.wrap ((k : Int) + 1) = (k : Int) + 1 := by rw [IntKind.wrap_i64]; omega
      have hcv : IntKind.u64.wrap (k : Int) = (k : Int) := by rw [IntKind.wrap_u64]; omega
      obtain ⟨y, hy⟩ : ∃ y, y = m (11 + k) := ⟨_, rfl⟩
      rw [← hy] at hc
      by_cases hz : y = 0
      · have t : (y != 0) = false := by simp [hz]
        have HS := hid (mb_skip m k (by rw [← hy]; exact hz))
        clear hz hbd hy
        go_wp2
        go_roundw
        case rel => exact ⟨k + 1, by omega, by go_num, by rw [HS.out], by trivial⟩
        case measure => simp [intOf]; omega
      · have t : (y != 0) = true := by simp [hz]
        have HS := hid (mb_step m k (by rw [← hy]; exact hz))
        have HBi := hid (or_bit hbd.1 hbd.2 (show k < 64 by omega))
        clear hz hbd hy
        generalize mb m k = z at HBi HS ⊢
        go_wp2
        go_roundw
        case rel => exact ⟨k + 1, by omega, by go_num, by rw [HS.out, ← HBi.out], by trivial⟩
        case measure => simp [intOf]; omega
    · obtain rfl : k = 11 := by omega
      obtain ⟨y, hy⟩ : ∃ y, y = mb m 11 := ⟨_, rfl⟩
      rw [← hy] at HP
      rw [← hy]
      have HY := hid hy
      clear hy
      go_upto_region 9 with (go_at_call 33; refine (HP.out).mono ?_; rintro e w1 ⟨v1, rfl, hE1⟩; have HE1 := hid hE1; clear hE1 HP)
      go_loopw [0, 7] (fun u i wr => ∃ q : Nat, q ≤ 11 ∧ i = .int .i8 q ∧ Ext base wx v wr u (xs ++ (dg y 2 ++ fs m q))) (fun _ i _ => 11 - (intOf i).toNat)
      case atStart => exact ⟨0, by omega, rfl, by simpa [fs] using HE1.out⟩
      case round =>
        obtain ⟨q, hq, rfl, hE⟩ := hrel
        generalize wr = wy at *
        have HE := hid hE
        by_cases hlt2 : q < 11
        · have hB1 := HBl.out wy u0 _ hE
          have hcm := hB1.cell (11 + q) (by omega)
          have hcv := hB1.cell q (by omega)
          obtain ⟨xm, hxm⟩ : ∃ z, z = m (11 + q) := ⟨_, rfl⟩
          obtain ⟨xv, hxv⟩ : ∃ z, z = m q := ⟨_, rfl⟩
          rw [← hxm] at hcm
          rw [← hxv] at hcv
          have hd : decide ((q : Int) < 11) = true := decide_eq_true (by omega)
          have hw1 : IntKind.i8.wrap ((q : Int) + 1) = (q : Int) + 1 := by
            have : q = 0 ∨ q = 1 ∨ q = 2 ∨ q = 3 ∨ q = 4 ∨ q = 5 ∨ q = 6 ∨ q = 7 ∨ q = 8 ∨ q = 9 ∨ q = 10 := by omega
            rcases this with rfl | rfl | rfl | rfl | rfl | rfl | rfl | rfl | rfl | rfl | rfl <;> decide +kernel
          by_cases hz : xm = 0
          · have t : (xm != 0) = false := by simp [hz]
            have HS := hid (fs_skip m q (by rw [← hxm]; exact hz))
            clear hz hxm hxv hE hB1 hcv
            go_wp2
            go_roundw
            case rel => exact ⟨q + 1, by omega, by go_num, by rw [HS.out]; exact HE.out⟩
            case measure => simp [intOf]; omega
          · have t : (xm != 0) = true := by simp [hz]
            have HS := hid (fs_step m q (by rw [← hxm]; exact hz))
            rw [← hxm, ← hxv] at HS
            have hfl := fs_len m q
            obtain ⟨s, hs⟩ : ∃ s, s = sz q := ⟨_, rfl⟩
            have hs6 : s ≤ 6 := by rw [hs]; exact sz_le q
            rw [← hs] at HS
            have HSz : Hid (∀ z, Calls Tryz.prog 42 #[.int .i8 (q : Int)] z fun e w' => e = .returned (.int .i64 (s : Nat)) ∧ w' = z) := fun z => by rw [hs]; exact rsize_any q hlt2 z
            have hl1 : (xs ++ (dg y 2 ++ fs m q)).length ≤ 2147481000 := by simp only [List.length_append, dg_len]; omega
            have HP1 := hid (HPn.out wy.drew u0 _ xv s (hE.on ((Below.refl _ _).drew)) (by omega) (by omega))
            have HU : Hid (Hm7 b q xv xm wy.drew) := ⟨hcv, hcm⟩
            have HUn : Hid (∀ z vz ys, Ext base wx v z vz ys → Hm7 b q xv xm z ∧ Hm7 b q xv xm z.drew) := fun z vz ys h => by
              have hb' := HBl.out z vz ys h
              have c1 := hb'.cell q (by omega)
              have c2 := hb'.cell (11 + q) (by omega)
              rw [← hxv] at c1
              rw [← hxm] at c2
              exact ⟨⟨c1, c2⟩, ⟨c1, c2⟩⟩
            clear hz hxm hxv hE hB1 hs hcv
            go_upto_region 12 with fail
            refine wp_region_held_drew (S := Hm7 b q xv xm) (by kernel_rfl) HU.out (fun hHeld => ?_)
            refine wpAnyH_take (i := 0) (v := ?_) rfl (by kernel_rfl) (by kernel_rfl) (by kernel_rfl) (fun _ _ _ h => h) (Or.inl ⟨by rfl, ?_⟩) hHeld ?_
            rotate_left
            · intro w' hSw
              clear hSw
              go_simp
              first | done | with_reducible rfl
            simp only [Act.put, List.getElem_toArray, List.getElem_cons_zero, List.setIfInBounds_toArray, List.set_cons_zero, List.set_cons_succ]
            refine wpAnyH_take (i := 1) (v := ?_) rfl (by kernel_rfl) (by kernel_rfl) (by kernel_rfl) (fun _ _ _ h => h) (Or.inl ⟨by rfl, ?_⟩) hHeld ?_
            rotate_left
            · intro w' hSw
              clear hSw
              go_simp
              first | done | with_reducible rfl
            simp only [Act.put, List.getElem_toArray, List.getElem_cons_succ, List.getElem_cons_zero, List.setIfInBounds_toArray, List.set_cons_zero, List.set_cons_succ]
            refine wpAnyH_take (i := 2) (v := ?_) rfl (by kernel_rfl) (by kernel_rfl) (by kernel_rfl) (fun _ _ _ h => h) (Or.inl ⟨by rfl, ?_⟩) hHeld ?_
            rotate_left
            · intro w' hSw
              clear hSw
              go_simp
              first | done | with_reducible rfl
            simp only [Act.put, List.getElem_toArray, List.getElem_cons_succ, List.getElem_cons_zero, List.setIfInBounds_toArray, List.set_cons_zero, List.set_cons_succ]
            refine wpAnyH_take (i := 3) (v := ?_) rfl (by kernel_rfl) (by kernel_rfl) (by kernel_rfl) (fun _ _ _ h => h) (Or.inl ⟨by rfl, ?_⟩) hHeld ?_
            rotate_left
            · intro w' hSw
              clear hSw
              go_simp
              rw [if_pos (show (q : Int) < 11 by omega)]
            simp only [Act.put, List.getElem_toArray, List.getElem_cons_succ, List.getElem_cons_zero, List.setIfInBounds_toArray, List.set_cons_zero, List.set_cons_succ]
            refine wpAnyH_take (i := 4) (v := ?_) rfl (by kernel_rfl) (by kernel_rfl) (by kernel_rfl) (fun _ _ _ h => h) (Or.inl ⟨by rfl, ?_⟩) hHeld ?_
            rotate_left
            · intro w' hSw
              have cv := hSw.cv
              clear hSw
              go_simp
              first | done | with_reducible rfl
            simp only [Act.put, List.getElem_toArray, List.getElem_cons_succ, List.getElem_cons_zero, List.setIfInBounds_toArray, List.set_cons_zero, List.set_cons_succ]
            refine wpAnyH_take (i := 5) (v := ?_) rfl (by kernel_rfl) (by kernel_rfl) (by kernel_rfl) (fun _ _ _ h => h) (Or.inl ⟨by rfl, ?_⟩) hHeld ?_
            rotate_left
            · intro w' hSw
              clear hSw
              go_simp
              first | done | with_reducible rfl
            simp only [Act.put, List.getElem_toArray, List.getElem_cons_succ, List.getElem_cons_zero, List.setIfInBounds_toArray, List.set_cons_zero, List.set_cons_succ]
            refine wpAnyH_ready (rs := [6]) (by kernel_rfl) (by simp) ?_
            refine AllReadyH.cons rfl (fun K hK => ?_) AllReadyH.nil
            refine stepFn 42 (.func 42) [.tmp 39] _ [.int .i8 (q : Int)] rfl rfl rfl rfl (fun _ => rfl) _ (HSz.out _) ?_
            rintro r5 w5 ⟨rfl, hw5⟩
            subst hw5
            refine Or.inl ⟨_, rfl, ?_⟩
            refine hK.out _ _ HU.out (fun hHeld => ?_)
            clear hK K
            simp only [Act.put, List.getElem_toArray, List.getElem_cons_succ, List.getElem_cons_zero, List.setIfInBounds_toArray, List.set_cons_zero, List.set_cons_succ]
            refine wpAnyH_ready (rs := [7]) (by kernel_rfl) (by simp) ?_
            refine AllReadyH.cons rfl (fun K hK => ?_) AllReadyH.nil
            refine stepFn 33 (.func 33) [.tmp 34, .tmp 38, .tmp 40] _ [u0, .int .u64 xv, .int .i64 (s : Int)] rfl rfl rfl rfl (fun _ => rfl) _ HP1.out ?_
            rintro r6 w6 ⟨v6, rfl, hE6⟩
            refine Or.inl ⟨_, rfl, ?_⟩
            have HE6 := hid hE6
            have HU6 := hid (HUn.out w6 v6 _ hE6)
            refine hK.out _ _ HU6.out.1 (fun hHeld => ?_)
            clear hK K
            simp only [Act.put, List.getElem_toArray, List.getElem_cons_succ, List.getElem_cons_zero, List.setIfInBounds_toArray, List.set_cons_zero, List.set_cons_succ]
            clear hE6 HP1
            have hHeld := HU6.out.1
            refine wpAnyH_take (i := 8) (v := ?_) rfl (by kernel_rfl) (by kernel_rfl) (by kernel_rfl) (fun _ _ _ h => h) (Or.inl ⟨by rfl, ?_⟩) hHeld ?_
            rotate_left
            · intro w' hSw
              clear hSw
              go_simp
              first | done | with_reducible rfl
            simp only [Act.put, List.getElem_toArray, List.getElem_cons_succ, List.getElem_cons_zero, List.setIfInBounds_toArray, List.set_cons_zero]
            refine wpAnyH_done (by kernel_rfl) ?_ _
            have HP2 := hid (HPn.out w6.drew v6 _ xm s (HE6.out.on ((Below.refl _ _).drew)) (by simp only [List.length_append, dg_len] at hl1 ⊢; omega) (by omega))
            go_upto_region 13 with fail
            refine wp_region_held_drew (S := Hm7 b q xv xm) (by kernel_rfl) HU6.out.2 (fun hHeld => ?_)
            refine wpAnyH_take (i := 0) (v := ?_) rfl (by kernel_rfl) (by kernel_rfl) (by kernel_rfl) (fun _ _ _ h => h) (Or.inl ⟨by rfl, ?_⟩) hHeld ?_
            rotate_left
            · intro w' hSw
              clear hSw
              go_simp
              first | done | with_reducible rfl
            simp only [Act.put, List.getElem_toArray, List.getElem_cons_zero, List.setIfInBounds_toArray, List.set_cons_zero, List.set_cons_succ]
            refine wpAnyH_take (i := 1) (v := ?_) rfl (by kernel_rfl) (by kernel_rfl) (by kernel_rfl) (fun _ _ _ h => h) (Or.inl ⟨by rfl, ?_⟩) hHeld ?_
            rotate_left
            · intro w' hSw
              clear hSw
              go_simp
              first | done | with_reducible rfl
            simp only [Act.put, List.getElem_toArray, List.getElem_cons_succ, List.getElem_cons_zero, List.setIfInBounds_toArray, List.set_cons_zero, List.set_cons_succ]
            refine wpAnyH_take (i := 2) (v := ?_) rfl (by kernel_rfl) (by kernel_rfl) (by kernel_rfl) (fun _ _ _ h => h) (Or.inl ⟨by rfl, ?_⟩) hHeld ?_
            rotate_left
            · intro w' hSw
              clear hSw
              go_simp
              first | done | with_reducible rfl
            simp only [Act.put, List.getElem_toArray, List.getElem_cons_succ, List.getElem_cons_zero, List.setIfInBounds_toArray, List.set_cons_zero, List.set_cons_succ]
            refine wpAnyH_take (i := 3) (v := ?_) rfl (by kernel_rfl) (by kernel_rfl) (by kernel_rfl) (fun _ _ _ h => h) (Or.inl ⟨by rfl, ?_⟩) hHeld ?_
            rotate_left
            · intro w' hSw
              clear hSw
              go_simp
              rw [if_pos (show (q : Int) < 11 by omega)]
            simp only [Act.put, List.getElem_toArray, List.getElem_cons_succ, List.getElem_cons_zero, List.setIfInBounds_toArray, List.set_cons_zero, List.set_cons_succ]
            refine wpAnyH_take (i := 4) (v := ?_) rfl (by kernel_rfl) (by kernel_rfl) (by kernel_rfl) (fun _ _ _ h => h) (Or.inl ⟨by rfl, ?_⟩) hHeld ?_
            rotate_left
            · intro w' hSw
              have cm := hSw.cm
              clear hSw
              go_simp
              first | done | with_reducible rfl
            simp only [Act.put, List.getElem_toArray, List.getElem_cons_succ, List.getElem_cons_zero, List.setIfInBounds_toArray, List.set_cons_zero, List.set_cons_succ]
            refine wpAnyH_take (i := 5) (v := ?_) rfl (by kernel_rfl) (by kernel_rfl) (by kernel_rfl) (fun _ _ _ h => h) (Or.inl ⟨by rfl, ?_⟩) hHeld ?_
            rotate_left
            · intro w' hSw
              clear hSw
              go_simp
              first | done | with_reducible rfl
            simp only [Act.put, List.getElem_toArray, List.getElem_cons_succ, List.getElem_cons_zero, List.setIfInBounds_toArray, List.set_cons_zero, List.set_cons_succ]
            refine wpAnyH_ready (rs := [6]) (by kernel_rfl) (by simp) ?_
            refine AllReadyH.cons rfl (fun K hK => ?_) AllReadyH.nil
            refine stepFn 42 (.func 42) [.tmp 47] _ [.int .i8 (q : Int)] rfl rfl rfl rfl (fun _ => rfl) _ (HSz.out _) ?_
            rintro r5 w5 ⟨rfl, hw5⟩
            subst hw5
            refine Or.inl ⟨_, rfl, ?_⟩
            refine hK.out _ _ HU6.out.2 (fun hHeld => ?_)
            clear hK K
            simp only [Act.put, List.getElem_toArray, List.getElem_cons_succ, List.getElem_cons_zero, List.setIfInBounds_toArray, List.set_cons_zero, List.set_cons_succ]
            refine wpAnyH_ready (rs := [7]) (by kernel_rfl) (by simp) ?_
            refine AllReadyH.cons rfl (fun K hK => ?_) AllReadyH.nil
            refine stepFn 33 (.func 33) [.tmp 42, .tmp 46, .tmp 48] _ [v6, .int .u64 xm, .int .i64 (s : Int)] rfl rfl rfl rfl (fun _ => rfl) _ HP2.out ?_
            rintro r6 w7 ⟨v7, rfl, hE7⟩
            refine Or.inl ⟨_, rfl, ?_⟩
            have HE7 := hid hE7
            have HU7 := hid (HUn.out w7 v7 _ hE7)
            refine hK.out _ _ HU7.out.1 (fun hHeld => ?_)
            clear hK K
            simp only [Act.put, List.getElem_toArray, List.getElem_cons_succ, List.getElem_cons_zero, List.setIfInBounds_toArray, List.set_cons_zero, List.set_cons_succ]
            clear hE7 HP2
            have hHeld := HU7.out.1
            refine wpAnyH_take (i := 8) (v := ?_) rfl (by kernel_rfl) (by kernel_rfl) (by kernel_rfl) (fun _ _ _ h => h) (Or.inl ⟨by rfl, ?_⟩) hHeld ?_
            rotate_left
            · intro w' hSw
              clear hSw
              go_simp
              first | done | with_reducible rfl
            simp only [Act.put, List.getElem_toArray, List.getElem_cons_succ, List.getElem_cons_zero, List.setIfInBounds_toArray, List.set_cons_zero]
            refine wpAnyH_done (by kernel_rfl) ?_ _
            go_wp2
            go_roundw
            case rel => exact ⟨q + 1, by omega, by go_num, by rw [HS.out]; simpa [List.append_assoc] using HE7.out⟩
            case measure => simp [intOf]; omega
        · obtain rfl : q = 11 := by omega
          clear hE
          go_wp2
          go_ret
          refine ⟨u0, rfl, ?_⟩
          have := HFin.out wy u0 _ HE.out
          rw [HY.out] at this
          exact this
end Go.Proofs.YtllbbbfkdgjffaaGreatDoor
