/-
  Proved here: the document's match (of package tollbridgeref07) appends a match's bytes. Condition: fewer than 2 to 31 bytes.
-/
/-
  Proved here: the writer's methods rule, held write a rule's bytes, or panic where it is none. Conditions: numbers are of their types; what is written lies in blocks that the writer does not turn.
-/
import Derived.Test.YtllbbbfkdgjffaaGreatDoorW2
import Derived.Test.YtllbbbfkdgjffaaGreatDoorW6
namespace Go.Proofs.YtllbbbfkdgjffaaGreatDoor
open Go.RowKit

/-- A value and its mask. -/
structure Hm7 (b k : Nat) (x y : Int) (w : World) : Prop where
  cv : w.cell? ⟨b, k, none⟩ = some (.int .u64 x)
  cm : w.cell? ⟨b, 11 + k, none⟩ = some (.int .u64 y)
theorem fs_len (m : Nat → Int) : ∀ q, (fs m q).length ≤ 12 * q
  | 0 => by simp [fs]
  | q + 1 => by
    have h1 := fs_len m q
    have h2 := sz_le q
    show (fs m q ++ ent m q).length ≤ _
    rw [List.length_append]
    have : (ent m q).length ≤ 12 := by
      unfold ent
      split
      · simp
      · simp only [List.length_append, dg_len]; omega
    omega
theorem ent_step {m : Nat → Int} {q : Nat} (h : m (11 + q) ≠ 0) : ent m q = dg (m q) (sz q) ++ dg (m (11 + q)) (sz q) := by unfold ent; rw [if_neg h]
set_option maxHeartbeats 3200000 in
set_option maxRecDepth 100000 in
theorem rmatch_any (base : Nat) (v : Value) (xs : List Int) (m : Nat → Int) (w : World) (hown : Owns base w v xs) (hlen : xs.length ≤ 2147480000) (hbase : base ≤ w.heap.size) :
    Calls Tryz.prog 47 #[v, mv m] w fun e w' => ∃ v', e = .returned v' ∧ Ext base w v w' v' (xs ++ encMt m) := by
  obtain ⟨W0, hW0⟩ : ∃ W0, W0 = w.alloc (.cells (row 22 m) 28) := ⟨_, rfl⟩
  obtain ⟨b, hb⟩ : ∃ b, b = w.heap.size := ⟨_, rfl⟩
  have hB : Blk W0 b 22 28 m := by rw [hW0, hb]; exact Blk.new w 22 28 m
  have hO0 : Owns base W0 v xs := by rw [hW0]; exact hown.alloc _
  have hb0 : base ≤ W0.heap.size := by rw [hW0]; simp; omega
  have HFin : Hid (∀ z vz ys, Ext base W0 v z vz ys → Ext base w v z vz ys) := fun z vz ys h => by
    rw [hW0] at h
    exact h.allocFirst hown
  have HBl : Hid (∀ z vz ys, Ext base W0 v z vz ys → Blk z b 22 28 m) := fun z vz ys h => h.block hO0 hB (by decide)
  have HP := hid (put7_any base 2 (mb m 11) v xs W0 (by omega) hO0 (by omega) hb0)
  have HPn : Hid (∀ z vz ys n k, Ext base W0 v z vz ys → ys.length ≤ 2147483648 → k ≤ 8 → Calls Tryz.prog 33 #[vz, .int .u64 n, .int .i64 (k : Nat)] z fun e w' => ∃ v', e = .returned v' ∧ Ext base W0 v w' v' (ys ++ dg n k)) := fun z vz ys n k hE hl hk => by
    refine (put7_any base k n vz ys z hk hE.own hl (Nat.le_trans hb0 hE.grown.size)).mono ?_
    rintro e w' ⟨v', rfl, h2⟩
    exact ⟨v', rfl, hE.trans h2⟩
  have HW0 := hid hW0
  have HB := hid hb
  have HB0 := hid hB
  clear hown hO0 hbase hb0 hW0 hB hb
  go_enter Tryz.func47, Tryz.ntmps47
  go_upto_region 1 with fail
  rw [← HW0.out, ← HB.out]
  clear HW0 HB
  go_upto_region 3 with fail
  go_loopw [5, 6] (fun x i wr => ∃ k : Nat, k ≤ 11 ∧ i = .int .i64 k ∧ x = .int .u64 (mb m k) ∧ wr = W0) (fun _ i _ => 11 - (intOf i).toNat)
  case atStart => exact ⟨0, by omega, rfl, rfl, rfl⟩
  case round =>
    obtain ⟨k, hk, rfl, rfl, hwr⟩ := hrel
    generalize wr = wx at *
    subst hwr
    by_cases hlt : k < 11
    · have hc := HB0.out.cell (11 + k) (by omega)
      have hbd := mb_bd m k
      have hd : decide ((k : Int) < 11) = true := decide_eq_true (by omega)
      have hw1 : IntKind.i64.wrap ((k : Int) + 1) = (k : Int) + 1 := by rw [IntKind.wrap_i64]; omega
      have hcv : IntKind.u64.wrap (k : Int) = (k : Int) := by rw [IntKind.wrap_u64]; omega
      obtain ⟨y, hy⟩ : ∃ y, y = m (11 + k) := ⟨_, rfl⟩
      rw [← hy] at hc
      by_cases hz : y = 0
      · have t : (y != 0) = false := by simp [hz]
        have HS := hid (mb_skip m k (by rw [← hy]; exact hz))
        clear hz hbd hy
        go_wp2
        go_roundw
        case rel => exact ⟨k + 1, by omega, by go_num, by rw [HS.out], by trivial⟩
        case measure => simp [intOf]; omega
      · have t : (y != 0) = true := by simp [hz]
        have HS := hid (mb_step m k (by rw [← hy]; exact hz))
        have HBi := hid (or_bit hbd.1 hbd.2 (show k < 64 by omega))
        clear hz hbd hy
        generalize mb m k = z at HBi HS ⊢
        go_wp2
        go_roundw
        case rel => exact ⟨k + 1, by omega, by go_num, by rw [HS.out, ← HBi.out], by trivial⟩
        case measure => simp [intOf]; omega
    · obtain rfl : k = 11 := by omega
      obtain ⟨y, hy⟩ : ∃ y, y = mb m 11 := ⟨_, rfl⟩
      rw [← hy] at HP
      rw [← hy]
      have HY := hid hy
      clear hy
      go_upto_region 9 with (go_at_call 33; refine (HP.out).mono ?_; rintro e w1 ⟨v1, rfl, hE1⟩; have HE1 := hid hE1; clear hE1 HP)
      go_loopw [0, 7] (fun u i wr => ∃ q : Nat, q ≤ 11 ∧ i = .int .i8 q ∧ Ext base wx v wr u (xs ++ (dg y 2 ++ fs m q))) (fun _ i _ => 11 - (intOf i).toNat)
      case atStart => exact ⟨0, by omega, rfl, by simpa [fs] using HE1.out⟩
      case round =>
        obtain ⟨q, hq, rfl, hE⟩ := hrel
        generalize wr = wy at *
        have HE := hid hE
        by_cases hlt2 : q < 11
        · have hB1 := HBl.out wy u0 _ hE
          have hcm := hB1.cell (11 + q) (by omega)
          have hcv := hB1.cell q (by omega)
          obtain ⟨xm, hxm⟩ : ∃ z, z = m (11 + q) := ⟨_, rfl⟩
          obtain ⟨xv, hxv⟩ : ∃ z, z = m q := ⟨_, rfl⟩
          rw [← hxm] at hcm
          rw [← hxv] at hcv
          have hd : decide ((q : Int) < 11) = true := decide_eq_true (by omega)
          have hw1 : IntKind.i8.wrap ((q : Int) + 1) = (q : Int) + 1 := by
            have : q = 0 ∨ q = 1 ∨ q = 2 ∨ q = 3 ∨ q = 4 ∨ q = 5 ∨ q = 6 ∨ q = 7 ∨ q = 8 ∨ q = 9 ∨ q = 10 := by omega
            rcases this with rfl | rfl | rfl | rfl | rfl | rfl | rfl | rfl | rfl | rfl | rfl <;> decide +kernel
          by_cases hz : xm = 0
          · have t : (xm != 0) = false := by simp [hz]
            have HS := hid (fs_skip m q (by rw [← hxm]; exact hz))
            clear hz hxm hxv hE hB1 hcv
            go_wp2
            go_roundw
            case rel => exact ⟨q + 1, by omega, by go_num, by rw [HS.out]; exact HE.out⟩
            case measure => simp [intOf]; omega
          · have t : (xm != 0) = true := by simp [hz]
            have HS := hid (fs_step m q (by rw [← hxm]; exact hz))
            rw [← hxm, ← hxv] at HS
            have hfl := fs_len m q
            obtain ⟨s, hs⟩ : ∃ s, s = sz q := ⟨_, rfl⟩
            have hs6 : s ≤ 6 := by rw [hs]; exact sz_le q
            rw [← hs] at HS
            have HSz : Hid (∀ z, Calls Tryz.prog 42 #[.int .i8 (q : Int)] z fun e w' => e = .returned (.int .i64 (s : Nat)) ∧ w' = z) := fun z => by rw [hs]; exact rsize_any q hlt2 z
            have hl1 : (xs ++ (dg y 2 ++ fs m q)).length ≤ 2147481000 := by simp only [List.length_append, dg_len]; omega
            have HP1 := hid (HPn.out wy.drew u0 _ xv s (hE.on ((Below.refl _ _).drew)) (by omega) (by omega))
            have HU : Hid (Hm7 b q xv xm wy.drew) := ⟨hcv, hcm⟩
            have HUn : Hid (∀ z vz ys, Ext base wx v z vz ys → Hm7 b q xv xm z ∧ Hm7 b q xv xm z.drew) := fun z vz ys h => by
              have hb' := HBl.out z vz ys h
              have c1 := hb'.cell q (by omega)
              have c2 := hb'.cell (11 + q) (by omega)
              rw [← hxv] at c1
              rw [← hxm] at c2
              exact ⟨⟨c1, c2⟩, ⟨c1, c2⟩⟩
            clear hz hxm hxv hE hB1 hs hcv
            go_upto_region 12 with fail
            refine wp_region_held_drew (S := Hm7 b q xv xm) (by kernel_rfl) HU.out (fun hHeld => ?_)
            refine wpAnyH_take (i := 0) (v := ?_) rfl (by kernel_rfl) (by kernel_rfl) (by kernel_rfl) (fun _ _ _ h => h) (Or.inl ⟨by rfl, ?_⟩) hHeld ?_
            rotate_left
            · intro w' hSw
              clear hSw
              go_simp
              first | done | with_reducible rfl
            simp only [Act.put, List.getElem_toArray, List.getElem_cons_zero, List.setIfInBounds_toArray, List.set_cons_zero, List.set_cons_succ]
            refine wpAnyH_take (i := 1) (v := ?_) rfl (by kernel_rfl) (by kernel_rfl) (by kernel_rfl) (fun _ _ _ h => h) (Or.inl ⟨by rfl, ?_⟩) hHeld ?_
            rotate_left
            · intro w' hSw
              clear hSw
              go_simp
              first | done | with_reducible rfl
            simp only [Act.put, List.getElem_toArray, List.getElem_cons_succ, List.getElem_cons_zero, List.setIfInBounds_toArray, List.set_cons_zero, List.set_cons_succ]
            refine wpAnyH_take (i := 2) (v := ?_) rfl (by kernel_rfl) (by kernel_rfl) (by kernel_rfl) (fun _ _ _ h => h) (Or.inl ⟨by rfl, ?_⟩) hHeld ?_
            rotate_left
            · intro w' hSw
              clear hSw
              go_simp
              first | done | with_reducible rfl
            simp only [Act.put, List.getElem_toArray, List.getElem_cons_succ, List.getElem_cons_zero, List.setIfInBounds_toArray, List.set_cons_zero, List.set_cons_succ]
            refine wpAnyH_take (i := 3) (v := ?_) rfl (by kernel_rfl) (by kernel_rfl) (by kernel_rfl) (fun _ _ _ h => h) (Or.inl ⟨by rfl, ?_⟩) hHeld ?_
            rotate_left
            · intro w' hSw
              clear hSw
              go_simp
              rw [if_pos (show (q : Int) < 11 by omega)]
            simp only [Act.put, List.getElem_toArray, List.getElem_cons_succ, List.getElem_cons_zero, List.setIfInBounds_toArray, List.set_cons_zero, List.set_cons_succ]
            refine wpAnyH_take (i := 4) (v := ?_) rfl (by kernel_rfl) (by kernel_rfl) (by kernel_rfl) (fun _ _ _ h => h) (Or.inl ⟨by rfl, ?_⟩) hHeld ?_
            rotate_left
            · intro w' hSw
              have cv := hSw.cv
              clear hSw
              go_simp
              first | done | with_reducible rfl
            simp only [Act.put, List.getElem_toArray, List.getElem_cons_succ, List.getElem_cons_zero, List.setIfInBounds_toArray, List.set_cons_zero, List.set_cons_succ]
            refine wpAnyH_take (i := 5) (v := ?_) rfl (by kernel_rfl) (by kernel_rfl) (by kernel_rfl) (fun _ _ _ h => h) (Or.inl ⟨by rfl, ?_⟩) hHeld ?_
            rotate_left
            · intro w' hSw
              clear hSw
              go_simp
              first | done | with_reducible rfl
            simp only [Act.put, List.getElem_toArray, List.getElem_cons_succ, List.getElem_cons_zero, List.setIfInBounds_toArray, List.set_cons_zero, List.set_cons_succ]
            refine wpAnyH_ready (rs := [6]) (by kernel_rfl) (by simp) ?_
            refine AllReadyH.cons rfl (fun K hK => ?_) AllReadyH.nil
            refine stepFn 42 (.func 42) [.tmp 39] _ [.int .i8 (q : Int)] rfl rfl rfl rfl (fun _ => rfl) _ (HSz.out _) ?_
            rintro r5 w5 ⟨rfl, hw5⟩
            subst hw5
            refine Or.inl ⟨_, rfl, ?_⟩
            refine hK.out _ _ HU.out (fun hHeld => ?_)
            clear hK K
            simp only [Act.put, List.getElem_toArray, List.getElem_cons_succ, List.getElem_cons_zero, List.setIfInBounds_toArray, List.set_cons_zero, List.set_cons_succ]
            refine wpAnyH_ready (rs := [7]) (by kernel_rfl) (by simp) ?_
            refine AllReadyH.cons rfl (fun K hK => ?_) AllReadyH.nil
            refine stepFn 33 (.func 33) [.tmp 34, .tmp 38, .tmp 40] _ [u0, .int .u64 xv, .int .i64 (s : Int)] rfl rfl rfl rfl (fun _ => rfl) _ HP1.out ?_
            rintro r6 w6 ⟨v6, rfl, hE6⟩
            refine Or.inl ⟨_, rfl, ?_⟩
            have HE6 := hid hE6
            have HU6 := hid (HUn.out w6 v6 _ hE6)
            refine hK.out _ _ HU6.out.1 (fun hHeld => ?_)
            clear hK K
            simp only [Act.put, List.getElem_toArray, List.getElem_cons_succ, List.getElem_cons_zero, List.setIfInBounds_toArray, List.set_cons_zero, List.set_cons_succ]
            clear hE6 HP1
            have hHeld := HU6.out.1
            refine wpAnyH_take (i := 8) (v := ?_) rfl (by kernel_rfl) (by kernel_rfl) (by kernel_rfl) (fun _ _ _ h => h) (Or.inl ⟨by rfl, ?_⟩) hHeld ?_
            rotate_left
            · intro w' hSw
              clear hSw
              go_simp
              first | done | with_reducible rfl
            simp only [Act.put, List.getElem_toArray, List.getElem_cons_succ, List.getElem_cons_zero, List.setIfInBounds_toArray, List.set_cons_zero]
            refine wpAnyH_done (by kernel_rfl) ?_ _
            have HP2 := hid (HPn.out w6.drew v6 _ xm s (HE6.out.on ((Below.refl _ _).drew)) (by simp only [List.length_append, dg_len] at hl1 ⊢; omega) (by omega))
            go_upto_region 13 with fail
            refine wp_region_held_drew (S := Hm7 b q xv xm) (by kernel_rfl) HU6.out.2 (fun hHeld => ?_)
            refine wpAnyH_take (i := 0) (v := ?_) rfl (by kernel_rfl) (by kernel_rfl) (by kernel_rfl) (fun _ _ _ h => h) (Or.inl ⟨by rfl, ?_⟩) hHeld ?_
            rotate_left
            · intro w' hSw
              clear hSw
              go_simp
              first | done | with_reducible rfl
            simp only [Act.put, List.getElem_toArray, List.getElem_cons_zero, List.setIfInBounds_toArray, List.set_cons_zero, List.set_cons_succ]
            refine wpAnyH_take (i := 1) (v := ?_) rfl (by kernel_rfl) (by kernel_rfl) (by kernel_rfl) (fun _ _ _ h => h) (Or.inl ⟨by rfl, ?_⟩) hHeld ?_
            rotate_left
            · intro w' hSw
              clear hSw
              go_simp
              first | done | with_reducible rfl
            simp only [Act.put, List.getElem_toArray, List.getElem_cons_succ, List.getElem_cons_zero, List.setIfInBounds_toArray, List.set_cons_zero, List.set_cons_succ]
            refine wpAnyH_take (i := 2) (v := ?_) rfl (by kernel_rfl) (by kernel_rfl) (by kernel_rfl) (fun _ _ _ h => h) (Or.inl ⟨by rfl, ?_⟩) hHeld ?_
            rotate_left
            · intro w' hSw
              clear hSw
              go_simp
              first | done | with_reducible rfl
            simp only [Act.put, List.getElem_toArray, List.getElem_cons_succ, List.getElem_cons_zero, List.setIfInBounds_toArray, List.set_cons_zero, List.set_cons_succ]
            refine wpAnyH_take (i := 3) (v := ?_) rfl (by kernel_rfl) (by kernel_rfl) (by kernel_rfl) (fun _ _ _ h => h) (Or.inl ⟨by rfl, ?_⟩) hHeld ?_
            rotate_left
            · intro w' hSw
              clear hSw
              go_simp
              rw [if_pos (show (q : Int) < 11 by omega)]
            simp only [Act.put, List.getElem_toArray, List.getElem_cons_succ, List.getElem_cons_zero, List.setIfInBounds_toArray, List.set_cons_zero, List.set_cons_succ]
            refine wpAnyH_take (i := 4) (v := ?_) rfl (by kernel_rfl) (by kernel_rfl) (by kernel_rfl) (fun _ _ _ h => h) (Or.inl ⟨by rfl, ?_⟩) hHeld ?_
            rotate_left
            · intro w' hSw
              have cm := hSw.cm
              clear hSw
              go_simp
              first | done | with_reducible rfl
            simp only [Act.put, List.getElem_toArray, List.getElem_cons_succ, List.getElem_cons_zero, List.setIfInBounds_toArray, List.set_cons_zero, List.set_cons_succ]
            refine wpAnyH_take (i := 5) (v := ?_) rfl (by kernel_rfl) (by kernel_rfl) (by kernel_rfl) (fun _ _ _ h => h) (Or.inl ⟨by rfl, ?_⟩) hHeld ?_
            rotate_left
            · intro w' hSw
              clear hSw
              go_simp
              first | done | with_reducible rfl
            simp only [Act.put, List.getElem_toArray, List.getElem_cons_succ, List.getElem_cons_zero, List.setIfInBounds_toArray, List.set_cons_zero, List.set_cons_succ]
            refine wpAnyH_ready (rs := [6]) (by kernel_rfl) (by simp) ?_
            refine AllReadyH.cons rfl (fun K hK => ?_) AllReadyH.nil
            refine stepFn 42 (.func 42) [.tmp 47] _ [.int .i8 (q : Int)] rfl rfl rfl rfl (fun _ => rfl) _ (HSz.out _) ?_
            rintro r5 w5 ⟨rfl, hw5⟩
            subst hw5
            refine Or.inl ⟨_, rfl, ?_⟩
            refine hK.out _ _ HU6.out.2 (fun hHeld => ?_)
            clear hK K
            simp only [Act.put, List.getElem_toArray, List.getElem_cons_succ, List.getElem_cons_zero, List.setIfInBounds_toArray, List.set_cons_zero, List.set_cons_succ]
            refine wpAnyH_ready (rs := [7]) (by kernel_rfl) (by simp) ?_
            refine AllReadyH.cons rfl (fun K hK => ?_) AllReadyH.nil
            refine stepFn 33 (.func 33) [.tmp 42, .tmp 46, .tmp 48] _ [v6, .int .u64 xm, .int .i64 (s : Int)] rfl rfl rfl rfl (fun _ => rfl) _ HP2.out ?_
            rintro r6 w7 ⟨v7, rfl, hE7⟩
            refine Or.inl ⟨_, rfl, ?_⟩
            have HE7 := hid hE7
            have HU7 := hid (HUn.out w7 v7 _ hE7)
            refine hK.out _ _ HU7.out.1 (fun hHeld => ?_)
            clear hK K
            simp only [Act.put, List.getElem_toArray, List.getElem_cons_succ, List.getElem_cons_zero, List.setIfInBounds_toArray, List.set_cons_zero, List.set_cons_succ]
            clear hE7 HP2
            have hHeld := HU7.out.1
            refine wpAnyH_take (i := 8) (v := ?_) rfl (by kernel_rfl) (by kernel_rfl) (by kernel_rfl) (fun _ _ _ h => h) (Or.inl ⟨by rfl, ?_⟩) hHeld ?_
            rotate_left
            · intro w' hSw
              clear hSw
              go_simp
              first | done | with_reducible rfl
            simp only [Act.put, List.getElem_toArray, List.getElem_cons_succ, List.getElem_cons_zero, List.setIfInBounds_toArray, List.set_cons_zero]
            refine wpAnyH_done (by kernel_rfl) ?_ _
            go_wp2
            go_roundw
            case rel => exact ⟨q + 1, by omega, by go_num, by rw [HS.out]; simpa [List.append_assoc] using HE7.out⟩
            case measure => simp [intOf]; omega
        · obtain rfl : q = 11 := by omega
          clear hE
          go_wp2
          go_ret
          refine ⟨u0, rfl, ?_⟩
          have := HFin.out wy u0 _ HE.out
          rw [HY.out] at this
          exact this
end Go.Proofs.YtllbbbfkdgjffaaGreatDoor
namespace Go.Proofs.YtllbbbfkdgjffaaGreatDoor
open Go.RowKit

section
variable {S : Nat → Prop} {c m : Nat} {xs zs : List Int} {w w' w2 : World} {e : Ending}
theorem WrP.get (h : WrP S c m xs zs true w e w') : e = .returned (.tuple #[]) ∧ Only (OS c S) w w' ∧ Wt S w' c m (xs ++ zs) := by
  obtain ⟨h1, ⟨_, h2, h3⟩ | ⟨h2, _⟩⟩ := h
  · exact ⟨h2, h1, h3⟩
  · cases h2
theorem WrP.bad (h : WrP S c m xs zs false w e w') : e = .panicked PC ∧ Only (OS c S) w w' := by
  obtain ⟨h1, ⟨h2, _⟩ | ⟨_, h2⟩⟩ := h
  · cases h2
  · exact ⟨h2, h1⟩
theorem WrP.from {b : Bool} (ho : Only (OS c S) w w') (h : WrP S c m xs zs b w' e w2) : WrP S c m xs zs b w e w2 := ⟨ho.trans h.1, h.2⟩
end

theorem dg_wrap (n : Int) (k : Nat) (hk : k ≤ 8) : dg (IntKind.u64.wrap n) k = dg n k := by
  rw [IntKind.wrap_u64]
  have := dg_add (n % 18446744073709551616) (n / 18446744073709551616) 8 k hk
  rw [pw8, Int.emod_add_mul_ediv] at this
  exact this.symm

/-- A rule in a block: its cells. -/
theorem rl_cells {w : World} {g : Nat} {r : Rl} {u : Value} {t : TypeId} (h : w.heap[g]? = some (.cells (rlc r u) t (0, 0))) : w.cell? ⟨g, 0, none⟩ = some (.int .i64 r.rk) ∧ w.cell? ⟨g, 23, none⟩ = some u ∧ w.cell? ⟨g, 24, none⟩ = some (.int .u64 r.ck) ∧ Hid (w.rangeAt g 1 (row 22 r.mt).toList) := by
  refine ⟨?_, ?_, ?_, range_of fun i hi => ?_⟩
  · rw [cell_of_row w g 0 _ _ _ h]; exact rlc_rk r u
  · rw [cell_of_row w g 23 _ _ _ h]; exact rlc_cp r u
  · rw [cell_of_row w g 24 _ _ _ h]; exact rlc_ck r u
  · rw [row_size] at hi
    rw [cell_of_row w g (1 + i) _ _ _ h, rlc_mt r u i hi, row_at 22 r.mt i hi]

section
variable {S : Nat → Prop} {c m : Nat}
set_option maxHeartbeats 1600000 in
set_option maxRecDepth 100000 in
theorem wrule_any {T : Nat → Prop} {w : World} {xs : List Int} (hW : Wt S w c m xs) (r : Rl) (u : Value) (hu : Cps T w u r.cp) (hf : r.Fit) (hT : ∀ k, T k → ¬ S k ∧ k ≠ c) :
    Calls Tryz.prog 68 #[.pointer (some ⟨c, 0, none⟩), .agg (rlc r u)] w (WrP S c m xs (encRl r) (okRl r) w) := by
  have hb1 : Below w.heap.size w (w.alloc (.cells (rlc r u) 31)) := (Below.refl _ _).alloc (Nat.le_refl _) _
  have hg1 : (w.alloc (.cells (rlc r u) 31)).heap[w.heap.size]? = some (.cells (rlc r u) 31 (0, 0)) := heap_alloc_new _ _
  have hs1 : (w.alloc (.cells (rlc r u) 31)).heap.size = w.heap.size + 1 := by simp
  have HG := hid hW.gd
  have HW1 := hid (hW.hide hb1)
  have hu1 : Cps T (w.alloc (.cells (rlc r u) 31)) u r.cp := Cps.carry (fun k hk h => ⟨h, heap_alloc_old _ _ hk⟩) hu
  obtain ⟨ua, uc, hue, -⟩ := hu.form
  obtain ⟨W, HWe⟩ : ∃ W, Hid (w.alloc (.cells (rlc r u) 31) = W) := ⟨_, rfl⟩
  rw [HWe.out] at hb1 hg1 hs1 HW1 hu1
  obtain ⟨S1, HS1⟩ : ∃ S1, Hid (Sx S w.heap.size W.heap.size = S1) := ⟨_, rfl⟩
  rw [HS1.out] at HW1
  have HC : Hid (∀ w', Only (OS c S1) W w' → w'.cell? ⟨w.heap.size, 0, none⟩ = some (.int .i64 r.rk) ∧ w'.cell? ⟨w.heap.size, 23, none⟩ = some u ∧ w'.cell? ⟨w.heap.size, 24, none⟩ = some (.int .u64 r.ck) ∧ Hid (w'.rangeAt w.heap.size 1 (row 22 r.mt).toList)) := by
    show ∀ _, _
    intro w' ho
    rw [← HS1.out] at ho
    refine rl_cells (t := 31) ?_
    rw [only_mid HG.out ho _ (Nat.le_refl _) (by omega)]
    exact hg1
  have HMt : Hid (∀ w' ys, Only (OS c S1) W w' → Wt S1 w' c m ys → Calls Tryz.prog 102 #[.pointer (some ⟨c, 0, none⟩), mv r.mt] w' (WrP S1 c m ys (encMt r.mt) (mOk r.mt) W)) := fun w' ys ho h => (wmatch_any h r.mt hf.2.1).mono fun e w2 hq => hq.from ho
  have HCp : Hid (∀ w' ys, Only (OS c S1) W w' → Wt S1 w' c m ys → Calls Tryz.prog 103 #[.pointer (some ⟨c, 0, none⟩), u, .func (.func 104) #[] #[]] w' (WrP S1 c m ys (encCs r.cp) (r.cp.all okCp) W)) := by
    show ∀ _, _
    intro w' ys ho h
    have hT1 : ∀ k, T k → ¬ S1 k ∧ k ≠ c := fun k hk => ⟨fun hs => (hT k hk).1 (by rw [← HS1.out] at hs; exact hs.1), (hT k hk).2⟩
    exact (wlAA_any h u r.cp (Cps.carry (fun k _ hk => ⟨hk, ho.block k (by rintro (e | e); exact (hT1 k hk).2 e; exact (hT1 k hk).1 e)⟩) hu1) hT1).mono fun e w2 hq => hq.from ho
  have HEnd : Hid (∀ w', Only (OS c S1) W w' → Only (OS c S) w w') := fun w' ho => only_back HG.out hb1 (by rw [← HS1.out] at ho; exact ho)
  have HEnd2 : Hid (∀ w' ys, Only (OS c S1) W w' → Wt S1 w' c m ys → Wt S w' c m ys) := fun w' ys ho h => by
    rw [← HS1.out] at h
    exact h.back HG.out (HEnd.out w' ho).size
  have hfr := hf.1
  have hck := hf.2.2.2.2
  have HDg := hid (dg_wrap r.rk 4 (by omega))
  have hok : okRl r = (okRk r.rk && (mOk r.mt && r.cp.all okCp)) := rfl
  have HEn : Hid (encRl r = dg r.rk 4 ++ (dg r.ck 8 ++ (encMt r.mt ++ encCs r.cp))) := rfl
  subst hue
  clear hW hb1 hg1 hs1 hu hu1 hf
  obtain ⟨q0, q1, q2, Q3⟩ := HC.out W (Only.refl _ _)
  have HOk := hid hok
  clear hok
  cases h1 : okRk r.rk with
  | false =>
    rw [h1] at HOk
    have hrk : ¬ (-2147483648 ≤ r.rk ∧ r.rk ≤ 2147483647) := by
      have := of_decide_eq_false h1
      exact this
    clear h1 HMt HCp
    generalize r.rk = x at q0 hrk hfr
    by_cases ha : -2147483648 ≤ x
    · have hb : ¬ x ≤ 2147483647 := fun h => hrk ⟨ha, h⟩
      have d2 : decide (x ≤ 2147483647) = false := by simpa using hb
      clear hrk
      go_enter Tryz.func68, Tryz.ntmps68
      go_upto_region 1 with fail
      rw [HWe.out]
      go_wp2_with (go_at_call 30; refine (must_false _).mono ?_; rintro e w' ⟨rfl, hw⟩; rw [hw]; clear hw w')
      refine ⟨rfl, ?_⟩
      rw [HOk.out]
      exact WrP.no (HEnd.out W (Only.refl _ _))
    · have d1 : decide (-2147483648 ≤ x) = false := by simpa using ha
      clear hrk
      go_enter Tryz.func68, Tryz.ntmps68
      go_upto_region 1 with fail
      rw [HWe.out]
      go_wp2_with (go_at_call 30; refine (must_false _).mono ?_; rintro e w' ⟨rfl, hw⟩; rw [hw]; clear hw w')
      refine ⟨rfl, ?_⟩
      rw [HOk.out]
      exact WrP.no (HEnd.out W (Only.refl _ _))
  | true =>
    obtain ⟨ha, hb⟩ := of_decide_eq_true (show okRk r.rk = true from h1)
    rw [h1, Bool.true_and] at HOk
    clear h1
    cases h2 : mOk r.mt with
    | false =>
      rw [h2] at HMt HOk
      clear h2 HCp
      go_enter Tryz.func68, Tryz.ntmps68
      go_upto_region 1 with fail
      rw [HWe.out]
      go_wp2_with (first
        | (go_at_call 30; refine (must_true _).mono ?_; rintro e w' ⟨rfl, hw⟩; rw [hw]; clear hw w')
        | (refine ldMid 28 (.tmp 23) rfl rfl _ 1 rfl (row 22 r.mt) _ Tryz.underlying28 rfl (sizeMt r.mt) T3.out ?_)
        | (go_at_call 102; refine (HMt.out _ _ H2.out.1 H2.out.2).mono ?_; intro e w5 h9; obtain ⟨rfl, hq⟩ := h9.bad; have H3 := hid hq; clear hq h9)
        | (go_at_call 32; refine (wnumber_on H1.out.1 H1.out.2 8 r.ck (by omega) (by omega)).mono ?_; rintro e w4 ⟨rfl, hq⟩; obtain ⟨t0, t1, t2, T3⟩ := HC.out w4 hq.1; have H2 := hid hq; clear hq)
        | (go_at_call 32; refine (wnumber_on (Only.refl _ _) HW1.out 4 (IntKind.u64.wrap r.rk) (by omega) (by omega)).mono ?_; rintro e w3 ⟨rfl, hq⟩; obtain ⟨s0, s1, s2, S3⟩ := HC.out w3 hq.1; have H1 := hid hq; clear hq))
      refine ⟨rfl, ?_⟩
      rw [HOk.out]
      exact WrP.no (HEnd.out _ H3.out)
    | true =>
      rw [h2, Bool.true_and] at HOk
      rw [h2] at HMt
      clear h2
      cases h3 : r.cp.all okCp with
      | false =>
        rw [h3] at HCp HOk
        clear h3
        go_enter Tryz.func68, Tryz.ntmps68
        go_upto_region 1 with fail
        rw [HWe.out]
        go_wp2_with (first
          | (go_at_call 30; refine (must_true _).mono ?_; rintro e w' ⟨rfl, hw⟩; rw [hw]; clear hw w')
          | (refine ldMid 28 (.tmp 23) rfl rfl _ 1 rfl (row 22 r.mt) _ Tryz.underlying28 rfl (sizeMt r.mt) T3.out ?_)
          | (go_at_call 103; refine (HCp.out _ _ H3.out.1 H3.out.2).mono ?_; intro e w6 h9; obtain ⟨rfl, hq⟩ := h9.bad; have H4 := hid hq; clear hq h9)
          | (go_at_call 102; refine (HMt.out _ _ H2.out.1 H2.out.2).mono ?_; intro e w5 h9; obtain ⟨rfl, hq⟩ := h9.get; obtain ⟨v0, v1, v2, V3⟩ := HC.out w5 hq.1; have H3 := hid hq; clear hq h9)
          | (go_at_call 32; refine (wnumber_on H1.out.1 H1.out.2 8 r.ck (by omega) (by omega)).mono ?_; rintro e w4 ⟨rfl, hq⟩; obtain ⟨t0, t1, t2, T3⟩ := HC.out w4 hq.1; have H2 := hid hq; clear hq)
          | (go_at_call 32; refine (wnumber_on (Only.refl _ _) HW1.out 4 (IntKind.u64.wrap r.rk) (by omega) (by omega)).mono ?_; rintro e w3 ⟨rfl, hq⟩; obtain ⟨s0, s1, s2, S3⟩ := HC.out w3 hq.1; have H1 := hid hq; clear hq))
        refine ⟨rfl, ?_⟩
        rw [HOk.out]
        exact WrP.no (HEnd.out _ H4.out)
      | true =>
        rw [h3] at HCp HOk
        clear h3
        go_enter Tryz.func68, Tryz.ntmps68
        go_upto_region 1 with fail
        rw [HWe.out]
        go_wp2_with (first
          | (go_at_call 30; refine (must_true _).mono ?_; rintro e w' ⟨rfl, hw⟩; rw [hw]; clear hw w')
          | (refine ldMid 28 (.tmp 23) rfl rfl _ 1 rfl (row 22 r.mt) _ Tryz.underlying28 rfl (sizeMt r.mt) T3.out ?_)
          | (go_at_call 103; refine (HCp.out _ _ H3.out.1 H3.out.2).mono ?_; intro e w6 h9; obtain ⟨rfl, hq⟩ := h9.get; have H4 := hid hq; clear hq h9)
          | (go_at_call 102; refine (HMt.out _ _ H2.out.1 H2.out.2).mono ?_; intro e w5 h9; obtain ⟨rfl, hq⟩ := h9.get; obtain ⟨v0, v1, v2, V3⟩ := HC.out w5 hq.1; have H3 := hid hq; clear hq h9)
          | (go_at_call 32; refine (wnumber_on H1.out.1 H1.out.2 8 r.ck (by omega) (by omega)).mono ?_; rintro e w4 ⟨rfl, hq⟩; obtain ⟨t0, t1, t2, T3⟩ := HC.out w4 hq.1; have H2 := hid hq; clear hq)
          | (go_at_call 32; refine (wnumber_on (Only.refl _ _) HW1.out 4 (IntKind.u64.wrap r.rk) (by omega) (by omega)).mono ?_; rintro e w3 ⟨rfl, hq⟩; obtain ⟨s0, s1, s2, S3⟩ := HC.out w3 hq.1; have H1 := hid hq; clear hq))
        first | go_end0 | refine bodyPost_ret (results_none rfl _ _ _) rfl ?_
        rw [HOk.out]
        have hfin := H4.out.2
        rw [HDg.out] at hfin
        simp only [List.append_assoc] at hfin
        exact WrP.yes (HEnd.out _ H4.out.1) (HEnd2.out _ _ H4.out.1 hfin)

/-- A held rule in a block: its cells. -/
theorem hd_cells {w : World} {g : Nat} {h : Hd} {u : Value} {t : TypeId} (hg : w.heap[g]? = some (.cells (hdc h u) t (0, 0))) : w.cell? ⟨g, 25, none⟩ = some (.int .u64 h.pk) ∧ w.cell? ⟨g, 26, none⟩ = some (.int .u64 h.bt) ∧ Hid (w.rangeAt g 0 (rlc h.r u).toList) := by
  refine ⟨?_, ?_, range_of fun i hi => ?_⟩
  · rw [cell_of_row w g 25 _ _ _ hg]; exact hdc_pk h u
  · rw [cell_of_row w g 26 _ _ _ hg]; exact hdc_bt h u
  · rw [rlc_size] at hi
    rw [Nat.zero_add, cell_of_row w g i _ _ _ hg, hdc_rl h u i hi]
set_option maxHeartbeats 1600000 in
set_option maxRecDepth 100000 in
theorem wheld_any {T : Nat → Prop} {w : World} {xs : List Int} (hW : Wt S w c m xs) (h : Hd) (u : Value) (hu : Cps T w u h.r.cp) (hf : h.Fit) (hT : ∀ k, T k → ¬ S k ∧ k ≠ c) :
    Calls Tryz.prog 116 #[.pointer (some ⟨c, 0, none⟩), .agg (hdc h u)] w (WrP S c m xs (encHd h) (okHd h) w) := by
  have hb1 : Below w.heap.size w (w.alloc (.cells (hdc h u) 57)) := (Below.refl _ _).alloc (Nat.le_refl _) _
  have hg1 : (w.alloc (.cells (hdc h u) 57)).heap[w.heap.size]? = some (.cells (hdc h u) 57 (0, 0)) := heap_alloc_new _ _
  have hs1 : (w.alloc (.cells (hdc h u) 57)).heap.size = w.heap.size + 1 := by simp
  have HG := hid hW.gd
  have HW1 := hid (hW.hide hb1)
  have hu1 : Cps T (w.alloc (.cells (hdc h u) 57)) u h.r.cp := Cps.carry (fun k hk h => ⟨h, heap_alloc_old _ _ hk⟩) hu
  obtain ⟨W, HWe⟩ : ∃ W, Hid (w.alloc (.cells (hdc h u) 57) = W) := ⟨_, rfl⟩
  rw [HWe.out] at hb1 hg1 hs1 HW1 hu1
  obtain ⟨S1, HS1⟩ : ∃ S1, Hid (Sx S w.heap.size W.heap.size = S1) := ⟨_, rfl⟩
  rw [HS1.out] at HW1
  have HC : Hid (∀ w', Only (OS c S1) W w' → w'.cell? ⟨w.heap.size, 25, none⟩ = some (.int .u64 h.pk) ∧ w'.cell? ⟨w.heap.size, 26, none⟩ = some (.int .u64 h.bt) ∧ Hid (w'.rangeAt w.heap.size 0 (rlc h.r u).toList)) := by
    show ∀ _, _
    intro w' ho
    rw [← HS1.out] at ho
    refine hd_cells (t := 57) ?_
    rw [only_mid HG.out ho _ (Nat.le_refl _) (by omega)]
    exact hg1
  have HR : Hid (Calls Tryz.prog 68 #[.pointer (some ⟨c, 0, none⟩), .agg (rlc h.r u)] W (WrP S1 c m xs (encRl h.r) (okHd h) W)) := wrule_any HW1.out h.r u hu1 hf.1 fun k hk => ⟨fun hs => (hT k hk).1 (by rw [← HS1.out] at hs; exact hs.1), (hT k hk).2⟩
  have HEnd : Hid (∀ w', Only (OS c S1) W w' → Only (OS c S) w w') := fun w' ho => only_back HG.out hb1 (by rw [← HS1.out] at ho; exact ho)
  have HEnd2 : Hid (∀ w' ys, Only (OS c S1) W w' → Wt S1 w' c m ys → Wt S w' c m ys) := fun w' ys ho h => by
    rw [← HS1.out] at h
    exact h.back HG.out (HEnd.out w' ho).size
  have hpk := hf.2.1
  have hbt := hf.2.2
  have HEn : Hid (encHd h = encRl h.r ++ (dg h.pk 8 ++ dg h.bt 8)) := rfl
  clear hW hb1 hg1 hs1 hu hu1 hf
  obtain ⟨q0, q1, Q3⟩ := HC.out W (Only.refl _ _)
  cases h1 : okHd h with
  | false =>
    rw [h1] at HR
    clear h1
    go_enter Tryz.func116, Tryz.ntmps116
    go_upto_region 1 with fail
    rw [HWe.out]
    go_wp2_with (first
      | (refine ldMid 31 (.tmp 5) rfl rfl _ 0 rfl (rlc h.r u) _ Tryz.underlying31 rfl (sizeRl h.r u) Q3.out ?_)
      | (go_at_call 68; refine (HR.out).mono ?_; intro e w3 h9; obtain ⟨rfl, hq⟩ := h9.bad; have H1 := hid hq; clear hq h9))
    exact ⟨rfl, WrP.no (HEnd.out _ H1.out)⟩
  | true =>
    rw [h1] at HR
    clear h1
    go_enter Tryz.func116, Tryz.ntmps116
    go_upto_region 1 with fail
    rw [HWe.out]
    go_wp2_with (first
      | (refine ldMid 31 (.tmp 5) rfl rfl _ 0 rfl (rlc h.r u) _ Tryz.underlying31 rfl (sizeRl h.r u) Q3.out ?_)
      | (go_at_call 68; refine (HR.out).mono ?_; intro e w3 h9; obtain ⟨rfl, hq⟩ := h9.get; obtain ⟨s0, s1, S3⟩ := HC.out w3 hq.1; have H1 := hid hq; clear hq h9)
      | (go_at_call 32; refine (wnumber_on H2.out.1 H2.out.2 8 h.bt (by omega) (by omega)).mono ?_; rintro e w5 ⟨rfl, hq⟩; have H3 := hid hq; clear hq)
      | (go_at_call 32; refine (wnumber_on H1.out.1 H1.out.2 8 h.pk (by omega) (by omega)).mono ?_; rintro e w4 ⟨rfl, hq⟩; obtain ⟨t0, t1, T3⟩ := HC.out w4 hq.1; have H2 := hid hq; clear hq))
    first | go_end0 | refine bodyPost_ret (results_none rfl _ _ _) rfl ?_
    have hfin := H3.out.2
    simp only [List.append_assoc] at hfin
    exact WrP.yes (HEnd.out _ H3.out.1) (HEnd2.out _ _ H3.out.1 hfin)
end
end Go.Proofs.YtllbbbfkdgjffaaGreatDoor
