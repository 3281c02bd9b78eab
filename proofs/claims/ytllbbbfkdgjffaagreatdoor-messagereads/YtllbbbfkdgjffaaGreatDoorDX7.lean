/-
  Proved here: the document's Decode at one kind of type (7): it answers what the program's does. Condition: the bytes' memory is old.
-/
import Derived.Test.YtllbbbfkdgjffaaGreatDoorDX
namespace Go.Proofs.YtllbbbfkdgjffaaGreatDoor
open Go.RowKit

set_option maxHeartbeats 6400000 in
set_option maxRecDepth 100000 in
theorem rdecode_7 {T : Nat → Prop} (bs : List Int) (v : Value) (w : World) (h : SlC T w v bs) (hT : ∀ x, T x → x < w.heap.size) (hty : tyOf bs = 7) :
    Calls Tryz.prog 12 #[v] w (DeP w bs) := by
  have HTY := hid hty
  clear hty
  obtain ⟨W1, hW1⟩ : ∃ W, W = w.alloc (.cells (msc zMs zSl) 37) := ⟨_, rfl⟩
  have hb1 : Below w.heap.size w W1 := by rw [hW1]; exact (Below.refl _ _).alloc (Nat.le_refl _) _
  have hz1 : W1.heap.size = w.heap.size + 1 := by rw [hW1]; simp
  have hm1 : MB W1 w.heap.size zMs zSl := by rw [hW1]; exact heap_alloc_new _ _
  have hs1 : SlC T W1 v bs := h.carry fun k hk hT => ⟨hT, hb1.block k hk⟩
  obtain ⟨ao, cap, rfl, hcap, hlen, hB, hno, h6⟩ := id hs1
  have HW1 := hid hW1
  have HA := hid (And.intro hb1 (And.intro hz1 (And.intro hm1 hs1)))
  have HB := hid hB
  have HT := hid hT
  have H6 := hid h6
  clear h hb1 hz1 hm1 hs1 hT hno h6 hB hW1
  go_enter Tryz.func12, Tryz.ntmps12
  by_cases h8 : bs.length < 8
  · have hd : decide (((bs.length : Nat) : Int) < 8) = true := decide_eq_true (by omega)
    have HD := hid (de_short (bs := bs) (decide_eq_true (Or.inl h8)))
    clear h8
    go_upto_region 1 with fail
    rw [← zero_ms0, ← HW1.out]
    have hrs := HA.out.2.2.1
    go_wp2_with (first
      | (refine bldMs rfl rfl ?_)
      | (refine stRow 37 (.tmp 2) (.tmp 16) rfl rfl w.heap.size (msc zMs zSl) rfl rfl 37 (msc zMs zSl) hrs (sizeMs _ _) rfl zms_one ?_))
    have f1 : MB (W1.setRow w.heap.size (msc zMs zSl)) w.heap.size zMs zSl := setRow_heap W1 w.heap.size _ _ _ _ hrs
    refine bodyPost_ret (v := .tuple #[.agg (msc zMs zSl), .int .i64 51]) (resDe _ _ w.heap.size _ _ _ rfl rfl f1) rfl ?_
    exact deP_zero (below_setRow HA.out.1 (by omega) _) HD.out.1 HD.out.2
  · have hd : decide (((bs.length : Nat) : Int) < 8) = false := decide_eq_false (by omega)
    have hGet := get7_any 2 2 _ bs W1 HA.out.2.2.2 (by omega) (by omega)
    obtain ⟨al, hal⟩ : ∃ x, x = fld bs 2 2 := ⟨_, rfl⟩
    rw [show num ((bs.drop 2).take 2) = al from hal.symm] at hGet
    have hbd := fld_bd HB.out 2 2
    rw [← hal, pw2] at hbd
    have HGet := hid hGet
    have HAl := hid hal
    obtain ⟨al0, al1⟩ := hbd
    clear hGet hal
    go_upto_region 1 with fail
    rw [← zero_ms0, ← HW1.out]
    by_cases hsh : (bs.length : Int) < al
    · have hd2 : decide (((bs.length : Nat) : Int) < al) = true := decide_eq_true hsh
      have HD := hid (de_short (bs := bs) (decide_eq_true (Or.inr (by rw [← HAl.out]; exact hsh))))
      have hrs := HA.out.2.2.1
      clear hsh
      go_wp2_with (first
        | (go_at_call 22; refine (HGet.out).mono ?_; rintro e z ⟨rfl, hz⟩; rw [hz]; clear hz z)
        | (refine bldMs rfl rfl ?_)
        | (refine stRow 37 (.tmp 2) (.tmp 24) rfl rfl w.heap.size (msc zMs zSl) rfl rfl 37 (msc zMs zSl) hrs (sizeMs _ _) rfl zms_one ?_))
      have f1 : MB (W1.setRow w.heap.size (msc zMs zSl)) w.heap.size zMs zSl := setRow_heap W1 w.heap.size _ _ _ _ hrs
      refine bodyPost_ret (v := .tuple #[.agg (msc zMs zSl), .int .i64 51]) (resDe _ _ w.heap.size _ _ _ rfl rfl f1) rfl ?_
      exact deP_zero (below_setRow HA.out.1 (by omega) _) HD.out.1 HD.out.2
    · have hd2 : decide (((bs.length : Nat) : Int) < al) = false := decide_eq_false hsh
      have HShE : Hid (shE bs = false) := decide_eq_false (by rw [← HAl.out]; omega)
      clear hsh
      obtain ⟨p, q, hTp, rfl, hcl⟩ := H6.out (fun e => by subst e; simp at h8)
      have c0 := hcl 0 (by omega)
      have c1 := hcl 1 (by omega)
      rw [← fld_one (by omega)] at c0 c1
      obtain ⟨f0, hf0⟩ : ∃ x, x = fld bs 0 1 := ⟨_, rfl⟩
      obtain ⟨f1, hf1⟩ : ∃ x, x = fld bs 1 1 := ⟨_, rfl⟩
      rw [← hf0, Nat.add_zero] at c0
      rw [← hf1] at c1
      have HF0 := hid hf0
      have HF1 := hid hf1
      have HC1 := hid c1
      have hl0 : 0 < bs.length := by omega
      clear hf0 hf1 hcl c1
      go_upto_region 6 with (go_at_call 22; refine (HGet.out).mono ?_; rintro e z ⟨rfl, hz⟩; rw [hz]; clear hz z)
      go_cut [5] (fun s wx => s = ptr W1.heap.size ∧ wx = W1.alloc (.cells #[.slice (some ⟨p, q, none⟩) bs.length cap, .int .i64 8, .bool (hdBad bs)] 64))
      case first =>
        by_cases hz : f0 = 1
        · have t : (f0 != 1) = false := by simp [hz]
          by_cases hz2 : al = (bs.length : Int)
          · have t2 : (al != (bs.length : Int)) = false := by simp [hz2]
            have HQ : Hid (hdBad bs = false) := by show _ = _; unfold hdBad; rw [← HF0.out, ← HAl.out, hz, hz2]; simp
            clear hz hz2
            go_wp2
            go_meet
            case rel => exact ⟨rfl, by rw [HQ.out]⟩
          · have t2 : (al != (bs.length : Int)) = true := by simp [hz2]
            have HQ : Hid (hdBad bs = true) := by show _ = _; unfold hdBad; rw [← HF0.out, ← HAl.out, decide_eq_false hz2]; simp
            clear hz hz2
            go_wp2
            go_meet
            case rel => exact ⟨rfl, by rw [HQ.out]⟩
        · have t : (f0 != 1) = true := by simp [hz]
          have HQ : Hid (hdBad bs = true) := by show _ = _; unfold hdBad; rw [← HF0.out, decide_eq_false hz]; simp
          clear hz
          go_wp2
          go_meet
          case rel => exact ⟨rfl, by rw [HQ.out]⟩
      case rest =>
        obtain ⟨rfl, hwc⟩ := hcut
        obtain ⟨hb1, hz1, hm1, hs1⟩ := HA.out
        have hal2 : Below W1.heap.size W1 wc := by rw [hwc]; exact (Below.refl _ _).alloc (Nat.le_refl _) _
        have hz2 : wc.heap.size = w.heap.size + 2 := by rw [hwc]; simp [hz1]
        have hb2 : Below w.heap.size w wc := hb1.trans (hal2.mono (by omega))
        have hm2 : MB wc w.heap.size zMs zSl := (hal2.block _ (by omega)).trans hm1
        have hg2 : wc.heap[w.heap.size + 1]? = some (.cells #[.slice (some ⟨p, q, none⟩) bs.length cap, .int .i64 8, .bool (hdBad bs)] 64 (0, 0)) := by rw [hwc, ← hz1]; exact heap_alloc_new _ _
        have hs2 : SlC T wc (.slice (some ⟨p, q, none⟩) bs.length cap) bs := hs1.carry fun k hk hT => ⟨hT, hal2.block k hk⟩
        have hRd : RdS T wc (w.heap.size + 1) (.slice (some ⟨p, q, none⟩) bs.length cap) bs (st0 bs) := ⟨hs2, fun hTg => by have := HT.out _ hTg; omega, 8, hdBad bs, by omega, hg2, by unfold st0; cases hdBad bs <;> simp⟩
        have hRg : Rg T wc (w.heap.size + 1) (.slice (some ⟨p, q, none⟩) bs.length cap) bs (st0 bs) wc := ⟨Only.refl _ _, hRd⟩
        have hTw : ∀ b, T b → b < wc.heap.size := fun b hb => by have := HT.out b hb; omega
        have hgw : w.heap.size + 1 < wc.heap.size := by omega
        have hcc : wc.cell? ⟨p, q + 1, none⟩ = some (.int .u8 f1) := (cell_same (hal2.block p (by have := HT.out p hTp; omega))).trans HC1.out
        have hf1b := fld_bd HB.out 1 1
        rw [← HF1.out, pw1] at hf1b
        obtain ⟨t, hwt⟩ : ∃ t, IntKind.i8.wrap f1 = t := ⟨_, rfl⟩
        have HTy : Hid (t = tyOf bs) := by
          show _ = _
          unfold tyOf
          rw [← HF1.out, ← hwt, i8_wr hf1b.1 hf1b.2]
        obtain ⟨id', hid'⟩ : ∃ x, x = fld bs 4 4 := ⟨_, rfl⟩
        have hib := fld_bd HB.out 4 4
        rw [← hid', pw4] at hib
        have hwi : IntKind.u32.wrap id' = id' := by rw [IntKind.wrap_u32]; omega
        have HM0 : Hid (m0 bs = (⟨t, id', 0, zRl, 0, false, 0, [], [], [], [], 0⟩ : Ms)) := by
          show _ = _
          rw [HTy.out, hid']; rfl
        have HGa : Hid (∀ z, SlC T z (.slice (some ⟨p, q, none⟩) bs.length cap) bs → Calls Tryz.prog 22 #[.slice (some ⟨p, q, none⟩) bs.length cap, .int .i64 ((4 : Nat) : Int), .int .i64 ((4 : Nat) : Int)] z fun e w' => e = .returned (.int .u64 id') ∧ w' = z) := fun z hz => by
          have := get7_any 4 4 _ bs z hz (by omega) (by omega)
          rw [show num ((bs.drop 4).take 4) = id' from hid'.symm] at this
          exact this
        have HX := hid (And.intro hb2 (And.intro hm2 (And.intro hs2 hRg)))
        have HTw := hid hTw
        have HCc := hid hcc
        have hfit := m0_fit HB.out
        rw [HM0.out] at hfit
        have HFit := hid hfit
        have hi1 : (1 : Int) < (bs.length : Int) := by omega
        have HZ2 := hid hz2
        rw [hz1]
        clear hz2 hs1 hm1 hb1 hal2 hm2 hg2 hs2 hRd hRg hTw hcc hfit hid' hb2 hwc HC1 HGet H6 c0 hz1
        generalize wc = Wb at *
        go_upto_region 7 with fail
        go_cut [6] (fun s6 wx => s6 = ptr Wb.heap.size ∧ Dm T Wb (w.heap.size + 1) (.slice (some ⟨p, q, none⟩) bs.length cap) bs (st0 bs) ⟨t, id', 0, zRl, 0, false, 0, [], [], [], [], 0⟩ zSl wx)
        case first =>
          have HY : Hid (∀ z, Only (fun b => Wb.heap.size ≤ b) Wb z → H7 p q f1 z ∧ SlC T z (.slice (some ⟨p, q, none⟩) bs.length cap) bs) := fun z hz => ⟨⟨(cell_same (hz.block p (by have := HTw.out p hTp; omega))).trans HCc.out⟩, HX.out.2.2.1.carry fun k hk hT => ⟨hT, hz.block k (by have := HTw.out k hT; omega)⟩⟩
          have HO1 : Hid (Only (fun b => Wb.heap.size ≤ b) Wb Wb.drew) := (Only.refl _ _).drew
          have HO2 : Hid (Only (fun b => Wb.heap.size ≤ b) Wb (Wb.drew.alloc (.cells (msc zMs zSl) 37))) := HO1.out.trans (Only.of ((Below.refl Wb.heap.size Wb.drew).alloc (Nat.le_refl _) _) fun b hb => hb)
          have HNw : Hid ((Wb.drew.alloc (.cells (msc zMs zSl) 37)).heap[Wb.heap.size]? = some (.cells (msc zMs zSl) 37 (0, 0))) := heap_alloc_new _ _
          have HO3 : Hid (∀ cs, Only (fun b => Wb.heap.size ≤ b) Wb ((Wb.drew.alloc (.cells (msc zMs zSl) 37)).setRow Wb.heap.size cs)) := fun cs => HO2.out.trans ⟨rfl, rfl, rfl, by simp [World.setRow], fun k hk => setRow_other _ _ k _ (fun e => hk (by omega))⟩
          have HOne : Hid ((msc (⟨t, id', 0, zRl, 0, false, 0, [], [], [], [], 0⟩ : Ms) zSl).all (·.oneCell') = true) := msc_one _ _ rfl rfl rfl rfl rfl
          have HFin : Hid (Dm T Wb (w.heap.size + 1) (.slice (some ⟨p, q, none⟩) bs.length cap) bs (st0 bs) ⟨t, id', 0, zRl, 0, false, 0, [], [], [], [], 0⟩ zSl ((Wb.drew.alloc (.cells (msc zMs zSl) 37)).setRow Wb.heap.size (msc (⟨t, id', 0, zRl, 0, false, 0, [], [], [], [], 0⟩ : Ms) zSl))) := by
            refine ⟨HX.out.2.2.2.more HTw.out hgw (HO3.out _), setRow_heap _ _ _ _ _ _ HNw.out, Mss.zero _ _ t id', HFit.out, ?_⟩
            simp [World.setRow]
          refine wp_region_held_drew (S := H7 p q f1) (by kernel_rfl) (HY.out _ HO1.out).1 (fun hHeld => ?_)
          refine wpAnyH_take (i := 0) (v := ?_) rfl (by kernel_rfl) (by kernel_rfl) (by kernel_rfl) (fun _ _ _ h => h) (Or.inl ⟨by rfl, ?_⟩) hHeld ?_
          rotate_left
          · intro w' hSw
            clear hSw
            go_simp
            first | done | with_reducible rfl
          simp only [Act.put, List.getElem_toArray, List.getElem_cons_zero, List.setIfInBounds_toArray, List.set_cons_zero, List.set_cons_succ]
          refine wpAnyH_take (i := 1) (v := ?_) rfl (by kernel_rfl) (by kernel_rfl) (by kernel_rfl) (fun _ _ _ h => h) (Or.inl ⟨by rfl, ?_⟩) hHeld ?_
          rotate_left
          · intro w' hSw
            clear hSw
            go_simp
            first | done | with_reducible rfl
          simp only [Act.put, List.getElem_toArray, List.getElem_cons_succ, List.getElem_cons_zero, List.setIfInBounds_toArray, List.set_cons_zero, List.set_cons_succ]
          refine wpAnyH_take (i := 2) (v := ?_) rfl (by kernel_rfl) (by kernel_rfl) (by kernel_rfl) (fun _ _ _ h => h) (Or.inl ⟨by rfl, ?_⟩) hHeld ?_
          rotate_left
          · intro w' hSw
            have c1 := hSw.c1
            clear hSw
            go_simp
            first | done | with_reducible rfl
          simp only [Act.put, List.getElem_toArray, List.getElem_cons_succ, List.getElem_cons_zero, List.setIfInBounds_toArray, List.set_cons_zero, List.set_cons_succ]
          refine wpAnyH_take (i := 3) (v := ?_) rfl (by kernel_rfl) (by kernel_rfl) (by kernel_rfl) (fun _ _ _ h => h) (Or.inl ⟨by rfl, ?_⟩) hHeld ?_
          rotate_left
          · intro w' hSw
            clear hSw
            go_simp
            first | done | with_reducible rfl
          simp only [Act.put, List.getElem_toArray, List.getElem_cons_succ, List.getElem_cons_zero, List.setIfInBounds_toArray, List.set_cons_zero, List.set_cons_succ]
          refine wpAnyH_take (i := 4) (v := ?_) rfl (by kernel_rfl) (by kernel_rfl) (by kernel_rfl) (fun _ _ _ h => h) (Or.inl ⟨by rfl, ?_⟩) hHeld ?_
          rotate_left
          · intro w' hSw
            clear hSw
            go_simp
            first | done | with_reducible rfl
          simp only [Act.put, List.getElem_toArray, List.getElem_cons_succ, List.getElem_cons_zero, List.setIfInBounds_toArray, List.set_cons_zero, List.set_cons_succ]
          refine any2 5 8 _ _ (by kernel_rfl) rfl rfl ?_ ?_
          · refine Stp.fn 22 (.func 22) [.tmp 42, .const (.int .i64 4), .const (.int .i64 4)] _ [.slice (some ⟨p, q, none⟩) bs.length cap, .int .i64 ((4 : Nat) : Int), .int .i64 ((4 : Nat) : Int)] rfl rfl rfl rfl (fun _ => rfl) _ (HGa.out _ (HY.out _ HO1.out).2) ?_
            rintro e w5 ⟨rfl, hw5⟩
            refine Or.inl ⟨_, rfl, ?_⟩
            rw [hw5]
            clear hw5
            refine ⟨(HY.out _ HO1.out).1, ?_⟩
            simp only [Act.put, List.getElem_toArray, List.getElem_cons_succ, List.getElem_cons_zero, List.setIfInBounds_toArray, List.set_cons_zero, List.set_cons_succ]
            refine wpAnyH_take (i := 6) (v := ?_) rfl (by kernel_rfl) (by kernel_rfl) (by kernel_rfl) (fun _ _ _ h => h) (Or.inl ⟨by rfl, ?_⟩) hHeld ?_
            rotate_left
            · intro w' hSw
              clear hSw
              go_simp
              first | done | with_reducible rfl
            simp only [Act.put, List.getElem_toArray, List.getElem_cons_succ, List.getElem_cons_zero, List.setIfInBounds_toArray, List.set_cons_zero, List.set_cons_succ]
            refine wpAnyH_take (i := 7) (v := (.agg (msc (⟨t, id', 0, zRl, 0, false, 0, [], [], [], [], 0⟩ : Ms) zSl))) rfl (by kernel_rfl) (by kernel_rfl) (by kernel_rfl) (fun _ _ _ h => h) (Or.inl ⟨by rfl, ?_⟩) hHeld ?_
            · intro w' hSw
              exact runBr (.tmp 41) (.tmp 44) rfl _ _ rfl rfl
            simp only [Act.put, List.getElem_toArray, List.getElem_cons_succ, List.getElem_cons_zero, List.setIfInBounds_toArray, List.set_cons_zero, List.set_cons_succ]
            refine any1 8 _ (by kernel_rfl) rfl (Stp.alcMs rfl rfl ?_)
            refine ⟨(HY.out _ HO2.out).1, ?_⟩
            simp only [Act.put, List.getElem_toArray, List.getElem_cons_succ, List.getElem_cons_zero, List.setIfInBounds_toArray, List.set_cons_zero, List.set_cons_succ]
            refine any1 9 _ (by kernel_rfl) rfl (Stp.stRow 37 (.tmp 6) (.tmp 45) rfl rfl Wb.heap.size _ rfl rfl 37 _ HNw.out (sizeMs _ _) (by rw [msc_size, msc_size]) HOne.out ?_)
            refine ⟨(HY.out _ (HO3.out _)).1, ?_⟩
            simp only [Act.put, List.getElem_toArray, List.getElem_cons_succ, List.getElem_cons_zero]
            refine wpAnyH_done (by kernel_rfl) ?_ _
            go_wp2_with fail
            go_meet
            case rel => exact ⟨rfl, HFin.out⟩
          · refine Stp.alcMs rfl rfl ?_
            refine ⟨(HY.out _ HO2.out).1, ?_⟩
            simp only [Act.put, List.getElem_toArray, List.getElem_cons_succ, List.getElem_cons_zero, List.setIfInBounds_toArray, List.set_cons_zero, List.set_cons_succ]
            replace hHeld := (HY.out _ HO2.out).1
            refine any1 5 _ (by kernel_rfl) rfl (Stp.fn 22 (.func 22) [.tmp 42, .const (.int .i64 4), .const (.int .i64 4)] _ [.slice (some ⟨p, q, none⟩) bs.length cap, .int .i64 ((4 : Nat) : Int), .int .i64 ((4 : Nat) : Int)] rfl rfl rfl rfl (fun _ => rfl) _ (HGa.out _ (HY.out _ HO2.out).2) ?_)
            rintro e w5 ⟨rfl, hw5⟩
            refine Or.inl ⟨_, rfl, ?_⟩
            rw [hw5]
            clear hw5
            refine ⟨(HY.out _ HO2.out).1, ?_⟩
            simp only [Act.put, List.getElem_toArray, List.getElem_cons_succ, List.getElem_cons_zero, List.setIfInBounds_toArray, List.set_cons_zero, List.set_cons_succ]
            refine wpAnyH_take (i := 6) (v := ?_) rfl (by kernel_rfl) (by kernel_rfl) (by kernel_rfl) (fun _ _ _ h => h) (Or.inl ⟨by rfl, ?_⟩) hHeld ?_
            rotate_left
            · intro w' hSw
              clear hSw
              go_simp
              first | done | with_reducible rfl
            simp only [Act.put, List.getElem_toArray, List.getElem_cons_succ, List.getElem_cons_zero, List.setIfInBounds_toArray, List.set_cons_zero, List.set_cons_succ]
            refine wpAnyH_take (i := 7) (v := (.agg (msc (⟨t, id', 0, zRl, 0, false, 0, [], [], [], [], 0⟩ : Ms) zSl))) rfl (by kernel_rfl) (by kernel_rfl) (by kernel_rfl) (fun _ _ _ h => h) (Or.inl ⟨by rfl, ?_⟩) hHeld ?_
            · intro w' hSw
              exact runBr (.tmp 41) (.tmp 44) rfl _ _ rfl rfl
            simp only [Act.put, List.getElem_toArray, List.getElem_cons_succ, List.getElem_cons_zero, List.setIfInBounds_toArray, List.set_cons_zero, List.set_cons_succ]
            refine any1 9 _ (by kernel_rfl) rfl (Stp.stRow 37 (.tmp 6) (.tmp 45) rfl rfl Wb.heap.size _ rfl rfl 37 _ HNw.out (sizeMs _ _) (by rw [msc_size, msc_size]) HOne.out ?_)
            refine ⟨(HY.out _ (HO3.out _)).1, ?_⟩
            simp only [Act.put, List.getElem_toArray, List.getElem_cons_succ, List.getElem_cons_zero]
            refine wpAnyH_done (by kernel_rfl) ?_ _
            go_wp2_with fail
            go_meet
            case rel => exact ⟨rfl, HFin.out⟩
        case rest =>
          obtain ⟨rfl, hD⟩ := hcut
          generalize wc = y0 at *
          have HD := hid hD
          have k0 : y0.cell? ⟨Wb.heap.size, 0, none⟩ = some (.int .i8 t) := (mb_cells hD.mb).1
          clear hD
          go_upto_block 0 with fail
          clear k0
          go_cut [] (fun wx => SwP T Wb (w.heap.size + 1) (.slice (some ⟨p, q, none⟩) bs.length cap) bs t id' wx)
          case first =>
            have h7 : t = 7 := HTy.out.trans HTY.out
            subst h7

            have HN := hid (HD.out.n hgw 2 (by omega))
            go_upto_region 19 with (
               go_at_call 23; refine (HN.out).mono ?_; rintro e y1 ⟨a, st1, rfl, ⟨a0, a1⟩, -, -, hD1, hG1⟩
               have a2 : a < 65536 := (by simpa using a1)
               have aw : IntKind.u16.wrap a = a := (by rw [IntKind.wrap_u16]; omega)
               obtain ⟨-, -, -, kc, -⟩ := mb_cells hD1.mb
               have kf := mb_free hD1.mb 28
               have HD1 := hid hD1
               have HGa := hid hG1
               clear HN a1 hD1 hG1 )
            have HD2 := hid (HD1.out.po HTw.out hgw a ⟨a0, a2⟩)
            clear kc kf HD1
            generalize y1.setCell ⟨Wb.heap.size, 28, none⟩ (.int .u16 a) = y2 at HD2 ⊢
            have HN := hid (HD2.out.n hgw 2 (by omega))
            go_upto_region 21 with (
               go_at_call 23; refine (HN.out).mono ?_; rintro e y3 ⟨n, st3, rfl, ⟨n0, n1⟩, -, -, hD1, hG1⟩
               have n2 : n < 65536 := (by simpa using n1)
               have HD3 := hid hD1
               have HGn := hid hG1
               clear HN HD2 n1 hD1 hG1)
            obtain ⟨X, rfl⟩ := Int.eq_ofNat_of_zero_le n0
            go_loopw [8] (fun i wr => ∃ (k : Nat) (l : List Int) (u : Value) (st' : Option (List Int)), k ≤ X ∧ i = .int .i64 k ∧ l.length = k ∧ IsB l ∧ Dm T Wb (w.heap.size + 1) (.slice (some ⟨p, q, none⟩) bs.length cap) bs st' (⟨7, id', 0, zRl, a, false, 0, [], [], l, [], 0⟩ : Ms) ⟨nilS, nilS, nilS, u, nilS⟩ wr ∧ Rw (fun b => Wb.heap.size + 1 ≤ b) 1 5 wr u l.length (l.map (Value.int .u8)) ∧ Got (rdl (tk 1) k) st3 l st') (fun i _ => X - (intOf i).toNat)
            case atStart => exact ⟨0, [], nilS, st3, by omega, rfl, rfl, by simp [IsB], HD3.out, Rw.nil _ _ _ _, Got.zero st3⟩
            case round =>
              obtain ⟨k, l, u, st4, hk, rfl, hl, hBl, hD4, hW4, hG4⟩ := hrel
              subst hl
              generalize wr = wx at *
              have hfl := hD4.rg.rd.flag
              obtain ⟨s1, k1, hs1⟩ := hW4.form
              subst hs1
              have HD4 := hid hD4
              have HW4 := hid hW4
              have HG4 := hid hG4
              have HBl := hid hBl
              have HFin : Hid (∀ st8, Got (rdl (tk 1) X) st3 l st8 → Got (rdPs false (pts 7) (⟨7, id', 0, zRl, 0, false, 0, [], [], [], [], 0⟩ : Ms)) (st0 bs) (⟨7, id', 0, zRl, a, false, 0, [], [], l, [], 0⟩ : Ms) st8) := fun st8 h8 => by
                rw [show pts 7 = [.po, .fr] from rfl]; exact Got.cons (Got.po HGa.out) (Got.last (Got.frm (Got.by HGn.out h8)))
              clear hD4 hW4 hG4 hBl HD3
              by_cases hlt : l.length < X
              · have hkl : decide ((l.length : Int) < (X : Int)) = true := decide_eq_true (by omega)
                cases st4 with
                | none =>
                  have hfl' : wx.cell? ⟨w.heap.size + 1, 2, none⟩ = some (.bool true) := hfl
                  have HZ := hid (HFin.out none (Got.more (Nat.le_of_lt hlt) HG4.out))
                  clear hfl HFin
                  go_wp2
                  go_meet
                  case rel => exact ⟨_, _, none, HD4.out, HZ.out⟩
                | some r4 =>
                  have hfl' : wx.cell? ⟨w.heap.size + 1, 2, none⟩ = some (.bool false) := hfl
                  have hDd := HD4.out.grow hgw ((Only.refl _ _).drew) (HD4.out.rg.more HTw.out hgw ((Only.refl _ _).drew))
                  have HN := hid (hDd.n hgw 1 (by omega))
                  have kl : wx.drew.cell? ⟨Wb.heap.size, 33, none⟩ = some (.slice s1 l.length k1) := by
                    have := mb_cells hDd.mb
                    exact this.2.2.2.2.2.2.2.2.1
                  have HFr : Hid (∀ (z3 : World) (x : Int) (st5 : Option (List Int)), Only (fun b => b = (w.heap.size + 1)) wx.drew z3 → Dm T Wb (w.heap.size + 1) (.slice (some ⟨p, q, none⟩) bs.length cap) bs st5 (⟨7, id', 0, zRl, a, false, 0, [], [], l, [], 0⟩ : Ms) ⟨nilS, nilS, nilS, .slice s1 l.length k1, nilS⟩ z3 → Got (tk 1) (some r4) x st5 → 0 ≤ x → x < 256 →
                      z3.cell? ⟨Wb.heap.size, 33, none⟩ = some (.slice s1 l.length k1) ∧ (z3.alloc (.cells #[.int .u8 x] 5)).cell? ⟨Wb.heap.size, 33, none⟩ = some (.slice s1 l.length k1) ∧ Rw (fun b => Wb.heap.size + 1 ≤ b) 1 5 (z3.alloc (.cells #[.int .u8 x] 5)) (.slice s1 l.length k1) l.length (l.map (Value.int .u8)) ∧
                      ∀ v4 x4, Apd (z3.alloc (.cells #[.int .u8 x] 5)) (.slice s1 l.length k1) x4 → Rw (fun b => (Wb.heap.size + 1 ≤ b) ∨ (z3.alloc (.cells #[.int .u8 x] 5)).heap.size ≤ b) 1 5 x4 v4 (l.length + 1) (l.map (Value.int .u8) ++ [.int .u8 x]) → FrP T Wb (w.heap.size + 1) (.slice (some ⟨p, q, none⟩) bs.length cap) bs (⟨7, id', 0, zRl, a, false, 0, [], [], l, [], 0⟩ : Ms) l x (.slice s1 l.length k1) (.slice s1 l.length k1) st3 st5 v4 x4) := fun z3 x st5 o3 hD3 hG3 x0 x2 => fr_app HTw.out hgw HW4.out HBl.out HG4.out (by omega) o3 hD3 hG3 x0 x2
                  clear hfl hDd HFin HD4 HW4
                  go_upto_region 23 with fail
                  refine wp_region_held_drew (S := (fun _ => True)) (by kernel_rfl) trivial (fun hHeld => ?_)
                  refine wpAnyH_take (i := 0) (v := ?_) rfl (by kernel_rfl) (by kernel_rfl) (by kernel_rfl) (fun _ _ _ h => h) (Or.inl ⟨by rfl, ?_⟩) hHeld ?_
                  rotate_left
                  · intro w' hSw
                    clear hSw
                    go_simp
                    first | done | with_reducible rfl
                  simp only [Act.put, List.getElem_toArray, List.getElem_cons_zero, List.setIfInBounds_toArray, List.set_cons_zero, List.set_cons_succ]
                  refine wpAnyH_take (i := 2) (v := ?_) rfl (by kernel_rfl) (by kernel_rfl) (by kernel_rfl) (fun _ _ _ h => h) (Or.inl ⟨by rfl, ?_⟩) hHeld ?_
                  rotate_left
                  · intro w' hSw
                    clear hSw
                    go_simp
                    first | done | with_reducible rfl
                  simp only [Act.put, List.getElem_toArray, List.getElem_cons_succ, List.getElem_cons_zero, List.setIfInBounds_toArray, List.set_cons_zero, List.set_cons_succ]
                  refine any2 1 3 _ _ (by kernel_rfl) rfl rfl ?_ ?_
                  · refine Stp.ldS 34 (Or.inl rfl) (.tmp 91) rfl rfl Wb.heap.size 33 s1 l.length k1 rfl kl ?_
                    refine ⟨trivial, ?_⟩
                    simp only [Act.put, List.getElem_toArray, List.getElem_cons_succ, List.getElem_cons_zero, List.setIfInBounds_toArray, List.set_cons_zero, List.set_cons_succ]
                    refine any1 3 _ (by kernel_rfl) rfl ?_
                    refine Stp.fn 23 (.func 23) [.tmp 93, .const (.int .i64 1)] _ [ptr (w.heap.size + 1), .int .i64 ((1 : Nat) : Int)] rfl rfl rfl rfl (fun _ => rfl) _ HN.out ?_
                    rintro e z3 ⟨x, st5, rfl, ⟨x0, x1⟩, -, o3, hD3, hG3⟩
                    have x2 : x < 256 := (by simpa using x1)
                    have hwx : IntKind.u8.wrap x = x := by rw [IntKind.wrap_u8]; omega
                    refine Or.inl ⟨_, rfl, ?_⟩
                    have HF := hid (HFr.out z3 x st5 o3 hD3 hG3 x0 x2)
                    have HW3 := hid HF.out.2.2.1
                    have HAp := hid HF.out.2.2.2
                    have kz := HF.out.1
                    have kz2 := HF.out.2.1
                    clear o3 hD3 hG3 x1
                    refine ⟨trivial, ?_⟩
                    simp only [Act.put, List.getElem_toArray, List.getElem_cons_succ, List.getElem_cons_zero, List.setIfInBounds_toArray, List.set_cons_zero, List.set_cons_succ]
                    refine wpAnyH_take (i := 4) (v := ?_) rfl (by kernel_rfl) (by kernel_rfl) (by kernel_rfl) (fun _ _ _ h => h) (Or.inl ⟨by rfl, ?_⟩) hHeld ?_
                    rotate_left
                    · intro w' hSw
                      clear hSw
                      go_simp
                      first | done | with_reducible rfl
                    simp only [Act.put, List.getElem_toArray, List.getElem_cons_succ, List.getElem_cons_zero, List.setIfInBounds_toArray, List.set_cons_zero, List.set_cons_succ]
                    refine any1 5 _ (by kernel_rfl) rfl (Stp.bs8 (.tmp 95) rfl rfl x rfl ?_)
                    refine ⟨trivial, ?_⟩
                    simp only [Act.put, List.getElem_toArray, List.getElem_cons_succ, List.getElem_cons_zero, List.setIfInBounds_toArray, List.set_cons_zero, List.set_cons_succ]
                    refine any1 6 _ (by kernel_rfl) rfl (Stp.app (.tmp 92) (.tmp 96) 34 rfl rfl (v := .slice s1 l.length k1) (us := [.int .u8 x]) (ao := some ⟨z3.heap.size, 0, none⟩) rfl rfl Tryz.underlying34 info8 rfl (by omega) (by omega) HW3.out rfl (fun _ => ⟨_, rfl, one_new _ _ _⟩) (fun z hz => by simp at hz; subst hz; rfl) (by omega) ?_)
                    intro v4 x4 hA4 hR4
                    have HQ4 := hid (HAp.out v4 x4 hA4 hR4)
                    obtain ⟨s4, k4, rfl⟩ : ∃ s4 k4, v4 = .slice s4 (l.length + 1) k4 := hR4.form
                    clear hA4 hR4
                    refine ⟨trivial, ?_⟩
                    simp only [Act.put, List.getElem_toArray, List.getElem_cons_succ, List.getElem_cons_zero, List.setIfInBounds_toArray, List.set_cons_zero, List.set_cons_succ]
                    refine wpAnyH_take (i := 7) (v := ?_) rfl (by kernel_rfl) (by kernel_rfl) (by kernel_rfl) (fun _ _ _ h => h) (Or.inl ⟨by rfl, ?_⟩) hHeld ?_
                    rotate_left
                    · intro w' hSw
                      clear hSw
                      go_simp
                      first | done | with_reducible rfl
                    simp only [Act.put, List.getElem_toArray, List.getElem_cons_succ, List.getElem_cons_zero, List.setIfInBounds_toArray, List.set_cons_zero, List.set_cons_succ]
                    refine any1 8 _ (by kernel_rfl) rfl (Stp.stS 34 (Or.inl rfl) (.tmp 98) (.tmp 97) rfl rfl Wb.heap.size 33 s4 (l.length + 1) k4 _ rfl rfl HQ4.out.1 HQ4.out.2.1 ?_)
                    refine ⟨trivial, ?_⟩
                    simp only [Act.put, List.getElem_toArray, List.getElem_cons_succ, List.getElem_cons_zero]
                    refine wpAnyH_done (by kernel_rfl) ?_ _
                    go_wp2
                    go_roundw
                    case rel => exact ⟨l.length + 1, l ++ [x], _, st5, by omega, by go_num, by simp, HQ4.out.2.2.2.2.1, HQ4.out.2.2.1, HQ4.out.2.2.2.1, HQ4.out.2.2.2.2.2⟩
                    case measure => simp [intOf]; omega
                  · skip
                    refine Stp.fn 23 (.func 23) [.tmp 93, .const (.int .i64 1)] _ [ptr (w.heap.size + 1), .int .i64 ((1 : Nat) : Int)] rfl rfl rfl rfl (fun _ => rfl) _ HN.out ?_
                    rintro e z3 ⟨x, st5, rfl, ⟨x0, x1⟩, -, o3, hD3, hG3⟩
                    have x2 : x < 256 := (by simpa using x1)
                    have hwx : IntKind.u8.wrap x = x := by rw [IntKind.wrap_u8]; omega
                    refine Or.inl ⟨_, rfl, ?_⟩
                    have HF := hid (HFr.out z3 x st5 o3 hD3 hG3 x0 x2)
                    have HW3 := hid HF.out.2.2.1
                    have HAp := hid HF.out.2.2.2
                    have kz := HF.out.1
                    have kz2 := HF.out.2.1
                    clear o3 hD3 hG3 x1
                    refine ⟨trivial, ?_⟩
                    simp only [Act.put, List.getElem_toArray, List.getElem_cons_succ, List.getElem_cons_zero, List.setIfInBounds_toArray, List.set_cons_zero, List.set_cons_succ]
                    refine wpAnyH_take (i := 4) (v := ?_) rfl (by kernel_rfl) (by kernel_rfl) (by kernel_rfl) (fun _ _ _ h => h) (Or.inl ⟨by rfl, ?_⟩) hHeld ?_
                    rotate_left
                    · intro w' hSw
                      clear hSw
                      go_simp
                      first | done | with_reducible rfl
                    simp only [Act.put, List.getElem_toArray, List.getElem_cons_succ, List.getElem_cons_zero, List.setIfInBounds_toArray, List.set_cons_zero, List.set_cons_succ]
                    refine any2 1 5 _ _ (by kernel_rfl) rfl rfl ?_ ?_
                    · refine Stp.ldS 34 (Or.inl rfl) (.tmp 91) rfl rfl Wb.heap.size 33 s1 l.length k1 rfl kz ?_
                      refine ⟨trivial, ?_⟩
                      simp only [Act.put, List.getElem_toArray, List.getElem_cons_succ, List.getElem_cons_zero, List.setIfInBounds_toArray, List.set_cons_zero, List.set_cons_succ]
                      refine any1 5 _ (by kernel_rfl) rfl (Stp.bs8 (.tmp 95) rfl rfl x rfl ?_)
                      refine ⟨trivial, ?_⟩
                      simp only [Act.put, List.getElem_toArray, List.getElem_cons_succ, List.getElem_cons_zero, List.setIfInBounds_toArray, List.set_cons_zero, List.set_cons_succ]
                      refine any1 6 _ (by kernel_rfl) rfl (Stp.app (.tmp 92) (.tmp 96) 34 rfl rfl (v := .slice s1 l.length k1) (us := [.int .u8 x]) (ao := some ⟨z3.heap.size, 0, none⟩) rfl rfl Tryz.underlying34 info8 rfl (by omega) (by omega) HW3.out rfl (fun _ => ⟨_, rfl, one_new _ _ _⟩) (fun z hz => by simp at hz; subst hz; rfl) (by omega) ?_)
                      intro v4 x4 hA4 hR4
                      have HQ4 := hid (HAp.out v4 x4 hA4 hR4)
                      obtain ⟨s4, k4, rfl⟩ : ∃ s4 k4, v4 = .slice s4 (l.length + 1) k4 := hR4.form
                      clear hA4 hR4
                      refine ⟨trivial, ?_⟩
                      simp only [Act.put, List.getElem_toArray, List.getElem_cons_succ, List.getElem_cons_zero, List.setIfInBounds_toArray, List.set_cons_zero, List.set_cons_succ]
                      refine wpAnyH_take (i := 7) (v := ?_) rfl (by kernel_rfl) (by kernel_rfl) (by kernel_rfl) (fun _ _ _ h => h) (Or.inl ⟨by rfl, ?_⟩) hHeld ?_
                      rotate_left
                      · intro w' hSw
                        clear hSw
                        go_simp
                        first | done | with_reducible rfl
                      simp only [Act.put, List.getElem_toArray, List.getElem_cons_succ, List.getElem_cons_zero, List.setIfInBounds_toArray, List.set_cons_zero, List.set_cons_succ]
                      refine any1 8 _ (by kernel_rfl) rfl (Stp.stS 34 (Or.inl rfl) (.tmp 98) (.tmp 97) rfl rfl Wb.heap.size 33 s4 (l.length + 1) k4 _ rfl rfl HQ4.out.1 HQ4.out.2.1 ?_)
                      refine ⟨trivial, ?_⟩
                      simp only [Act.put, List.getElem_toArray, List.getElem_cons_succ, List.getElem_cons_zero]
                      refine wpAnyH_done (by kernel_rfl) ?_ _
                      go_wp2
                      go_roundw
                      case rel => exact ⟨l.length + 1, l ++ [x], _, st5, by omega, by go_num, by simp, HQ4.out.2.2.2.2.1, HQ4.out.2.2.1, HQ4.out.2.2.2.1, HQ4.out.2.2.2.2.2⟩
                      case measure => simp [intOf]; omega
                    · refine Stp.bs8 (.tmp 95) rfl rfl x rfl ?_
                      refine ⟨trivial, ?_⟩
                      simp only [Act.put, List.getElem_toArray, List.getElem_cons_succ, List.getElem_cons_zero, List.setIfInBounds_toArray, List.set_cons_zero, List.set_cons_succ]
                      refine any1 1 _ (by kernel_rfl) rfl (Stp.ldS 34 (Or.inl rfl) (.tmp 91) rfl rfl Wb.heap.size 33 s1 l.length k1 rfl kz2 ?_)
                      refine ⟨trivial, ?_⟩
                      simp only [Act.put, List.getElem_toArray, List.getElem_cons_succ, List.getElem_cons_zero, List.setIfInBounds_toArray, List.set_cons_zero, List.set_cons_succ]
                      refine any1 6 _ (by kernel_rfl) rfl (Stp.app (.tmp 92) (.tmp 96) 34 rfl rfl (v := .slice s1 l.length k1) (us := [.int .u8 x]) (ao := some ⟨z3.heap.size, 0, none⟩) rfl rfl Tryz.underlying34 info8 rfl (by omega) (by omega) HW3.out rfl (fun _ => ⟨_, rfl, one_new _ _ _⟩) (fun z hz => by simp at hz; subst hz; rfl) (by omega) ?_)
                      intro v4 x4 hA4 hR4
                      have HQ4 := hid (HAp.out v4 x4 hA4 hR4)
                      obtain ⟨s4, k4, rfl⟩ : ∃ s4 k4, v4 = .slice s4 (l.length + 1) k4 := hR4.form
                      clear hA4 hR4
                      refine ⟨trivial, ?_⟩
                      simp only [Act.put, List.getElem_toArray, List.getElem_cons_succ, List.getElem_cons_zero, List.setIfInBounds_toArray, List.set_cons_zero, List.set_cons_succ]
                      refine wpAnyH_take (i := 7) (v := ?_) rfl (by kernel_rfl) (by kernel_rfl) (by kernel_rfl) (fun _ _ _ h => h) (Or.inl ⟨by rfl, ?_⟩) hHeld ?_
                      rotate_left
                      · intro w' hSw
                        clear hSw
                        go_simp
                        first | done | with_reducible rfl
                      simp only [Act.put, List.getElem_toArray, List.getElem_cons_succ, List.getElem_cons_zero, List.setIfInBounds_toArray, List.set_cons_zero, List.set_cons_succ]
                      refine any1 8 _ (by kernel_rfl) rfl (Stp.stS 34 (Or.inl rfl) (.tmp 98) (.tmp 97) rfl rfl Wb.heap.size 33 s4 (l.length + 1) k4 _ rfl rfl HQ4.out.1 HQ4.out.2.1 ?_)
                      refine ⟨trivial, ?_⟩
                      simp only [Act.put, List.getElem_toArray, List.getElem_cons_succ, List.getElem_cons_zero]
                      refine wpAnyH_done (by kernel_rfl) ?_ _
                      go_wp2
                      go_roundw
                      case rel => exact ⟨l.length + 1, l ++ [x], _, st5, by omega, by go_num, by simp, HQ4.out.2.2.2.2.1, HQ4.out.2.2.1, HQ4.out.2.2.2.1, HQ4.out.2.2.2.2.2⟩
                      case measure => simp [intOf]; omega
              · obtain rfl : l.length = X := by omega
                have hkl : decide ((l.length : Int) < (l.length : Int)) = false := by simp
                have HZ := hid (HFin.out st4 HG4.out)
                clear hfl HFin
                go_wp2
                go_meet
                case rel => exact ⟨_, _, st4, HD4.out, HZ.out⟩
          case rest =>
            clear HD
            obtain ⟨m, s, st', hD, hG⟩ := hcut
            generalize wc = wz at *
            have hmb := hD.mb
            have hfl := hD.rg.rd.flag
            have hO := hD.rg.only
            have hrs : MB wz w.heap.size zMs zSl := (hO.block _ (by have := HZ2.out; omega)).trans HX.out.2.1
            have HBz : Hid (Below w.heap.size w wz) := HX.out.1.trans ⟨hO.os, hO.tape, hO.output, hO.size, fun b hb => hO.block b (by have := HZ2.out; omega)⟩
            have hwz : w.heap.size ≤ wz.heap.size := HBz.out.size
            rw [← HM0.out] at hG
            rw [HTy.out] at hG
            obtain ⟨hn, hsm⟩ := rdec_of hG
            rw [rdec_dec HB.out (by omega)] at hn hsm
            have HDz := hid hD
            have HCk := hid (rcheck7_any m s wz (hD.ms.carry (T' := fun b => Wb.heap.size + 1 ≤ b ∧ b < wz.heap.size) fun b hb hS => ⟨⟨hS, hb⟩, rfl⟩) hD.fit (fun b hb => hb.2))
            obtain ⟨_, _, at', bad', hat, hbk, hst⟩ := hD.rg.rd
            have c1z := (Hn.of hbk).c1
            clear hD hG hO hbk
            cases st' with
            | none =>
              have hfl' : wz.cell? ⟨w.heap.size + 1, 2, none⟩ = some (.bool true) := hfl
              have HDe := hid (de_none HShE.out (hn rfl))
              clear hfl hst hn hsm c1z
              go_wp2_with (first
                | (refine bldMs rfl rfl ?_)
                | (refine stRow 37 (.tmp 2) (.tmp 180) rfl rfl w.heap.size (msc zMs zSl) rfl rfl 37 (msc zMs zSl) hrs (sizeMs _ _) rfl zms_one ?_))
              have f1 : MB (wz.setRow w.heap.size (msc zMs zSl)) w.heap.size zMs zSl := setRow_heap wz w.heap.size _ _ _ _ hrs
              refine bodyPost_ret (v := .tuple #[.agg (msc zMs zSl), .int .i64 70]) (resDe _ _ w.heap.size _ _ _ rfl rfl f1) rfl ?_
              exact deP_zero (below_setRow HBz.out (by omega) _) HDe.out.1 HDe.out.2
            | some r =>
              have hfl' : wz.cell? ⟨w.heap.size + 1, 2, none⟩ = some (.bool false) := hfl
              have hr : r = bs.drop at' := by
                rcases hst with ⟨_, h⟩ | ⟨_, h⟩
                · cases h
                · exact Option.some.inj h
              have hdc := hsm r rfl
              clear hfl hst hn hsm
              by_cases hat2 : at' = bs.length
              · have ta : ((at' : Int) != (bs.length : Int)) = false := by simp [hat2]
                have hr0 : r = [] := by rw [hr, hat2]; simp
                rw [if_pos hr0] at hdc
                clear hr hr0 hat2
                by_cases he : enE m = 0
                · have te : (enE m != 0) = false := by simp [he]
                  rw [if_pos he] at hdc
                  have HDe := hid (de_some HShE.out hdc)
                  clear he hdc
                  go_upto_region 41 with (first
                    | (refine ldRow 37 (.tmp 6) rfl rfl Wb.heap.size rfl 37 _ _ Tryz.underlying37 rfl (sizeMs _ _) hmb ?_)
                    | (
                       go_at_call 9; refine (HCk.out).mono ?_; rintro e wy ⟨rfl, hbz⟩
                       have HBz2 := hid hbz
                       clear hbz))
                  have hrs2 : MB wy w.heap.size zMs zSl := (HBz2.out.block _ (Array.getElem?_eq_some_iff.1 hrs).1).trans hrs
                  have hmb2 : MB wy Wb.heap.size m s := (HBz2.out.block _ (Array.getElem?_eq_some_iff.1 hmb).1).trans hmb
                  clear hrs hmb
                  go_wp2_with (first
                    | (refine ldRow 37 (.tmp 6) rfl rfl Wb.heap.size rfl 37 _ _ Tryz.underlying37 rfl (sizeMs _ _) hmb2 ?_)
                    | (refine stRow 37 (.tmp 2) (.tmp 181) rfl rfl w.heap.size (msc m s) rfl rfl 37 (msc zMs zSl) hrs2 (sizeMs _ _) (by rw [msc_size, msc_size]) HDz.out.ms.one ?_))
                  have f1 : MB (wy.setRow w.heap.size (msc m s)) w.heap.size m s := setRow_heap wy w.heap.size _ _ _ _ hrs2
                  refine bodyPost_ret (v := .tuple #[.agg (msc m s), .int .i64 0]) (resDe _ _ w.heap.size _ _ _ rfl rfl f1) rfl ?_
                  have hms := (HDz.out.ms.below HBz2.out)
                  refine ⟨below_setRow (HBz.out.trans (HBz2.out.mono hwz)) (by omega) _, s, by rw [HDe.out.1, HDe.out.2], ?_⟩
                  rw [HDe.out.2]
                  have hsz : (wy.setRow w.heap.size (msc m s)).heap.size = wy.heap.size := by simp [World.setRow]
                  exact hms.carry fun b hb hS => ⟨⟨by have := HZ2.out; omega, by rw [hsz]; exact hb⟩, setRow_other _ _ b _ (by have := HZ2.out; omega)⟩
                · have te : (enE m != 0) = true := by simp [he]
                  rw [if_neg he] at hdc
                  have HDe := hid (de_none HShE.out hdc)
                  clear he hdc
                  go_wp2_with (first
                    | (refine ldRow 37 (.tmp 6) rfl rfl Wb.heap.size rfl 37 _ _ Tryz.underlying37 rfl (sizeMs _ _) hmb ?_)
                    | (
                       go_at_call 9; refine (HCk.out).mono ?_; rintro e wy ⟨rfl, hbz⟩
                       have HBz2 := hid hbz
                       clear hbz)
                    | (refine bldMs rfl rfl ?_)
                    | (refine stRow 37 (.tmp 2) (.tmp 180) rfl rfl w.heap.size (msc zMs zSl) rfl rfl 37 (msc zMs zSl) ((HBz2.out.block _ (Array.getElem?_eq_some_iff.1 hrs).1).trans hrs) (sizeMs _ _) rfl zms_one ?_))
                  have hrs2 := (HBz2.out.block _ (Array.getElem?_eq_some_iff.1 hrs).1).trans hrs
                  have f1 : MB (wy.setRow w.heap.size (msc zMs zSl)) w.heap.size zMs zSl := setRow_heap wy w.heap.size _ _ _ _ hrs2
                  refine bodyPost_ret (v := .tuple #[.agg (msc zMs zSl), .int .i64 70]) (resDe _ _ w.heap.size _ _ _ rfl rfl f1) rfl ?_
                  exact deP_zero (below_setRow (HBz.out.trans (HBz2.out.mono hwz)) (by omega) _) HDe.out.1 HDe.out.2
              · have ta : ((at' : Int) != (bs.length : Int)) = true := by
                  simp; omega
                have hr0 : r ≠ [] := by
                  rw [hr]
                  intro h
                  have := congrArg List.length h
                  simp at this; omega
                rw [if_neg hr0] at hdc
                have HDe := hid (de_none HShE.out hdc)
                clear hr hr0 hdc hat2
                go_wp2_with (first
                  | (refine bldMs rfl rfl ?_)
                  | (refine stRow 37 (.tmp 2) (.tmp 180) rfl rfl w.heap.size (msc zMs zSl) rfl rfl 37 (msc zMs zSl) hrs (sizeMs _ _) rfl zms_one ?_))
                have f1 : MB (wz.setRow w.heap.size (msc zMs zSl)) w.heap.size zMs zSl := setRow_heap wz w.heap.size _ _ _ _ hrs
                refine bodyPost_ret (v := .tuple #[.agg (msc zMs zSl), .int .i64 70]) (resDe _ _ w.heap.size _ _ _ rfl rfl f1) rfl ?_
                exact deP_zero (below_setRow HBz.out (by omega) _) HDe.out.1 HDe.out.2
end Go.Proofs.YtllbbbfkdgjffaaGreatDoor
