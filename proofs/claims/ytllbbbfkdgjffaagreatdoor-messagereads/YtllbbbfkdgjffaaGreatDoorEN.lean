/-
  Proved here: the writer's method message: it writes a message's bytes, and its size last, or panics with ErrMessage where the message is none. Conditions: the writer is new; the message lies in blocks that it does not turn.
-/
/-
  Proved here: the writer's method message: it writes a message's bytes, and its size last, or panics with ErrMessage where the message is none. Conditions: the writer is new; the message lies in blocks that it does not turn.
-/
/-
  Proved here: Encode answers a message's bytes, or ErrLong, or ErrMessage, as 'enE' says; no old memory turns. Conditions: the tables hold their numbers; the message's memory is old, its numbers of their types.
-/
import Derived.Test.YtllbbbfkdgjffaaGreatDoorWM
import Derived.Defers
import Derived.Recover
namespace Go.Proofs.YtllbbbfkdgjffaaGreatDoor
open Go.RowKit

theorem Owns.set {base g n c : Nat} {w : World} {xs : List Int} (h : Owns base w (.slice (some ⟨g, 0, none⟩) n c) xs) (j : Nat) (y : Int) : Owns base (w.setCell ⟨g, j, none⟩ (.int .u8 y)) (.slice (some ⟨g, 0, none⟩) n c) (xs.set j y) := by
  have hn : xs.length = (xs.set j y).length := by simp
  unfold Owns
  rw [← hn]
  refine ⟨by simp, ?_⟩
  rcases h.2 with ⟨e, _⟩ | ⟨g', cap, cur, e, hb, hg, hc, hm, hsz, ht⟩
  · cases e
  · simp only [Value.slice.injEq, Option.some.injEq, Addr.mk.injEq] at e
    obtain ⟨⟨rfl, _, _⟩, rfl, rfl⟩ := e
    refine Or.inr ⟨g, c, cur.setIfInBounds j (.int .u8 y), rfl, hb, ?_, hc, hm, by simpa using hsz, ?_⟩
    · rw [heap_setCell_same w g j _ 5 _ hg]
    · rw [Array.toList_setIfInBounds, List.map_set, ← ht, List.take_set]
theorem IsB.set {xs : List Int} (h : IsB xs) (j : Nat) {y : Int} (h0 : 0 ≤ y) (h1 : y < 256) : IsB (xs.set j y) := fun x hx => by
  rcases List.mem_or_eq_of_mem_set hx with hx | rfl
  · exact h x hx
  · exact ⟨h0, h1⟩
theorem Owns.cell {base g n c : Nat} {w : World} {xs : List Int} (h : Owns base w (.slice (some ⟨g, 0, none⟩) n c) xs) (j : Nat) (hj : j < xs.length) : w.cell? ⟨g, j, none⟩ = some (.int .u8 (xs.getD j 0)) ∧ w.frozen? ⟨g, j, none⟩ = false := by
  rcases h.2 with ⟨e, _⟩ | ⟨g', cap, cur, e, hb, hg, hc, hm, hsz, ht⟩
  · cases e
  · simp only [Value.slice.injEq, Option.some.injEq, Addr.mk.injEq] at e
    obtain ⟨⟨rfl, _, _⟩, rfl, rfl⟩ := e
    refine ⟨?_, by simp [World.frozen?, hg]⟩
    rw [cell_of_row w g j cur 5 (0, 0) hg]
    have h2 : (cur.toList.take (xs.length * 1))[j]? = (xs.map (Value.int .u8))[j]? := by rw [ht]
    rw [List.getElem?_take, if_pos (by omega)] at h2
    simp only [Array.getElem?_toList, List.getElem?_map] at h2
    rw [h2, List.getD_eq_getElem?_getD, List.getElem?_eq_getElem hj]; rfl

theorem Owns.form {base : Nat} {w : World} {v : Value} {xs : List Int} (h : Owns base w v xs) (hne : xs.length ≠ 0) : ∃ g c, v = .slice (some ⟨g, 0, none⟩) xs.length c ∧ base ≤ g := by
  rcases h.2 with ⟨_, h0⟩ | ⟨g, cap, cur, e, hb, _⟩
  · exact absurd h0 hne
  · exact ⟨g, cap, e, hb⟩


/-- What message leaves: the writer holds the message's bytes, or is told to be too long; or it ends by the panic. -/
def MsP (S : Nat → Prop) (c : Nat) (m : Ms) (w : World) (e : Ending) (w' : World) : Prop :=
  Only (OS c S) w w' ∧ ((okMs m = true ∧ e = .returned (.tuple #[]) ∧ ∃ v l ys, w'.heap[c]? = some (.cells #[v, .bool l] 50 (0, 0)) ∧ Owns 0 w' v ys ∧ IsB ys ∧ ys.length ≤ 8192 ∧ (∀ k, v.ownBlock = some k → S k) ∧ (l = false → ys = encMs m) ∧ (l = true → 8192 < (encMs m).length)) ∨ (okMs m = false ∧ e = .panicked PC))

/-- The size is laid in. -/
theorem ms_fin {S : Nat → Prop} {c : Nat} {m : Ms} {w : World} {g cap : Nat} {ys : List Int} {l : Bool} (gd : Gd S c w) (hc : w.heap[c]? = some (.cells #[.slice (some ⟨g, 0, none⟩) ys.length cap, .bool l] 50 (0, 0))) (hw : Owns 0 w (.slice (some ⟨g, 0, none⟩) ys.length cap) ys) (hS : S g) (hB : IsB ys) (hl : ys.length ≤ 8192) (h0 : l = false → ys = hd0 m ++ body m) (h1 : l = true → 8192 < (hd0 m ++ body m).length) (j k : Nat) (x y : Int) (hjk : (j = 2 ∧ k = 3 ∧ x = ((ys.length : Nat) : Int) / 256 % 256 ∧ y = ((ys.length : Nat) : Int) % 256) ∨ (j = 3 ∧ k = 2 ∧ y = ((ys.length : Nat) : Int) / 256 % 256 ∧ x = ((ys.length : Nat) : Int) % 256)) :
    Only (OS c S) w ((w.setCell ⟨g, j, none⟩ (.int .u8 x)).setCell ⟨g, k, none⟩ (.int .u8 y)) ∧ ∃ v l ys, ((w.setCell ⟨g, j, none⟩ (.int .u8 x)).setCell ⟨g, k, none⟩ (.int .u8 y)).heap[c]? = some (.cells #[v, .bool l] 50 (0, 0)) ∧ Owns 0 ((w.setCell ⟨g, j, none⟩ (.int .u8 x)).setCell ⟨g, k, none⟩ (.int .u8 y)) v ys ∧ IsB ys ∧ ys.length ≤ 8192 ∧ (∀ k, v.ownBlock = some k → S k) ∧ (l = false → ys = encMs m) ∧ (l = true → 8192 < (encMs m).length) := by
  have hgc : c ≠ g := fun e => gd.out (e ▸ hS)
  have hxy : (0 ≤ x ∧ x < 256) ∧ (0 ≤ y ∧ y < 256) := by omega
  refine ⟨((Only.refl _ _).setCell (p := ⟨g, j, none⟩) (Or.inr hS) _).setCell (p := ⟨g, k, none⟩) (Or.inr hS) _, _, l, _, ?_, (hw.set j x).set k y, (hB.set j hxy.1.1 hxy.1.2).set k hxy.2.1 hxy.2.2, by simpa using hl, ?_, fun hl0 => ?_, fun hl1 => ?_⟩
  · rw [heap_setCell_other _ ⟨g, k, none⟩ c _ hgc, heap_setCell_other _ ⟨g, j, none⟩ c _ hgc]; exact hc
  · intro k' hk'
    simp [Value.ownBlock] at hk'
    rw [← hk']; exact hS
  · have e := h0 hl0
    have hlen : ((ys.length : Nat) : Int) = ((8 + (body m).length : Nat) : Int) := by rw [e, List.length_append, hd0_len]
    unfold encMs
    rw [← size_set m _ (body m), ← e, ← hlen]
    rcases hjk with ⟨rfl, rfl, rfl, rfl⟩ | ⟨rfl, rfl, rfl, rfl⟩
    · rfl
    · rw [List.set_comm _ _ (by omega)]
  · have := h1 hl1
    rw [List.length_append, hd0_len] at this
    rw [body_le]; omega
end Go.Proofs.YtllbbbfkdgjffaaGreatDoor
namespace Go.Proofs.YtllbbbfkdgjffaaGreatDoor
open Go.RowKit

theorem Mss.fold {T : Nat → Prop} {w : World} : ∀ (l : List Fk) (m : Ms) (s : Sls), Mss T w m s → Mss T w (l.foldl clF m) (l.foldl clS s)
  | [], _, _, h => h
  | k :: l, _m, _s, h => Mss.fold l _ _ (h.cl k)
theorem Wt.raise {S : Nat → Prop} {w : World} {c m : Nat} {xs : List Int} (h : Wt S w c 0 xs) (hl : xs.length ≤ 8192) (hm : m ≤ xs.length) : Wt S w c m xs := by
  obtain ⟨gd, v, l, ys, h1, h2, h3, h4, h5, _, h7, h8⟩ := h
  refine ⟨gd, v, l, ys, h1, h2, h3, h4, h5, ?_, h7, h8⟩
  cases l with
  | false => rw [h7 rfl]; exact hm
  | true => have := h8 rfl; omega
section
variable {S : Nat → Prop} {c : Nat}
set_option maxHeartbeats 800000 in
theorem wmessage_type {w : World} (hW : Wt S w c 0 []) (m : Ms) (s : Sls) (h : isTy m.ty = false) :
    Calls Tryz.prog 15 #[ptr c, .agg (msc m s)] w (MsP S c m w) := by
  have hM1 : MB (w.alloc (.cells (msc m s) 37)) w.heap.size m s := heap_alloc_new _ _
  have HB := hid ((Below.refl w.heap.size w).alloc (Nat.le_refl _) (.cells (msc m s) 37))
  obtain ⟨a0, -⟩ := mb_cells hM1
  have HG := hid hW.gd
  have HP := hid (fun W => partsOf_no m.ty W h)
  have HO : Hid (okMs m = false) := by show _ = _; simp [okMs, h]
  clear hW hM1 h
  go_enter Tryz.func15, Tryz.ntmps15
  go_wp2_with (go_at_call 29; refine (HP.out _).mono ?_; rintro e w' ⟨rfl, hw⟩; rw [hw]; clear hw w')
  exact ⟨rfl, Only.of HB.out fun k hk => Or.inr (HG.out.fresh k hk), Or.inr ⟨HO.out, rfl⟩⟩

set_option maxHeartbeats 4000000 in
set_option maxRecDepth 100000 in
theorem wmessage_good {T : Nat → Prop} {w : World} (hW : Wt S w c 0 []) (m : Ms) (s : Sls) (hs : Mss T w m s) (hf : m.Fit) (hT : ∀ x, T x → ¬ S x ∧ x ≠ c) (h : isTy m.ty = true) :
    Calls Tryz.prog 15 #[ptr c, .agg (msc m s)] w (MsP S c m w) := by
  have hM1 : MB (w.alloc (.cells (msc m s) 37)) w.heap.size m s := heap_alloc_new _ _
  have hb1 := (Below.refl w.heap.size w).alloc (Nat.le_refl _) (.cells (msc m s) 37)
  obtain ⟨a0, -⟩ := mb_cells hM1
  have hs1 : (w.alloc (.cells (msc m s) 37)).heap.size = w.heap.size + 1 := by simp
  have HG := hid hW.gd
  have HW := hid hW
  have HP := hid (fun W => partsOf_yes m.ty W h)
  have HOne := hid hs.one
  have HMs := hid hs
  have hTw : ∀ x, T x → x < w.heap.size := fun x hx => by
    rcases Nat.lt_or_ge x w.heap.size with h' | h'
    · exact h'
    · exact absurd (HG.out.fresh x h') (hT x hx).1
  have hl3 : (pts m.ty).length ≤ 3 := by rcases pts_cases m.ty with h | h | h | h | h | h | h <;> rw [h] <;> simp
  have HOk : Hid (okMs m = (blank (rest m) && (pts m.ty).all (okF m))) := by show _ = _; simp [okMs, h]
  obtain ⟨W1, HW1⟩ : ∃ W, Hid (w.alloc (.cells (msc m s) 37) = W) := ⟨_, rfl⟩
  rw [HW1.out] at hM1 hb1 a0 hs1
  have HM1 := hid hM1
  have HB1 := hid hb1
  have HS1 := hid hs1
  clear hW hM1 hb1 hs1 hs
  go_enter Tryz.func15, Tryz.ntmps15
  go_upto_region 1 with fail
  rw [HW1.out]
  go_upto_region 2 with (go_at_call 29; refine (HP.out _).mono ?_; rintro e w2 ⟨v, rfl, hb, hp⟩; have HQ := hid (And.intro hb hp); clear hb hp)
  have HM2 : Hid (MB w2 w.heap.size m s) := (HQ.out.1.block _ (by rw [HS1.out]; omega)).trans HM1.out
  obtain ⟨va, vc, hv, -⟩ := HQ.out.2.form
  subst hv
  go_upto_region 3 with (first
    | (refine ldRow 37 (.tmp 3) rfl rfl w.heap.size rfl 37 (msc m s) _ Tryz.underlying37 rfl (sizeMs m s) HM2.out ?_)
    | (refine stNew 37 (.tmp 5) (.tmp 14) rfl rfl w2 37 _ (msc m s) (by with_reducible rfl) rfl rfl (sizeMs m s) (by rw [msc_size]; rfl) HOne.out ?_))
  have hz2 : w.heap.size + 1 ≤ w2.heap.size := by have := HQ.out.1.size; rw [HS1.out] at this; exact this
  have hb3 : Below w.heap.size w (w2.alloc (.cells (msc m s) 37)) := (HB1.out.trans (HQ.out.1.mono (by rw [HS1.out]; omega))).alloc (by omega) _
  have HM3 : Hid (MB (w2.alloc (.cells (msc m s) 37)) w.heap.size m s) := (heap_alloc_old _ _ (by omega)).trans HM2.out
  have HR3 : Hid (MB (w2.alloc (.cells (msc m s) 37)) w2.heap.size m s) := heap_alloc_new _ _
  have HP3 : Hid (Pts (fun x => w.heap.size + 1 ≤ x ∧ x < w2.heap.size) (w2.alloc (.cells (msc m s) 37)) (.slice va (pts m.ty).length vc) (pts m.ty)) := Pts.carry (fun b hb h => ⟨⟨by rw [HS1.out] at h; exact h, hb⟩, heap_alloc_old _ _ hb⟩) HQ.out.2
  have HZ3 : Hid ((w2.alloc (.cells (msc m s) 37)).heap.size = w2.heap.size + 1) := by show _ = _; simp
  have HB3 := hid hb3
  generalize w2.alloc (.cells (msc m s) 37) = W3 at HB3 HM3 HR3 HP3 HZ3 ⊢
  generalize w2.heap.size = b2 at hz2 HR3 HP3 HZ3 ⊢
  clear HQ HM2 HB1 HM1 HS1 hb3 HP
  go_wp2
  go_loopw [17] (fun i wr => ∃ j : Nat, j ≤ (pts m.ty).length ∧ i = .int .i64 j ∧ Only (fun x => x = b2 ∨ W3.heap.size ≤ x) W3 wr ∧ MB wr b2 (((pts m.ty).take j).foldl clF m) (((pts m.ty).take j).foldl clS s)) (fun i _ => (pts m.ty).length - (intOf i).toNat)
  case atStart => exact ⟨0, by omega, rfl, Only.refl _ _, HR3.out⟩
  case round =>
    obtain ⟨j, hj, rfl, ho, hMr⟩ := hrel
    have HO := hid ho
    have HMr := hid hMr
    clear ho hMr
    have HPr : Hid (Pts (fun x => w.heap.size + 1 ≤ x ∧ x < b2) wr (.slice va (pts m.ty).length vc) (pts m.ty)) := Pts.carry (fun b hb h => ⟨h, HO.out.block b (by rw [HZ3.out]; omega)⟩) HP3.out
    by_cases hlt : j < (pts m.ty).length
    · obtain ⟨ao', cap', he, -, -, -, h5⟩ := HPr.out
      obtain ⟨pb, po, hTb, hao, hcl⟩ := h5 (fun e => by rw [e] at hlt; simp at hlt)
      simp only [Value.slice.injEq] at he
      obtain ⟨rfl, -, -⟩ := he
      subst hao
      have hR := hcl j hlt
      have HSt : Hid ((pts m.ty).take (j + 1) = (pts m.ty).take j ++ [(pts m.ty)[j]]) := by show _ = _; rw [List.take_succ_eq_append_getElem hlt]
      generalize (pts m.ty)[j] = k at hR HSt
      obtain ⟨g1, g2, g3, f0, f1, f2, hPv⟩ := hR
      simp only [Nat.add_zero] at f0
      obtain ⟨W4, HW4⟩ : ∃ W, Hid (wr.alloc (.cells #[.func (.func (fn1 k)) #[] #[ptr g1], .func (.func (fn2 k)) #[] #[ptr g2, ptr g1], .func (.func (fn3 k)) #[] #[ptr g3, ptr g1]] 78) = W) := ⟨_, rfl⟩
      have hb4 : Below wr.heap.size wr W4 := by rw [← HW4.out]; exact (Below.refl _ _).alloc (Nat.le_refl _) _
      have hg4 : W4.heap[wr.heap.size]? = some (.cells #[.func (.func (fn1 k)) #[] #[ptr g1], .func (.func (fn2 k)) #[] #[ptr g2, ptr g1], .func (.func (fn3 k)) #[] #[ptr g3, ptr g1]] 78 (0, 0)) := by rw [← HW4.out]; exact heap_alloc_new _ _
      have hcell : W4.cell? ⟨wr.heap.size, 0, none⟩ = some (.func (.func (fn1 k)) #[] #[ptr g1]) := (three_cells hg4).1
      have hbr : b2 < wr.heap.size := (Array.getElem?_eq_some_iff.1 HMr.out).1
      have HC := hid (clear_any k W4 b2 g1 g2 g3 _ _ (show MB W4 b2 _ _ from (hb4.block b2 hbr).trans HMr.out) (hPv.carry fun b hb h => ⟨h, hb4.block b hb⟩) (by omega))
      have HB4 := hid hb4
      have HNx : Hid (∀ w5, Only (fun x => x = b2 ∨ W4.heap.size ≤ x) W4 w5 → MB w5 b2 (clF (((pts m.ty).take j).foldl clF m) k) (clS (((pts m.ty).take j).foldl clS s) k) → Only (fun x => x = b2 ∨ W3.heap.size ≤ x) W3 w5 ∧ MB w5 b2 (((pts m.ty).take (j + 1)).foldl clF m) (((pts m.ty).take (j + 1)).foldl clS s)) := by
        show ∀ _, _
        intro w5 h1 h2
        refine ⟨(HO.out.trans (Only.of HB4.out fun k hk => Or.inr (Nat.le_trans HO.out.size hk))).trans (h1.mono fun x hx => ?_), ?_⟩
        · rcases hx with hx | hx
          · exact Or.inl hx
          · exact Or.inr (Nat.le_trans HO.out.size (Nat.le_trans HB4.out.size hx))
        · rw [HSt.out, List.foldl_append, List.foldl_append]; exact h2
      clear hb4 hg4 hPv h5 hcl HSt hTb
      go_upto_region 6 with fail
      rw [HW4.out]
      go_wp2_with (refine callCl (fn1 k) (.tmp 22) _ _ [ptr b2] [ptr g1] rfl rfl rfl rfl (ent1 k) _ HC.out ?_; rintro e w5 ⟨rfl, hq⟩; refine Or.inl ⟨_, rfl, ?_⟩; have H5 := hid (HNx.out w5 hq.1 hq.2); clear hq)
      go_roundw
      case rel => exact ⟨j + 1, by omega, by go_num, H5.out⟩
      case measure => simp [intOf]; omega
    · obtain rfl : j = (pts m.ty).length := by omega
      have hMr : MB wr b2 (rest m) ((pts m.ty).foldl clS s) := by
        have := HMr.out
        rw [List.take_length] at this
        exact this
      have hbw : Below w.heap.size w wr := HB3.out.trans (HO.out.below fun k hk => by rcases hk with h | h; omega; have := HB3.out.size; omega)
      have hMss : Mss T wr m s := HMs.out.carry fun b hb h => ⟨h, hbw.block b hb⟩
      have HI := hid (isBlank_any (rest m) ((pts m.ty).foldl clS s) wr (Mss.fold _ _ _ hMss))
      have HRs := hid hMr
      have HBw := hid hbw
      have HMr2 : Hid (MB wr w.heap.size m s) := (HO.out.block _ (by rw [HZ3.out]; omega)).trans HM3.out
      clear hMr hbw hMss HMr HM3 HR3 HP3 HB3 HO HZ3
      cases hbl : blank (rest m) with
      | false =>
        rw [hbl] at HI HOk
        clear hbl
        go_wp2_with (first
          | (refine ldRow 37 (.tmp 5) rfl rfl b2 rfl 37 (msc (rest m) ((pts m.ty).foldl clS s)) _ Tryz.underlying37 rfl (sizeMs _ _) HRs.out ?_)
          | (go_at_call 31; refine (HI.out).mono ?_; rintro e w9 ⟨rfl, hb⟩; have HB9 := hid (HBw.out.trans (hb.mono HBw.out.size)); clear hb)
          | (go_at_call 30; refine (must_false _).mono ?_; rintro e w' ⟨rfl, hw⟩; rw [hw]; clear hw w'))
        exact ⟨rfl, Only.of HB9.out fun k hk => Or.inr (HG.out.fresh k hk), Or.inr ⟨HOk.out, rfl⟩⟩
      | true =>
        rw [hbl, Bool.true_and] at HOk
        rw [hbl] at HI
        clear hbl
        go_upto_region 9 with (first
          | (refine ldRow 37 (.tmp 5) rfl rfl b2 rfl 37 (msc (rest m) ((pts m.ty).foldl clS s)) _ Tryz.underlying37 rfl (sizeMs _ _) HRs.out ?_)
          | (go_at_call 31; refine (HI.out).mono ?_; rintro e w9 ⟨rfl, hb⟩; have HB9 := hid hb; clear hb)
          | (go_at_call 30; refine (must_true _).mono ?_; rintro e w' ⟨rfl, hw⟩; rw [hw]; clear hw w'))
        have hb9 : Below w.heap.size w w9 := HBw.out.trans (HB9.out.mono HBw.out.size)
        have hlt1 := (Array.getElem?_eq_some_iff.1 HMr2.out).1
        have hlt2 := (Array.getElem?_eq_some_iff.1 HRs.out).1
        have hz9 := HB9.out.size
        have HM9 : Hid (MB w9 w.heap.size m s) := (HB9.out.block _ hlt1).trans HMr2.out
        have HP9 : Hid (Pts (fun x => w.heap.size + 1 ≤ x ∧ x < b2) w9 (.slice va (pts m.ty).length vc) (pts m.ty)) := Pts.carry (fun b hb h => ⟨h, HB9.out.block b hb⟩) HPr.out
        have HMs9 : Hid (Mss T w9 m s) := HMs.out.carry fun b hb h => ⟨h, hb9.block b hb⟩
        obtain ⟨S1, HS1⟩ : ∃ S1, Hid (Sx S w.heap.size w9.heap.size = S1) := ⟨_, rfl⟩
        have HW9 : Hid (Wt S1 w9 c 0 []) := by
          have := HW.out.hide hb9
          rw [HS1.out] at this
          exact this
        have hcw := HG.out.lt
        have HN1 : Hid (∀ x, w.heap.size ≤ x → x < w9.heap.size → ¬ OS c S1 x) := by
          show ∀ _, _
          intro x h1 h2 h3
          rw [← HS1.out] at h3
          rcases h3 with h3 | h3
          · omega
          · have := h3.2; omega
        have HT1 : Hid (∀ x, T x → ¬ S1 x ∧ x ≠ c) := fun x hx => ⟨fun h => (hT x hx).1 (by rw [← HS1.out] at h; exact h.1), (hT x hx).2⟩
        have HEnd : Hid (∀ w', Only (OS c S1) w9 w' → Only (OS c S) w w') := fun w' ho => only_back HG.out hb9 (by rw [← HS1.out] at ho; exact ho)
        have HSub : Hid (∀ k, S1 k → S k) := fun k hk => by rw [← HS1.out] at hk; exact hk.1
        have HMx : Hid (∀ w', Only (OS c S1) w9 w' → MB w' w.heap.size m s) := fun w' ho => (ho.block _ (HN1.out _ (Nat.le_refl _) (by omega))).trans HM9.out
        have HCx : Hid (∀ w', Only (OS c S1) w9 w' → w'.cell? ⟨w.heap.size, 0, none⟩ = some (.int .i8 m.ty) ∧ w'.cell? ⟨w.heap.size, 1, none⟩ = some (.int .u32 m.id)) := fun w' ho => by
          obtain ⟨c0, c1, -⟩ := mb_cells (HMx.out w' ho)
          exact ⟨c0, c1⟩
        have hty := isTy_bd h
        have hty0 := hty.1
        have hty1 := hty.2
        have hid0 := hf.id.1
        have hid1 := hf.id.2
        obtain ⟨d0, d1⟩ := HCx.out w9 (Only.refl _ _)
        clear HI HRs HBw HMr2 HB9 hb9 HM9 HPr hlt1 hty HMs HW
        go_upto_region 13 with (first
          | (go_at_call 32; refine (wnumber_on H3.out.1 H3.out.2 4 m.id (by omega) (by omega)).mono ?_; rintro e w13 ⟨rfl, hq⟩; have H4 := hid hq; clear hq)
          | (go_at_call 32; refine (wnumber_on H2.out.1 H2.out.2 2 0 (by omega) (by omega)).mono ?_; rintro e w12 ⟨rfl, hq⟩; obtain ⟨t0, t1⟩ := HCx.out w12 hq.1; have H3 := hid hq; clear hq)
          | (go_at_call 32; refine (wnumber_on H1.out.1 H1.out.2 1 m.ty (by omega) (by omega)).mono ?_; rintro e w11 ⟨rfl, hq⟩; have H2 := hid hq; clear hq)
          | (go_at_call 32; refine (wnumber_on (Only.refl _ _) HW9.out 1 1 (by omega) (by omega)).mono ?_; rintro e w10 ⟨rfl, hq⟩; obtain ⟨s0, s1⟩ := HCx.out w10 hq.1; have H1 := hid hq; clear hq))
        have HHd : Hid (Only (OS c S1) w9 w13 ∧ Wt S1 w13 c 8 (hd0 m ++ [])) := by
          have h4 := H4.out
          simp only [List.nil_append, List.append_assoc] at h4
          refine And.intro h4.1 ?_
          rw [List.append_nil]
          exact h4.2.raise (by have := hd0_len m; unfold hd0 at this; omega) (by have := hd0_len m; unfold hd0 at this; omega)
        clear H4
        go_wp2
        go_loopw [44] (fun i wr => ∃ j : Nat, j ≤ (pts m.ty).length ∧ i = .int .i64 j ∧ Only (OS c S1) w9 wr ∧ Wt S1 wr c 8 (hd0 m ++ ((pts m.ty).take j).flatMap (encF m)) ∧ ((pts m.ty).take j).all (okF m) = true) (fun i _ => (pts m.ty).length - (intOf i).toNat)
        case atStart => exact ⟨0, by omega, rfl, HHd.out.1, by simpa using HHd.out.2, by simp⟩
        case round =>
          obtain ⟨j, hj, rfl, ho, hWr, hall⟩ := hrel
          have HO := hid ho
          have HWr := hid hWr
          have HALL := hid hall
          clear ho hWr hall HHd
          have HPr : Hid (Pts (fun x => w.heap.size + 1 ≤ x ∧ x < b2) wr (.slice va (pts m.ty).length vc) (pts m.ty)) := Pts.carry (fun b hb h => ⟨h, HO.out.block b (HN1.out b (by omega) hb)⟩) HP9.out
          by_cases hlt : j < (pts m.ty).length
          · obtain ⟨ao', cap', he, -, -, -, h5⟩ := HPr.out
            obtain ⟨pb, po, hTb, hao, hcl⟩ := h5 (fun e => by rw [e] at hlt; simp at hlt)
            simp only [Value.slice.injEq] at he
            obtain ⟨rfl, -, -⟩ := he
            subst hao
            have hR := hcl j hlt
            have HSt : Hid ((pts m.ty).take (j + 1) = (pts m.ty).take j ++ [(pts m.ty)[j]]) := by show _ = _; rw [List.take_succ_eq_append_getElem hlt]
            have HMem : Hid ((pts m.ty)[j] ∈ pts m.ty) := List.getElem_mem hlt
            generalize (pts m.ty)[j] = k at hR HSt HMem
            obtain ⟨g1, g2, g3, f0, f1, f2, hPv⟩ := hR
            simp only [Nat.add_zero] at f0
            obtain ⟨W5, HW5⟩ : ∃ W, Hid (wr.alloc (.cells #[.func (.func (fn1 k)) #[] #[ptr g1], .func (.func (fn2 k)) #[] #[ptr g2, ptr g1], .func (.func (fn3 k)) #[] #[ptr g3, ptr g1]] 78) = W) := ⟨_, rfl⟩
            have hb5 : Below wr.heap.size wr W5 := by rw [← HW5.out]; exact (Below.refl _ _).alloc (Nat.le_refl _) _
            have hg5 : W5.heap[wr.heap.size]? = some (.cells #[.func (.func (fn1 k)) #[] #[ptr g1], .func (.func (fn2 k)) #[] #[ptr g2, ptr g1], .func (.func (fn3 k)) #[] #[ptr g3, ptr g1]] 78 (0, 0)) := by rw [← HW5.out]; exact heap_alloc_new _ _
            have hcell : W5.cell? ⟨wr.heap.size, 1, none⟩ = some (.func (.func (fn2 k)) #[] #[ptr g2, ptr g1]) := (three_cells hg5).2.1
            have hW5 : Wt S1 W5 c 8 (hd0 m ++ ((pts m.ty).take j).flatMap (encF m)) := by rw [← HW5.out]; exact HWr.out.alloc _
            have ho5 : Only (OS c S1) w9 W5 := HO.out.trans (Only.of hb5 fun k hk => Or.inr (HWr.out.gd.fresh k hk))
            have hszr := HO.out.size
            have hM5 := HMx.out W5 ho5
            have hMs5 : Mss T W5 m s := HMs9.out.carry fun b _ hb => ⟨hb, ho5.block b (by rintro (e | e); exact (HT1.out b hb).2 e; exact (HT1.out b hb).1 e)⟩
            have HC := hid (wr_any k w.heap.size g1 g2 g3 m s hW5 hM5 hMs5 hf HT1.out (HN1.out _ (Nat.le_refl _) (by omega)) (hPv.carry (T' := fun x => w.heap.size + 1 ≤ x ∧ x < b2) fun b hb h => ⟨h, hb5.block b hb⟩) (fun x hx => HN1.out x (by omega) (by omega)))
            have HO5 := hid ho5
            have HTk : Hid (((pts m.ty).take (j + 1)).flatMap (encF m) = ((pts m.ty).take j).flatMap (encF m) ++ encF m k ∧ ((pts m.ty).take (j + 1)).all (okF m) = okF m k) := by
              refine And.intro ?_ ?_
              · rw [HSt.out, List.flatMap_append]; simp
              · rw [HSt.out, List.all_append, HALL.out]; simp
            have HNo : Hid (okF m k = false → (pts m.ty).all (okF m) = false) := fun hx => by
              cases h : (pts m.ty).all (okF m) with
              | false => rfl
              | true => exact absurd (List.all_eq_true.1 h k HMem.out) (by rw [hx]; simp)
            clear hb5 hg5 hPv h5 hcl HSt hTb hW5 ho5 hM5 hMs5 HMem
            cases hok : okF m k with
            | false =>
              rw [hok] at HC
              have HF := hid (HNo.out hok)
              clear hok
              go_upto_region 16 with fail
              rw [HW5.out]
              go_wp2_with (refine callCl (fn2 k) (.tmp 49) _ _ [ptr c, ptr w.heap.size] [ptr g2, ptr g1] rfl rfl rfl rfl (ent2 k) _ HC.out ?_; intro e w6 h9; obtain ⟨rfl, hq⟩ := h9.bad; refine Or.inr ⟨_, rfl, ?_⟩; have H6 := hid hq; clear hq h9)
              refine ⟨rfl, HEnd.out _ (HO5.out.trans H6.out), Or.inr ⟨?_, rfl⟩⟩
              rw [HOk.out]; exact HF.out
            | true =>
              rw [hok] at HC
              have HTk2 := hid HTk.out.2
              rw [hok] at HTk2
              clear hok
              go_upto_region 16 with fail
              rw [HW5.out]
              go_wp2_with (refine callCl (fn2 k) (.tmp 49) _ _ [ptr c, ptr w.heap.size] [ptr g2, ptr g1] rfl rfl rfl rfl (ent2 k) _ HC.out ?_; intro e w6 h9; obtain ⟨rfl, hq⟩ := h9.get; refine Or.inl ⟨_, rfl, ?_⟩; have H6 := hid hq; clear hq h9)
              go_roundw
              case rel => exact ⟨j + 1, by omega, by go_num, HO5.out.trans H6.out.1, by rw [HTk.out.1, ← List.append_assoc]; exact H6.out.2, HTk2.out⟩
              case measure => simp [intOf]; omega
          · obtain rfl : j = (pts m.ty).length := by omega
            have hall := HALL.out
            rw [List.take_length] at hall
            have hWr := HWr.out
            rw [List.take_length] at hWr
            have HOk2 : Hid (okMs m = true) := by show _ = _; rw [HOk.out]; exact hall
            obtain ⟨gd, v, l, ys, hc, hw, hvS, hB, hl, h8, e0, e1⟩ := hWr
            obtain ⟨g, cap, rfl, -⟩ := hw.form (by omega)
            obtain ⟨k0, -, -, -⟩ := two_cells hc
            obtain ⟨k2, z2⟩ := hw.cell 2 (by omega)
            obtain ⟨k3, z3⟩ := hw.cell 3 (by omega)
            have HFin := hid (ms_fin (m := m) gd hc hw (hvS g rfl) hB hl e0 e1 2 3 (((ys.length : Nat) : Int) / 256) (((ys.length : Nat) : Int) % 256) (Or.inl ⟨rfl, rfl, by omega, rfl⟩))
            have hgc : g ≠ c := fun e => gd.out (e ▸ hvS g rfl)
            clear hc hw e0 e1 gd hall HALL HWr HPr HP9 HMs9 hB
            go_wp2
            go_region
            all_goals
              go_wp2
              first | go_end0 | refine bodyPost_ret (results_none rfl _ _ _) rfl ?_
              obtain ⟨ho, v', l', ys', p1, p2, p3, p4, p5, p6⟩ := HFin.out
              exact ⟨HEnd.out _ (HO.out.trans ho.drew), Or.inl ⟨HOk2.out, rfl, v', l', ys', p1, owns_carry p2 (fun _ _ => rfl), p3, p4, fun k hk => HSub.out k (p5 k hk), p6⟩⟩
/-- WHAT message DOES. -/
theorem wmessage_any {T : Nat → Prop} {w : World} (hW : Wt S w c 0 []) (m : Ms) (s : Sls) (hs : Mss T w m s) (hf : m.Fit) (hT : ∀ x, T x → ¬ S x ∧ x ≠ c) :
    Calls Tryz.prog 15 #[ptr c, .agg (msc m s)] w (MsP S c m w) := by
  cases h : isTy m.ty with
  | false => exact wmessage_type hW m s h
  | true => exact wmessage_good hW m s hs hf hT h
end
end Go.Proofs.YtllbbbfkdgjffaaGreatDoor
namespace Go.Proofs.YtllbbbfkdgjffaaGreatDoor
open Go.RowKit

set_option maxHeartbeats 400000 in
theorem ecatch_panicking (p q : Nat) (x : Value) (y : Int) (t : TypeId) (pw : Value) (older : List PanicEntry) (w : World) (hP : w.heap[p]? = some (.cells #[x] 34 (0, 0))) (hQ : w.heap[q]? = some (.cells #[.int .i64 y] 38 (0, 0))) (hne : q ≠ p) :
    CallsD Tryz.prog 14 #[ptr p, ptr q] (.panicking ({ v := .iface t pw, recovered := false } :: older)) w fun e u' w' =>
      e = .returned (.tuple #[]) ∧ u' = .panicking ({ v := .iface t pw, recovered := true } :: older) ∧ w' = (w.setCell ⟨p, 0, none⟩ nilS).setCell ⟨q, 0, none⟩ (.int .i64 70) := by
  have hQ' : (w.setCell ⟨p, 0, none⟩ nilS).heap[q]? = some (.cells #[.int .i64 y] 38 (0, 0)) := by rw [heap_setCell_other _ ⟨p, 0, none⟩ q _ hne]; exact hQ
  have c0 := cell_of_one hP
  have f0 := free_of_one hP
  have c1 := cell_of_one hQ'
  have f1 := free_of_one hQ'
  refine callsD_of_wpS Tryz.func14 rfl fun c₀ cs hu => ?_
  apply wpS_seq
  apply wpS_region
  simp [wpOpsS, go_sem, recoverD, hu, Tryz.ntmps14, Exit.thenS]
  refine wpS_cond (t := true) (by simp [Act.eval, Array.replicate]) ?_
  simp only [if_true]
  refine wpS_of_wp ?_
  clear hQ hQ' hP
  go_wp2
  simp [bodyPostS, results, Tryz.results14]

set_option maxHeartbeats 400000 in
theorem ecatch_idle (p q : Addr) (w : World) :
    CallsD Tryz.prog 14 #[.pointer (some p), .pointer (some q)] .returning w fun e u' w' => e = .returned (.tuple #[]) ∧ u' = .returning ∧ w' = w := by
  refine callsD_of_wpS Tryz.func14 rfl fun c₀ cs hu => ?_
  apply wpS_seq
  apply wpS_region
  simp [wpOpsS, go_sem, recoverD, hu, Tryz.ntmps14, Exit.thenS]
  refine wpS_cond (t := false) (by simp [Act.eval, Array.replicate]) ?_
  simp only [Bool.false_eq_true, if_false]
  refine wpS_of_wp (wp_skip ?_)
  cases c₀
  simp_all [bodyPostS, results, Tryz.results14]

theorem resEnc (tmps : Array Value) (w : World) (p q : Nat) (ao : Option Addr) (n k : Nat) (x : Int) (hp : tmps.getD 2 undef = ptr p) (hq : tmps.getD 3 undef = ptr q) (hg : w.heap[p]? = some (.cells #[.slice ao n k] 34 (0, 0))) (hc : w.heap[q]? = some (.cells #[.int .i64 x] 38 (0, 0))) :
    (results Tryz.f6 tmps).run Tryz.prog w = .ok (.tuple #[.slice ao n k, .int .i64 x]) w := by
  have hp' : tmps[2]?.getD undef = ptr p := by simpa using hp
  have hq' : tmps[3]?.getD undef = ptr q := by simpa using hq
  have c0 := cell_of_one hg
  have c1 := cell_of_one hc
  have h1 : (loadVar 38 ⟨q, 0, none⟩).run Tryz.prog w = .ok (.int .i64 x) w := by simp [loadVar, go_sem, c1]
  have h0 : (loadVar 34 ⟨p, 0, none⟩).run Tryz.prog w = .ok (.slice ao n k) w := by simp [loadVar, go_sem, c0]
  simp [results, Tryz.results6, hp', hq', asAddr, h0, h1]

/-- The memory that Encode makes first. -/
theorem enc_four (w : World) (m : Ms) (s : Sls) : ∃ W, Hid (W = (((w.alloc (.cells (msc m s) 37)).alloc (.cells #[nilS] 34)).alloc (.cells #[.int .i64 0] 38)).alloc (.cells #[nilS, .bool false] 50)) ∧ Below w.heap.size w W ∧ W.heap.size = w.heap.size + 4 ∧ MB W w.heap.size m s ∧ W.heap[w.heap.size + 1]? = some (.cells #[nilS] 34 (0, 0)) ∧ W.heap[w.heap.size + 2]? = some (.cells #[.int .i64 0] 38 (0, 0)) ∧ W.heap[w.heap.size + 3]? = some (.cells #[nilS, .bool false] 50 (0, 0)) := three_new w _ _ _ _
theorem Owns.up {w : World} {v : Value} {ys : List Int} {base : Nat} (h : Owns 0 w v ys) (hb : ∀ k, v.ownBlock = some k → base ≤ k) : Owns base w v ys := by
  refine ⟨h.1, ?_⟩
  rcases h.2 with h | ⟨g, cap, cur, e, h1, h2, h3⟩
  · exact Or.inl h
  · exact Or.inr ⟨g, cap, cur, e, hb g (by rw [e]; rfl), h2, h3⟩
def enL (m : Ms) : List Int := if enE m = 0 then encMs m else []
theorem enE_bad {m : Ms} (h : okMs m = false) : enE m = 70 ∧ enL m = [] := by
  have : enE m = 70 := by simp [enE, h]
  exact ⟨this, by simp [enL, this]⟩
theorem enE_long {m : Ms} (h : okMs m = true) (hl : 8192 < (encMs m).length) : enE m = 3 ∧ enL m = [] := by
  have : enE m = 3 := by unfold enE; rw [h, if_pos rfl, if_neg (by omega)]
  exact ⟨this, by simp [enL, this]⟩
theorem enE_good {m : Ms} (h : okMs m = true) (hl : (encMs m).length ≤ 8192) : enE m = 0 ∧ enL m = encMs m := by
  have : enE m = 0 := by unfold enE; rw [h, if_pos rfl, if_pos hl]
  exact ⟨this, by simp [enL, this]⟩

set_option maxHeartbeats 1600000 in
set_option maxRecDepth 100000 in
theorem encode_any {T : Nat → Prop} (m : Ms) (s : Sls) (w : World) (hs : Mss T w m s) (hf : m.Fit) (hT : ∀ x, T x → x < w.heap.size) (ht : Tab w) :
    Calls Tryz.prog 6 #[.agg (msc m s)] w fun e w' => Below w.heap.size w w' ∧ ∃ v, e = .returned (.tuple #[v, .int .i64 (enE m)]) ∧ Owns w.heap.size w' v (enL m) := by
  have hmf : ∀ (fn : Fn) (first cap : Array Value) (w : World), (Instr.makeFunc fn first cap).run Tryz.prog w = .ok (.func fn first cap) w := fun _ _ _ _ => rfl
  obtain ⟨W, HW, hb, hz, h0, h1, h2, h3⟩ := enc_four w m s
  have hpos := ht.pos
  have hWt : Wt (fun k => w.heap.size + 3 < k) W (w.heap.size + 3) 0 [] := by
    refine ⟨⟨ht.on hb, fun k hk => by rw [hz] at hk; omega, fun k hk => by omega, by omega, by omega, by omega⟩, nilS, false, [], h3, Owns.isNil, fun k hk => by simp [Value.ownBlock] at hk, IsB.nil, by simp, by simp, fun _ => rfl, fun h => by cases h⟩
  have HC := hid (wmessage_any hWt m s (hs.carry (T' := T) fun b hb' h => ⟨h, hb.block b hb'⟩) hf (fun x hx => by have := hT x hx; omega))
  have H0 := hid h0
  have H1 := hid h1
  have H2 := hid h2
  have HB := hid hb
  clear hs hWt h0 h1 h2 h3 hb hT ht
  go_enter_defers Tryz.func6, Tryz.ntmps6
  go_upto_region 3 with fail
  rw [show ((((w.alloc (.cells (msc m s) 37)).alloc (.cells #[nilS] 34)).alloc (.cells #[.int .i64 0] 38)).alloc (.cells #[nilS, .bool false] 50)) = W from HW.out.symm]
  have HK : Hid (∀ w1, Only (OS (w.heap.size + 3) fun k => w.heap.size + 3 < k) W w1 → Below w.heap.size w w1 ∧ w1.heap[w.heap.size + 1]? = some (.cells #[nilS] 34 (0, 0)) ∧ w1.heap[w.heap.size + 2]? = some (.cells #[.int .i64 0] 38 (0, 0))) := by
    show ∀ _, _
    intro w1 ho
    refine ⟨HB.out.trans (ho.below fun k hk => by rcases hk with h | h <;> omega), ?_, ?_⟩
    · rw [ho.block _ (by rintro (h | h) <;> omega)]; exact H1.out
    · rw [ho.block _ (by rintro (h | h) <;> omega)]; exact H2.out
  cases hok : okMs m with
  | false =>
    have HE : Hid (Calls Tryz.prog 15 #[ptr (w.heap.size + 3), .agg (msc m s)] W fun e w' => e = .panicked PC ∧ Only (OS (w.heap.size + 3) fun k => w.heap.size + 3 < k) W w') := by
      refine HC.out.mono ?_
      rintro e w' ⟨ho, ⟨h9, _⟩ | ⟨_, h9⟩⟩
      · rw [hok] at h9; cases h9
      · exact ⟨h9, ho⟩
    have HN := hid (enE_bad hok)
    clear HC hok
    go_wp2_with (first
      | (refine ldRow 37 (.tmp 1) rfl rfl w.heap.size rfl 37 (msc m s) _ Tryz.underlying37 rfl (sizeMs m s) H0.out ?_)
      | (go_at_call 15; refine (HE.out).mono ?_; rintro e w1 ⟨rfl, ho1⟩; have HX := hid (HK.out w1 ho1); clear ho1))
    obtain ⟨hB1, hP1, hQ1⟩ := HX.out
    refine leaves_cons (f := 14) (args := #[ptr (w.heap.size + 1), ptr (w.heap.size + 2)]) (by simp) (by simp [go_sem]) ?_
    refine (ecatch_panicking (w.heap.size + 1) (w.heap.size + 2) _ 0 38 _ [] _ hP1 hQ1 (by omega)).mono ?_
    rintro e u' w'' ⟨rfl, rfl, rfl⟩
    have hp2 : ((w1.setCell ⟨w.heap.size + 1, 0, none⟩ nilS).setCell ⟨w.heap.size + 2, 0, none⟩ (.int .i64 70)).heap[w.heap.size + 1]? = some (.cells #[nilS] 34 (0, 0)) := by
      rw [heap_setCell_other _ ⟨w.heap.size + 2, 0, none⟩ (w.heap.size + 1) _ (show w.heap.size + 1 ≠ w.heap.size + 2 by omega)]; exact one_setCell hP1
    have hq2 : ((w1.setCell ⟨w.heap.size + 1, 0, none⟩ nilS).setCell ⟨w.heap.size + 2, 0, none⟩ (.int .i64 70)).heap[w.heap.size + 2]? = some (.cells #[.int .i64 70] 38 (0, 0)) := by
      refine one_setCell (v := .int .i64 0) ?_
      rw [heap_setCell_other _ ⟨w.heap.size + 1, 0, none⟩ (w.heap.size + 2) _ (show w.heap.size + 2 ≠ w.heap.size + 1 by omega)]; exact hQ1
    refine ⟨_, resEnc _ _ (w.heap.size + 1) (w.heap.size + 2) none 0 0 70 rfl rfl hp2 hq2, (hB1.setCell (by simp) _).setCell (by simp) _, nilS, by rw [HN.out.1], by rw [HN.out.2]; exact Owns.isNil⟩
  | true =>
    have HE : Hid (Calls Tryz.prog 15 #[ptr (w.heap.size + 3), .agg (msc m s)] W fun e w' => e = .returned (.tuple #[]) ∧ Only (OS (w.heap.size + 3) fun k => w.heap.size + 3 < k) W w' ∧ ∃ v l ys, w'.heap[w.heap.size + 3]? = some (.cells #[v, .bool l] 50 (0, 0)) ∧ Owns 0 w' v ys ∧ IsB ys ∧ ys.length ≤ 8192 ∧ (∀ k, v.ownBlock = some k → w.heap.size + 3 < k) ∧ (l = false → ys = encMs m) ∧ (l = true → 8192 < (encMs m).length)) := by
      refine HC.out.mono ?_
      rintro e w' ⟨ho, ⟨_, h8, h9⟩ | ⟨h9, _⟩⟩
      · exact ⟨h8, ho, h9⟩
      · rw [hok] at h9; cases h9
    have HOk := hid hok
    clear HC hok
    go_upto_region 4 with (first
      | (refine ldRow 37 (.tmp 1) rfl rfl w.heap.size rfl 37 (msc m s) _ Tryz.underlying37 rfl (sizeMs m s) H0.out ?_)
      | (go_at_call 15; refine (HE.out).mono ?_; rintro e w1 ⟨rfl, ho1, hx⟩; have HX := hid (HK.out w1 ho1); have HY := hid hx; clear ho1 hx))
    obtain ⟨v, l, ys, hc, hw, hB, hl, hS, e0, e1⟩ := HY.out
    obtain ⟨va, vc, rfl⟩ : ∃ va vc, v = .slice va ys.length vc := by
      rcases hw.2 with ⟨rfl, e⟩ | ⟨g, cap, cur, rfl, _⟩
      · exact ⟨none, 0, by rw [e]⟩
      · exact ⟨_, _, rfl⟩
    obtain ⟨d0, d1, -, -⟩ := two_cells hc
    have c1 := cell_of_one HX.out.2.1
    have f1 := free_of_one HX.out.2.1
    have HOw := hid hw
    have HSS := hid hS
    cases l with
    | true =>
      have HN := hid (enE_long HOk.out (e1 rfl))
      have HQ1 : Hid ((w1.setCell ⟨w.heap.size + 1, 0, none⟩ nilS).heap[w.heap.size + 2]? = some (.cells #[.int .i64 0] 38 (0, 0))) := (heap_setCell_other _ ⟨w.heap.size + 1, 0, none⟩ (w.heap.size + 2) _ (show w.heap.size + 2 ≠ w.heap.size + 1 by omega)).trans HX.out.2.2
      have c2 := cell_of_one HQ1.out
      have f2 := free_of_one HQ1.out
      clear hc hw hB hS e0 e1 HY
      go_wp2
      refine leaves_cons (f := 14) (args := #[ptr (w.heap.size + 1), ptr (w.heap.size + 2)]) (by simp) (by simp [go_sem]) ?_
      refine (ecatch_idle _ _ _).mono ?_
      rintro e u' w'' ⟨rfl, rfl, rfl⟩
      have hp2 : ((w1.setCell ⟨w.heap.size + 1, 0, none⟩ nilS).setCell ⟨w.heap.size + 2, 0, none⟩ (.int .i64 3)).heap[w.heap.size + 1]? = some (.cells #[nilS] 34 (0, 0)) := by
        rw [heap_setCell_other _ ⟨w.heap.size + 2, 0, none⟩ (w.heap.size + 1) _ (show w.heap.size + 1 ≠ w.heap.size + 2 by omega)]; exact one_setCell HX.out.2.1
      refine ⟨_, resEnc _ _ (w.heap.size + 1) (w.heap.size + 2) none 0 0 3 rfl rfl hp2 (one_setCell HQ1.out), (HX.out.1.setCell (by simp) _).setCell (by simp; try omega) _, nilS, by rw [HN.out.1], by rw [HN.out.2]; exact Owns.isNil⟩
    | false =>
      have e2 := e0 rfl
      have HN := hid (enE_good HOk.out (by rw [← e2]; exact hl))
      have HE2 := hid e2
      have HQ1 : Hid ((w1.setCell ⟨w.heap.size + 1, 0, none⟩ (.slice va ys.length vc)).heap[w.heap.size + 2]? = some (.cells #[.int .i64 0] 38 (0, 0))) := (heap_setCell_other _ ⟨w.heap.size + 1, 0, none⟩ (w.heap.size + 2) _ (show w.heap.size + 2 ≠ w.heap.size + 1 by omega)).trans HX.out.2.2
      have c2 := cell_of_one HQ1.out
      have f2 := free_of_one HQ1.out
      clear hc hw hB hS e0 e1 e2 HY
      go_wp2
      refine leaves_cons (f := 14) (args := #[ptr (w.heap.size + 1), ptr (w.heap.size + 2)]) (by simp) (by simp [go_sem]) ?_
      refine (ecatch_idle _ _ _).mono ?_
      rintro e u' w'' ⟨rfl, rfl, rfl⟩
      have hp2 : ((w1.setCell ⟨w.heap.size + 1, 0, none⟩ (.slice va ys.length vc)).setCell ⟨w.heap.size + 2, 0, none⟩ (.int .i64 0)).heap[w.heap.size + 1]? = some (.cells #[.slice va ys.length vc] 34 (0, 0)) := by
        rw [heap_setCell_other _ ⟨w.heap.size + 2, 0, none⟩ (w.heap.size + 1) _ (show w.heap.size + 1 ≠ w.heap.size + 2 by omega)]; exact one_setCell HX.out.2.1
      refine ⟨_, resEnc _ _ (w.heap.size + 1) (w.heap.size + 2) va ys.length vc 0 rfl rfl hp2 (one_setCell HQ1.out), (HX.out.1.setCell (by simp) _).setCell (by simp; try omega) _, _, by rw [HN.out.1], ?_⟩
      rw [HN.out.2, ← HE2.out]
      refine Owns.up (owns_carry HOw.out fun k hk => ?_) (fun k hk => by have := HSS.out k hk; omega)
      have := HSS.out k hk
      rw [heap_setCell_other _ ⟨w.heap.size + 2, 0, none⟩ k _ (show k ≠ w.heap.size + 2 by omega), heap_setCell_other _ ⟨w.heap.size + 1, 0, none⟩ k _ (show k ≠ w.heap.size + 1 by omega)]
end Go.Proofs.YtllbbbfkdgjffaaGreatDoor
