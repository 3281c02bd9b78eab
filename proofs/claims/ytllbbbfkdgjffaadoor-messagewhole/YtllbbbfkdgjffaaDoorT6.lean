/-
  Proved here: a part's closures clear and write, of whichever field. Conditions: the blocks that they look at are none that the writer turns.
-/
import Derived.Test.YtllbbbfkdgjffaaDoorT5
namespace Go.Proofs.YtllbbbfkdgjffaaDoor
open Go.RowKit

theorem set_rl (m : Ms) (s : Sls) (r : Rl) (u : Value) (w : World) (b : Nat) (h : MB w b m s) : MB (w.setCells b 3 (rlc r u).toList) b { m with r := r } { s with cp := u } := by
  obtain ⟨cur', h1, h2, h3, h4⟩ := setCells_all b (rlc r u).toList 3 w _ _ h
  rw [Array.length_toList, rlc_size] at h3 h4
  show _ = _
  rw [h1]
  obtain ⟨a0, a1, a2, a28, a29, a30, a31, a32, a33, a34, a35⟩ := msc_at m s
  have e : cur' = msc { m with r := r } { s with cp := u } := by
    refine msc_ext (by rw [h2, msc_size]) ?_ ?_ ?_ (fun k hk => ?_) ?_ ?_ ?_ ?_ ?_ ?_ ?_ ?_
    · rw [h3 0 (by omega), a0]
    · rw [h3 1 (by omega), a1]
    · rw [h3 2 (by omega), a2]
    · rw [h4 k (by omega) (by rw [msc_size]; omega)]
      simp
    · rw [h3 28 (by omega), a28]
    · rw [h3 29 (by omega), a29]
    · rw [h3 30 (by omega), a30]
    · rw [h3 31 (by omega), a31]
    · rw [h3 32 (by omega), a32]
    · rw [h3 33 (by omega), a33]
    · rw [h3 34 (by omega), a34]
    · rw [h3 35 (by omega), a35]
  rw [e]
/-- What a cleared or read field's store leaves. -/
theorem only_set {w : World} {b off : Nat} {v : Value} : Only (fun x => x = b ∨ w.heap.size ≤ x) w (w.setCell ⟨b, off, none⟩ v) := (Only.refl _ _).setCell (p := ⟨b, off, none⟩) (Or.inl rfl) v
set_option maxRecDepth 100000 in
theorem entO (k : Fk) : Ent (fnO k) := by cases k <;> exact fun _ _ => rfl
set_option maxRecDepth 100000 in
theorem entW (k : Fk) : Ent (fnW k) := by cases k <;> exact fun _ _ => rfl
set_option maxRecDepth 100000 in
theorem entR (k : Fk) : Ent (fnR k) := by cases k <;> exact fun _ _ => rfl
/-- A FIELD IS MADE NOTHING. -/
theorem clear_any {T : Nat → Prop} (k : Fk) (w : World) (b g1 g2 g3 : Nat) (m : Ms) (s : Sls) (hM : MB w b m s) (hP : Pv T w (fnO k) (fnW k) (fnR k) g1 g2 g3) (hT : ¬ T b) :
    Calls Tryd.prog (fn1 k) #[ptr b, ptr g1] w fun e w' => e = .returned (.tuple #[]) ∧ Only (fun x => x = b ∨ w.heap.size ≤ x) w w' ∧ MB w' b (clF m k) (clS s k) := by
  obtain ⟨c0, c1, c2, c28, c29, c30, c31, c32, c33, c34, c35⟩ := mb_cells hM
  have hb : b < w.heap.size := (Array.getElem?_eq_some_iff.1 hM).1
  cases k
  · exact (clearU_any w b 30 g1 _ _ hP.c1 c30 (mb_free hM _) (entO .sw) (fun w => of_any .sw b w)).mono fun e w' ⟨h1, h2⟩ => ⟨h1, by rw [h2]; exact only_set, by rw [h2]; exact mb_set hM (set_sw m s 0)⟩
  · exact (clearUs_any w b 31 g1 _ _ hP.c1 c31 (mb_free hM _) (entO .ps) (fun w => of_any .ps b w)).mono fun e w' ⟨h1, h2⟩ => ⟨h1, by rw [h2]; exact only_set, by rw [h2]; exact mb_set hM (set_ps m s [] nilS)⟩
  · exact (clearUs_any w b 32 g1 _ _ hP.c1 c32 (mb_free hM _) (entO .ed) (fun w => of_any .ed b w)).mono fun e w' ⟨h1, h2⟩ => ⟨h1, by rw [h2]; exact only_set, by rw [h2]; exact mb_set hM (set_ed m s [] nilS)⟩
  · exact (clearI_any w b 2 g1 _ _ hP.c1 c2 (mb_free hM _) (entO .dw) (fun w => of_any .dw b w)).mono fun e w' ⟨h1, h2⟩ => ⟨h1, by rw [h2]; exact only_set, by rw [h2]; exact mb_set hM (set_dw m s 0)⟩
  · refine (clearR_any w b 3 g1 _ hP.c1 (fun j hj => ⟨?_, mb_free hM _⟩) (fun e => hT (e ▸ hP.t1)) hb (entO .rl) (fun w => of_any .rl b w)).mono fun e w' ⟨h1, W, h2, h3⟩ => ⟨h1, ?_, ?_⟩
    · rw [cell_of_row w b (3 + j) _ _ _ hM, msc_rl m s j hj, Array.getElem?_eq_getElem (by rw [rlc_size]; exact hj)]; rfl
    · rw [h3]
      have hq := setCells_below b (rlc zRl nilS).toList 3 W
      refine (Only.of (S := fun x => x = b ∨ w.heap.size ≤ x) h2 (fun k hk => Or.inr hk)).trans ⟨hq.1, hq.2.1, hq.2.2.1, hq.2.2.2.1, fun k hk => hq.2.2.2.2 k fun e => hk (Or.inl e)⟩
    · rw [h3]
      exact set_rl m s zRl nilS W b (show _ = _ by rw [h2.block b hb]; exact hM)
  · exact (clearU_any w b 28 g1 _ _ hP.c1 c28 (mb_free hM _) (entO .po) (fun w => of_any .po b w)).mono fun e w' ⟨h1, h2⟩ => ⟨h1, by rw [h2]; exact only_set, by rw [h2]; exact mb_set hM (set_po m s 0)⟩
  · exact (clearU_any w b 28 g1 _ _ hP.c1 c28 (mb_free hM _) (entO .mo) (fun w => of_any .mo b w)).mono fun e w' ⟨h1, h2⟩ => ⟨h1, by rw [h2]; exact only_set, by rw [h2]; exact mb_set hM (set_po m s 0)⟩
  · exact (clearB_any w b 33 g1 _ _ hP.c1 c33 (mb_free hM _) (entO .fr) (fun w => of_any .fr b w)).mono fun e w' ⟨h1, h2⟩ => ⟨h1, by rw [h2]; exact only_set, by rw [h2]; exact mb_set hM (set_fr m s [] nilS)⟩
  · exact (clearH_any w b 34 g1 _ _ hP.c1 c34 (mb_free hM _) (entO .hs) (fun w => of_any .hs b w)).mono fun e w' ⟨h1, h2⟩ => ⟨h1, by rw [h2]; exact only_set, by rw [h2]; exact mb_set hM (set_hs m s [] nilS)⟩
  · exact (clearO_any w b 29 g1 _ _ hP.c1 c29 (mb_free hM _) (entO .up) (fun w => of_any .up b w)).mono fun e w' ⟨h1, h2⟩ => ⟨h1, by rw [h2]; exact only_set, by rw [h2]; exact mb_set hM (set_up m s false)⟩
  · exact (clearU_any w b 35 g1 _ _ hP.c1 c35 (mb_free hM _) (entO .co) (fun w => of_any .co b w)).mono fun e w' ⟨h1, h2⟩ => ⟨h1, by rw [h2]; exact only_set, by rw [h2]; exact mb_set hM (set_co m s 0)⟩

section
variable {S : Nat → Prop} {c m0 : Nat}
theorem only_drew {T : Nat → Prop} (w : World) : Only T w w.drew := (Only.refl T w).drew
/-- A FIELD IS WRITTEN. -/
theorem wr_any {T T' : Nat → Prop} {w : World} {xs : List Int} (k : Fk) (b g1 g2 g3 : Nat) (m : Ms) (s : Sls) (hW : Wt S w c m0 xs) (hM : MB w b m s) (hs : Mss T w m s) (hf : m.Fit) (hT : ∀ x, T x → ¬ S x ∧ x ≠ c) (hb : ¬ OS c S b) (hP : Pv T' w (fnO k) (fnW k) (fnR k) g1 g2 g3) (hT' : ∀ x, T' x → ¬ OS c S x) :
    Calls Tryd.prog (fn2 k) #[ptr c, ptr b, ptr g2, ptr g1] w (WrP S c m0 xs (encF m k) (okF m k) w) := by
  obtain ⟨c0, c1, c2, c28, c29, c30, c31, c32, c33, c34, c35⟩ := mb_cells hM
  have q1 := hT' g1 hP.t1
  have q2 := hT' g2 hP.t2
  have hd : ∀ b, b < w.heap.size → T b → T b ∧ w.drew.heap[b]? = w.heap[b]? := fun b _ h => ⟨h, rfl⟩
  have okt : ∀ l : List Int, l.all okSh = true := fun l => List.all_eq_true.2 fun _ _ => rfl
  cases k
  · exact writeU_any b 30 g1 g2 _ _ (.int .u16 m.sw) ⟨hP.c1, hP.c2, c30⟩ hb q1 q2 (entO .sw) (entW .sw) (fun w => of_any .sw b w) ((wshort_any hW.drew m.sw hf.sw).mono fun e w' h => h.from (only_drew w))
  · refine writeUs_any b 31 g1 g2 _ _ s.ps ⟨hP.c1, hP.c2, c31⟩ hb q1 q2 (entO .ps) (entW .ps) (fun w => of_any .ps b w) ((wshorts_any hW.drew s.ps m.ps (Shs.carry hd hs.ps) hT).mono fun e w' h => ?_)
    rw [okt] at h
    exact h.from (only_drew w)
  · refine writeUs_any b 32 g1 g2 _ _ s.ed ⟨hP.c1, hP.c2, c32⟩ hb q1 q2 (entO .ed) (entW .ed) (fun w => of_any .ed b w) ((wshorts_any hW.drew s.ed m.ed (Shs.carry hd hs.ed) hT).mono fun e w' h => ?_)
    rw [okt] at h
    exact h.from (only_drew w)
  · exact writeI_any b 2 g1 g2 _ _ (.int .i8 m.dw) ⟨hP.c1, hP.c2, c2⟩ hb q1 q2 (entO .dw) (entW .dw) (fun w => of_any .dw b w) ((wdo_any hW.drew m.dw hf.dw).mono fun e w' h => h.from (only_drew w))
  · exact writeR_any b 3 g1 g2 _ _ (rlc m.r s.cp) (rlc_size _ _) ⟨hP.c1, hP.c2, mb_range hM⟩ hb q1 q2 (entO .rl) (entW .rl) (fun w => of_any .rl b w) ((wrule_any hW.drew m.r s.cp (Cps.carry hd hs.cp) hf.r hT).mono fun e w' h => h.from (only_drew w))
  · exact writeU_any b 28 g1 g2 _ _ (.int .u16 m.po) ⟨hP.c1, hP.c2, c28⟩ hb q1 q2 (entO .po) (entW .po) (fun w => of_any .po b w) ((wshort_any hW.drew m.po hf.po).mono fun e w' h => h.from (only_drew w))
  · exact writeU_any b 28 g1 g2 _ _ (.int .u16 m.po) ⟨hP.c1, hP.c2, c28⟩ hb q1 q2 (entO .mo) (entW .mo) (fun w => of_any .mo b w) ((wmore_any hW.drew m.po hf.po).mono fun e w' h => h.from (only_drew w))
  · exact writeB_any b 33 g1 g2 _ _ s.fr ⟨hP.c1, hP.c2, c33⟩ hb q1 q2 (entO .fr) (entW .fr) (fun w => of_any .fr b w) ((wframe_any hW.drew s.fr m.fr (hs.fr.carry hd) hT).mono fun e w' h => h.from (only_drew w))
  · exact writeH_any b 34 g1 g2 _ _ s.hs ⟨hP.c1, hP.c2, c34⟩ hb q1 q2 (entO .hs) (entW .hs) (fun w => of_any .hs b w) ((whelds_any hW.drew s.hs m.hs (Hds.carry hd hs.hs) hT).mono fun e w' h => h.from (only_drew w))
  · exact writeO_any b 29 g1 g2 _ _ (.bool m.up) ⟨hP.c1, hP.c2, c29⟩ hb q1 q2 (entO .up) (entW .up) (fun w => of_any .up b w) ((wup_any hW.drew m.up).mono fun e w' h => h.from (only_drew w))
  · exact writeU_any b 35 g1 g2 _ _ (.int .u16 m.co) ⟨hP.c1, hP.c2, c35⟩ hb q1 q2 (entO .co) (entW .co) (fun w => of_any .co b w) ((wshort_any hW.drew m.co hf.co).mono fun e w' h => h.from (only_drew w))
end
end Go.Proofs.YtllbbbfkdgjffaaDoor
