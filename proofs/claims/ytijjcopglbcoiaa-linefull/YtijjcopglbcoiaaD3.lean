/-
  Proved here: the cursor's method datagram reads a datagram's parts, or panics with ErrMessage. Conditions: at least 14 bytes, which lie in blocks of T, older than n; the cursor's block is none of them.
-/
import Derived.Test.YtijjcopglbcoiaaD2
namespace Go.Proofs.Ytijjcopglbcoiaa
open Go.RowKit Seal

/-- A datagram as a value. -/
abbrev dgc (p c q : Nat) (v : Value) : Array Value := #[.int .u32 (p : Nat), .int .u64 (c : Nat), .int .u64 (q : Nat), v]
/-- The four cells of a datagram's block. -/
theorem dg_cells {w : World} {g : Nat} {x0 x1 x2 x3 : Value} {t : TypeId} (h : w.heap[g]? = some (.cells #[x0, x1, x2, x3] t (0, 0))) : w.cell? ⟨g, 0, none⟩ = some x0 ∧ w.cell? ⟨g, 1, none⟩ = some x1 ∧ w.cell? ⟨g, 2, none⟩ = some x2 ∧ w.cell? ⟨g, 3, none⟩ = some x3 ∧
    w.frozen? ⟨g, 0, none⟩ = false ∧ w.frozen? ⟨g, 1, none⟩ = false ∧ w.frozen? ⟨g, 2, none⟩ = false ∧ w.frozen? ⟨g, 3, none⟩ = false := by
  refine ⟨?_, ?_, ?_, ?_, ?_, ?_, ?_, ?_⟩
  · rw [cell_of_row w g 0 _ _ _ h]; rfl
  · rw [cell_of_row w g 1 _ _ _ h]; rfl
  · rw [cell_of_row w g 2 _ _ _ h]; rfl
  · rw [cell_of_row w g 3 _ _ _ h]; rfl
  all_goals simp [World.frozen?, h]

/-- A datagram's block, stored anew. -/
theorem set4 {w : World} {g : Nat} {x0 x1 x2 x3 : Value} {t : TypeId} (h : w.heap[g]? = some (.cells #[x0, x1, x2, x3] t (0, 0))) (y0 y1 y2 y3 : Value) :
    ((((w.setCell ⟨g, 0, none⟩ y0).setCell ⟨g, 1, none⟩ y1).setCell ⟨g, 2, none⟩ y2).setCell ⟨g, 3, none⟩ y3).heap[g]? = some (.cells #[y0, y1, y2, y3] t (0, 0)) ∧ ∀ k, k ≠ g → ((((w.setCell ⟨g, 0, none⟩ y0).setCell ⟨g, 1, none⟩ y1).setCell ⟨g, 2, none⟩ y2).setCell ⟨g, 3, none⟩ y3).heap[k]? = w.heap[k]? := by
  refine ⟨?_, fun k hk => ?_⟩
  · rw [heap_setCell_same _ g 3 _ _ _ (heap_setCell_same _ g 2 _ _ _ (heap_setCell_same _ g 1 _ _ _ (heap_setCell_same _ g 0 _ _ _ h)))]; rfl
  · rw [heap_setCell_other _ ⟨g, 3, none⟩ k _ hk, heap_setCell_other _ ⟨g, 2, none⟩ k _ hk, heap_setCell_other _ ⟨g, 1, none⟩ k _ hk, heap_setCell_other _ ⟨g, 0, none⟩ k _ hk]

/-- Within datagram: block g is the answer's, block d holds the parts so far; the cursor has the bytes r ahead. -/
structure Dt (T : Nat → Prop) (c n g d : Nat) (w wx : World) (x0 x1 x2 x3 : Value) (r : List Int) : Prop where
  only : Only (OC c n) w wx
  cur : Cur T wx c r
  bg : wx.heap[g]? = some (.cells #[.int .u32 0, .int .u64 0, .int .u64 0, nilS] 62 (0, 0))
  bd : wx.heap[d]? = some (.cells #[x0, x1, x2, x3] 62 (0, 0))
theorem Dt.call {T : Nat → Prop} {c n g d : Nat} {w wx wy : World} {x0 x1 x2 x3 : Value} {r r' : List Int} (h : Dt T c n g d w wx x0 x1 x2 x3 r) (hg : g ≠ c) (hd : d ≠ c) (ho : Only (fun x => x = c) wx wy) (hc : Cur T wy c r') : Dt T c n g d w wy x0 x1 x2 x3 r' :=
  ⟨h.only.trans ho.oc, hc, by rw [ho.block g hg]; exact h.bg, by rw [ho.block d hd]; exact h.bd⟩
theorem Dt.set {T : Nat → Prop} {c n g d : Nat} {w wx : World} {x0 x1 x2 x3 : Value} {r : List Int} (h : Dt T c n g d w wx x0 x1 x2 x3 r) (hT : ∀ k, T k → k < n ∧ k ≠ c) (hcn : c < n) (hd : n ≤ d) (hg : g ≠ d) (i : Nat) (v : Value) {y0 y1 y2 y3 : Value} (hy : (#[x0, x1, x2, x3] : Array Value).setIfInBounds i v = #[y0, y1, y2, y3]) : Dt T c n g d w (wx.setCell ⟨d, i, none⟩ v) y0 y1 y2 y3 r := by
  have hb : ∀ k, k ≠ d → (wx.setCell ⟨d, i, none⟩ v).heap[k]? = wx.heap[k]? := fun k hk => heap_setCell_other wx ⟨d, i, none⟩ k v hk
  refine ⟨h.only.setCell (p := ⟨d, i, none⟩) (Or.inr hd) v, h.cur.carry (hb c (by omega)) fun k _ hk => ⟨hk, hb k (by have := hT k hk; omega)⟩, by rw [hb g hg]; exact h.bg, ?_⟩
  rw [heap_setCell_same _ d i _ _ _ h.bd, hy]
theorem drop_fld (bs : List Int) (a k : Nat) : fld (bs.drop a) 0 k = fld bs a k := by simp [fld]

set_option maxRecDepth 100000 in
set_option maxHeartbeats 1600000 in
theorem datagram_any {T : Nat → Prop} (c n : Nat) (bs : List Int) (w : World) (hc : Cur T w c bs) (hT : ∀ k, T k → k < n ∧ k ≠ c) (hcn : c < n) (hn : n ≤ w.heap.size) (h14 : 14 ≤ bs.length) (p q r : Nat) (hp : fld bs 0 4 = p) (hq : fld bs 4 4 = q) (hr : fld bs 8 4 = r) :
    Calls Try.prog 46 #[.pointer (some ⟨c, 0, none⟩)] w fun e w' => Only (OC c n) w w' ∧ ((spl bs = none ∧ e = .panicked PC) ∨ ∃ l v, spl bs = some l ∧ l.length ≤ 32 ∧ e = .returned (.agg (dgc p q r v)) ∧ Sp (fun k => n ≤ k) T w' v l) := by
  have hTc : ¬ T c := fun h => (hT c h).2 rfl
  have e4 : (2 : Int) ^ (8 * 4) = 4294967296 := by decide
  have hp32 : p < 4294967296 := by have h := (fld_bd hc.isB 0 4).2; rw [hp, e4] at h; omega
  have hq32 : q < 4294967296 := by have h := (fld_bd hc.isB 4 4).2; rw [hq, e4] at h; omega
  have hr32 : r < 4294967296 := by have h := (fld_bd hc.isB 8 4).2; rw [hr, e4] at h; omega
  have HN : Hid (∀ (wx : World) (x0 x1 x2 x3 : Value) (a m : Nat), Dt T c n w.heap.size (w.heap.size + 1) w wx x0 x1 x2 x3 (bs.drop a) → a + 4 ≤ bs.length → fld bs a 4 = m → Calls Try.prog 53 #[.pointer (some ⟨c, 0, none⟩), .int .i64 4] wx fun e w' => e = .returned (.int .u64 (m : Nat)) ∧ Dt T c n w.heap.size (w.heap.size + 1) w w' x0 x1 x2 x3 (bs.drop (a + 4))) := by
    show ∀ _, _
    intro wx x0 x1 x2 x3 a m hd ha hm
    have := number_yes c 4 (bs.drop a) wx hd.cur hTc (by rw [List.length_drop]; omega) (by omega) (by omega)
    rw [drop_fld, hm, List.drop_drop] at this
    refine this.mono ?_
    rintro e w' ⟨rfl, ho, hc'⟩
    exact ⟨rfl, hd.call (by omega) (by omega) ho hc'⟩
  have HS : Hid (spl bs = (rdms (bs.drop 12)).bind fun q => if q.2 = [] then some q.1 else none) := spl_rdms h14
  obtain ⟨W0, hW0⟩ : ∃ W0, W0 = (w.alloc (.cells #[.int .u32 0, .int .u64 0, .int .u64 0, nilS] 62)).alloc (.cells #[.int .u32 0, .int .u64 0, .int .u64 0, nilS] 62) := ⟨_, rfl⟩
  have H0 : Hid (Dt T c n w.heap.size (w.heap.size + 1) w W0 (.int .u32 0) (.int .u64 0) (.int .u64 0) nilS (bs.drop 0)) := by
    have hfr : Fresh (OC c n) w := fun k hk => Or.inr (Nat.le_trans hn hk)
    have ho : Only (OC c n) w W0 := by rw [hW0]; exact ((Only.refl _ w).alloc hfr _).alloc (hfr.on (by simp)) _
    have hold : ∀ k, k < w.heap.size → W0.heap[k]? = w.heap[k]? := fun k hk => by rw [hW0, heap_alloc_old _ _ (by simp; omega), heap_alloc_old _ _ hk]
    refine ⟨ho, ?_, ?_, ?_⟩
    · rw [List.drop_zero]; exact hc.carry (hold c hc.lt) fun k hk h => ⟨h, hold k hk⟩
    · rw [hW0, heap_alloc_old _ _ (by simp)]; exact heap_alloc_new _ _
    · rw [hW0]
      have := heap_alloc_new (w.alloc (.cells #[.int .u32 0, .int .u64 0, .int .u64 0, nilS] 62)) (.cells #[.int .u32 0, .int .u64 0, .int .u64 0, nilS] 62)
      simpa using this
  have HW : Hid (W0 = (w.alloc (.cells #[.int .u32 0, .int .u64 0, .int .u64 0, nilS] 62)).alloc (.cells #[.int .u32 0, .int .u64 0, .int .u64 0, nilS] 62)) := hW0
  have HF : Hid (fld bs 0 4 = p ∧ fld bs 4 4 = q ∧ fld bs 8 4 = r) := ⟨hp, hq, hr⟩
  clear hc hW0 hp hq hr e4
  go_enter Try.func46, Try.ntmps46
  go_upto_region 2 with fail
  rw [← HW.out]
  clear HW
  obtain ⟨d0, d1, d2, d3, e0, e1, e2, e3⟩ := dg_cells H0.out.bd
  go_upto_region 3 with (go_at_call 53; refine (HN.out W0 _ _ _ _ 0 p H0.out (by omega) HF.out.1).mono ?_; rintro e w1 ⟨rfl, h1⟩; obtain ⟨i0, i1, i2, i3, j0, j1, j2, j3⟩ := dg_cells h1.bd; have H1 : Hid (Dt T c n w.heap.size (w.heap.size + 1) w w1 (.int .u32 0) (.int .u64 0) (.int .u64 0) nilS (bs.drop 4)) := h1; clear h1)
  have K1 : Hid (Dt T c n w.heap.size (w.heap.size + 1) w (w1.setCell ⟨w.heap.size + 1, 0, none⟩ (.int .u32 (p : Nat))) (.int .u32 (p : Nat)) (.int .u64 0) (.int .u64 0) nilS (bs.drop 4)) := H1.out.set hT hcn (by omega) (by omega) 0 _ rfl
  clear d0 d1 d2 d3 e0 e1 e2 e3 i0 i1 i2 i3 j0 j1 j2 j3 H1
  generalize w1.setCell ⟨w.heap.size + 1, 0, none⟩ (.int .u32 (p : Nat)) = x1 at K1 ⊢
  obtain ⟨d0, d1, d2, d3, e0, e1, e2, e3⟩ := dg_cells K1.out.bd
  go_upto_region 4 with (go_at_call 53; refine (HN.out x1 _ _ _ _ 4 q K1.out (by omega) HF.out.2.1).mono ?_; rintro e w2 ⟨rfl, h2⟩; obtain ⟨i0, i1, i2, i3, j0, j1, j2, j3⟩ := dg_cells h2.bd; have H2 : Hid (Dt T c n w.heap.size (w.heap.size + 1) w w2 (.int .u32 (p : Nat)) (.int .u64 0) (.int .u64 0) nilS (bs.drop 8)) := h2; clear h2)
  have K2 : Hid (Dt T c n w.heap.size (w.heap.size + 1) w (w2.setCell ⟨w.heap.size + 1, 1, none⟩ (.int .u64 (q : Nat))) (.int .u32 (p : Nat)) (.int .u64 (q : Nat)) (.int .u64 0) nilS (bs.drop 8)) := H2.out.set hT hcn (by omega) (by omega) 1 _ rfl
  clear d0 d1 d2 d3 e0 e1 e2 e3 i0 i1 i2 i3 j0 j1 j2 j3 H2
  generalize w2.setCell ⟨w.heap.size + 1, 1, none⟩ (.int .u64 (q : Nat)) = x2 at K2 ⊢
  obtain ⟨d0, d1, d2, d3, e0, e1, e2, e3⟩ := dg_cells K2.out.bd
  go_upto_region 5 with (go_at_call 53; refine (HN.out x2 _ _ _ _ 8 r K2.out (by omega) HF.out.2.2).mono ?_; rintro e w3 ⟨rfl, h3⟩; obtain ⟨i0, i1, i2, i3, j0, j1, j2, j3⟩ := dg_cells h3.bd; have H3 : Hid (Dt T c n w.heap.size (w.heap.size + 1) w w3 (.int .u32 (p : Nat)) (.int .u64 (q : Nat)) (.int .u64 0) nilS (bs.drop 12)) := h3; clear h3)
  have K3 : Hid (Dt T c n w.heap.size (w.heap.size + 1) w (w3.setCell ⟨w.heap.size + 1, 2, none⟩ (.int .u64 (r : Nat))) (.int .u32 (p : Nat)) (.int .u64 (q : Nat)) (.int .u64 (r : Nat)) nilS (bs.drop 12)) := H3.out.set hT hcn (by omega) (by omega) 2 _ rfl
  clear d0 d1 d2 d3 e0 e1 e2 e3 i0 i1 i2 i3 j0 j1 j2 j3 H3
  generalize w3.setCell ⟨w.heap.size + 1, 2, none⟩ (.int .u64 (r : Nat)) = x3 at K3 ⊢
  obtain ⟨d0, d1, d2, d3, e0, e1, e2, e3⟩ := dg_cells K3.out.bd
  have hx3 : w.heap.size + 2 ≤ x3.heap.size := (Array.getElem?_eq_some_iff.1 K3.out.bd).1
  have HMs := messages_any c (w.heap.size + 2) (bs.drop 12) x3 K3.out.cur (fun k hk => ⟨by have := (hT k hk).1; omega, (hT k hk).2⟩) (by omega) hx3
  clear hx3
  cases hrd : rdms (bs.drop 12) with
  | none =>
    have HNo : Hid (spl bs = none) := by show _ = _; rw [HS.out, hrd]; rfl
    have HM' : Hid (Calls Try.prog 54 #[.pointer (some ⟨c, 0, none⟩)] x3 fun e w' => Only (OC c (w.heap.size + 2)) x3 w' ∧ e = .panicked PC) := by
      refine HMs.mono ?_
      rintro e w' ⟨h, ⟨_, rfl⟩ | ⟨_, _, _, h9, _⟩⟩
      · exact ⟨h, rfl⟩
      · rw [hrd] at h9; cases h9
    clear HMs hrd HS
    go_wp2_with (go_at_call 54; refine (HM'.out).mono ?_; rintro e w4 ⟨ho4, rfl⟩)
    exact ⟨rfl, K3.out.only.trans (ho4.mono fun k hk => by rcases hk with h | h; exact Or.inl h; exact Or.inr (by omega)), Or.inl ⟨HNo.out, rfl⟩⟩
  | some lr =>
    obtain ⟨l, rr⟩ := lr
    have HM' : Hid (Calls Try.prog 54 #[.pointer (some ⟨c, 0, none⟩)] x3 fun e w' => ∃ ao cap, e = .returned (.slice ao l.length cap) ∧ l.length ≤ 32 ∧ Dt T c n w.heap.size (w.heap.size + 1) w w' (.int .u32 (p : Nat)) (.int .u64 (q : Nat)) (.int .u64 (r : Nat)) nilS rr ∧ Sp (fun k => w.heap.size + 2 ≤ k) T w' (.slice ao l.length cap) l) := by
      refine HMs.mono ?_
      rintro e w' ⟨ho, ⟨h9, _⟩ | ⟨l', r', v, h9, h32, rfl, hsp, hcu⟩⟩
      · rw [hrd] at h9; cases h9
      · rw [hrd] at h9; cases h9
        obtain ⟨ao, cap, rfl, -⟩ := hsp.form
        refine ⟨ao, cap, rfl, h32, ⟨K3.out.only.trans (ho.mono fun k hk => by rcases hk with h | h; exact Or.inl h; exact Or.inr (by omega)), hcu, ?_, ?_⟩, hsp⟩
        · rw [ho.block _ (by rintro (h | h) <;> omega)]; exact K3.out.bg
        · rw [ho.block _ (by rintro (h | h) <;> omega)]; exact K3.out.bd
    have HSp : Hid (spl bs = if rr = [] then some l else none) := by show _ = _; rw [HS.out, hrd]; rfl
    clear HMs hrd HS
    go_upto_region 6 with (go_at_call 54; refine (HM'.out).mono ?_; rintro e w4 ⟨ao, cap, rfl, h32, h4, hsp4⟩; obtain ⟨i0, i1, i2, i3, j0, j1, j2, j3⟩ := dg_cells h4.bd; have H4 : Hid (Dt T c n w.heap.size (w.heap.size + 1) w w4 (.int .u32 (p : Nat)) (.int .u64 (q : Nat)) (.int .u64 (r : Nat)) nilS rr) := h4; have HP4 : Hid (Sp (fun k => w.heap.size + 2 ≤ k) T w4 (.slice ao l.length cap) l) := hsp4; clear h4 hsp4)
    have K4 : Hid (Dt T c n w.heap.size (w.heap.size + 1) w (w4.setCell ⟨w.heap.size + 1, 3, none⟩ (.slice ao l.length cap)) (.int .u32 (p : Nat)) (.int .u64 (q : Nat)) (.int .u64 (r : Nat)) (.slice ao l.length cap) rr) := H4.out.set hT hcn (by omega) (by omega) 3 _ rfl
    have HP5 : Hid (Sp (fun k => w.heap.size + 2 ≤ k) T (w4.setCell ⟨w.heap.size + 1, 3, none⟩ (.slice ao l.length cap)) (.slice ao l.length cap) l) := HP4.out.carry (fun k _ hk => ⟨hk, heap_setCell_other w4 ⟨w.heap.size + 1, 3, none⟩ k _ (show k ≠ w.heap.size + 1 by omega)⟩) (fun k _ hk => ⟨hk, heap_setCell_other w4 ⟨w.heap.size + 1, 3, none⟩ k _ (show k ≠ w.heap.size + 1 by have := hT k hk; omega)⟩)
    clear d0 d1 d2 d3 e0 e1 e2 e3 i0 i1 i2 i3 j0 j1 j2 j3 H4 HP4 HM'
    generalize w4.setCell ⟨w.heap.size + 1, 3, none⟩ (.slice ao l.length cap) = x4 at K4 HP5 ⊢
    obtain ⟨d0, d1, d2, d3, e0, e1, e2, e3⟩ := dg_cells K4.out.bd
    obtain ⟨g0, g1, g2, g3, f0, f1, f2, f3⟩ := dg_cells K4.out.bg
    obtain ⟨vc, hvc, hvs⟩ := K4.out.cur
    obtain ⟨ac, kc, rfl, -⟩ := hvs
    have cc := cell_of_one hvc
    clear hvc
    by_cases hrr : rr = []
    · subst hrr
      have HY : Hid (spl bs = some l) := by show _ = _; rw [HSp.out, if_pos rfl]
      clear HSp
      go_wp2_with (go_at_call 55; refine (must_true _).mono ?_; rintro e w' ⟨rfl, hw⟩; rw [hw]; clear hw w')
      have hS4 := set4 K4.out.bg (.int .u32 (p : Nat)) (.int .u64 (q : Nat)) (.int .u64 (r : Nat)) (.slice ao l.length cap)
      have hP6 := HP5.out.carry (S' := fun k => n ≤ k) (T' := T) (w' := (((x4.setCell ⟨w.heap.size, 0, none⟩ (.int .u32 (p : Nat))).setCell ⟨w.heap.size, 1, none⟩ (.int .u64 (q : Nat))).setCell ⟨w.heap.size, 2, none⟩ (.int .u64 (r : Nat))).setCell ⟨w.heap.size, 3, none⟩ (.slice ao l.length cap)) (fun k _ hk => ⟨by omega, hS4.2 k (by omega)⟩) (fun k _ hk => ⟨hk, hS4.2 k (by have := hT k hk; omega)⟩)
      have hO6 := (((K4.out.only.setCell (p := ⟨w.heap.size, 0, none⟩) (Or.inr hn) (.int .u32 (p : Nat))).setCell (p := ⟨w.heap.size, 1, none⟩) (Or.inr hn) (.int .u64 (q : Nat))).setCell (p := ⟨w.heap.size, 2, none⟩) (Or.inr hn) (.int .u64 (r : Nat))).setCell (p := ⟨w.heap.size, 3, none⟩) (Or.inr hn) (.slice ao l.length cap)
      refine bodyPost_ret (results_cell_row Try.results46 _ _ w.heap.size 62 _ (0, 0) _ rfl hS4.1 Try.underlying62 rfl (by kernel_rfl)) rfl ⟨hO6, Or.inr ⟨l, _, HY.out, h32, rfl, hP6⟩⟩
    · have HY : Hid (spl bs = none) := by show _ = _; rw [HSp.out, if_neg hrr]
      have hl0 : ((rr.length : Int) == 0) = false := by
        have : rr.length ≠ 0 := fun h => hrr (List.length_eq_zero_iff.1 h)
        simp; exact hrr
      clear HSp hrr
      go_wp2_with (go_at_call 55; refine (must_false _).mono ?_; rintro e w' ⟨rfl, hw⟩; rw [hw]; clear hw w')
      exact ⟨rfl, K4.out.only, Or.inl ⟨HY.out, rfl⟩⟩
end Go.Proofs.Ytijjcopglbcoiaa
