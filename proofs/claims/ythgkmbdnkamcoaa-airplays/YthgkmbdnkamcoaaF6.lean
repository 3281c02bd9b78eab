/-
  Proved here: air.Came. Conditions: fewer than a million datagrams.
-/
import Derived.Test.YthgkmbdnkamcoaaF5
namespace Go.Proofs.Ythgkmbdnkamcoaa
open Go.RowKit

theorem madeBB (n : Nat) (hn : n ≤ 1000000) : ∃ zs : Array Value, zs.size = n ∧ ∀ w, (Instr.makeSlice 28 (.int .i64 (n : Nat)) (.int .i64 (n : Nat))).run Try.prog w = .ok (.slice (some ⟨w.heap.size, 0, none⟩) n n) (w.alloc (.cells zs 31)) := by
  obtain ⟨i, hi, hz0, hz1, hz2⟩ := info_parts infoB
  refine ⟨madeCells (Value.slice none 0 0).cells (n * 1), by simp [size_madeCells], fun w => ?_⟩
  have := run_make (P := Try.prog) w 28 31 i (.slice none 0 0) Try.underlying28 hi hz0 .i64 .i64 n n (by omega) (Int.le_refl _) (by rw [hz2]; omega) (by omega)
  rw [hz1] at this
  simpa using this
/-- Rows of bytes that lie in a block of their own, each in memory of its own from B on. -/
def Gave (B : Nat) (w : World) (b : Nat) (n : Nat) (l : List (List Int)) : Prop :=
  ∃ cur : Array Value, w.heap[b]? = some (.cells cur 31 (0, 0)) ∧ cur.size = n ∧ ∀ j (hj : j < l.length), ∃ x, cur[j]? = some x ∧ Owns B w x l[j]
theorem Owns.kept' {base : Nat} {w w' : World} {v : Value} {ys : List Int} (h : Owns base w v ys) (hk : ∀ k, v.ownBlock = some k → w'.heap[k]? = w.heap[k]?) : Owns base w' v ys := by
  refine ⟨h.1, ?_⟩
  rcases h.2 with h2 | ⟨g, cap, cur, e, h3, h4, h5⟩
  · exact Or.inl h2
  · exact Or.inr ⟨g, cap, cur, e, h3, (hk g (by rw [e]; rfl)).trans h4, h5⟩
theorem Owns.lt {base : Nat} {w : World} {v : Value} {ys : List Int} (h : Owns base w v ys) (k : Nat) (hk : v.ownBlock = some k) : base ≤ k ∧ k < w.heap.size ∧ ∃ cur, w.heap[k]? = some (.cells cur 5 (0, 0)) := by
  rcases h.2 with ⟨e, _⟩ | ⟨g, cap, cur, e, h3, h4, h5⟩
  · rw [e] at hk; simp [Value.ownBlock] at hk
  · rw [e] at hk
    simp [Value.ownBlock] at hk
    subst hk
    exact ⟨h3, (Array.getElem?_eq_some_iff.1 h4).1, cur, h4⟩
/-- One more row is given. -/
theorem Gave.next {B b n : Nat} {w w1 : World} {l : List (List Int)} {x : List Int} {v : Value} (h : Gave B w b n l) (hb : b < B) (hw : Below w.heap.size w w1) (hl : l.length < n) (hv : Owns B w1 v x) : Gave B (w1.setCell ⟨b, l.length, none⟩ v) b n (l ++ [x]) := by
  obtain ⟨cur, h1, h2, h3⟩ := h
  have hbl := (Array.getElem?_eq_some_iff.1 h1).1
  have e1 : w1.heap[b]? = some (.cells cur 31 (0, 0)) := (hw.block b hbl).trans h1
  have oth : ∀ k, B ≤ k → (w1.setCell ⟨b, l.length, none⟩ v).heap[k]? = w1.heap[k]? := fun k hk => heap_setCell_other w1 ⟨b, l.length, none⟩ k v (by show k ≠ b; omega)
  refine ⟨_, heap_setCell_same w1 b l.length cur 31 v e1, by simpa using h2, fun j hj => ?_⟩
  simp only [List.length_append, List.length_cons, List.length_nil, Nat.zero_add] at hj
  by_cases hjl : j < l.length
  · obtain ⟨y, hy, ho⟩ := h3 j hjl
    refine ⟨y, ?_, ?_⟩
    · rw [Array.getElem?_setIfInBounds, if_neg (by omega)]; exact hy
    · rw [List.getElem_append_left hjl]
      refine ho.kept' fun k hk => ?_
      have := ho.lt k hk
      exact (oth k this.1).trans (hw.block k this.2.1)
  · have : j = l.length := by omega
    subst this
    refine ⟨v, ?_, ?_⟩
    · rw [Array.getElem?_setIfInBounds, if_pos rfl, if_pos (by omega)]
    · rw [List.getElem_append_right (Nat.le_refl _)]
      simp only [Nat.sub_self, List.getElem_cons_zero]
      exact hv.kept' fun k hk => oth k (hv.lt k hk).1
/-- What Came leaves. -/
def CmP (S : Nat → Prop) (w : World) (v : Value) (a : Ar) (e : Ending) (w' : World) : Prop :=
  e = .returned (.slice (some ⟨w.heap.size, 0, none⟩) a.came.length a.came.length) ∧ Only S w w' ∧ Gave (w.heap.size + 1) w' w.heap.size a.came.length (a.came.map told) ∧ AR (fun k => S k ∧ k < w.heap.size) w' v (cmS a)
set_option maxHeartbeats 3200000 in
set_option maxRecDepth 100000 in
theorem came_any {S : Nat → Prop} (w : World) (v : Value) (a : Ar) (h : AR S w v a) (hf : Fresh S w) (hlc : a.came.length < 1000000) : Calls Try.prog 13 #[v] w fun e w' => CmP S w v a e w' := by
  obtain ⟨g, f, vr, vc, ps, qs, rfl, h, hrow, hcame⟩ := h
  have hl : a.came.length = qs.length := by rw [hcame]; simp
  obtain ⟨zs, hz1, hz2⟩ := madeBB qs.length (by omega)
  have hmk := hz2 w
  have hgl := (Array.getElem?_eq_some_iff.1 h.hg).1
  obtain ⟨c0, c1, c2, c9⟩ := two_cells h.hg
  obtain ⟨W0, hW0⟩ : ∃ W0, W0 = w.alloc (.cells zs 31) := ⟨_, rfl⟩
  have hW0s : W0.heap.size = w.heap.size + 1 := by rw [hW0]; simp
  have hB0 : Below w.heap.size w W0 := by rw [hW0]; exact (Below.refl _ _).alloc (Nat.le_refl _) _
  have hG0 : Gave (w.heap.size + 1) W0 w.heap.size qs.length [] := ⟨zs, by rw [hW0]; exact heap_alloc_new _ _, hz1, fun j hj => by simp at hj⟩
  rw [← hW0] at hmk
  obtain ⟨x0, x1, x2, x9⟩ := two_cells ((hB0.block g hgl).trans h.hg)
  obtain ⟨ca, ck, rfl⟩ := h.came.form
  have H := hid h
  have HL := hid hl
  have HG := hid hgl
  have HB0 := hid (And.intro hB0 (And.intro hG0 hW0s))
  have HRow := hid hrow
  have HCame := hid hcame
  have HFr := hid hf
  clear hz2 hW0 hz1 hB0 hG0 hW0s h hl hgl hrow hcame hf
  go_enter Try.func13, Try.ntmps13
  go_wp2
  go_loopw [19] (fun i wr => ∃ k : Nat, k ≤ qs.length ∧ i = .int .i64 k ∧ Below w.heap.size w wr ∧ w.heap.size + 1 ≤ wr.heap.size ∧ Gave (w.heap.size + 1) wr w.heap.size qs.length ((qs.take k).map fun q => told q.2)) (fun i _ => qs.length - (intOf i).toNat)
  case atStart => exact ⟨0, by omega, rfl, HB0.out.1, by have := HB0.out.2.2; omega, HB0.out.2.1⟩
  case round =>
    obtain ⟨k, hk, rfl, hlow, hszr, hgv⟩ := hrel
    have HLow := hid hlow
    have HGv := hid hgv
    clear hgv
    have hkb : qs.length < 1000000 := by have := HL.out; omega
    by_cases hlt : k < qs.length
    · have hr := H.out.came
      rcases hr with ⟨hx, ⟨_, hz0⟩ | ⟨b, o, cap, cur, he, hb1, hb2, hb3, hb4, hb5⟩⟩
      · omega
      obtain ⟨hca, hck⟩ : ca = some ⟨b, o, none⟩ ∧ ck = cap := by simpa using he
      subst hca hck
      clear he
      obtain ⟨u, hu⟩ : ∃ u, u = qs[k].1 := ⟨_, rfl⟩
      obtain ⟨d, hd⟩ : ∃ d, d = qs[k].2 := ⟨_, rfl⟩
      have hpr := H.out.pc _ (List.getElem_mem hlt)
      rw [← hu, ← hd] at hpr
      have hbl := (Array.getElem?_eq_some_iff.1 hb2).1
      have HR : Hid (wr.rangeAt b (o + k * 3) (#[u, .bool d.ch, .int .i64 (d.pl : Nat)] : Array Value).toList) := range_of fun i hi => by
        have hi3 : i < 3 := hi
        rw [cell_of_row _ b _ cur 50 (0, 0) ((hlow.block b hbl).trans hb2), Nat.add_assoc, cells_at hb5 (by omega), c3s_at qs k i hlt hi3, hu, hd]
        have : i = 0 ∨ i = 1 ∨ i = 2 := by omega
        rcases this with rfl | rfl | rfl <;> rfl
      obtain ⟨W, hW⟩ : ∃ W, W = wr.alloc (.cells #[u, .bool d.ch, .int .i64 (d.pl : Nat)] 50) := ⟨_, rfl⟩
      have hWb : Below wr.heap.size wr W := by rw [hW]; exact (Below.refl _ _).alloc (Nat.le_refl _) _
      have HWg : Hid (W.heap[wr.heap.size]? = some (.cells #[u, .bool d.ch, .int .i64 (d.pl : Nat)] 50 (0, 0))) := by show _ = _; rw [hW]; exact heap_alloc_new _ _
      have HTo := hid (told_any (T := fun k => S k ∧ f k = 3) u d W (hpr.1.carry fun i hi hS => ⟨hS, (hWb.block i (Nat.lt_of_lt_of_le hi hlow.size)).trans (hlow.block i hi)⟩) hpr.2)
      have hone := hpr.1.one
      have hkt : ((qs.take (k + 1)).map fun q => told q.2) = ((qs.take k).map fun q => told q.2) ++ [told d] := by
        rw [List.take_add_one, List.getElem?_eq_getElem hlt, List.map_append, hd]; rfl
      have hkl : ((qs.take k).map fun q => told q.2).length = k := by simp; omega
      have HN : Hid (∀ v1 w1, Below W.heap.size W w1 → Owns W.heap.size w1 v1 (told d) → Below w.heap.size w (w1.setCell ⟨w.heap.size, k, none⟩ v1) ∧ w.heap.size + 1 ≤ (w1.setCell ⟨w.heap.size, k, none⟩ v1).heap.size ∧ Gave (w.heap.size + 1) (w1.setCell ⟨w.heap.size, k, none⟩ v1) w.heap.size qs.length ((qs.take (k + 1)).map fun q => told q.2) ∧ (w1.cell? ⟨w.heap.size, k, none⟩).isSome = true ∧ w1.frozen? ⟨w.heap.size, k, none⟩ = false) := by
        show ∀ _, _
        intro v1 w1 hb1' ho1
        have hwr := hWb.trans (hb1'.mono hWb.size)
        have hg := HGv.out.next (Nat.lt_succ_self _) hwr (by rw [hkl]; exact hlt) (ho1.low (by have := hWb.size; omega))
        rw [hkl, ← hkt] at hg
        obtain ⟨cu, e1, e2, _⟩ := HGv.out
        have e3 : w1.heap[w.heap.size]? = _ := (hwr.block _ (by omega)).trans e1
        refine ⟨((hlow.trans (hwr.mono hlow.size))).setCell (p := ⟨w.heap.size, k, none⟩) (Nat.le_refl _) v1, ?_, hg, ?_, by simp [World.frozen?, e3]⟩
        · have := hwr.size; simp; omega
        · rw [cell_of_row _ _ _ _ _ _ e3, Array.getElem?_eq_getElem (by omega)]; rfl
      have hbp : decide ((k : Int) < (qs.length : Int)) = true := by simp; omega
      have HW := hid hW
      clear hW hu hd hpr hWb hkt hkl hx hb1 hb2 hb3 hb4 hb5 hbl hlow
      go_upto_region 7 with (first
        | (refine ldMid 50 (.tmp 22) rfl rfl b (o + k * 3) rfl #[u, .bool d.ch, .int .i64 (d.pl : Nat)] _ Try.underlying50 rfl (size3 _ _ _) HR.out ?_)
        | (refine stNew 50 (.tmp 5) (.tmp 23) rfl rfl wr 50 z3 #[u, .bool d.ch, .int .i64 (d.pl : Nat)] rfl rfl rfl (size3 _ _ _) rfl (one3 hone _ _) ?_; rw [← HW.out]))
      go_upto_region 8 with (first
        | (refine ldRow 50 (.tmp 5) rfl rfl wr.heap.size rfl 50 #[u, .bool d.ch, .int .i64 (d.pl : Nat)] _ Try.underlying50 rfl (size3 _ _ _) HWg.out ?_)
        | (go_at_call 22; refine (HTo.out).mono ?_; rintro e w1 ⟨v1, rfl, hb1, ho1⟩
           obtain ⟨n1, n2, n3, n4, n5⟩ := HN.out v1 w1 hb1 ho1
           obtain ⟨xx, hxx⟩ := Option.isSome_iff_exists.1 n4
           have HN1 := hid (And.intro n1 (And.intro n2 n3))
           obtain ⟨a1, k1, rfl⟩ := ho1.slice
           clear n1 n2 n3 n4 hb1 ho1))
      go_wp2
      go_roundw
      case rel => exact ⟨k + 1, by omega, by go_num, HN1.out.1, HN1.out.2.1, HN1.out.2.2⟩
      case measure => simp [intOf]; omega
    · obtain rfl : k = qs.length := by omega
      obtain ⟨y0, y1, y2, y9⟩ := two_cells ((hlow.block g HG.out).trans H.out.hg)
      have HF : Hid (CmP S w (.pointer (some ⟨g, 0, none⟩)) a (.returned (.slice (some ⟨w.heap.size, 0, none⟩) qs.length qs.length)) (wr.setCell ⟨g, 1, none⟩ (.slice none 0 0))) := by
        have hg := HG.out
        have hgr := (hlow.block g hg).trans H.out.hg
        have oth : ∀ k, k ≠ g → (wr.setCell ⟨g, 1, none⟩ (.slice none 0 0)).heap[k]? = wr.heap[k]? := fun k hk => heap_setCell_other wr ⟨g, 1, none⟩ k _ hk
        have hc : ∀ i, i ≠ 0 → ∀ k, k < w.heap.size → (S k ∧ f k = i) → ((S k ∧ k < w.heap.size) ∧ f k = i) ∧ (wr.setCell ⟨g, 1, none⟩ (.slice none 0 0)).heap[k]? = w.heap[k]? := fun i hi k hk hS => ⟨⟨⟨hS.1, hk⟩, hS.2⟩, (oth k (fun e => by have := H.out.fg; have := hS.2; subst e; omega)).trans (hlow.block k hk)⟩
        refine ⟨by rw [HL.out], Only.setCell (p := ⟨g, 1, none⟩) ⟨hlow.os, hlow.tape, hlow.output, hlow.size, fun k hk => ?_⟩ H.out.sg _, ?_, ?_⟩
        · rcases Nat.lt_or_ge k w.heap.size with hl | hl
          · exact hlow.block k hl
          · exact absurd (HFr.out k hl) hk
        · obtain ⟨cu, e1, e2, e3⟩ := HGv.out
          rw [List.take_length] at e3
          have em : a.came.map told = qs.map fun q => told q.2 := by rw [HCame.out, List.map_map]; rfl
          rw [em, HL.out]
          refine ⟨cu, (oth _ (by omega)).trans e1, e2, fun j hj => ?_⟩
          obtain ⟨x, hx, ho⟩ := e3 j hj
          exact ⟨x, hx, ho.kept' fun k hk => oth k (by have := (ho.lt k hk).1; omega)⟩
        · exact AR.mk (f := f) (vr := vr) (vc := nilS) (ps := ps) (qs := []) ⟨⟨H.out.sg, hg⟩, H.out.fg, by rw [heap_setCell_same wr g 1 _ _ _ hgr]; rfl, H.out.row.carry (hc 1 (by omega)), Rw.nil _ _ _ _, H.out.pr.carry (hc 3 (by omega)), (fun _ h => by cases h)⟩ HRow.out rfl
      clear hlow
      go_wp2
      go_ret
      exact HF.out
end Go.Proofs.Ythgkmbdnkamcoaa
