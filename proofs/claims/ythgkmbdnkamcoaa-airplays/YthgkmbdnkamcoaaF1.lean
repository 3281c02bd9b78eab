/-
  Proved here: air.New, air.clone and a datagram's told, as the program runs them. Conditions: what is handed in holds bytes.
-/
import Derived.Test.YthgkmbdnkamcoaaX2
import Derived.Laws.MakeOwn
namespace Go.Proofs.Ythgkmbdnkamcoaa
open Go.RowKit

theorem made8 (n : Nat) (hn : n ≤ 140737488355328) : ∃ zs : List Value, zs.length = n ∧ ∀ w, (Instr.makeSlice 31 (.int .i64 (n : Nat)) (.int .i64 (n : Nat))).run Try.prog w = .ok (.slice (some ⟨w.heap.size, 0, none⟩) n n) (w.alloc (.cells zs.toArray 5)) := by
  obtain ⟨i, hi, hz0, hz1, hz2⟩ := info_parts info5
  refine ⟨(madeCells (Value.int .u8 0).cells (n * 1)).toList, by simp [size_madeCells], fun w => ?_⟩
  have := run_make (P := Try.prog) w 31 5 i (.int .u8 0) Try.underlying31 hi hz0 .i64 .i64 n n (by omega) (Int.le_refl _) (by rw [hz2]; omega) (by omega)
  rw [hz1] at this
  simpa using this
set_option maxHeartbeats 400000 in
set_option maxRecDepth 100000 in
theorem clone_any {T : Nat → Prop} (u : Value) (bs : List Int) (w : World) (hs : SlC T w u bs) :
    Calls Try.prog 21 #[u] w fun e w' => ∃ v', e = .returned v' ∧ Below w.heap.size w w' ∧ Owns w.heap.size w' v' bs := by
  have hlen := hs.len
  obtain ⟨zs, hz, hmk⟩ := made8 bs.length hlen
  have HS := hid hs
  obtain ⟨ao, cap, rfl, -, -, -, -, h6⟩ := hs
  have hmk1 := hmk w
  clear hmk
  have hg := heap_alloc_new w (.cells zs.toArray 5)
  have hb : Below w.heap.size w (w.alloc (.cells zs.toArray 5)) := (Below.refl _ _).alloc (Nat.le_refl _) _
  have hpos : 0 < (bs.map (Value.int .u8)).length → some (⟨w.heap.size, 0, none⟩ : Addr) = some ⟨w.heap.size, 0, none⟩ ∧ ∃ ad, ao = some ad ∧ ∀ j v, (bs.map (Value.int .u8))[j]? = some v → (w.alloc (.cells zs.toArray 5)).cell? (ad.add j) = some v := by
    intro hp
    obtain ⟨b, o, hb, rfl, hc⟩ := h6 (by rintro rfl; simp at hp)
    refine ⟨rfl, _, rfl, fun j v hv => ?_⟩
    have hj : j < bs.length := by have := (List.getElem?_eq_some_iff.1 hv).1; simpa using this
    have h1 := hc j hj
    rw [Addr.add_lit, cell_same (heap_alloc_old _ _ (cell_lt h1)), h1, ← hv]
    simp [List.getD_eq_getElem?_getD, List.getElem?_eq_getElem hj]
  have HH := hid hpos
  have HHg := hid hg
  have HHb := hid hb
  clear hg hb hpos h6
  generalize w.alloc (.cells zs.toArray 5) = W at *
  go_enter Try.func21, Try.ntmps21
  go_wp2_with (refine wpList_copy_splice rfl (.tmp 7) (.tmp 8) 31 31 rfl 5 Try.underlying31 (by kernel_rfl) (some ⟨w.heap.size, 0, none⟩) ao bs.length bs.length bs.length cap rfl rfl w.heap.size 0 zs 5 HHg.out (bs.map (Value.int .u8)) (by simp) HH.out (by simp [hz]) (by intro v hv; obtain ⟨x, _, rfl⟩ := List.mem_map.1 hv; rfl) w.heap.size w HHb.out (Nat.le_refl _) ?_; intro w2 H2 hb2; have HB2 := hid hb2; clear hb2)
  go_ret
  refine ⟨_, rfl, HB2.out, by simp, Or.inr ⟨w.heap.size, bs.length, _, rfl, Nat.le_refl _, H2.out, Nat.le_refl _, by unfold maxLen; omega, ?_, ?_⟩⟩
  · simp [splice, hz]
  · simp [splice]
set_option maxHeartbeats 400000 in
set_option maxRecDepth 100000 in
theorem new_any (w : World) : Calls Try.prog 10 #[] w fun e w' => ∃ v, e = .returned v ∧ Below w.heap.size w w' ∧ AR (fun k => w.heap.size ≤ k) w' v ar0 := by
  go_enter Try.func10, Try.ntmps10
  go_wp2
  go_ret
  exact ⟨_, rfl, (Below.refl _ _).alloc (Nat.le_refl _) _, w.heap.size, fun _ => 0, nilS, nilS, [], [], rfl, ⟨Nat.le_refl _, rfl, heap_alloc_new _ _, Rw.nil _ _ _ _, Rw.nil _ _ _ _, (fun _ h => by cases h), (fun _ h => by cases h)⟩, rfl, rfl⟩
theorem Owns.low {base base' : Nat} {w : World} {v : Value} {xs : List Int} (h : Owns base w v xs) (hb : base' ≤ base) : Owns base' w v xs := by
  refine ⟨h.1, ?_⟩
  rcases h.2 with h2 | ⟨g, cap, cur, e, h3, h4⟩
  · exact Or.inl h2
  · exact Or.inr ⟨g, cap, cur, e, by omega, h4⟩
theorem Owns.set {base g n c : Nat} {w : World} {xs : List Int} (h : Owns base w (.slice (some ⟨g, 0, none⟩) n c) xs) (j : Nat) (y : Int) : Owns base (w.setCell ⟨g, j, none⟩ (.int .u8 y)) (.slice (some ⟨g, 0, none⟩) n c) (xs.set j y) := by
  have hn : xs.length = (xs.set j y).length := by simp
  unfold Owns
  rw [← hn]
  refine ⟨by simp, ?_⟩
  rcases h.2 with ⟨e, _⟩ | ⟨g', cap, cur, e, hb, hg, hc, hm, hsz, ht⟩
  · cases e
  · simp only [Value.slice.injEq, Option.some.injEq, Addr.mk.injEq] at e
    obtain ⟨⟨rfl, _, _⟩, rfl, rfl⟩ := e
    refine Or.inr ⟨g, c, cur.setIfInBounds j (.int .u8 y), rfl, hb, ?_, hc, hm, by simpa using hsz, ?_⟩
    · rw [heap_setCell_same w g j _ 5 _ hg]
    · rw [Array.toList_setIfInBounds, List.map_set, ← ht, List.take_set]
theorem IsB.set {xs : List Int} (h : IsB xs) (j : Nat) {y : Int} (h0 : 0 ≤ y) (h1 : y < 256) : IsB (xs.set j y) := fun x hx => by
  rcases List.mem_or_eq_of_mem_set hx with hx | rfl
  · exact h x hx
  · exact ⟨h0, h1⟩
theorem Owns.cell {base g n c : Nat} {w : World} {xs : List Int} (h : Owns base w (.slice (some ⟨g, 0, none⟩) n c) xs) (j : Nat) (hj : j < xs.length) : w.cell? ⟨g, j, none⟩ = some (.int .u8 (xs.getD j 0)) ∧ w.frozen? ⟨g, j, none⟩ = false := by
  rcases h.2 with ⟨e, _⟩ | ⟨g', cap, cur, e, hb, hg, hc, hm, hsz, ht⟩
  · cases e
  · simp only [Value.slice.injEq, Option.some.injEq, Addr.mk.injEq] at e
    obtain ⟨⟨rfl, _, _⟩, rfl, rfl⟩ := e
    refine ⟨?_, by simp [World.frozen?, hg]⟩
    rw [cell_of_row w g j cur 5 (0, 0) hg]
    have h2 : (cur.toList.take (xs.length * 1))[j]? = (xs.map (Value.int .u8))[j]? := by rw [ht]
    rw [List.getElem?_take, if_pos (by omega)] at h2
    simp only [Array.getElem?_toList, List.getElem?_map] at h2
    rw [h2, List.getD_eq_getElem?_getD, List.getElem?_eq_getElem hj]; rfl

theorem Owns.form {base : Nat} {w : World} {v : Value} {xs : List Int} (h : Owns base w v xs) (hne : xs.length ≠ 0) : ∃ g c, v = .slice (some ⟨g, 0, none⟩) xs.length c ∧ base ≤ g := by
  rcases h.2 with ⟨_, h0⟩ | ⟨g, cap, cur, e, hb, _⟩
  · exact absurd h0 hne
  · exact ⟨g, cap, e, hb⟩

set_option maxHeartbeats 800000 in
set_option maxRecDepth 100000 in
theorem told_any {T : Nat → Prop} (u : Value) (d : Dg) (w : World) (hs : SlC T w u d.b) (hok : d.Ok) :
    Calls Try.prog 22 #[.agg #[u, .bool d.ch, .int .i64 (d.pl : Nat)]] w fun e w' => ∃ v', e = .returned v' ∧ Below w.heap.size w w' ∧ Owns w.heap.size w' v' (told d) := by
  obtain ⟨W, hW⟩ : ∃ W, W = w.alloc (.cells #[u, .bool d.ch, .int .i64 (d.pl : Nat)] 50) := ⟨_, rfl⟩
  have hg : W.heap[w.heap.size]? = some (.cells #[u, .bool d.ch, .int .i64 (d.pl : Nat)] 50 (0, 0)) := by rw [hW]; exact heap_alloc_new _ _
  have hb : Below w.heap.size w W := by rw [hW]; exact (Below.refl _ _).alloc (Nat.le_refl _) _
  have hsz : W.heap.size = w.heap.size + 1 := by rw [hW]; simp
  have c0 : W.cell? ⟨w.heap.size, 0, none⟩ = some u := by rw [cell_of_row W _ _ _ _ _ hg]; rfl
  have HC := hid (clone_any (T := T) u d.b W (hs.carry fun k hk hT => ⟨hT, hb.block k hk⟩))
  have hlen := hs.len
  have hone := hs.one
  have HB := hid hb
  have HG := hid hg
  have HF : Hid (∀ v1 w1, Below W.heap.size W w1 → Owns W.heap.size w1 v1 d.b → w1.cell? ⟨w.heap.size, 1, none⟩ = some (.bool d.ch) ∧ w1.cell? ⟨w.heap.size, 2, none⟩ = some (.int .i64 (d.pl : Nat))) := by
    show ∀ _, _
    intro v1 w1 hb1 _
    have h1 : w1.heap[w.heap.size]? = _ := (hb1.block _ (by omega)).trans HG.out
    exact ⟨by rw [cell_of_row _ _ _ _ _ _ h1]; rfl, by rw [cell_of_row _ _ _ _ _ _ h1]; rfl⟩
  cases hch : d.ch with
  | false =>
    have ht : told d = d.b := by unfold told; rw [hch]; rfl
    rw [hch] at hW HF
    rw [ht]
    clear hg hb hs HG
    go_enter Try.func22, Try.ntmps22
    go_wp2_with (go_at_call 21; rw [← hW]; refine (HC.out).mono ?_; rintro e w1 ⟨v1, rfl, hb1, ho1⟩; obtain ⟨x1, x2⟩ := HF.out v1 w1 hb1 ho1; have HB1 := hid hb1; have HO1 := hid ho1; clear hb1 ho1)
    go_ret
    exact ⟨_, rfl, HB.out.trans (HB1.out.mono (by omega)), HO1.out.low (by omega)⟩
  | true =>
    have hpl := hok.2 hch
    have ht : told d = d.b.set d.pl (x5a (d.b.getD d.pl 0)) := by unfold told; rw [hch]; rfl
    rw [hch] at hW HF
    rw [ht]
    have hx := hok.1.at d.pl
    have hl1 : decide ((d.pl : Int) < (d.b.length : Int)) = true := by simp; omega
    clear hg hb hs HG
    go_enter Try.func22, Try.ntmps22
    go_upto_region 2 with (go_at_call 21; rw [← hW]; refine (HC.out).mono ?_; rintro e w1 ⟨v1, rfl, hb1, ho1⟩; obtain ⟨x1, x2⟩ := HF.out v1 w1 hb1 ho1; obtain ⟨g1, k1, rfl, hg1⟩ := ho1.form (by omega); obtain ⟨y1, y2⟩ := ho1.cell d.pl hpl; have HB1 := hid hb1; have HO1 := hid ho1; clear hb1 ho1)
    go_wp2
    go_ret
    have hgd : d.b[d.pl] = d.b.getD d.pl 0 := by rw [List.getD_eq_getElem?_getD, List.getElem?_eq_getElem hpl]; rfl
    simp only [hgd]
    exact ⟨_, rfl, (HB.out.trans (HB1.out.mono (by omega))).setCell (p := ⟨g1, d.pl, none⟩) (by show _ ≤ g1; omega) _, (HO1.out.low (base' := w.heap.size) (by omega)).set d.pl _⟩
end Go.Proofs.Ythgkmbdnkamcoaa
