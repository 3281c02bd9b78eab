/-
  Proved here: wakes of layer 20's laws is true; no old memory turns. Condition: the tables hold their numbers.
-/
import Derived.Test.YtggbokghhohofaaDoorCG
namespace Go.Proofs.YtggbokghhohofaaDoor
open Go.RowKit Go.Maps
set_option maxRecDepth 100000

theorem nrows_nil : nrows [] = some [] := rfl
theorem srt_nil : srt [] = [] := by simp [srt]
theorem nrows_one : nrows [[]] = some [[]] := by
  simp [nrows, rowOk, srt_nil, canon, insR]
theorem putR_new {all : List Nd} {x : Nd} {id er : Int} {all' : List Nd} (h : PutR all x id er all') (hx : x ∉ all) (hl : all.length < 65536) : id = ((all.length : Nat) : Int) ∧ er = 0 ∧ all' = all ++ [x] := by
  rcases h with ⟨i, hi, e, _⟩ | ⟨_, h1, _⟩ | ⟨_, _, h1, h2, h3⟩
  · exact absurd (e ▸ List.getElem_mem hi) hx
  · omega
  · exact ⟨h1, h2, h3⟩
theorem putR_old {all : List Nd} {x : Nd} {id er : Int} {all' : List Nd} (h : PutR all x id er all') (hx : x ∈ all) (hn : all.Nodup) (i : Nat) (hi : i < all.length) (e : all[i] = x) : id = ((i : Nat) : Int) ∧ er = 0 ∧ all' = all := by
  rcases h with ⟨j, hj, e1, h1, h2, h3⟩ | ⟨h1, _⟩ | ⟨h1, _⟩
  · have : i = j := by
      rcases Nat.lt_trichotomy i j with h | h | h
      · exact absurd (e.trans e1.symm) (List.pairwise_iff_getElem.1 hn i j hi hj h)
      · exact h
      · exact absurd (e1.trans e.symm) (List.pairwise_iff_getElem.1 hn j i hj hi h)
    subst this
    exact ⟨h1, h2, h3⟩
  · exact absurd hx h1
  · exact absurd hx h1
abbrev A2 : List Nd := [lfN [], lfN [[]]]
abbrev A3 : List Nd := [lfN [], lfN [[]], tsN 5 9 1 0]
theorem L0 {id er : Int} {all' : List Nd} (h : LeafR [] [] id er all') : id = 0 ∧ er = 0 ∧ all' = [lfN []] := by
  rcases h with ⟨h, _⟩ | ⟨K, h, hp⟩
  · cases h
  · rw [nrows_nil] at h
    simp only [Option.some.injEq] at h
    subst h
    simpa using putR_new hp (by simp) (by simp)
theorem L1 {id er : Int} {all' : List Nd} (h : LeafR [lfN []] [[]] id er all') : id = 1 ∧ er = 0 ∧ all' = A2 := by
  rcases h with ⟨h, _⟩ | ⟨K, h, hp⟩
  · rw [nrows_one] at h; cases h
  · rw [nrows_one] at h
    simp only [Option.some.injEq] at h
    subst h
    simpa using putR_new hp (by simp [lfN]) (by simp)
theorem L2 {id er : Int} {all' : List Nd} (h : LeafR A2 [] id er all') : id = 0 ∧ er = 0 ∧ all' = A2 := by
  rcases h with ⟨h, _⟩ | ⟨K, h, hp⟩
  · cases h
  · rw [nrows_nil] at h
    simp only [Option.some.injEq] at h
    subst h
    simpa using putR_old hp (by simp) (by simp [lfN]) 0 (by simp) rfl
theorem T3 {id er : Int} {all' : List Nd} (h : TestR A2 5 9 1 0 id er all') : id = 2 ∧ er = 0 ∧ all' = A3 := by
  rcases h with ⟨h, _⟩ | ⟨_, h, _⟩ | ⟨_, _, hp⟩
  · have : okT A2 5 9 1 0 = true := by decide
    rw [this] at h; cases h
  · omega
  · simpa using putR_new hp (by simp [lfN, tsN]) (by simp)
theorem T4 {id er : Int} {all' : List Nd} (h : TestR A3 4 1 2 2 id er all') : id = 2 ∧ er = 0 ∧ all' = A3 := by
  rcases h with ⟨h, _⟩ | ⟨_, _, h1, h2, h3⟩ | ⟨_, h, _⟩
  · have : okT A3 4 1 2 2 = true := by decide
    rw [this] at h; cases h
  · exact ⟨h1, h2, h3⟩
  · exact absurd rfl h
theorem T5 {id er : Int} {all' : List Nd} (h : TestR A3 5 11 1 2 id er all') : id = 0 ∧ er = 2 ∧ all' = A3 := by
  have hk : okT A3 5 11 1 2 = false := by decide
  rcases h with ⟨_, h1, h2, h3⟩ | ⟨h, _⟩ | ⟨h, _⟩
  · exact ⟨h1, h2, h3⟩
  · rw [hk] at h; cases h
  · rw [hk] at h; cases h
/-- The tables' numbers, below a place. -/
structure Tabs (B : Nat) (w : World) : Prop where
  tab : Tab w
  pow : Pow B w
  lt : 4 ≤ B
theorem Tabs.on {B : Nat} {w w' : World} (h : Tabs B w) (hb : Below B w w') : Tabs B w' := ⟨h.tab.onB hb (by have := h.lt; omega), h.pow.up hb (Nat.le_refl _), h.lt⟩
theorem Tabs.up {B B' : Nat} {w : World} (h : Tabs B w) (hB : B ≤ B') : Tabs B' w := ⟨h.tab, h.pow.up (Below.refl _ _) hB, Nat.le_trans h.lt hB⟩
theorem leafW {B p : Nat} {T : Nat → Prop} {w : World} {all : List Nd} (h : St B p w all) (v : Value) (L : List (List Ac)) (hc : Cps T w v L) (hTl : ∀ b, T b → b < w.heap.size) (ht : tot L ≤ 40000) (hT : Tabs B w) (hB : B ≤ w.heap.size) : Calls Tryd.prog 11 #[ptr p, v] w fun e w' => ∃ id er all', e = .returned (.tuple #[.int .i64 id, .int .i64 er]) ∧ LeafR all L id er all' ∧ St B p w' all' ∧ StFr B w w' ∧ Below B w w' ∧ Tabs B w' :=
  (leaf_any h v L hc hTl ht hT.tab hT.pow hB).mono fun _e _w' ⟨id, er, all', h1, h2, h3, h4⟩ => ⟨id, er, all', h1, h2, h3, h4, h4.below hB, hT.on (h4.below hB)⟩
theorem testW {B p : Nat} {w : World} {all : List Nd} (h : St B p w all) (fd n hi lo : Int) (hf : Tf fd n hi lo) (hT : Tabs B w) (hB : B ≤ w.heap.size) : Calls Tryd.prog 13 #[ptr p, .int .i8 fd, .int .u64 n, .int .i64 hi, .int .i64 lo] w fun e w' => ∃ id er all', e = .returned (.tuple #[.int .i64 id, .int .i64 er]) ∧ TestR all fd n hi lo id er all' ∧ St B p w' all' ∧ StFr B w w' ∧ Below B w w' ∧ Tabs B w' :=
  (test_any h fd n hi lo hf hT.tab).mono fun _e _w' ⟨id, er, all', h1, h2, h3, h4⟩ => ⟨id, er, all', h1, h2, h3, h4, h4.below hB, hT.on (h4.below hB)⟩
/-- where wakes is -/
structure Wk (w : World) (p : Nat) (all : List Nd) (w' : World) : Prop where
  st : St w.heap.size p w' all
  low : Below w.heap.size w w'
  tab : Tabs w.heap.size w'
set_option maxHeartbeats 12800000 in
theorem wakes_any (B : Nat) (w : World) (hT : Tabs B w) (hB : B ≤ w.heap.size) : Calls Tryd.prog 9 #[] w fun e w' => e = .returned (.bool true) ∧ Below w.heap.size w w' := by
  have HT := hid (hT.up hB)
  clear hT
  go_enter Tryd.func9, Tryd.ntmps9
  go_upto_region 2 with (go_at_call 10; refine (new_any _).mono ?_; rintro e W1 ⟨p, rfl, hb, hs⟩; have H1 : Hid (Wk w p [] W1) := ⟨hs, hb, HT.out.on hb⟩; clear hb hs)
  have C1 := hid (leafW (T := fun _ => False) H1.out.st nilS [] (Lst.nil _ _ _ _) (fun _ h => h.elim) (by simp [tot]) H1.out.tab H1.out.low.size)
  go_upto_region 3 with (go_at_call 11; refine (C1.out).mono ?_; rintro e W2 ⟨id, er, all', rfl, hr, hs, _, hb, ht⟩; obtain ⟨rfl, rfl, rfl⟩ := L0 hr; have H2 : Hid (Wk w p [lfN []] W2) := ⟨hs, H1.out.low.trans hb, ht⟩; clear hb hs hr ht C1 H1)
  have hal : Below W2.heap.size W2 (W2.alloc (.cells #[nilS] 52)) := (Below.refl _ _).alloc (Nat.le_refl _) _
  have hcp : Cps (fun b => b = W2.heap.size) (W2.alloc (.cells #[nilS] 52)) (.slice (some ⟨W2.heap.size, 0, none⟩) 1 1) [[]] := ⟨_, 1, rfl, Nat.le_refl _, by simp, (fun h => by cases h), fun _ => ⟨W2.heap.size, 0, rfl, rfl, fun j hj => by
    have : j = 0 := by simp at hj; omega
    subst this
    exact ⟨nilS, (cell_of_row _ _ _ _ _ _ (heap_alloc_new _ _)).trans rfl, Lst.nil _ _ _ _⟩⟩⟩
  have H3 : Hid (Wk w p [lfN []] (W2.alloc (.cells #[nilS] 52))) := ⟨H2.out.st.on hal, H2.out.low.trans (hal.mono H2.out.low.size), H2.out.tab.on (hal.mono H2.out.low.size)⟩
  have C2 := hid (leafW H3.out.st (.slice (some ⟨W2.heap.size, 0, none⟩) 1 1) [[]] hcp (fun b hb => by rw [hb]; simp) (by simp [tot]) H3.out.tab H3.out.low.size)
  clear hal hcp H2
  go_upto_region 4 with (go_at_call 11; refine (C2.out).mono ?_; rintro e W4 ⟨id, er, all', rfl, hr, hs, _, hb, ht⟩; obtain ⟨rfl, rfl, rfl⟩ := L1 hr; have H4 : Hid (Wk w p A2 W4) := ⟨hs, H3.out.low.trans hb, ht⟩; clear hb hs hr ht C2 H3)
  have C3 := hid (leafW (T := fun _ => False) H4.out.st nilS [] (Lst.nil _ _ _ _) (fun _ h => h.elim) (by simp [tot]) H4.out.tab H4.out.low.size)
  go_upto_region 5 with (go_at_call 11; refine (C3.out).mono ?_; rintro e W5 ⟨id, er, all', rfl, hr, hs, _, hb, ht⟩; obtain ⟨rfl, rfl, rfl⟩ := L2 hr; have H5 : Hid (Wk w p A2 W5) := ⟨hs, H4.out.low.trans hb, ht⟩; clear hb hs hr ht C3 H4)
  have C4 := hid (testW H5.out.st 5 9 1 0 ⟨by omega, by simp [InB], by simp [I64], by simp [I64]⟩ H5.out.tab H5.out.low.size)
  go_upto_region 6 with (go_at_call 13; refine (C4.out).mono ?_; rintro e W6 ⟨id, er, all', rfl, hr, hs, _, hb, ht⟩; obtain ⟨rfl, rfl, rfl⟩ := T3 hr; have H6 : Hid (Wk w p A3 W6) := ⟨hs, H5.out.low.trans hb, ht⟩; clear hb hs hr ht C4 H5)
  have C5 := hid (testW H6.out.st 4 1 2 2 ⟨by omega, by simp [InB], by simp [I64], by simp [I64]⟩ H6.out.tab H6.out.low.size)
  go_upto_region 7 with (go_at_call 13; refine (C5.out).mono ?_; rintro e W7 ⟨id, er, all', rfl, hr, hs, _, hb, ht⟩; obtain ⟨rfl, rfl, rfl⟩ := T4 hr; have H7 : Hid (Wk w p A3 W7) := ⟨hs, H6.out.low.trans hb, ht⟩; clear hb hs hr ht C5 H6)
  have C6 := hid (testW H7.out.st 5 11 1 2 ⟨by omega, by simp [InB], by simp [I64], by simp [I64]⟩ H7.out.tab H7.out.low.size)
  go_upto_region 8 with (go_at_call 13; refine (C6.out).mono ?_; rintro e W8 ⟨id, er, all', rfl, hr, hs, _, hb, ht⟩; obtain ⟨rfl, rfl, rfl⟩ := T5 hr; have H8 : Hid (Wk w p A3 W8) := ⟨hs, H7.out.low.trans hb, ht⟩; clear hb hs hr ht C6 H7)
  have CG : Hid (Calls Tryd.prog 15 #[ptr p, .int .i64 2] W8 fun e w' => ∃ a0 n0 k0, e = .returned (.tuple #[.agg (ndc (.slice a0 n0 k0, tsN 5 9 1 0)), .bool true]) ∧ Below W8.heap.size W8 w') := (get_ok H8.out.st 2 (by simp)).mono (by
    rintro e w' ⟨u, he, hb, hcp⟩
    obtain ⟨a0, k0, rfl, -⟩ := hcp.form
    exact ⟨a0, _, k0, he, hb⟩)
  go_wp2_with (first
    | (go_at_call 15; refine (CG.out).mono ?_; rintro e W9 ⟨a0, n0, k0, rfl, hb⟩; have hal : Below W9.heap.size W9 (W9.alloc (.cells (ndc (.slice a0 n0 k0, tsN 5 9 1 0)) 41)) := (Below.refl _ _).alloc (Nat.le_refl _) _; have HL := hid (len_any ((H8.out.st.on hb).on hal)); have HB := hid ((H8.out.low.trans (hb.mono H8.out.low.size)).trans (hal.mono (Nat.le_trans H8.out.low.size hb.size))); clear hb hal CG H8)
    | (refine stNew 41 (.tmp 14) (.tmp 58) rfl rfl _ 41 (ndc (nilS, zNd)) (ndc (.slice a0 n0 k0, tsN 5 9 1 0)) rfl rfl rfl (infoNODE _) rfl (ndc_one rfl _) ?_)
    | (go_at_call 18; refine (HL.out).mono ?_; rintro e w' ⟨rfl, rfl⟩))
  go_ret
  exact ⟨rfl, HB.out⟩
end Go.Proofs.YtggbokghhohofaaDoor
