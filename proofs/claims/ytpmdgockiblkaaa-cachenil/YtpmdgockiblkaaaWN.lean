/-
  Proved here: CacheNil's body says true. No condition.
-/
import Derived.Test.YtpmdgockiblkaaaWK
namespace Go.Proofs.Ytpmdgockiblkaaa
open Go.RowKit

theorem putNil (h : Nat → Int) (id : Int) (w : World) : Calls Try.prog 13 #[.pointer none, hv h, .int .i64 id] w fun e w' => e = .returned (.tuple #[]) ∧ Below w.heap.size w w' := by
  have HB : Hid (Below w.heap.size w (w.alloc (.cells (row 11 h) 30))) := (Below.refl _ _).alloc (Nat.le_refl _) _
  go_enter Try.func13, Try.ntmps13
  go_wp2
  first | go_end0 | refine bodyPost_ret (results_none rfl _ _ _) rfl ?_
  exact ⟨rfl, HB.out⟩
theorem turnNil (w : World) : Calls Try.prog 15 #[.pointer none] w fun e w' => e = .returned (.tuple #[]) ∧ w' = w := by
  go_enter Try.func15, Try.ntmps15
  go_wp2
  first | go_end0 | refine bodyPost_ret (results_none rfl _ _ _) rfl ?_
  exact ⟨rfl, rfl⟩
theorem getNil (h : Nat → Int) (w : World) : Calls Try.prog 11 #[.pointer none, hv h] w fun e w' => e = .returned (.tuple #[.int .i64 0, .bool false]) ∧ Below w.heap.size w w' := by
  have HB : Hid (Below w.heap.size w (w.alloc (.cells (row 11 h) 30))) := (Below.refl _ _).alloc (Nat.le_refl _) _
  go_enter Try.func11, Try.ntmps11
  go_wp2
  refine bodyPost_ret (results_tmp2 rfl _ _ _) rfl ?_
  exact ⟨rfl, HB.out⟩
theorem heldNil (w : World) : Calls Try.prog 17 #[.pointer none] w fun e w' => e = .returned (.int .i64 0) ∧ w' = w := by
  go_enter Try.func17, Try.ntmps17
  go_wp2
  go_ret
  exact ⟨rfl, rfl⟩
theorem new_empty : newC 0 = ⟨0, 0, []⟩ := rfl
theorem get_empty (h : Hdr) : getS (newC 0) h = newC 0 ∧ getI (newC 0) h = 0 ∧ getB (newC 0) h = false := get_none (by rw [new_empty]; rfl)
set_option maxHeartbeats 1600000 in
set_option maxRecDepth 100000 in
theorem nil_any (w : World) (h : Hdr) (id size : Int) (hs : (Lit.int .i64 size).wf = true) : Calls Try.prog 4 #[hv h.f, .int .i64 id, .int .i64 size] w fun e w' => e = .returned (.bool true) ∧ Below w.heap.size w w' := by
  obtain ⟨W0, hW0⟩ : ∃ W0, W0 = w.alloc (.cells (row 11 h.f) 30) := ⟨_, rfl⟩
  have hB0 : Below w.heap.size w W0 := by rw [hW0]; exact (Below.refl _ _).alloc (Nat.le_refl _) _
  have hs0 : W0.heap.size = w.heap.size + 1 := by rw [hW0]; simp
  have hG0 : Blk W0 w.heap.size 11 30 h.f := by rw [hW0]; exact Blk.new w 11 30 h.f
  obtain ⟨S, hS⟩ : ∃ S : Nat → Prop, S = fun b => W0.heap.size ≤ b := ⟨_, rfl⟩
  have hkeep : ∀ x, Only S W0 x → Blk x w.heap.size 11 30 h.f := fun x hO => (hO.block _ (by rw [hS]; omega)).trans hG0
  have hfr : ∀ x, Only S W0 x → Fresh S x := fun x h b hb => by rw [hS]; exact Nat.le_trans h.size hb
  have bel : ∀ x y, Only S W0 x → Below x.heap.size x y → Only S W0 y := fun x y h hb => h.trans (Only.of hb (hfr x h))
  have fin : ∀ x, Only S W0 x → Below w.heap.size w x := fun x hO => hB0.trans (hO.below fun k hk => by rw [hS] at hk; show w.heap.size ≤ k; omega)
  obtain ⟨x, hx⟩ : ∃ z, z = h.f := ⟨_, rfl⟩
  have HP1 : Hid (Calls Try.prog 13 #[.pointer none, hv x, .int .i64 id] W0 fun r y => r = .returned (.tuple #[]) ∧ Only S W0 y ∧ Blk y w.heap.size 11 30 x) := (putNil x id W0).mono fun r y ⟨a1, a2⟩ => ⟨a1, bel _ _ (Only.refl _ _) a2, hx ▸ hkeep _ (bel _ _ (Only.refl _ _) a2)⟩
  have HG1 : Hid (∀ z, Only S W0 z → Calls Try.prog 11 #[.pointer none, hv x] z fun r y => r = .returned (.tuple #[.int .i64 0, .bool false]) ∧ Only S W0 y) := fun z hO => (getNil x z).mono fun r y ⟨a1, a2⟩ => ⟨a1, bel z y hO a2⟩
  have HN : Hid (∀ z n, Only S W0 z → n ≤ 0 → -9223372036854775808 ≤ n → Calls Try.prog 9 #[.int .i64 n] z fun r y => ∃ g, r = .returned (pv g) ∧ Only S W0 y ∧ Ca S y (pv g) (newC 0) ∧ Blk y w.heap.size 11 30 x) := fun z n hO hn hn2 => (new_any z n (WalkArith.wf_i64 (by omega))).mono fun r y ⟨v, a1, a2, a3⟩ => by
    obtain ⟨g, rfl⟩ := a3.form
    have : szN n = 0 := by unfold szN; omega
    rw [this] at a3
    exact ⟨g, a1, bel z y hO a2, a3.carry fun b _ hb => ⟨hfr z hO b hb, rfl⟩, hx ▸ hkeep _ (bel _ _ hO a2)⟩
  have HP2 : Hid (∀ z v, Only S W0 z → Ca S z v (newC 0) → Calls Try.prog 13 #[v, hv x, .int .i64 id] z fun r y => r = .returned (.tuple #[]) ∧ Only S W0 y ∧ Ca S y v (newC 0) ∧ Blk y w.heap.size 11 30 x) := fun z v hO hC => by
    rw [hx]
    refine (put_any z v (newC 0) h id hC (hfr z hO) (by rw [new_empty]; show 0 < _; omega) (fun e => absurd rfl e)).mono fun r y ⟨a1, a2, a3⟩ => ?_
    rw [put_nil h id rfl] at a3
    exact ⟨a1, hO.trans a2, a3, hkeep _ (hO.trans a2)⟩
  have HG2 : Hid (∀ z v, Only S W0 z → Ca S z v (newC 0) → Calls Try.prog 11 #[v, hv x] z fun r y => r = .returned (.tuple #[.int .i64 0, .bool false]) ∧ Only S W0 y ∧ Ca S y v (newC 0)) := fun z v hO hC => by
    rw [hx]
    refine (get_any z v (newC 0) h hC (hfr z hO)).mono fun r y ⟨a1, a2, a3⟩ => ?_
    obtain ⟨e1, e2, e3⟩ := get_empty h
    rw [e2, e3] at a1
    rw [e1] at a3
    exact ⟨a1, hO.trans a2, a3⟩
  have HH2 : Hid (∀ z v, Only S W0 z → Ca S z v (newC 0) → Calls Try.prog 17 #[v] z fun r y => r = .returned (.int .i64 0) ∧ Only S W0 y) := fun z v hO hC => (held_any z v (newC 0) hC (by rw [new_empty]; show 0 < _; omega)).mono fun r y ⟨a1, a2⟩ => ⟨a1, bel z y hO a2⟩
  have HW : Hid (∀ z, Only S W0 z → Calls Try.prog 8 #[] z fun e w' => e = .returned (.bool true) ∧ Below w.heap.size w w') := fun z hO => (wakes_any z).mono fun r y ⟨a1, a2⟩ => ⟨a1, fin y (bel z y hO a2)⟩
  have HW0 := hid hW0
  rw [← hx] at HW0
  rw [← hx]
  have hbs := bounds_i64 hs
  have b0 : Blk W0 w.heap.size 11 30 x := hx ▸ hG0
  have HB1 : Hid (∀ z, Only S W0 z → Blk z w.heap.size 11 30 x) := fun z hO => hx ▸ hkeep z hO
  have hmin : ∃ n, n = min size 0 ∧ n ≤ 0 ∧ -9223372036854775808 ≤ n := ⟨_, rfl, by omega, by omega⟩
  clear hW0 hB0 hs0 hG0 hS hkeep hfr bel fin hx hs
  go_enter Try.func4, Try.ntmps4
  go_upto_region 1 with fail
  rw [← HW0.out]
  clear HW0
  go_upto_region 3 with (first
    | (refine ld24 (.tmp 3) rfl _ rfl rfl x b0 ?_)
    | (go_at_call 13; refine (HP1.out).mono ?_; rintro r y1 ⟨rfl, hO1, b1⟩; have HO1 := hid hO1; clear hO1 HP1))
  go_upto_region 4 with (go_at_call 15; refine (turnNil y1).mono ?_; rintro r z1 ⟨rfl, rfl⟩)
  go_upto_region 5 with (first
    | (refine ld24 (.tmp 3) rfl _ rfl rfl x b1 ?_)
    | (go_at_call 11; refine (HG1.out _ HO1.out).mono ?_; rintro r y2 ⟨rfl, hO2⟩; have HO2 := hid hO2; clear hO2 HG1))
  by_cases hsz : size ≤ 0
  · have hsz2 : ¬ 0 < size := by omega
    have HN2 := hid (HN.out y2 size HO2.out hsz hbs.1)
    clear HN
    go_upto_region 6 with (go_at_call 9; refine (HN2.out).mono ?_; rintro r y3 ⟨g, rfl, hO3, hC3, b3⟩; have HO3 := hid (And.intro hO3 hC3); clear hO3 hC3 HN2)
    go_upto_region 7 with (first
      | (refine ld24 (.tmp 3) rfl _ rfl rfl x b3 ?_)
      | (go_at_call 13; refine (HP2.out y3 _ HO3.out.1 HO3.out.2).mono ?_; rintro r y4 ⟨rfl, hO4, hC4, b4⟩; have HO4 := hid (And.intro hO4 hC4); clear hO4 hC4 HP2))
    go_upto_region 8 with (first
      | (refine ld24 (.tmp 3) rfl _ rfl rfl x b4 ?_)
      | (go_at_call 11; refine (HG2.out y4 _ HO4.out.1 HO4.out.2).mono ?_; rintro r y5 ⟨rfl, hO5, hC5⟩; have HO5 := hid (And.intro hO5 hC5); clear hO5 hC5 HG2))
    have HZ := hid (heldNil y5)
    go_wp2_with (first
      | (go_at_call 17; refine (HZ.out).mono ?_; rintro r z6 ⟨rfl, rfl⟩; have HHe := hid (HH2.out _ (pv g) HO5.out.1 HO5.out.2); clear HZ HH2)
      | (go_at_call 17; refine (HHe.out).mono ?_; rintro r y6 ⟨rfl, hO6⟩; have HO6 := hid hO6; clear hO6 HHe)
      | (go_at_call 8; refine (HW.out _ HO6.out).mono ?_; rintro r y7 ⟨rfl, hb7⟩; have HB7 := hid hb7; clear hb7))
    go_ret
    exact ⟨rfl, HB7.out⟩
  · have hsz2 : 0 < size := by omega
    have HN2 := hid (HN.out y2 0 HO2.out (by omega) (by omega))
    clear HN
    go_upto_region 6 with (go_at_call 9; refine (HN2.out).mono ?_; rintro r y3 ⟨g, rfl, hO3, hC3, b3⟩; have HO3 := hid (And.intro hO3 hC3); clear hO3 hC3 HN2)
    go_upto_region 7 with (first
      | (refine ld24 (.tmp 3) rfl _ rfl rfl x b3 ?_)
      | (go_at_call 13; refine (HP2.out y3 _ HO3.out.1 HO3.out.2).mono ?_; rintro r y4 ⟨rfl, hO4, hC4, b4⟩; have HO4 := hid (And.intro hO4 hC4); clear hO4 hC4 HP2))
    go_upto_region 8 with (first
      | (refine ld24 (.tmp 3) rfl _ rfl rfl x b4 ?_)
      | (go_at_call 11; refine (HG2.out y4 _ HO4.out.1 HO4.out.2).mono ?_; rintro r y5 ⟨rfl, hO5, hC5⟩; have HO5 := hid (And.intro hO5 hC5); clear hO5 hC5 HG2))
    have HZ := hid (heldNil y5)
    go_wp2_with (first
      | (go_at_call 17; refine (HZ.out).mono ?_; rintro r z6 ⟨rfl, rfl⟩; have HHe := hid (HH2.out _ (pv g) HO5.out.1 HO5.out.2); clear HZ HH2)
      | (go_at_call 17; refine (HHe.out).mono ?_; rintro r y6 ⟨rfl, hO6⟩; have HO6 := hid hO6; clear hO6 HHe)
      | (go_at_call 8; refine (HW.out _ HO6.out).mono ?_; rintro r y7 ⟨rfl, hb7⟩; have HB7 := hid hb7; clear hb7))
    go_ret
    exact ⟨rfl, HB7.out⟩
end Go.Proofs.Ytpmdgockiblkaaa
