/-
  Proved here: ScanTells of the statements returns true for every text. Condition: the laid variables.
-/
import Derived.Test.YtbbankcmeanjaaaGreatDoorDG
import Derived.Test.YtbbankcmeanjaaaGreatDoorLW
namespace Go.Proofs.YtbbankcmeanjaaaGreatDoor
open Go.RowKit
set_option maxRecDepth 100000

theorem scF_no {s : ByteArray} {c x : Nat} {t : ByteArray} : ∀ f a acc, scF s f a acc = .no c x t → c ≠ 0
  | 0, a, acc, h => by rw [scF] at h; cases h
  | f + 1, a, acc, h => by
    rw [scF] at h
    split at h
    · split at h
      · exact scF_no f _ _ h
      · split at h
        · exact scF_no f _ _ h
        · split at h
          · exact scF_no f _ _ h
          · rename_i hc
            cases h
            exact hc
    · cases h
theorem all_no {s : ByteArray} {c x : Nat} {t : ByteArray} (h : all s = .no c x t) : c ≠ 0 := by
  unfold all at h
  split at h
  · cases h; decide
  · exact scF_no _ _ _ h
theorem stand_le {s : ByteArray} : ∀ l a, Stand s a l → a ≤ s.size → l.length + a ≤ s.size
  | [], a, _, h => by simpa using h
  | x :: l, a, h, ha => by
    have ok := one_ok h.2.1
    rw [h.2.2.1] at ok
    have h1 : x.at' < x.at' + x.t.size := ok.gt
    have := stand_le l _ h.2.2.2.2 ok.le
    have := h.1
    simp; omega
set_option maxHeartbeats 3200000 in
theorem tells_any (s : ByteArray) (w : World) (hT : Tab w) (hbig : s.size ≤ 9223372036854775806) : Calls Tryz.prog 3 #[.string s] w fun e w' => e = .returned (.bool true) ∧ Below w.heap.size w w' := by
  have H1 := hid (all_any s w hT hbig)
  have H2 : Hid (∀ W, Calls Tryz.prog 5 #[.string s] W (DaP s W)) := fun W => dAll_any s W hbig
  have HWk : Hid (∀ W, Below w.heap.size w W → Calls Tryz.prog 8 #[] W fun e w' => e = .returned (.bool true) ∧ Below W.heap.size W w') := fun W hb => wakes_any W (hT.on hb)
  cases hr : all s with
  | no c a t =>
    have hc := all_no hr
    have HTd : Hid (∀ N W, Below w.heap.size w W → W.heap[N]? = some (.cells (flc c a t) 38 (0, 0)) → Calls Tryz.prog 6 #[.iface 36 (.pointer (some ⟨N, 0, none⟩)), .agg (dfc c a t)] W fun e w' => e = .returned (.bool true) ∧ Below W.heap.size W w') := fun N W hb h => told_hit N c a t W (hT.on hb) hc h
    have HWo : Hid (∀ W, Calls Tryz.prog 7 #[nilS, nilS] W fun e w' => e = .returned (.bool true) ∧ Below W.heap.size W w') := fun W => words_any [] none none 0 0 W (by simp) ⟨fun h => absurd rfl h⟩
    clear hc
    go_enter Tryz.func3, Tryz.ntmps3
    go_upto_region 3 with (first
      | (go_at_call 4; refine (H1.out).mono ?_; rintro e W1 ⟨hb1, hr1⟩; rw [hr] at hr1; obtain ⟨N, rfl, -, hf⟩ := hr1; have HB1 := hid hb1; have HF := hid hf; clear hb1 hf H1)
      | (go_at_call 5; refine (H2.out _).mono ?_; rintro e W2 ⟨hb2, hr2⟩; rw [hr] at hr2; obtain rfl := hr2; have HB2 := hid hb2; clear hb2 H2))
    obtain ⟨W3, hW3⟩ : ∃ W3, W3 = W2.alloc (.cells (dfc c a t) 29) := ⟨_, rfl⟩
    have HW3 : Hid (W2.alloc (.cells #[.int .i64 (c : Int), .int .i64 (a : Int), .string t] 29) = W3) := hW3.symm
    have hb23 : Below W2.heap.size W2 W3 := by rw [hW3]; exact (Below.refl _ _).alloc (Nat.le_refl _) _
    have hb13 : Below W1.heap.size W1 W3 := HB2.out.trans (hb23.mono HB2.out.size)
    have HB3 := hid (HB1.out.trans (hb13.mono HB1.out.size))
    have q : W3.heap[W2.heap.size]? = some (.cells (dfc c a t) 29 (0, 0)) := by rw [hW3]; exact heap_alloc_new _ _
    have c0 : W3.cell? ⟨W2.heap.size, 0, none⟩ = some (.int .i64 (c : Int)) := (cell_of_row _ _ _ _ _ _ q).trans rfl
    have c1 : W3.cell? ⟨W2.heap.size, 1, none⟩ = some (.int .i64 (a : Int)) := (cell_of_row _ _ _ _ _ _ q).trans rfl
    have c2 : W3.cell? ⟨W2.heap.size, 2, none⟩ = some (.string t) := (cell_of_row _ _ _ _ _ _ q).trans rfl
    have HTx := hid (HTd.out N W3 HB3.out ((hb13.block _ (Array.getElem?_eq_some_iff.1 HF.out).1).trans HF.out))
    rw [HW3.out]
    clear hW3 HW3 hb23 hb13 q HF HTd HB2 HB1
    go_wp2_with (first
      | (go_at_call 6; refine (HTx.out).mono ?_; rintro e W4 ⟨rfl, hb4⟩; have HB4 := hid (HB3.out.trans (hb4.mono HB3.out.size)); have HWo4 := hid (HWo.out W4); clear hb4 HTx HWo)
      | (go_at_call 7; refine (HWo4.out).mono ?_; rintro e W5 ⟨rfl, hb5⟩; have HB5 := hid (HB4.out.trans (hb5.mono HB4.out.size)); have HWk5 := hid (HWk.out W5 HB5.out); clear hb5 HWo4 HWk)
      | (go_at_call 8; refine (HWk5.out).mono ?_; rintro e W6 ⟨rfl, hb6⟩; have HB6 := hid (HB5.out.trans (hb6.mono HB5.out.size)); clear hb6 HWk5))
    go_ret
    exact ⟨rfl, HB6.out⟩
  | ok l =>
    obtain ⟨ws, rfl, hst, hs⟩ := all_stand hr
    have hlen : (ws ++ [wEnd s]).length ≤ 70000 := by
      have := stand_le ws 0 hst (by omega)
      rw [List.length_append]; simp; omega
    have hne : ws ++ [wEnd s] ≠ [] := by simp
    obtain ⟨l, hl⟩ : ∃ l, l = ws ++ [wEnd s] := ⟨_, rfl⟩
    rw [← hl] at hr hlen hne
    have HLe := hid (And.intro hlen hne)
    clear hlen hne hst hs hl
    have HTd : Hid (∀ W, Calls Tryz.prog 6 #[.nilIface, .agg (dfc 0 0 ⟨#[]⟩)] W fun e w' => e = .returned (.bool true) ∧ Below W.heap.size W w') := fun W => told_ok 0 ⟨#[]⟩ W
    go_enter Tryz.func3, Tryz.ntmps3
    go_upto_region 3 with (first
      | (go_at_call 4; refine (H1.out).mono ?_; rintro e W1 ⟨hb1, hr1⟩; rw [hr] at hr1; obtain ⟨v1, rfl, hw1⟩ := hr1; obtain ⟨b, o, ca, rfl, hca, -, hbl, hcl⟩ := hw1.cells HLe.out.2; have HB1 := hid hb1; have HC1 := hid (And.intro hca (And.intro hbl hcl)); clear hb1 hw1 H1 hca hbl hcl)
      | (go_at_call 5; refine (H2.out _).mono ?_; rintro e W2 ⟨hb2, hr2⟩; rw [hr] at hr2; obtain ⟨v2, rfl, hw2⟩ := hr2; obtain ⟨b', o', cb, rfl, hcb, -, hbl', hcl'⟩ := hw2.cells HLe.out.2; have HB2 := hid hb2; have HC2 := hid (And.intro hcb (And.intro hbl' hcl')); clear hb2 hw2 H2 hcb hbl' hcl'))
    obtain ⟨W3, hW3⟩ : ∃ W3, W3 = W2.alloc (.cells (dfc 0 0 ⟨#[]⟩) 29) := ⟨_, rfl⟩
    have HW3 : Hid (W2.alloc (.cells #[.int .i64 0, .int .i64 0, .string ⟨#[]⟩] 29) = W3) := hW3.symm
    have hb23 : Below W2.heap.size W2 W3 := by rw [hW3]; exact (Below.refl _ _).alloc (Nat.le_refl _) _
    have hb13 : Below W1.heap.size W1 W3 := HB2.out.trans (hb23.mono HB2.out.size)
    have HB3 := hid (HB1.out.trans (hb13.mono HB1.out.size))
    have HB13 := hid hb13
    have HB23 := hid hb23
    have q : W3.heap[W2.heap.size]? = some (.cells (dfc 0 0 ⟨#[]⟩) 29 (0, 0)) := by rw [hW3]; exact heap_alloc_new _ _
    have c0 : W3.cell? ⟨W2.heap.size, 0, none⟩ = some (.int .i64 0) := (cell_of_row _ _ _ _ _ _ q).trans rfl
    have c1 : W3.cell? ⟨W2.heap.size, 1, none⟩ = some (.int .i64 0) := (cell_of_row _ _ _ _ _ _ q).trans rfl
    have c2 : W3.cell? ⟨W2.heap.size, 2, none⟩ = some (.string ⟨#[]⟩) := (cell_of_row _ _ _ _ _ _ q).trans rfl
    have HTx := hid (HTd.out W3)
    have HWo : Hid (∀ W, Below W3.heap.size W3 W → Calls Tryz.prog 7 #[.slice (some ⟨b, o, none⟩) l.length ca, .slice (some ⟨b', o', none⟩) l.length cb] W fun e w' => e = .returned (.bool true) ∧ Below W.heap.size W w') := fun W hb => by
      have h1 := HB13.out.trans (hb.mono HB13.out.size)
      have h2 := HB23.out.trans (hb.mono HB23.out.size)
      refine words_any l _ _ _ _ W HLe.out.1 ⟨fun _ => ⟨b, o, b', o', rfl, rfl, HC1.out.1, HC2.out.1, Nat.lt_of_lt_of_le HC1.out.2.1 h1.size, Nat.lt_of_lt_of_le HC2.out.2.1 h2.size, fun i hi => ⟨?_, ?_⟩⟩⟩
      · exact range_on (wd_range HC1.out.2.2 hi) h1 HC1.out.2.1
      · exact range_on (wd_range HC2.out.2.2 hi) h2 HC2.out.2.1
    rw [HW3.out]
    clear hW3 HW3 hb23 hb13 q HTd HB2 HB1 HB13 HB23 HC1 HC2 HLe
    generalize l.length = n at *
    go_wp2_with (first
      | (go_at_call 6; refine (HTx.out).mono ?_; rintro e W4 ⟨rfl, hb4⟩; have HB4 := hid (HB3.out.trans (hb4.mono HB3.out.size)); have HWo4 := hid (HWo.out W4 hb4); clear hb4 HTx HWo)
      | (go_at_call 7; refine (HWo4.out).mono ?_; rintro e W5 ⟨rfl, hb5⟩; have HB5 := hid (HB4.out.trans (hb5.mono HB4.out.size)); have HWk5 := hid (HWk.out W5 HB5.out); clear hb5 HWo4 HWk)
      | (go_at_call 8; refine (HWk5.out).mono ?_; rintro e W6 ⟨rfl, hb6⟩; have HB6 := hid (HB5.out.trans (hb6.mono HB5.out.size)); clear hb6 HWk5))
    go_ret
    exact ⟨rfl, HB6.out⟩
end Go.Proofs.YtbbankcmeanjaaaGreatDoor
