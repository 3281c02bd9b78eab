/-
  Proved here: wakes of the statements says true. Condition: the laid variables.
-/
import Derived.Test.YtbbankcmeanjaaaGreatDoorE3
namespace Go.Proofs.YtbbankcmeanjaaaGreatDoor
set_option maxRecDepth 100000
open Go.RowKit
set_option maxRecDepth 100000

abbrev tW1 : ByteArray := ⟨#[116, 111, 32, 61, 32, 49, 48, 46, 48, 46, 48, 46, 49, 32, 35, 32, 120]⟩
abbrev tW2 : ByteArray := ⟨#[97, 58, 98]⟩
abbrev lW1 : List Wd := [⟨1, ⟨#[116, 111]⟩, 0, 0⟩, ⟨3, ⟨#[61]⟩, 0, 3⟩, ⟨2, ⟨#[49, 48, 46, 48, 46, 48, 46, 49]⟩, 167772161, 5⟩, ⟨0, ⟨#[]⟩, 0, 17⟩]
theorem all_W1 : all tW1 = .ok lW1 := by kernel_rfl
theorem all_W2 : all tW2 = .no 150 1 ⟨#[58]⟩ := by kernel_rfl
theorem Wds.cells {T : Nat → Prop} {W : World} {v : Value} {l : List Wd} (h : Wds T W v l) (hl : l ≠ []) : ∃ b o cap, v = .slice (some ⟨b, o, none⟩) l.length cap ∧ l.length ≤ cap ∧ T b ∧ b < W.heap.size ∧ ∀ j, j < l.length * 4 → W.cell? ⟨b, o + j, none⟩ = (wcs l)[j]? := by
  rcases h.2 with ⟨-, h0⟩ | ⟨g, o, cap, cur, rfl, hg, hc, h1, h2, h3⟩
  · exact absurd (List.eq_nil_of_length_eq_zero h0) hl
  · refine ⟨g, o, cap, rfl, h1, hg, (Array.getElem?_eq_some_iff.1 hc).1, fun j hj => ?_⟩
    rw [cell_of_row _ _ _ _ _ _ hc]; exact cells_at h3 hj
set_option maxHeartbeats 3200000 in
theorem wakes_any (w : World) (hT : Tab w) : Calls Tryz.prog 8 #[] w fun e w' => e = .returned (.bool true) ∧ Below w.heap.size w w' := by
  have H1 := hid (all_any tW1 w hT (by decide))
  have H2 : Hid (∀ W, Below w.heap.size w W → Calls Tryz.prog 4 #[.string tW2] W (AlP tW2 W)) := fun W hb => all_any tW2 W (hT.on hb) (by decide)
  go_enter Tryz.func8, Tryz.ntmps8
  go_upto_region 2 with (go_at_call 4; refine (H1.out).mono ?_; rintro e W1 ⟨hb1, hr1⟩; rw [all_W1] at hr1; obtain ⟨v1, rfl, hw1⟩ := hr1; have HB1 := hid hb1; have HW1 := hid hw1; clear hb1 hw1 H1)
  obtain ⟨b, o, cap, rfl, hcap, -, hbl, hcl⟩ := HW1.out.cells (by simp)
  have HC := hid (And.intro hbl hcl)
  have H3 := hid (H2.out W1 HB1.out)
  have hcap' : 4 ≤ cap := hcap
  clear H2 HW1 hbl hcl hcap
  go_upto_region 3 with (go_at_call 4; refine (H3.out).mono ?_; rintro e W2 ⟨hb2, hr2⟩; rw [all_W2] at hr2; obtain ⟨N, rfl, hN, hf⟩ := hr2; have HB2 := hid hb2; have HF := hid hf; clear hb2 hf hN H3)
  have c1 : W2.cell? ⟨b, o + 1, none⟩ = some (.string ⟨#[116, 111]⟩) := by rw [HB2.out.cell (p := ⟨b, o + 1, none⟩) HC.out.1, HC.out.2 1 (by decide)]; rfl
  have c2 : W2.cell? ⟨b, o + 10, none⟩ = some (.int .u64 167772161) := by rw [HB2.out.cell (p := ⟨b, o + 10, none⟩) HC.out.1, HC.out.2 10 (by decide)]; rfl
  have c3 : W2.cell? ⟨b, o + 15, none⟩ = some (.int .i64 17) := by rw [HB2.out.cell (p := ⟨b, o + 15, none⟩) HC.out.1, HC.out.2 15 (by decide)]; rfl
  have HBW := hid (HB1.out.trans (HB2.out.mono HB1.out.size))
  have HTd := hid (told_hit N 150 1 ⟨#[58]⟩ W2 (hT.on HBW.out) (by decide) HF.out)
  clear HF HC HB2
  go_wp2_with (go_at_call 6; refine (HTd.out).mono ?_; rintro e W3 ⟨rfl, hb3⟩; have HB3 := hid hb3; clear hb3 HTd)
  go_ret
  exact ⟨rfl, HBW.out.trans (HB3.out.mono HBW.out.size)⟩
end Go.Proofs.YtbbankcmeanjaaaGreatDoor
