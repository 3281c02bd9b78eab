/-
  Proved here: Drop of a table by its rules (Tbl). Conditions: the widths' table holds its numbers; fewer than 2 to 31 were added.
-/
import Derived.Test.YtimenbkfkdpdcaaDoorTB
import Derived.Test.YtimenbkfkdpdcaaDoorID
namespace Go.Proofs.YtimenbkfkdpdcaaDoor
open Go.RowKit

theorem tDrop_any {S : Nat → Prop} (w : World) (v : Value) (T : List Ru) (ad id : Int) (h : Tbl S w v T ad) (hf : Fresh S w) (hid' : (Lit.int .i64 id).wf = true) (ha : ad < 2147483640) :
    Calls Tryd.prog 10 #[v, .int .i64 id] w fun e w' => e = .returned (.bool (T.any fun u => u.k == id)) ∧ Only S w w' ∧ Tbl S w' v (rmT T id) ad := by
  have h0 := h
  obtain ⟨g, o, bm, nm, Gm, vr, rs, rfl, hT, hI⟩ := h0
  have hl := hI.len
  by_cases hx : ∃ u ∈ T, u.k = id
  · obtain ⟨u, hu, rfl⟩ := hx
    have hany : (T.any fun x => x.k == u.k) = true := List.any_eq_true.2 ⟨u, hu, by simp⟩
    rw [hany]
    have hex : ∀ ρ rs', Out rs (fun k => u.m (11 + k)) ρ rs' → ρ.E (kl u.m) ≠ [] := fun ρ rs' ho => by
      obtain ⟨hm, ho⟩ := ho
      rcases ho with ⟨i, hi, h1, _⟩ | ⟨_, h2, _⟩
      · have := (hI.mem ρ (h1 ▸ List.getElem_mem hi) (kl u.m) ⟨u.r, u.k⟩).2 ⟨u, hu, eqR_iff.2 hm, rfl, rfl⟩
        exact fun e => by rw [e] at this; cases this
      · obtain ⟨σ, hσ, h5⟩ := hI.has u hu
        have h6 : eqR 11 σ.mask (fun k => u.m (11 + k)) = false := h2 σ hσ
        rw [show eqR 11 σ.mask (fun k => u.m (11 + k)) = true from h5] at h6; cases h6
    refine (tdrop_ok w g ad bm nm Gm vr rs u.m u.k hT hf hid' ((hI.mat u.k).1 u hu rfl) (hI.wf hu) hex (by omega) (fun ρ hρ => ⟨by have := (hl.2 ρ hρ).1; omega, fun l => by have := (hl.2 ρ hρ).2 l; omega⟩)).mono ?_
    rintro e w' ⟨rfl, hO, o', vr', ρ, rs', v5, t, hou, htop, n', hn', hz, hT'⟩
    exact ⟨rfl, hO, g, o', bm, _, _, vr', _, rfl, hT', hI.drop hu hou htop hn' hz⟩
  · have hno : ∀ u ∈ T, u.k ≠ id := fun u hu e => hx ⟨u, hu, e⟩
    have hany : (T.any fun x => x.k == id) = false := by
      rw [List.any_eq_false]
      intro u hu; simp [hno u hu]
    rw [hany, rmT_none hno]
    refine (tdrop_no w g ad bm nm Gm vr rs id hT hid' ((hI.mat id).2 hno)).mono ?_
    rintro e w' ⟨rfl, hb⟩
    exact ⟨rfl, Only.of hb hf, h.carry fun b hb1 hS => ⟨hS, hb.block b hb1⟩⟩
end Go.Proofs.YtimenbkfkdpdcaaDoor
