/-
  Proved here: putBack of package tuples puts a row to its place in the list, unless it has no rules. Condition: fewer than 2 to 31 rows.
-/
import Derived.Test.YtfbehaodhooaaaaGreatDoorTK
namespace Go.Proofs.YtfbehaodhooaaaaGreatDoor
set_option maxRecDepth 100000
open Go.RowKit

/-- What putBack leaves. -/
def PbP (S : Nat → Prop) (w : World) (g : Nat) (ad : Int) (bm nm : Nat) (Gm : Lit → Option Value) (rs : List Ro) (ρ : Ro) (r : Ending) (w' : World) : Prop :=
  r = .returned (.tuple #[]) ∧ Only S w w' ∧ ∃ vr' o', TabM S o' w' g ad bm nm Gm vr' (if ρ.n = 0 then rs else placeR rs ρ)
set_option maxHeartbeats 1600000 in
set_option maxRecDepth 100000 in
theorem putBack_any {S : Nat → Prop} {o : Nat → Tag} (w : World) (g : Nat) (ad : Int) (bm nm : Nat) (Gm : Lit → Option Value) (vr : Value) (rs : List Ro) (ρ : Ro) (h : TabM S o w g ad bm nm Gm vr rs) (hρ : RowM S o w ρ) (hd : ∀ σ ∈ rs, σ.p ≠ ρ.p) (hf : Fresh S w) (hn : rs.length < 2147483647) :
    Calls Tryz.prog 85 #[pv g, pv ρ.p] w fun r w' => PbP S w g ad bm nm Gm rs ρ r w' := by
  obtain ⟨c11, c12, -, -⟩ := hρ.cells
  obtain ⟨t0, t1, t2, t3⟩ := three_cells h.hg
  have hlen : ∀ ty, (Builtin.len_ #[134] ty #[.map (some ρ.bc)]).run Tryz.prog w = .ok (.int .i64 (ρ.n : Nat)) w := fun ty => hρ.mp.len Tryz.underlying134 ty
  have hgl := (Array.getElem?_eq_some_iff.1 h.hg).1
  by_cases h0 : ρ.n = 0
  · have HF : Hid (PbP S w g ad bm nm Gm rs ρ (.returned (.tuple #[])) w) := ⟨rfl, Only.refl _ _, vr, o, by rw [if_pos h0]; exact h⟩
    have hz : ¬ 0 < ρ.n := by omega
    have hz' : decide ((0 : Int) < (ρ.n : Int)) = false := decide_eq_false (by omega)
    clear h hρ hd hf h0
    go_enter Tryz.func85, Tryz.ntmps85
    go_wp2
    first | go_end0 | refine bodyPost_ret (results_none rfl _ _ _) rfl ?_
    exact HF.out
  · have hz : 0 < ρ.n := by omega
    have hz' : decide ((0 : Int) < (ρ.n : Int)) = true := decide_eq_true (by omega)
    have HC := hid (placedR_any w vr rs ρ h.row c11 (fun y hy => (h.all y hy).cells.1) hn)
    have HF : Hid (∀ v5 w5, Apd w vr w5 → Rw (fun b => (S b ∧ o b = .rows) ∨ w.heap.size ≤ b) 1 131 w5 v5 (placeR rs ρ).length (pts (placeR rs ρ)) → w5.heap[g]? = some (.cells #[.int .i64 ad, .map (some bm), vr] 128 (0, 0)) ∧ PbP S w g ad bm nm Gm rs ρ (.returned (.tuple #[])) (w5.setCell ⟨g, 2, none⟩ v5)) := by
      show ∀ _, _
      intro v5 w5 hA hR
      have hrb : ∀ b, vr.ownBlock = some b → (S b ∧ o b = .rows) ∧ b < w.heap.size := fun b hb => ⟨h.row.own b hb, h.row.ownLt b hb⟩
      have old : ∀ b, b < w.heap.size → o b ≠ .rows → w5.heap[b]? = w.heap[b]? := fun b hb hne => hA.block b hb (fun e => hne (hrb b e).1.2)
      have hg5 : w5.heap[g]? = some (.cells #[.int .i64 ad, .map (some bm), vr] 128 (0, 0)) := (old g hgl (by rw [h.og]; simp)).trans h.hg
      have sett : ∀ b, b ≠ g → (w5.setCell ⟨g, 2, none⟩ v5).heap[b]? = w5.heap[b]? := fun b hb => heap_setCell_other w5 ⟨g, 2, none⟩ b v5 hb
      have oldS : ∀ b, b < w.heap.size → o b ≠ .rows → o b ≠ .tab → (w5.setCell ⟨g, 2, none⟩ v5).heap[b]? = w.heap[b]? := fun b hb h1 h2 => (sett b (fun e => h2 (e ▸ h.og))).trans (old b hb h1)
      have hrow : ∀ σ, RowM S o w σ → RowM S (newTag o w.heap.size .rows) (w5.setCell ⟨g, 2, none⟩ v5) σ := fun σ hσ => hσ.carry fun b hb hS hT => ⟨hS, newTag_old hb, oldS b hb hT.tag.2.2 hT.tag.1⟩
      refine ⟨hg5, rfl, ?_, v5, newTag o w.heap.size .rows, ?_⟩
      · refine Only.setCell (p := ⟨g, 2, none⟩) ⟨hA.os, hA.tape, hA.output, hA.size, fun b hb => ?_⟩ h.sg v5
        rcases Nat.lt_or_ge b w.heap.size with h1 | h1
        · exact hA.block b h1 (fun e => hb (hrb b e).1.1)
        · exact absurd (hf b h1) hb
      rw [if_neg h0]
      refine ⟨h.sg, (newTag_old hgl).trans h.og, by rw [heap_setCell_same w5 g 2 _ _ _ hg5]; rfl, h.sm, (newTag_old h.mm.lt).trans h.om, h.mm.carry (oldS _ h.mm.lt (by rw [h.om]; simp) (by rw [h.om]; simp)), hR.carry fun b hb hS => ?_, fun σ hσ => ?_, ?_⟩
      · have hbg : b ≠ g := fun e => by
          rcases hS with hS | hS
          · have := hS.2; rw [e, h.og] at this; cases this
          · omega
        refine ⟨?_, sett b hbg⟩
        rcases hS with hS | hS
        · refine ⟨hS.1, ?_⟩
          rcases Nat.lt_or_ge b w.heap.size with h1 | h1
          · rw [newTag_old h1]; exact hS.2
          · rw [newTag_new h1]
        · exact ⟨hf b hS, newTag_new hS⟩
      · unfold placeR at hσ
        rcases List.mem_append.1 hσ with hσ | hσ
        · rcases List.mem_append.1 hσ with hσ | hσ
          · exact hrow σ (h.all σ (List.mem_of_mem_take hσ))
          · rw [List.mem_singleton.1 hσ]; exact hrow ρ hρ
        · exact hrow σ (h.all σ (List.mem_of_mem_drop hσ))
      · unfold placeR
        have hsp := h.ne
        rw [← List.take_append_drop (posr rs ρ.top rs.length) rs] at hsp
        rw [List.pairwise_append] at hsp
        rw [List.append_assoc, List.pairwise_append]
        refine ⟨hsp.1, List.pairwise_cons.2 ⟨fun b hb => Ne.symm (hd b (List.mem_of_mem_drop hb)), hsp.2.1⟩, fun a ha b hb => ?_⟩
        rcases List.mem_cons.1 hb with rfl | hb
        · exact hd a (List.mem_of_mem_take ha)
        · exact hsp.2.2 a ha b hb
    obtain ⟨ao, cap, rfl⟩ := h.row.form
    clear h hρ hd hf h0
    go_enter Tryz.func85, Tryz.ntmps85
    go_wp2_with (go_at_call 103; refine (HC.out).mono ?_; rintro r w5 ⟨v5, rfl, hA5, hR5⟩
                 obtain ⟨g5, f5⟩ := HF.out v5 w5 hA5 hR5
                 obtain ⟨y0, y1, y2, y3⟩ := three_cells g5
                 obtain ⟨a5, c5, rfl⟩ := hR5.form
                 have HF5 := hid f5
                 clear hA5 hR5 g5 f5)
    first | go_end0 | refine bodyPost_ret (results_none rfl _ _ _) rfl ?_
    exact HF5.out
end Go.Proofs.YtfbehaodhooaaaaGreatDoor
