/-
  Proved here: the writer's method message: it writes a message's bytes, and its size last, or panics with ErrMessage where the message is none. Conditions: the writer is new; the message lies in blocks that it does not turn.
-/
import Derived.Test.YtllbbbfkdgjffaaGreatDoorWM
namespace Go.Proofs.YtllbbbfkdgjffaaGreatDoor
open Go.RowKit

theorem Owns.set {base g n c : Nat} {w : World} {xs : List Int} (h : Owns base w (.slice (some ⟨g, 0, none⟩) n c) xs) (j : Nat) (y : Int) : Owns base (w.setCell ⟨g, j, none⟩ (.int .u8 y)) (.slice (some ⟨g, 0, none⟩) n c) (xs.set j y) := by
  have hn : xs.length = (xs.set j y).length := by simp
  unfold Owns
  rw [← hn]
  refine ⟨by simp, ?_⟩
  rcases h.2 with ⟨e, _⟩ | ⟨g', cap, cur, e, hb, hg, hc, hm, hsz, ht⟩
  · cases e
  · simp only [Value.slice.injEq, Option.some.injEq, Addr.mk.injEq] at e
    obtain ⟨⟨rfl, _, _⟩, rfl, rfl⟩ := e
    refine Or.inr ⟨g, c, cur.setIfInBounds j (.int .u8 y), rfl, hb, ?_, hc, hm, by simpa using hsz, ?_⟩
    · rw [heap_setCell_same w g j _ 5 _ hg]
    · rw [Array.toList_setIfInBounds, List.map_set, ← ht, List.take_set]
theorem IsB.set {xs : List Int} (h : IsB xs) (j : Nat) {y : Int} (h0 : 0 ≤ y) (h1 : y < 256) : IsB (xs.set j y) := fun x hx => by
  rcases List.mem_or_eq_of_mem_set hx with hx | rfl
  · exact h x hx
  · exact ⟨h0, h1⟩
theorem Owns.cell {base g n c : Nat} {w : World} {xs : List Int} (h : Owns base w (.slice (some ⟨g, 0, none⟩) n c) xs) (j : Nat) (hj : j < xs.length) : w.cell? ⟨g, j, none⟩ = some (.int .u8 (xs.getD j 0)) ∧ w.frozen? ⟨g, j, none⟩ = false := by
  rcases h.2 with ⟨e, _⟩ | ⟨g', cap, cur, e, hb, hg, hc, hm, hsz, ht⟩
  · cases e
  · simp only [Value.slice.injEq, Option.some.injEq, Addr.mk.injEq] at e
    obtain ⟨⟨rfl, _, _⟩, rfl, rfl⟩ := e
    refine ⟨?_, by simp [World.frozen?, hg]⟩
    rw [cell_of_row w g j cur 5 (0, 0) hg]
    have h2 : (cur.toList.take (xs.length * 1))[j]? = (xs.map (Value.int .u8))[j]? := by rw [ht]
    rw [List.getElem?_take, if_pos (by omega)] at h2
    simp only [Array.getElem?_toList, List.getElem?_map] at h2
    rw [h2, List.getD_eq_getElem?_getD, List.getElem?_eq_getElem hj]; rfl

theorem Owns.form {base : Nat} {w : World} {v : Value} {xs : List Int} (h : Owns base w v xs) (hne : xs.length ≠ 0) : ∃ g c, v = .slice (some ⟨g, 0, none⟩) xs.length c ∧ base ≤ g := by
  rcases h.2 with ⟨_, h0⟩ | ⟨g, cap, cur, e, hb, _⟩
  · exact absurd h0 hne
  · exact ⟨g, cap, e, hb⟩


/-- What message leaves: the writer holds the message's bytes, or is told to be too long; or it ends by the panic. -/
def MsP (S : Nat → Prop) (c : Nat) (m : Ms) (w : World) (e : Ending) (w' : World) : Prop :=
  Only (OS c S) w w' ∧ ((okMs m = true ∧ e = .returned (.tuple #[]) ∧ ∃ v l ys, w'.heap[c]? = some (.cells #[v, .bool l] 50 (0, 0)) ∧ Owns 0 w' v ys ∧ IsB ys ∧ ys.length ≤ 8192 ∧ (∀ k, v.ownBlock = some k → S k) ∧ (l = false → ys = encMs m) ∧ (l = true → 8192 < (encMs m).length)) ∨ (okMs m = false ∧ e = .panicked PC))

/-- The size is laid in. -/
theorem ms_fin {S : Nat → Prop} {c : Nat} {m : Ms} {w : World} {g cap : Nat} {ys : List Int} {l : Bool} (gd : Gd S c w) (hc : w.heap[c]? = some (.cells #[.slice (some ⟨g, 0, none⟩) ys.length cap, .bool l] 50 (0, 0))) (hw : Owns 0 w (.slice (some ⟨g, 0, none⟩) ys.length cap) ys) (hS : S g) (hB : IsB ys) (hl : ys.length ≤ 8192) (h0 : l = false → ys = hd0 m ++ body m) (h1 : l = true → 8192 < (hd0 m ++ body m).length) (j k : Nat) (x y : Int) (hjk : (j = 2 ∧ k = 3 ∧ x = ((ys.length : Nat) : Int) / 256 % 256 ∧ y = ((ys.length : Nat) : Int) % 256) ∨ (j = 3 ∧ k = 2 ∧ y = ((ys.length : Nat) : Int) / 256 % 256 ∧ x = ((ys.length : Nat) : Int) % 256)) :
    Only (OS c S) w ((w.setCell ⟨g, j, none⟩ (.int .u8 x)).setCell ⟨g, k, none⟩ (.int .u8 y)) ∧ ∃ v l ys, ((w.setCell ⟨g, j, none⟩ (.int .u8 x)).setCell ⟨g, k, none⟩ (.int .u8 y)).heap[c]? = some (.cells #[v, .bool l] 50 (0, 0)) ∧ Owns 0 ((w.setCell ⟨g, j, none⟩ (.int .u8 x)).setCell ⟨g, k, none⟩ (.int .u8 y)) v ys ∧ IsB ys ∧ ys.length ≤ 8192 ∧ (∀ k, v.ownBlock = some k → S k) ∧ (l = false → ys = encMs m) ∧ (l = true → 8192 < (encMs m).length) := by
  have hgc : c ≠ g := fun e => gd.out (e ▸ hS)
  have hxy : (0 ≤ x ∧ x < 256) ∧ (0 ≤ y ∧ y < 256) := by omega
  refine ⟨((Only.refl _ _).setCell (p := ⟨g, j, none⟩) (Or.inr hS) _).setCell (p := ⟨g, k, none⟩) (Or.inr hS) _, _, l, _, ?_, (hw.set j x).set k y, (hB.set j hxy.1.1 hxy.1.2).set k hxy.2.1 hxy.2.2, by simpa using hl, ?_, fun hl0 => ?_, fun hl1 => ?_⟩
  · rw [heap_setCell_other _ ⟨g, k, none⟩ c _ hgc, heap_setCell_other _ ⟨g, j, none⟩ c _ hgc]; exact hc
  · intro k' hk'
    simp [Value.ownBlock] at hk'
    rw [← hk']; exact hS
  · have e := h0 hl0
    have hlen : ((ys.length : Nat) : Int) = ((8 + (body m).length : Nat) : Int) := by rw [e, List.length_append, hd0_len]
    unfold encMs
    rw [← size_set m _ (body m), ← e, ← hlen]
    rcases hjk with ⟨rfl, rfl, rfl, rfl⟩ | ⟨rfl, rfl, rfl, rfl⟩
    · rfl
    · rw [List.set_comm _ _ (by omega)]
  · have := h1 hl1
    rw [List.length_append, hd0_len] at this
    rw [body_le]; omega
end Go.Proofs.YtllbbbfkdgjffaaGreatDoor
