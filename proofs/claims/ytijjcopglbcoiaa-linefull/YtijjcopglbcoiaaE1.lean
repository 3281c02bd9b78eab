/-
  Proved here: what it is that a pointer is one of the document's ends; the document's New, Reset, Came, Left. Condition: all blocks to come are the end's.
-/
import Derived.Test.YtijjcopglbcoiaaM2
namespace Go.Proofs.Ytijjcopglbcoiaa
open Go.RowKit Seal

/-- v points to an end of the document's, which stands for e; its memory lies in S. -/
def RE (S : Nat → Prop) (w : World) (v : Value) (e : E) : Prop :=
  ∃ (p : Nat) (f : Nat → Nat) (vs vn : Value), v = .pointer (some ⟨p, 0, none⟩) ∧ S p ∧ f p = 0 ∧ w.heap[p]? = some (.cells #[.int .u32 e.ep, vs, .int .u32 e.got, .int .u32 e.come, vn] 57 (0, 0)) ∧
    Sp (fun k => S k ∧ f k = 1) (fun k => S k ∧ f k = 3) w vs e.sent ∧ Sp (fun k => S k ∧ f k = 2) (fun k => S k ∧ f k = 4) w vn e.new
theorem RE.carry {S T : Nat → Prop} {w w' : World} {v : Value} {e : E} (h : RE S w v e) (hc : ∀ k, k < w.heap.size → S k → T k ∧ w'.heap[k]? = w.heap[k]?) : RE T w' v e := by
  obtain ⟨p, f, vs, vn, h1, h2, h3, h4, h5, h6⟩ := h
  have hq := hc p (Array.getElem?_eq_some_iff.1 h4).1 h2
  have hs : ∀ i k, k < w.heap.size → (S k ∧ f k = i) → (T k ∧ f k = i) ∧ w'.heap[k]? = w.heap[k]? := fun i k hk hk2 => ⟨⟨(hc k hk hk2.1).1, hk2.2⟩, (hc k hk hk2.1).2⟩
  exact ⟨p, f, vs, vn, h1, hq.1, h3, by rw [hq.2]; exact h4, h5.carry (hs 1) (hs 3), h6.carry (hs 2) (hs 4)⟩

/-- The five cells of an end's block. -/
theorem end_cells {w : World} {g : Nat} {x0 x1 x2 x3 x4 : Value} {t : TypeId} (h : w.heap[g]? = some (.cells #[x0, x1, x2, x3, x4] t (0, 0))) : w.cell? ⟨g, 0, none⟩ = some x0 ∧ w.cell? ⟨g, 1, none⟩ = some x1 ∧ w.cell? ⟨g, 2, none⟩ = some x2 ∧ w.cell? ⟨g, 3, none⟩ = some x3 ∧ w.cell? ⟨g, 4, none⟩ = some x4 ∧
    w.frozen? ⟨g, 0, none⟩ = false ∧ w.frozen? ⟨g, 1, none⟩ = false ∧ w.frozen? ⟨g, 2, none⟩ = false ∧ w.frozen? ⟨g, 3, none⟩ = false ∧ w.frozen? ⟨g, 4, none⟩ = false := by
  refine ⟨?_, ?_, ?_, ?_, ?_, ?_, ?_, ?_, ?_, ?_⟩
  · rw [cell_of_row w g 0 _ _ _ h]; rfl
  · rw [cell_of_row w g 1 _ _ _ h]; rfl
  · rw [cell_of_row w g 2 _ _ _ h]; rfl
  · rw [cell_of_row w g 3 _ _ _ h]; rfl
  · rw [cell_of_row w g 4 _ _ _ h]; rfl
  all_goals simp [World.frozen?, h]

set_option maxHeartbeats 400000 in
theorem rnew_any (p : Nat) (w : World) :
    Calls Try.prog 12 #[.int .u32 (p : Nat)] w fun r w' => ∃ v, r = .returned v ∧ Below w.heap.size w w' ∧ RE (fun k => w.heap.size ≤ k) w' v (E.mk0 p) := by
  go_enter Try.func12, Try.ntmps12
  go_wp2
  go_ret
  exact ⟨_, rfl, (Below.refl _ _).alloc (Nat.le_refl _) _, w.heap.size, fun _ => 0, nilS, nilS, rfl, Nat.le_refl _, rfl, heap_alloc_new _ _, Sp.nil _ _ _, Sp.nil _ _ _⟩

set_option maxHeartbeats 400000 in
theorem rreset_any (S : Nat → Prop) (v : Value) (e : E) (p : Nat) (w : World) (h : RE S w v e) :
    Calls Try.prog 30 #[v, .int .u32 (p : Nat)] w fun r w' => r = .returned (.tuple #[]) ∧ Only S w w' ∧ RE S w' v (E.mk0 p) := by
  obtain ⟨g, f, vs, vn, rfl, h2, h3, h4, h5, h6⟩ := h
  obtain ⟨c0, c1, c2, c3, c4, z0, z1, z2, z3, z4⟩ := end_cells h4
  have HB : Hid (w.heap[g]? = some (.cells #[.int .u32 e.ep, vs, .int .u32 e.got, .int .u32 e.come, vn] 57 (0, 0))) := h4
  clear h4 h5 h6
  go_enter Try.func30, Try.ntmps30
  go_wp2
  go_end0
  refine ⟨rfl, ?_, g, f, nilS, nilS, rfl, h2, h3, ?_, Sp.nil _ _ _, Sp.nil _ _ _⟩
  · exact (((((Only.refl S w).setCell (p := ⟨g, 0, none⟩) h2 _).setCell (p := ⟨g, 1, none⟩) h2 _).setCell (p := ⟨g, 2, none⟩) h2 _).setCell (p := ⟨g, 3, none⟩) h2 _).setCell (p := ⟨g, 4, none⟩) h2 _
  · rw [heap_setCell_same _ g 4 _ _ _ (heap_setCell_same _ g 3 _ _ _ (heap_setCell_same _ g 2 _ _ _ (heap_setCell_same _ g 1 _ _ _ (heap_setCell_same _ g 0 _ _ _ HB.out))))]; rfl

set_option maxHeartbeats 400000 in
theorem rcame_any (S : Nat → Prop) (v : Value) (e : E) (w : World) (h : RE S w v e) (hl : e.new.length ≤ 2147483648) :
    Calls Try.prog 16 #[v] w fun r w' => ∃ u R, r = .returned u ∧ Only S w w' ∧ (∀ k, R k → S k) ∧ RE (fun k => S k ∧ ¬ R k) w' v (cmS e) ∧ Ls R w' u e.new := by
  obtain ⟨g, f, vs, vn, rfl, h2, h3, h4, h5, h6⟩ := h
  obtain ⟨c0, c1, c2, c3, c4, z0, z1, z2, z3, z4⟩ := end_cells h4
  have HB : Hid (w.heap[g]? = some (.cells #[.int .u32 e.ep, vs, .int .u32 e.got, .int .u32 e.come, vn] 57 (0, 0))) := h4
  clear h4
  go_enter Try.func16, Try.ntmps16
  go_wp2
  go_ret
  have hO : Only (fun k => f k = 0) w (w.setCell ⟨g, 4, none⟩ (.slice none 0 0)) := (Only.refl _ w).setCell (p := ⟨g, 4, none⟩) h3 _
  have hs : ∀ i, i ≠ 0 → ∀ k, k < w.heap.size → (S k ∧ f k = i) → (S k ∧ f k = i) ∧ (w.setCell ⟨g, 4, none⟩ (.slice none 0 0)).heap[k]? = w.heap[k]? := fun i hi k _ hk => ⟨hk, hO.block k (by omega)⟩
  refine ⟨vn, fun k => S k ∧ (f k = 2 ∨ f k = 4), rfl, (Only.refl S w).setCell (p := ⟨g, 4, none⟩) h2 _, fun k hk => hk.1, ⟨g, f, vs, nilS, rfl, ⟨h2, by omega⟩, h3, ?_, ?_, Sp.nil _ _ _⟩, ?_⟩
  · rw [heap_setCell_same _ g 4 _ _ _ HB.out]; rfl
  · refine (h5.carry (hs 1 (by omega)) (hs 3 (by omega))).carry (fun k _ hk => ⟨⟨⟨hk.1, by omega⟩, hk.2⟩, rfl⟩) (fun k _ hk => ⟨⟨⟨hk.1, by omega⟩, hk.2⟩, rfl⟩)
  · exact (h6.carry (hs 2 (by omega)) (hs 4 (by omega))).ls (by omega) (fun k hk => ⟨hk.1, Or.inl hk.2⟩) (fun k hk => ⟨hk.1, Or.inr hk.2⟩)

set_option maxHeartbeats 400000 in
theorem rleft_any (S : Nat → Prop) (v : Value) (e : E) (w : World) (h : RE S w v e) :
    Calls Try.prog 31 #[v] w fun r w' => r = .returned (.int .i64 (e.sent.length : Nat)) ∧ w' = w := by
  obtain ⟨g, f, vs, vn, rfl, h2, h3, h4, h5, h6⟩ := h
  have c0 : w.cell? ⟨g, 0, none⟩ = some (.int .u32 e.ep) := by rw [cell_of_row w g 0 _ _ _ h4]; rfl
  obtain ⟨ao, cap, rfl, _⟩ := h5.form
  have c1 : w.cell? ⟨g, 1, none⟩ = some (.slice ao e.sent.length cap) := by rw [cell_of_row w g 1 _ _ _ h4]; rfl
  clear h4 h5 h6
  go_enter Try.func31, Try.ntmps31
  go_wp2
  go_ret
  exact ⟨rfl, rfl⟩
end Go.Proofs.Ytijjcopglbcoiaa
