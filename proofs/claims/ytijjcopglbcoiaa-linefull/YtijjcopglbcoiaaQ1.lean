/-
  Proved here: what it is that a pointer is one of the program's ends; New, Reset, Came, Left of package line; bytes.Clone. Condition: all blocks to come are the end's.
-/
import Derived.Test.YtijjcopglbcoiaaE1
import Derived.Test.YtijjcopglbcoiaaS4
namespace Go.Proofs.Ytijjcopglbcoiaa
open Go.RowKit Seal

/-- v points to an end of the program's, which stands for e; its memory lies in S. -/
def QE (S : Nat → Prop) (w : World) (v : Value) (e : E) : Prop :=
  ∃ (p : Nat) (f : Nat → Nat) (vs vn : Value), v = .pointer (some ⟨p, 0, none⟩) ∧ S p ∧ f p = 0 ∧ w.heap[p]? = some (.cells #[.int .u32 e.ep, .int .u64 e.got, vs, .int .u64 e.come, vn] 55 (0, 0)) ∧
    Sp (fun k => S k ∧ f k = 1) (fun k => S k ∧ f k = 3) w vs e.sent ∧ Sp (fun k => S k ∧ f k = 2) (fun k => S k ∧ f k = 4) w vn e.new
theorem QE.carry {S T : Nat → Prop} {w w' : World} {v : Value} {e : E} (h : QE S w v e) (hc : ∀ k, k < w.heap.size → S k → T k ∧ w'.heap[k]? = w.heap[k]?) : QE T w' v e := by
  obtain ⟨p, f, vs, vn, h1, h2, h3, h4, h5, h6⟩ := h
  have hq := hc p (Array.getElem?_eq_some_iff.1 h4).1 h2
  have hs : ∀ i k, k < w.heap.size → (S k ∧ f k = i) → (T k ∧ f k = i) ∧ w'.heap[k]? = w.heap[k]? := fun i k hk hk2 => ⟨⟨(hc k hk hk2.1).1, hk2.2⟩, (hc k hk hk2.1).2⟩
  exact ⟨p, f, vs, vn, h1, hq.1, h3, by rw [hq.2]; exact h4, h5.carry (hs 1) (hs 3), h6.carry (hs 2) (hs 4)⟩

set_option maxHeartbeats 400000 in
theorem qnew_any (p : Nat) (w : World) :
    Calls Try.prog 11 #[.int .u32 (p : Nat)] w fun r w' => ∃ v, r = .returned v ∧ Below w.heap.size w w' ∧ QE (fun k => w.heap.size ≤ k) w' v (E.mk0 p) := by
  go_enter Try.func11, Try.ntmps11
  go_wp2
  go_ret
  exact ⟨_, rfl, (Below.refl _ _).alloc (Nat.le_refl _) _, w.heap.size, fun _ => 0, nilS, nilS, rfl, Nat.le_refl _, rfl, heap_alloc_new _ _, Sp.nil _ _ _, Sp.nil _ _ _⟩

set_option maxHeartbeats 400000 in
theorem qreset_any (S : Nat → Prop) (v : Value) (e : E) (p : Nat) (w : World) (h : QE S w v e) :
    Calls Try.prog 17 #[v, .int .u32 (p : Nat)] w fun r w' => r = .returned (.tuple #[]) ∧ Only S w w' ∧ QE S w' v (E.mk0 p) := by
  obtain ⟨g, f, vs, vn, rfl, h2, h3, h4, h5, h6⟩ := h
  obtain ⟨c0, c1, c2, c3, c4, z0, z1, z2, z3, z4⟩ := end_cells h4
  have HB : Hid (w.heap[g]? = some (.cells #[.int .u32 e.ep, .int .u64 e.got, vs, .int .u64 e.come, vn] 55 (0, 0))) := h4
  clear h4 h5 h6
  go_enter Try.func17, Try.ntmps17
  go_wp2
  go_end0
  refine ⟨rfl, ?_, g, f, nilS, nilS, rfl, h2, h3, ?_, Sp.nil _ _ _, Sp.nil _ _ _⟩
  · exact (((((Only.refl S w).setCell (p := ⟨g, 0, none⟩) h2 _).setCell (p := ⟨g, 1, none⟩) h2 _).setCell (p := ⟨g, 2, none⟩) h2 _).setCell (p := ⟨g, 3, none⟩) h2 _).setCell (p := ⟨g, 4, none⟩) h2 _
  · rw [heap_setCell_same _ g 4 _ _ _ (heap_setCell_same _ g 3 _ _ _ (heap_setCell_same _ g 2 _ _ _ (heap_setCell_same _ g 1 _ _ _ (heap_setCell_same _ g 0 _ _ _ HB.out))))]; rfl

set_option maxHeartbeats 400000 in
theorem qcame_any (S : Nat → Prop) (v : Value) (e : E) (w : World) (h : QE S w v e) (hl : e.new.length ≤ 2147483648) :
    Calls Try.prog 15 #[v] w fun r w' => ∃ u R, r = .returned u ∧ Only S w w' ∧ (∀ k, R k → S k) ∧ QE (fun k => S k ∧ ¬ R k) w' v (cmS e) ∧ Ls R w' u e.new := by
  obtain ⟨g, f, vs, vn, rfl, h2, h3, h4, h5, h6⟩ := h
  obtain ⟨c0, c1, c2, c3, c4, z0, z1, z2, z3, z4⟩ := end_cells h4
  have HB : Hid (w.heap[g]? = some (.cells #[.int .u32 e.ep, .int .u64 e.got, vs, .int .u64 e.come, vn] 55 (0, 0))) := h4
  clear h4
  go_enter Try.func15, Try.ntmps15
  go_wp2
  go_ret
  have hO : Only (fun k => f k = 0) w (w.setCell ⟨g, 4, none⟩ (.slice none 0 0)) := (Only.refl _ w).setCell (p := ⟨g, 4, none⟩) h3 _
  have hs : ∀ i, i ≠ 0 → ∀ k, k < w.heap.size → (S k ∧ f k = i) → (S k ∧ f k = i) ∧ (w.setCell ⟨g, 4, none⟩ (.slice none 0 0)).heap[k]? = w.heap[k]? := fun i hi k _ hk => ⟨hk, hO.block k (by omega)⟩
  refine ⟨vn, fun k => S k ∧ (f k = 2 ∨ f k = 4), rfl, (Only.refl S w).setCell (p := ⟨g, 4, none⟩) h2 _, fun k hk => hk.1, ⟨g, f, vs, nilS, rfl, ⟨h2, by omega⟩, h3, ?_, ?_, Sp.nil _ _ _⟩, ?_⟩
  · rw [heap_setCell_same _ g 4 _ _ _ HB.out]; rfl
  · refine (h5.carry (hs 1 (by omega)) (hs 3 (by omega))).carry (fun k _ hk => ⟨⟨⟨hk.1, by omega⟩, hk.2⟩, rfl⟩) (fun k _ hk => ⟨⟨⟨hk.1, by omega⟩, hk.2⟩, rfl⟩)
  · exact (h6.carry (hs 2 (by omega)) (hs 4 (by omega))).ls (by omega) (fun k hk => ⟨hk.1, Or.inl hk.2⟩) (fun k hk => ⟨hk.1, Or.inr hk.2⟩)

set_option maxHeartbeats 400000 in
theorem qleft_any (S : Nat → Prop) (v : Value) (e : E) (w : World) (h : QE S w v e) :
    Calls Try.prog 21 #[v] w fun r w' => r = .returned (.int .i64 (e.sent.length : Nat)) ∧ w' = w := by
  obtain ⟨g, f, vs, vn, rfl, h2, h3, h4, h5, h6⟩ := h
  obtain ⟨ao, cap, rfl, _⟩ := h5.form
  obtain ⟨c0, c1, c2, c3, c4, -⟩ := end_cells h4
  clear h4 h5 h6
  go_enter Try.func21, Try.ntmps21
  go_wp2
  go_ret
  exact ⟨rfl, rfl⟩

set_option maxHeartbeats 400000 in
/-- bytes.Clone, of whatever slice. -/
theorem cl_any (B : Nat) (u : Value) (bs : List Int) (w : World) (hs : Sl B w u bs) (hB : B ≤ w.heap.size) :
    Calls Try.prog 32 #[u] w fun e w' => ∃ v, e = .returned v ∧ Below w.heap.size w w' ∧ Owns w.heap.size w' v bs := by
  have HS : Hid (Sl B w u bs) := hs
  obtain ⟨ao, cap, rfl, _, _, _, hn, h6⟩ := hs
  cases ao with
  | some a => exact clone_any B a cap bs w HS.out hB
  | none =>
    have hb : bs = [] := by
      rcases bs with _ | ⟨x, r⟩
      · rfl
      · obtain ⟨_, _, _, e, _⟩ := h6 (by simp)
        cases e
    subst hb
    have hq := Lib.run_eql_slice_nil (P := Try.prog) w 31 5 none 0 cap 0 0 Try.underlying31
    clear h6 HS hn
    go_enter Try.func32, Try.ntmps32
    go_wp2
    go_ret
    exact ⟨nilS, rfl, Below.refl _ _, Owns.isNil⟩
end Go.Proofs.Ytijjcopglbcoiaa
