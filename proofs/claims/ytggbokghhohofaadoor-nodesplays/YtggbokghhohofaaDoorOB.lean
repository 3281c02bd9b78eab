/-
  Proved here: acts that came in hold what their cells read as, within the reach of every row. No further condition.
-/
import Derived.Test.YtggbokghhohofaaDoorOA
import Derived.Test.YtggbokghhohofaaDoorCH
namespace Go.Proofs.YtggbokghhohofaaDoor
open Go.ChangeShapes Go.WideShapes Go.ChangeAt Go.RowKit Go.Deep
set_option maxRecDepth 100000

theorem cellsLACT : Tryd.prog.cellsOf 35 = 6 := by kernel_rfl
theorem bytesLACT : Tryd.prog.bytesOf 35 = 64 := by kernel_rfl
section
variable {H : Type} {enc : TypeId × Value → H} {W : World}
theorem opens_at : Opens enc W 35 6 (RAt fun b => b < W.heap.size) := fun fuel cs D Pl hf hlt hw => by
  have F := open_fields Tryd.underlying35 hf hlt hw
  obtain ⟨_, _, _, e0, _, _⟩ := F.2 0 _ rfl
  obtain ⟨_, _, _, e1, l1, w1⟩ := F.2 1 _ rfl
  obtain ⟨_, _, _, e2, _, _⟩ := F.2 2 _ rfl
  obtain ⟨_, _, _, e3, _, _⟩ := F.2 3 _ rfl
  obtain ⟨_, _, _, e4, _, _⟩ := F.2 4 _ rfl
  obtain ⟨_, _, _, e5, _, _⟩ := F.2 5 _ rfl
  obtain ⟨a, a1, a2⟩ := one_int (o := 0) Tryd.underlying3 cells3 e0
  obtain ⟨u, l, u1, u2, -⟩ := one_lst (o := 1) cellsCPS Tryd.underlying31 cellsACTS (by omega) (by rw [bytesACTS]; omega) (opens_lst Tryd.underlying52 cellsACT (by omega) (by rw [bytesACT]; omega) opens_ac) e1 l1 w1
  obtain ⟨b, b1, b2⟩ := one_int (o := 2) Tryd.underlying32 cellsI8 e2
  obtain ⟨c, c1, c2⟩ := one_int (o := 3) Tryd.underlying33 cellsU e3
  obtain ⟨d, d1, d2⟩ := one_int (o := 4) Tryd.underlying3 cells3 e4
  obtain ⟨e, e1', e2'⟩ := one_int (o := 5) Tryd.underlying3 cells3 e5
  have := bounds_i64 a2
  have := bounds_i8 b2
  have := bounds_u64 c2
  have := bounds_i64 d2
  have := bounds_i64 e2'
  exact ⟨⟨a, l, b, c, d, e⟩, fun f h => ⟨by rw [h 0 (by omega), a1], ⟨u, by rw [h 1 (by omega), u1], Lst.carry u2 (fun b _ hb => ⟨hb, rfl⟩) (fun f x h => by obtain ⟨⟨v, hv, _⟩, _⟩ := h; exact ⟨v, hv⟩) (fun f x h => h.1)⟩, by rw [h 2 (by omega), b1], by rw [h 3 (by omega), c1], by rw [h 4 (by omega), d1], by rw [h 5 (by omega), e1'], ⟨⟨by simp only; omega, by simp only; omega⟩, by unfold InB; simp only; omega, by unfold I64; simp only; omega, by unfold I64; simp only; omega⟩, by unfold I64; simp only; omega⟩⟩
theorem open_ats {v : Value} {d : DataW H} {p : List MemPlace} (h0 : DataW.Trod enc Tryd.prog W 0 (fun _ => true) true 22 v d p) (hlt : ∀ y ∈ p, y.block < W.heap.size) (hw : ∀ n ∈ d.weights Tryd.prog 22, n ≤ reachBytes) (hv : ∃ ao n c, v = .slice ao n c) :
    ∃ l, Ats (fun b => b < W.heap.size) W v l := by
  obtain ⟨fuel, hf⟩ := h0
  obtain ⟨ao, n, c, rfl⟩ := hv
  obtain ⟨v', l, hcs, hl, -⟩ := open_lst Tryd.underlying22 cellsLACT (by omega) (by rw [bytesLACT]; omega) opens_at hf hlt hw
  simp only [Value.cells] at hcs
  have : v' = .slice ao n c := by simpa using hcs.symm
  subst this
  exact ⟨l, hl⟩
end
end Go.Proofs.YtggbokghhohofaaDoor
