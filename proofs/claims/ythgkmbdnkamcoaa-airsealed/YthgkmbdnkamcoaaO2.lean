/-
  Proved here: rows of bytes that come in hold what they hold. No further condition.
-/
import Derived.Test.YthgkmbdnkamcoaaO1
import Derived.Test.YthgkmbdnkamcoaaZ2
namespace Go.Proofs.Ythgkmbdnkamcoaa
open Go.ChangeShapes Go.WideShapes Go.ChangeAt Go.RowKit Go.Deep

theorem open_bb {H : Type} {enc : TypeId × Value → H} {W : World} {v : Value} {d : DataW H} {p : List MemPlace} (h0 : DataW.Trod enc Try.prog W 0 (fun _ => true) true 28 v d p) (hlt : ∀ y ∈ p, y.block < W.heap.size) (hw : ∀ n ∈ d.weights Try.prog 28, n ≤ reachBytes) (hv : ∃ ao n c, v = .slice ao n c) :
    ∃ l, Bbs (fun b => b < W.heap.size) W v l := by
  obtain ⟨fuel, hf⟩ := h0
  obtain ⟨ao, n, c, rfl⟩ := hv
  obtain ⟨v', l, hcs, hl⟩ := open_lst Try.underlying28 cellsBY (by omega) (by decide +kernel) opens_by hf hlt hw
  simp only [Value.cells] at hcs
  have : v' = .slice ao n c := by simpa using hcs.symm
  exact ⟨l, this ▸ hl⟩
end Go.Proofs.Ythgkmbdnkamcoaa
