/-
  Proved here: a slice of bytes that comes in holds bytes, within the reach of every row. No further condition.
-/
import Derived.Test.YtijjcopglbcoiaaRows
import Derived.Test.YtijjcopglbcoiaaK1
import Derived.WalkKit
import Derived.ProofKit
import Derived.OpenShut
import Derived.ChangeSame
import Derived.LaidMore
import Derived.Deep.DeepHandedRow
import Derived.SizedLaws
import Derived.Carry
namespace Go.Proofs.Ytijjcopglbcoiaa
open Go.ChangeShapes Go.WideShapes Go.ChangeAt Go.RowKit

theorem own : ownKnob Try.prog.godebug = none := by kernel_rfl
theorem cells5 : Try.prog.cellsOf 5 = 1 := by kernel_rfl
theorem bytes5 : Try.prog.bytesOf 5 = 1 := by kernel_rfl
theorem laidOut : laidOutB Try.prog = true := by kernel_rfl
section
variable {H : Type} {enc : TypeId × Value → H} {W : World} {base : Nat} {sp : Nat → Bool} {held : Bool}
theorem reach5 {n m : Nat} (h : (n + m) * Try.prog.bytesOf 5 ≤ reachBytes) : n ≤ 140737488351232 := by
  rw [bytes5] at h
  simp only [reachBytes] at h
  omega
/-- A SLICE OF BYTES THAT CAME IN: its one cell. -/
theorem open_cell {fuel : Nat} {cs : List Value} {x : DataW H × List MemPlace} (hf : DataW.trod enc Try.prog W 0 (fun _ => true) true fuel 31 cs = some x) (hlt : ∀ y ∈ x.2, y.block < W.heap.size)
    (hreach : ∀ elems spare, x.1 = .slice elems spare → (elems.length + spare.length) * Try.prog.bytesOf 5 ≤ reachBytes) :
    ∃ v bs, cs = [v] ∧ Sl W.heap.size W v bs ∧ bs.length ≤ 140737488351232 := by
  rcases open_ints Try.underlying31 Try.underlying5 cells5 hf with ⟨hcs, hx⟩ | ⟨a, len, cap, zs, hcs, _, hl, hm, hz, hx, hcell, hwz⟩
  · exact ⟨_, [], hcs, Sl.nil _ _, by simp⟩
  · have hz' : zs.length = cap := by simpa using hz
    have hr := hreach _ _ (by rw [hx])
    have hr' : len ≤ 140737488351232 := by
      have := reach5 hr
      simp only [lits, List.length_map, List.length_take] at this
      omega
    have hlen : (zs.take len).length = len := by rw [List.length_take]; omega
    refine ⟨_, zs.take len, hcs, ⟨some a, cap, by rw [hlen], by omega, by omega, fun y hy => ?_, (fun h => by cases h), fun hne => ?_⟩, by omega⟩
    · have := bounds_u8 (hwz y (List.mem_of_mem_take hy))
      omega
    · have hpos : 0 < len := by
        rcases Nat.eq_zero_or_pos len with h0 | h0
        · subst h0; simp at hne
        · exact h0
      obtain ⟨b, off, spot⟩ := a
      have hspot : spot = none := by simpa [Addr.add] using World.cell?_spot (hcell 0 (by omega))
      subst hspot
      refine ⟨b, off, ?_, rfl, fun j hj => ?_⟩
      · refine hlt (.cell b off) ?_
        rw [hx]
        exact MemPlace.mem_row.2 ⟨0, by omega, by simp⟩
      · rw [hlen] at hj
        rw [← Addr.add_mid, hcell j (by omega)]
        simp only [List.getD_eq_getElem?_getD, List.getElem?_take, if_pos hj]
/-- A SLICE OF BYTES THAT CAME IN. -/
theorem open_sl {v : Value} {d : DataW H} {p : List MemPlace} (h0 : DataW.Trod enc Try.prog W 0 (fun _ => true) true 31 v d p) (hlt : ∀ y ∈ p, y.block < W.heap.size)
    (hreach : ∀ elems spare, d = .slice elems spare → (elems.length + spare.length) * Try.prog.bytesOf 5 ≤ reachBytes) (hv : ∃ ao n c, v = .slice ao n c) :
    ∃ bs, Sl W.heap.size W v bs ∧ bs.length ≤ 140737488351232 := by
  obtain ⟨fuel, hf⟩ := h0
  obtain ⟨ao, n, c, rfl⟩ := hv
  obtain ⟨v', bs, hcs, hs, hl⟩ := open_cell hf hlt hreach
  simp only [Value.cells] at hcs
  have : v' = .slice ao n c := by simpa using hcs.symm
  exact ⟨bs, this ▸ hs, hl⟩
end
theorem laidNone (W : World) : laidMet Try.prog [] W := ⟨[], by first | exact rfl | simp [DataW.LaidVars] | trivial, by simp, fun _ _ h => by cases h⟩
end Go.Proofs.Ytijjcopglbcoiaa
