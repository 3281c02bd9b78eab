/-
  Proved here: a rule that came in holds what its cells read as, within the reach of every row (open_rule). No further condition.
-/
import Derived.Test.YtfbehaodhooaaaaGreatDoorEM
namespace Go.Proofs.YtfbehaodhooaaaaGreatDoor
set_option maxRecDepth 100000
open Go.ChangeShapes Go.WideShapes Go.ChangeAt Go.RowKit Go.Deep

theorem ok_struct {P : Program} {w : World} {r : Reach} {base : Nat} {params : Array TypeId} {args : Array Value} {t : TypeId} {fs : Array Field} (hval : ∀ (j : Nat) t v, params[j]? = some t → args[j]? = some v → Value.okWide P w r base t v) (hu : P.underlying t = some (.struct fs)) (j : Nat) (v : Value) (hp : params[j]? = some t) (ha : args[j]? = some v) : ∃ cs, v = .agg cs ∧ cs.size = P.cellsOf t := by
  have h := hval j t v hp ha
  unfold Value.okWide at h
  rw [hu] at h
  obtain ⟨cs, h1, h2, _⟩ := h
  exact ⟨cs, h1, h2⟩
/-- A RULE THAT CAME IN. -/
theorem open_rule {H : Type} {enc : TypeId × Value → H} {W : World} {v : Value} {d : DataW H} {p : List MemPlace} (hv0 : ∃ cs, v = .agg cs ∧ cs.size = Tryz.prog.cellsOf 35) (h0 : DataW.Trod enc Tryz.prog W 0 (fun _ => true) true 35 v d p) (hlt : ∀ y ∈ p, y.block < W.heap.size) (hw : ∀ n ∈ d.weights Tryz.prog 35, n ≤ reachBytes) :
    ∃ (x : Rl) (u : Value), v = .agg (rlc x u) ∧ x.Fit ∧ Cps (fun b => b < W.heap.size) W u x.cp := by
  obtain ⟨fuel, hf⟩ := h0
  obtain ⟨cs, rfl, hs⟩ := hv0
  obtain ⟨r, u, h1, h2, h3⟩ := open_rul hf hlt hw
  refine ⟨r, u, ?_, h3, h2⟩
  have : cs = rlc r u := by
    apply Array.ext_getElem?
    intro i
    rw [cellsRULE] at hs
    by_cases hi : i < 25
    · have := h1 i hi
      rw [← Array.getElem?_toList]; simpa [Value.cells] using this
    · rw [Array.getElem?_eq_none (by omega), Array.getElem?_eq_none (by rw [rc_size]; omega)]
  rw [this]
end Go.Proofs.YtfbehaodhooaaaaGreatDoor
