/-
  Plain facts: rows of rows of bytes. No program is spoken of.
-/
import Derived.Test.YthgkmbdnkamcoaaC3
namespace Go.Proofs.Ythgkmbdnkamcoaa

def AllB (l : List (List Int)) : Prop := ∀ m ∈ l, IsB m
theorem AllB.nil : AllB [] := fun _ h => by cases h
theorem AllB.cons {m : List Int} {l : List (List Int)} (h : IsB m) (hl : AllB l) : AllB (m :: l) := fun x hx => by
  rcases List.mem_cons.1 hx with rfl | hx
  · exact h
  · exact hl x hx
theorem AllB.app {a b : List (List Int)} (ha : AllB a) (hb : AllB b) : AllB (a ++ b) := fun x hx => by
  rcases List.mem_append.1 hx with hx | hx
  · exact ha x hx
  · exact hb x hx
end Go.Proofs.Ythgkmbdnkamcoaa
