/-
  Plain facts: what was sealed and is changed at one byte is refused, so it is none of what was sealed. No program is spoken of.
-/
import Derived.Test.YthgkmbdnkamcoaaA1
import Derived.Test.YthgkmbdnkamcoaaCR
namespace Go.Proofs.Ythgkmbdnkamcoaa
open Seal

theorem x5a_nat {x : Int} (h0 : 0 ≤ x) (h1 : x < 256) : (x5a x).toNat = x.toNat ^^^ 90 := by
  have key : ∀ n : Fin 256, (x5a (n.val : Int)).toNat = n.val ^^^ 90 := by decide +kernel
  have := key ⟨x.toNat, by omega⟩
  have e : ((x.toNat : Nat) : Int) = x := by omega
  simpa [e] using this
theorem torn {bs : List Int} (hB : IsB bs) {p : Nat} (hp : p < bs.length + 4) : opE ((bs ++ four (crc bs)).set p (x5a ((bs ++ four (crc bs)).getD p 0))) = 50 := by
  have hI : IsB (bs ++ four (crc bs)) := hB.app (four_isB _)
  have hl : (bs ++ four (crc bs)).length = bs.length + 4 := by simp [four]
  have hx := hI.at p
  have hb := x5a_bd hx.1 hx.2
  have hs := le_set (bs ++ four (crc bs)) p (x5a ((bs ++ four (crc bs)).getD p 0)) 90 (by omega) (x5a_nat hx.1 hx.2)
  have hX : IsB ((bs ++ four (crc bs)).set p (x5a ((bs ++ four (crc bs)).getD p 0))) := fun z hz => by
    rcases List.mem_or_eq_of_mem_set hz with hz | rfl
    · exact hI z hz
    · exact ⟨hb.1, hb.2.1⟩
  by_cases hle : p ≤ bs.length
  · exact open_torn hB hX (by rw [List.length_set, hl]) (p := 8 * p) (q := 90) (by omega) (by decide) (by decide) hs
  · have hd : p - bs.length = 1 ∨ p - bs.length = 2 ∨ p - bs.length = 3 := by omega
    have e : (90 : Nat) <<< (8 * p) = (90 <<< (8 * (p - bs.length))) <<< (8 * bs.length) := by
      rw [← Nat.shiftLeft_add]; congr 1; omega
    rw [e] at hs
    refine open_torn hB hX (by rw [List.length_set, hl]) (p := 8 * bs.length) (q := 90 <<< (8 * (p - bs.length))) (Nat.le_refl _) ?_ ?_ hs
    · rcases hd with h | h | h <;> rw [h] <;> decide
    · rcases hd with h | h | h <;> rw [h] <;> decide
theorem sealed_tells {put : List (List Int)} (hB : ∀ b ∈ put, IsB b) (hl : ∀ b ∈ put, b.length ≤ 16384) {d : Dg} (hd : d.b ∈ put.map seL) (ok : d.Ok) : told d ∈ put.map seL ↔ opE (told d) = 0 := by
  have good : ∀ x ∈ put.map seL, opE x = 0 := by
    intro x hx
    obtain ⟨b, hb, rfl⟩ := List.mem_map.1 hx
    have := hl b hb
    unfold seL
    rw [if_neg (by omega)]
    exact (open_seal (hB b hb)).1
  refine ⟨good _, fun h => ?_⟩
  unfold told at h ⊢
  by_cases hc : d.ch = true
  · rw [if_pos hc] at h
    obtain ⟨b, hb, e⟩ := List.mem_map.1 hd
    have hbl := hl b hb
    have es : seL b = b ++ four (crc b) := by unfold seL; rw [if_neg (by omega)]
    have hp := ok.2 hc
    rw [← e, es] at h hp
    have hl4 : (b ++ four (crc b)).length = b.length + 4 := by simp [four]
    rw [torn (hB b hb) (by omega)] at h
    cases h
  · rw [if_neg hc]; exact hd
theorem seE_zero {b : List Int} : seE b = 0 ↔ b.length ≤ 16384 := by
  unfold seE
  split
  · exact ⟨(fun h => by cases h), (fun h => by omega)⟩
  · exact ⟨fun _ => by omega, fun _ => rfl⟩
end Go.Proofs.Ythgkmbdnkamcoaa
