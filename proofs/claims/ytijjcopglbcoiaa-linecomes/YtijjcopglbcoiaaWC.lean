/-
  Proved here: one of the statements' package: a datagram comes, or is lost. Condition: the seven functions of package line serve ends.
-/
import Derived.Test.YtijjcopglbcoiaaWO
import Derived.Test.YtijjcopglbcoiaaL3
namespace Go.Proofs.Ytijjcopglbcoiaa
open Go.RowKit Seal

set_option maxHeartbeats 800000 in
theorem one_any (A : PApi) (c : Nat → Nat) (i j : Nat) (hij : j ≠ i) (v u : Value) (e : E) (d : List Int) (wanted : Bool) (lost k : Nat) (w : World) (h : A.PE (Col c i) w v e) (hf : Fit e) (hu : Ls (Col c j) w u [d]) (hd : taE d = 0) (hl : lost < k) (hk : k ≤ 7) :
    Calls Try.prog 25 #[v, u, .bool wanted, .int .i64 lost, .int .i64 k] w fun r w' => ∃ (c' : Nat → Nat) (e' : E) (l' : Nat), r = .returned (.int .i64 (l' : Nat)) ∧ Keep c c' i w w' ∧ A.PE (Col c' i) w' v e' ∧ ((l' = 0 ∧ e' = taS e d) ∨ (l' = lost + 1 ∧ lost + 1 < k ∧ e' = e)) := by
  obtain ⟨b, o, cap, ua, uc, rfl, hcl, hs⟩ := hu.one
  have HS : Hid (SlC (Col c j) w (.slice ua d.length uc) d) := hs
  have HE : Hid (A.PE (Col c i) w v e) := h
  have hnot : ∀ (x : Bool) (w : World), (Op.unary .not (.bool x)).run Try.prog w = .ok (.bool (!x)) w := fun _ _ => rfl
  clear hs h hu
  by_cases hgo : wanted = false ∧ lost + 1 < k
  · obtain ⟨rfl, hgo⟩ := hgo
    go_enter Try.func25, Try.ntmps25
    go_wp2
    go_ret
    exact ⟨c, e, lost + 1, by congr 2, Keep.refl _ _ _, HE.out, Or.inr ⟨rfl, hgo, rfl⟩⟩
  · have HT : Hid (Calls Try.prog 19 #[v, .slice ua d.length uc] w fun r w' => ∃ c', r = .returned (.int .i64 0) ∧ Keep c c' i w w' ∧ A.PE (Col c' i) w' v (taS e d)) := by
      have := A.takeC c i v _ e d w HE.out hf (HS.out.ne hij)
      rw [hd] at this
      exact this
    cases wanted with
    | true =>
      clear hgo
      go_enter Try.func25, Try.ntmps25
      go_wp2_with fail
      go_fit HT.out
      rintro r w5 ⟨c5, rfl, k5, h5⟩
      go_wp2
      go_ret
      exact ⟨c5, taS e d, 0, rfl, k5, h5, Or.inl ⟨rfl, rfl⟩⟩
    | false =>
      have hge : ¬ lost + 1 < k := fun h => hgo ⟨rfl, h⟩
      clear hgo
      go_enter Try.func25, Try.ntmps25
      go_wp2_with fail
      go_fit HT.out
      rintro r w5 ⟨c5, rfl, k5, h5⟩
      go_wp2
      go_ret
      exact ⟨c5, taS e d, 0, rfl, k5, h5, Or.inl ⟨rfl, rfl⟩⟩
end Go.Proofs.Ytijjcopglbcoiaa
