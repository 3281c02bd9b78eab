/-
  Proved here: an act of tollbridgelaw06 returns true: both ends answer alike and stay alike. Conditions: the seven functions serve ends; the numbers are those behind fewer than 1000 acts.
-/
import Derived.Test.YtijjcopglbcoiaaUX
import Derived.Test.YtijjcopglbcoiaaUY
namespace Go.Proofs.Ytijjcopglbcoiaa
open Go.RowKit Seal

theorem act_any (A : PApi) (c : Nat → Nat) (i j t : Nat) (hi : i = 1 ∨ i = 2) (hj : j = 3 ∨ j = 4) (v u tv xb : Value) (e : E) (tl : List (List Int)) (bs : List Int) (w : World) (wo dw an : Int) (n N : Nat) (h : AcS A c i j t v u tv xb e e tl bs w) (hfit : FitN N e) (hN : N ≤ 1000) (htl : tl.length ≤ 1000) (hn : n < 4294967296) :
    Calls Try.prog 13 #[v, u, .agg (acv wo dw an n xb), .pointer (some ⟨t, 0, none⟩)] w (ActOk A c i j t v u xb e tl bs w) := by
  cases g0 : (dw == 0) with
  | true => exact act_send A c i j t hi hj v u tv xb e tl bs w wo dw an n N h hfit hN g0
  | false =>
    cases g1 : (dw == 1) with
    | true => exact act_tick A c i j t hi hj v u tv xb e tl bs w wo dw an n N h hfit hN htl g0 g1
    | false =>
      cases g2 : (dw == 2) with
      | true => exact act_take A c i j t hi hj v u tv xb e tl bs w wo dw an n N h hfit hN htl g0 g1 (Or.inl g2)
      | false =>
        cases g3 : (dw == 3) with
        | true => exact act_take A c i j t hi hj v u tv xb e tl bs w wo dw an n N h hfit hN htl g0 g1 (Or.inr ⟨g2, g3⟩)
        | false =>
          cases g4 : (dw == 4) with
          | true => exact act_came A c i j t hi hj v u tv xb e tl bs w wo dw an n N h hfit hN g0 g1 g2 g3 g4
          | false =>
            cases g5 : (dw == 5) with
            | true => exact act_reset A c i j t hi hj v u tv xb e tl bs w wo dw an n N h hfit hN hn g0 g1 g2 g3 g4 g5
            | false => exact act_left A c i j t hi hj v u tv xb e tl bs w wo dw an n N h hfit hN g0 g1 g2 g3 g4 g5
end Go.Proofs.Ytijjcopglbcoiaa
