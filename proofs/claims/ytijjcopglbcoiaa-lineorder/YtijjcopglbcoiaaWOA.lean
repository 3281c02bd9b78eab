/-
  Proved here: LineOrder's own text: it returns true for every two lists of messages and every air, great ones too. Condition: the seven functions of package line serve ends.
-/
import Derived.Test.YtijjcopglbcoiaaWO
namespace Go.Proofs.Ytijjcopglbcoiaa
open Go.RowKit Seal

set_option maxRecDepth 100000 in
set_option maxHeartbeats 800000 in
theorem order_any (A : PApi) (pv qv av : Value) (P Q : List (List Int)) (ns : List Int) (w : World) (hp : Ls (fun k => k < w.heap.size) w pv P) (hq : Ls (fun k => k < w.heap.size) w qv Q) (hn : SlI (fun k => k < w.heap.size) w av ns) :
    Calls Try.prog 6 #[pv, qv, av] w fun r w' => r = .returned (.bool true) ∧ Below w.heap.size w w' := by
  by_cases hg : smL P = true ∧ smL Q = true ∧ ns.length ≤ 400
  · exact order_main A pv qv av P Q ns w hp hq hn hg.1 hg.2.1 hg.2.2
  · have HSP : Hid (Calls Try.prog 23 #[pv] w fun r w' => r = .returned (.bool (smL P)) ∧ w' = w) := small_any _ pv P w hp
    have HSQ : Hid (Calls Try.prog 23 #[qv] w fun r w' => r = .returned (.bool (smL Q)) ∧ w' = w) := small_any _ qv Q w hq
    have HW := wakes_any A w
    obtain ⟨na, nc, rfl, hnc, -, -, -⟩ := hn
    have hnot : ∀ (x : Bool) (w : World), (Op.unary .not (.bool x)).run Try.prog w = .ok (.bool (!x)) w := fun _ _ => rfl
    clear hp hq hnc
    obtain ⟨bp, hbp⟩ : ∃ b, b = smL P := ⟨_, rfl⟩
    obtain ⟨bq, hbq⟩ : ∃ b, b = smL Q := ⟨_, rfl⟩
    rw [← hbp] at HSP hg
    rw [← hbq] at HSQ hg
    clear hbp hbq
    cases bp with
    | false =>
      clear hg
      go_enter Try.func6, Try.ntmps6
      go_wp2_with fail
      go_fit HSP.out
      rintro r w1 ⟨rfl, h1⟩
      rw [h1]; clear h1 w1
      go_wp2_with fail
      go_fit (wakes_any A w)
      rintro r w7 ⟨rfl, h7⟩
      go_wp2
      go_ret
      exact ⟨rfl, h7⟩
    | true =>
      cases bq with
      | false =>
        clear hg
        go_enter Try.func6, Try.ntmps6
        go_wp2_with fail
        go_fit HSP.out
        rintro r w1 ⟨rfl, h1⟩
        rw [h1]; clear h1 w1
        go_wp2_with fail
        go_fit HSQ.out
        rintro r w1 ⟨rfl, h1⟩
        rw [h1]; clear h1 w1
        go_wp2_with fail
        go_fit (wakes_any A w)
        rintro r w7 ⟨rfl, h7⟩
        go_wp2
        go_ret
        exact ⟨rfl, h7⟩
      | true =>
        have hgt : 400 < ns.length := by simpa using hg
        clear hg
        go_enter Try.func6, Try.ntmps6
        go_wp2_with fail
        go_fit HSP.out
        rintro r w1 ⟨rfl, h1⟩
        rw [h1]; clear h1 w1
        go_wp2_with fail
        go_fit HSQ.out
        rintro r w1 ⟨rfl, h1⟩
        rw [h1]; clear h1 w1
        go_wp2_with fail
        go_fit (wakes_any A w)
        rintro r w7 ⟨rfl, h7⟩
        go_wp2
        go_ret
        exact ⟨rfl, h7⟩
end Go.Proofs.Ytijjcopglbcoiaa
