/-
  Proved here: LineEpochs' own text: it returns true for every two lists of messages and every two epochs. Condition: the seven functions of package line serve ends.
-/
import Derived.Test.YtijjcopglbcoiaaWG
namespace Go.Proofs.Ytijjcopglbcoiaa
open Go.RowKit Seal

set_option maxRecDepth 100000 in
set_option maxHeartbeats 800000 in
theorem epochs_any (A : PApi) (pv qv : Value) (low high : Nat) (P Q : List (List Int)) (w : World) (hp : Ls (fun k => k < w.heap.size) w pv P) (hq : Ls (fun k => k < w.heap.size) w qv Q) (hh : high < 4294967296) :
    Calls Try.prog 8 #[pv, qv, .int .u32 (low : Nat), .int .u32 (high : Nat)] w fun r w' => r = .returned (.bool true) ∧ Below w.heap.size w w' := by
  by_cases hg : smL P = true ∧ smL Q = true ∧ low < high ∧ ftL P = true ∧ ftL Q = true
  · exact epochs_main A pv qv low high P Q w hp hq hg.1 hg.2.1 hg.2.2.1 hh hg.2.2.2.1 hg.2.2.2.2
  · have HSP : Hid (Calls Try.prog 23 #[pv] w fun r w' => r = .returned (.bool (smL P)) ∧ w' = w) := small_any _ pv P w hp
    have HSQ : Hid (Calls Try.prog 23 #[qv] w fun r w' => r = .returned (.bool (smL Q)) ∧ w' = w) := small_any _ qv Q w hq
    have HFP : Hid (smL P = true → Calls Try.prog 26 #[pv] w fun r w' => r = .returned (.bool (ftL P)) ∧ w' = w) := fits_any _ pv P w hp
    have HFQ : Hid (smL Q = true → Calls Try.prog 26 #[qv] w fun r w' => r = .returned (.bool (ftL Q)) ∧ w' = w) := fits_any _ qv Q w hq
    obtain ⟨pa, pc, rfl, -, -, -, -⟩ := hp
    obtain ⟨qa, qc, rfl, -, -, -, -⟩ := hq
    have hnot : ∀ (x : Bool) (w : World), (Op.unary .not (.bool x)).run Try.prog w = .ok (.bool (!x)) w := fun _ _ => rfl
    obtain ⟨bp, hbp⟩ : ∃ b, b = smL P := ⟨_, rfl⟩
    obtain ⟨bq, hbq⟩ : ∃ b, b = smL Q := ⟨_, rfl⟩
    obtain ⟨fp, hfp⟩ : ∃ b, b = ftL P := ⟨_, rfl⟩
    obtain ⟨fq, hfq⟩ : ∃ b, b = ftL Q := ⟨_, rfl⟩
    rw [← hbp] at HSP hg HFP
    rw [← hbq] at HSQ hg HFQ
    rw [← hfp] at HFP hg
    rw [← hfq] at HFQ hg
    clear hbp hbq hfp hfq
    cases bp with
    | false =>
      clear hg HFP HFQ
      go_enter Try.func8, Try.ntmps8
      go_wp2_with fail
      go_fit HSP.out
      rintro r w1 ⟨rfl, h1⟩
      rw [h1]; clear h1 w1
      go_wp2_with fail
      go_fit (wakes_any A w)
      rintro r w7 ⟨rfl, h7⟩
      go_wp2
      go_ret
      exact ⟨rfl, h7⟩
    | true =>
      cases bq with
      | false =>
        clear hg HFP HFQ
        go_enter Try.func8, Try.ntmps8
        go_wp2_with fail
        go_fit HSP.out
        rintro r w1 ⟨rfl, h1⟩
        rw [h1]; clear h1 w1
        go_wp2_with fail
        go_fit HSQ.out
        rintro r w1 ⟨rfl, h1⟩
        rw [h1]; clear h1 w1
        go_wp2_with fail
        go_fit (wakes_any A w)
        rintro r w7 ⟨rfl, h7⟩
        go_wp2
        go_ret
        exact ⟨rfl, h7⟩
      | true =>
        by_cases hlh : low < high
        · have hd : decide ((high : Int) ≤ (low : Int)) = false := by simp; omega
          cases fp with
          | false =>
            clear hg
            have HFP' : Hid (Calls Try.prog 26 #[.slice pa P.length pc] w fun r w' => r = .returned (.bool false) ∧ w' = w) := HFP.out rfl
            clear HFP HFQ
            go_enter Try.func8, Try.ntmps8
            go_wp2_with fail
            go_fit HSP.out
            rintro r w1 ⟨rfl, h1⟩
            rw [h1]; clear h1 w1
            go_wp2_with fail
            go_fit HSQ.out
            rintro r w1 ⟨rfl, h1⟩
            rw [h1]; clear h1 w1
            go_wp2_with fail
            go_fit HFP'.out
            rintro r w1 ⟨rfl, h1⟩
            rw [h1]; clear h1 w1
            go_wp2_with fail
            go_fit (wakes_any A w)
            rintro r w7 ⟨rfl, h7⟩
            go_wp2
            go_ret
            exact ⟨rfl, h7⟩
          | true =>
            cases fq with
            | true => exact absurd ⟨rfl, rfl, hlh, rfl, rfl⟩ hg
            | false =>
              clear hg
              have HFP' : Hid (Calls Try.prog 26 #[.slice pa P.length pc] w fun r w' => r = .returned (.bool true) ∧ w' = w) := HFP.out rfl
              have HFQ' : Hid (Calls Try.prog 26 #[.slice qa Q.length qc] w fun r w' => r = .returned (.bool false) ∧ w' = w) := HFQ.out rfl
              clear HFP HFQ
              go_enter Try.func8, Try.ntmps8
              go_wp2_with fail
              go_fit HSP.out
              rintro r w1 ⟨rfl, h1⟩
              rw [h1]; clear h1 w1
              go_wp2_with fail
              go_fit HSQ.out
              rintro r w1 ⟨rfl, h1⟩
              rw [h1]; clear h1 w1
              go_wp2_with fail
              go_fit HFP'.out
              rintro r w1 ⟨rfl, h1⟩
              rw [h1]; clear h1 w1
              go_wp2_with fail
              go_fit HFQ'.out
              rintro r w1 ⟨rfl, h1⟩
              rw [h1]; clear h1 w1
              go_wp2_with fail
              go_fit (wakes_any A w)
              rintro r w7 ⟨rfl, h7⟩
              go_wp2
              go_ret
              exact ⟨rfl, h7⟩
        · have hd : decide ((high : Int) ≤ (low : Int)) = true := by simp; omega
          clear hg HFP HFQ
          go_enter Try.func8, Try.ntmps8
          go_wp2_with fail
          go_fit HSP.out
          rintro r w1 ⟨rfl, h1⟩
          rw [h1]; clear h1 w1
          go_wp2_with fail
          go_fit HSQ.out
          rintro r w1 ⟨rfl, h1⟩
          rw [h1]; clear h1 w1
          go_wp2_with fail
          go_fit (wakes_any A w)
          rintro r w7 ⟨rfl, h7⟩
          go_wp2
          go_ret
          exact ⟨rfl, h7⟩
/-- The same, the epochs as integers. -/
theorem epochs_int (A : PApi) (pv qv : Value) (low high : Int) (P Q : List (List Int)) (w : World) (hp : Ls (fun k => k < w.heap.size) w pv P) (hq : Ls (fun k => k < w.heap.size) w qv Q) (h0 : 0 ≤ low) (h1 : 0 ≤ high) (hh : high < 4294967296) :
    Calls Try.prog 8 #[pv, qv, .int .u32 low, .int .u32 high] w fun r w' => r = .returned (.bool true) ∧ Below w.heap.size w w' := by
  obtain ⟨a, rfl⟩ := Int.eq_ofNat_of_zero_le h0
  obtain ⟨b, rfl⟩ := Int.eq_ofNat_of_zero_le h1
  exact epochs_any A pv qv a b P Q w hp hq (by omega)
end Go.Proofs.Ytijjcopglbcoiaa
