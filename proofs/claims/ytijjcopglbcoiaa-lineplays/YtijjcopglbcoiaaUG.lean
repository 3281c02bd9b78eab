/-
  Proved here: great of tollbridgelaw06 returns; where it says false there are at most 200 acts. Condition: a row of acts.
-/
import Derived.Test.YtijjcopglbcoiaaUA
namespace Go.Proofs.Ytijjcopglbcoiaa
open Go.RowKit Seal

/-- An act. -/
structure AcT where
  wo : Int
  dw : Int
  an : Int
  n : Nat
  bs : List Int
/-- A row of acts: element j at the cells o + j * 5 .. of a block below B. -/
def Al (B : Nat) (w : World) (v : Value) (l : List AcT) : Prop :=
  ∃ ao cap, v = .slice ao l.length cap ∧ l.length ≤ cap ∧ l.length ≤ 140737488355328 ∧
    (l ≠ [] → ∃ b o, b < B ∧ ao = some ⟨b, o, none⟩ ∧ ∀ j (hj : j < l.length), ∃ xa xc, w.cell? ⟨b, o + j * 5, none⟩ = some (.int .i64 l[j].wo) ∧ w.cell? ⟨b, o + j * 5 + 1, none⟩ = some (.int .i64 l[j].dw) ∧ w.cell? ⟨b, o + j * 5 + 2, none⟩ = some (.int .i64 l[j].an) ∧ w.cell? ⟨b, o + j * 5 + 3, none⟩ = some (.int .u32 (l[j].n : Nat)) ∧ w.cell? ⟨b, o + j * 5 + 4, none⟩ = some (.slice xa l[j].bs.length xc) ∧
      SlC (fun k => k < B) w (.slice xa l[j].bs.length xc) l[j].bs ∧ l[j].n < 4294967296)

/-- What great answers. -/
def GrOk (l : List AcT) (w : World) (r : Ending) (w' : World) : Prop := ∃ b, r = .returned (.bool b) ∧ w' = w ∧ (b = false → l.length ≤ 200)

set_option maxRecDepth 100000 in
set_option maxHeartbeats 800000 in
theorem great_any (B : Nat) (v : Value) (l : List AcT) (w : World) (h : Al B w v l) :
    Calls Try.prog 9 #[v] w (GrOk l w) := by
  obtain ⟨ao, cap, rfl, h1, h2, h3⟩ := h
  have H3 : Hid (∀ j, j < l.length → ∃ b o xa xc m, ao = some ⟨b, o, none⟩ ∧ w.cell? ⟨b, o + j * 5 + 4, none⟩ = some (.slice xa m xc) ∧ m ≤ 140737488355328) := by
    show ∀ _, _
    intro j hj
    obtain ⟨b, o, _, e, hc⟩ := h3 (fun e => by rw [e] at hj; simp at hj)
    obtain ⟨xa, xc, _, _, _, _, c4, hs, _⟩ := hc j hj
    exact ⟨b, o, xa, xc, _, e, c4, hs.len⟩
  clear h3
  go_enter Try.func9, Try.ntmps9
  go_wp2
  go_loop [3, 4] (fun n x => ∃ (k : Nat) (s : Int), k ≤ l.length ∧ k ≤ 201 ∧ x = .int .i64 k ∧ n = .int .i64 s ∧ 0 ≤ s ∧ s ≤ k * 140737488355328) (fun _ x => 201 - (intOf x).toNat)
  case atStart => exact ⟨0, 0, by omega, by omega, rfl, rfl, by omega, by omega⟩
  case round =>
    obtain ⟨k, s, hk, hk2, rfl, rfl, hs0, hs1⟩ := hrel
    by_cases hlt : k < l.length
    · by_cases h200 : k ≤ 200
      · obtain ⟨b, o, xa, xc, m, hao, c4, hm⟩ := H3.out k hlt
        subst hao
        go_wp2
        go_round
        case rel => exact ⟨k + 1, s + m, by omega, by omega, by go_num, by go_num, by omega, by omega⟩
        case measure => simp [intOf]; omega
      · have hg : decide ((200 : Int) < (l.length : Int)) = true := by simp; omega
        go_wp2
        go_ret
        exact ⟨true, rfl, rfl, fun h => by cases h⟩
    · obtain rfl : k = l.length := by omega
      by_cases hg2 : 200 < l.length
      · have hg : decide ((200 : Int) < (l.length : Int)) = true := by simp; omega
        go_wp2
        go_ret
        exact ⟨true, rfl, rfl, fun h => by cases h⟩
      · have hg : decide ((200 : Int) < (l.length : Int)) = false := by simp; omega
        go_wp2
        go_ret
        exact ⟨_, rfl, rfl, fun _ => by omega⟩
end Go.Proofs.Ytijjcopglbcoiaa
