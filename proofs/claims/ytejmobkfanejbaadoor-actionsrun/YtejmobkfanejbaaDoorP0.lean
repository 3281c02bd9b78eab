/-
  Proved here: a header (a match) that comes in is eleven (twenty-two) numbers below 2 to 64, and reads again as it did. No condition.
-/
import Derived.Test.YtejmobkfanejbaaDoorX0
import Derived.ProofKit
import Derived.OpenShut
import Derived.ChangeSame
import Derived.LaidMore
import Derived.Deep.DeepHandedRow
namespace Go.Proofs.YtejmobkfanejbaaDoor
open Go.ChangeShapes Go.WideShapes Go.ChangeAt Go.RowKit

theorem cellsU : Tryd.prog.cellsOf 22 = 1 := by kernel_rfl
theorem cellsH : Tryd.prog.cellsOf 24 = 11 := by kernel_rfl
theorem cellsM : Tryd.prog.cellsOf 26 = 22 := by kernel_rfl
def hd {H : Type} (h : Nat → Int) : DataW H := .agg ((List.range 11).map fun k => .lit (.int .u64 (h k)))
def md {H : Type} (m : Nat → Int) : DataW H := .agg [hd m, hd fun k => m (11 + k)]
theorem hd_congr {H : Type} {a b : Nat → Int} (h : ∀ k, k < 11 → a k = b k) : (hd a : DataW H) = hd b := by
  unfold hd
  rw [List.map_congr_left fun k hk => by rw [h k (List.mem_range.1 hk)]]
theorem mapM_all {α β : Type} {f : α → Option β} {g : α → β} : ∀ l : List α, (∀ i ∈ l, f i = some (g i)) → l.mapM f = some (l.map g)
  | [], _ => by simp
  | i :: l, h => by simp [h i (by simp), mapM_all l fun j hj => h j (by simp [hj])]
/-- Every number is one of 64 bits. -/
def Wf (h : Nat → Int) : Prop := ∀ k, (Lit.int .u64 (h k)).wf = true
theorem zero_wf : (Lit.int .u64 0).wf = true := by simp [Lit.wf, IntKind.min, IntKind.max, IntKind.signed, IntKind.bits]

section
variable {H : Type} {enc : TypeId × Value → H} {W : World} {base : Nat} {sp : Nat → Bool} {held : Bool}
/-- Eleven cells that read as an array of eleven numbers. -/
theorem open_arr {fuel : Nat} {cs : List Value} {x : DataW H × List MemPlace} (hf : DataW.trod enc Tryd.prog W base sp held fuel 24 cs = some x) :
    ∃ h : Nat → Int, cs.toArray = row 11 h ∧ x = (hd h, []) ∧ Wf h := by
  obtain ⟨xs, m, rfl, hx, hl, hn, hel⟩ := DataW.trod_array Tryd.underlying24 hf
  rw [cellsH] at hl
  have key : ∀ k, k < 11 → ∃ n : Int, cs[k]? = some (.int .u64 n) ∧ xs[k]? = some (.lit (.int .u64 n), []) ∧ (Lit.int .u64 n).wf = true := by
    intro k hk
    have h1 := hel k hk
    rw [cellsU, Nat.mul_one] at h1
    have hkx : k < xs.length := by omega
    rw [List.getElem?_eq_getElem hkx] at h1
    obtain ⟨n, e1, e2, wn⟩ := DataW.trod_int Tryd.underlying22 h1
    refine ⟨n, ?_, ?_, wn⟩
    · have := congrArg (·[0]?) e1
      simpa [List.getElem?_take, List.getElem?_drop] using this
    · rw [List.getElem?_eq_getElem hkx, e2]
  have hall : ∃ h : Nat → Int, ∀ k, (k < 11 → cs[k]? = some (.int .u64 (h k)) ∧ xs[k]? = some (.lit (.int .u64 (h k)), [])) ∧ (Lit.int .u64 (h k)).wf = true := by
    refine ⟨fun k => if hk : k < 11 then (key k hk).choose else 0, fun k => ?_⟩
    by_cases hk : k < 11
    · simp only [hk, dite_true, forall_const]
      obtain ⟨a, b, c⟩ := (key k hk).choose_spec
      exact ⟨⟨a, b⟩, c⟩
    · simp [hk, zero_wf]
  obtain ⟨h, hh⟩ := hall
  have hxs : xs = (List.range 11).map fun k => (.lit (.int .u64 (h k)), []) := by
    apply List.ext_getElem?
    intro k
    by_cases hk : k < 11
    · rw [((hh k).1 hk).2]; simp [hk]
    · rw [List.getElem?_eq_none (by omega), List.getElem?_eq_none (by simp; omega)]
  refine ⟨h, row_ext (by simp [hl]) fun k hk => by simpa using ((hh k).1 hk).1, ?_, fun k => (hh k).2⟩
  rw [hx, hxs]
  simp [hd, List.range_succ]
theorem shut_arr (m : Nat) (h : Nat → Int) (hwf : Wf h) : DataW.trod enc Tryd.prog W base sp held (m + 2) 24 (row 11 h).toList = some (hd h, []) := by
  have e : ∀ k, k < 11 → DataW.trod enc Tryd.prog W base sp held (m + 1) 22 (((row 11 h).toList.drop (k * Tryd.prog.cellsOf 22)).take (Tryd.prog.cellsOf 22)) = some (.lit (.int .u64 (h k)), []) := by
    intro k hk
    have hc : ((row 11 h).toList.drop (k * Tryd.prog.cellsOf 22)).take (Tryd.prog.cellsOf 22) = [.int .u64 (h k)] := by
      rw [cellsU, Nat.mul_one]
      have h1 := row_at 11 h k hk
      have hlt : k < (row 11 h).toList.length := by simp [row_size, hk]
      rw [List.drop_eq_getElem_cons hlt]
      have h2 : (row 11 h).toList[k]? = some (.int .u64 (h k)) := by simpa using h1
      rw [List.getElem?_eq_getElem hlt] at h2
      rw [Option.some.inj h2]
      rfl
    rw [hc]
    exact trod_int_mk m Tryd.underlying22 (hwf k)
  unfold DataW.trod
  rw [Tryd.underlying24]
  have hl : (row 11 h).toList.length = Tryd.prog.cellsOf 24 := by rw [cellsH]; simp [row_size]
  simp only [hl, if_true]
  have hm : (List.range 11).mapM (fun i => DataW.trod enc Tryd.prog W base sp held (m + 1) 22 (((row 11 h).toList.drop (i * Tryd.prog.cellsOf 22)).take (Tryd.prog.cellsOf 22))) = some ((List.range 11).map fun k => (.lit (.int .u64 (h k)), [])) := by
    exact mapM_all _ fun k hk => e k (List.mem_range.1 hk)
  rw [hm]
  simp [hd, List.range_succ]

set_option maxRecDepth 100000 in
/-- A HEADER THAT CAME IN. -/
theorem open_hdr {r : Reach} {b0 : Nat} {v : Value} {d : DataW H} {p : List MemPlace} (hv0 : Value.okWide Tryd.prog W r b0 24 v) (h0 : DataW.Trod enc Tryd.prog W base sp held 24 v d p) :
    ∃ h : Nat → Int, v = hv h ∧ d = hd h ∧ p = [] ∧ Wf h := by
  obtain ⟨cs, rfl, hsz, _⟩ : ∃ cs, v = .agg cs ∧ cs.size = Tryd.prog.cellsOf 24 ∧ Row.okWide Tryd.prog W r b0 24 cs := by
    simpa [Value.okWide, Tryd.underlying24] using hv0
  obtain ⟨fuel, hf⟩ := h0
  obtain ⟨h, hcs, hx, hwf⟩ := open_arr hf
  simp only [Prod.mk.injEq] at hx
  refine ⟨h, ?_, hx.1, hx.2, hwf⟩
  have : cs = row 11 h := by simpa [Value.cells] using hcs
  rw [this]
theorem shut_hdr (h : Nat → Int) (hwf : Wf h) : DataW.Trod enc Tryd.prog W base sp held 24 (hv h) (hd h) [] :=
  ⟨2, by simpa [Value.cells] using shut_arr 0 h hwf⟩

set_option maxRecDepth 100000 in
/-- A MATCH THAT CAME IN. -/
theorem open_match {r : Reach} {b0 : Nat} {v : Value} {d : DataW H} {p : List MemPlace} (hv0 : Value.okWide Tryd.prog W r b0 26 v) (h0 : DataW.Trod enc Tryd.prog W base sp held 26 v d p) :
    ∃ m : Nat → Int, v = mv m ∧ d = md m ∧ p = [] ∧ Wf m := by
  obtain ⟨cs, rfl, hsz, _⟩ : ∃ cs, v = .agg cs ∧ cs.size = Tryd.prog.cellsOf 26 ∧ Row.okWide Tryd.prog W r b0 26 cs := by
    simpa [Value.okWide, Tryd.underlying26] using hv0
  obtain ⟨fuel, hf⟩ := h0
  obtain ⟨y0, y1, n, hx, hl, e0, e1⟩ := trod_struct2 Tryd.underlying26 hf
  obtain ⟨a, ca, ha, wa⟩ := open_arr e0
  obtain ⟨b, cb, hb, wb⟩ := open_arr e1
  rw [cellsM] at hsz
  simp only [Prod.mk.injEq, ha, hb] at hx
  refine ⟨fun k => if k < 11 then a k else b (k - 11), ?_, ?_, hx.2, fun k => ?_⟩
  · have : cs = row 22 fun k => if k < 11 then a k else b (k - 11) := by
      refine row_ext hsz fun k hk => ?_
      by_cases h : k < 11
      · have := row_at 11 a k h
        rw [← ca, cellsH] at this
        rw [if_pos h, ← this]
        simp [Value.cells, h]
      · have := row_at 11 b (k - 11) (by omega)
        rw [← cb, cellsH] at this
        rw [if_neg h, ← this]
        simp [Value.cells, List.getElem?_drop, show k - 11 < 11 by omega, show 11 + (k - 11) = k by omega]
    rw [this]
  · rw [hx.1]
    have e1 : (hd a : DataW H) = hd fun k => if k < 11 then a k else b (k - 11) := hd_congr fun k hk => by rw [if_pos hk]
    have e2 : (hd b : DataW H) = hd fun k => if 11 + k < 11 then a (11 + k) else b (11 + k - 11) := hd_congr fun k _ => by rw [if_neg (by omega), show 11 + k - 11 = k by omega]
    unfold md
    rw [e1, e2]
  · by_cases h : k < 11
    · simp only [h, if_true]; exact wa k
    · simp only [h, if_false]; exact wb _
theorem shut_match (m : Nat → Int) (hwf : Wf m) : DataW.Trod enc Tryd.prog W base sp held 26 (mv m) (md m) [] := by
  refine ⟨3, ?_⟩
  have t1 : ((row 22 m).toList.drop 0).take 11 = (row 11 m).toList := by
    have : (((row 22 m).toList.drop 0).take 11).toArray = row 11 m := row_ext (by simp [row_size]) fun k hk => by
      have := row_at 22 m k (by omega)
      simp [hk, this]
    rw [← this]
  have t2 : ((row 22 m).toList.drop 11).take 11 = (row 11 fun k => m (11 + k)).toList := by
    have : (((row 22 m).toList.drop 11).take 11).toArray = row 11 fun k => m (11 + k) := row_ext (by simp [row_size]) fun k hk => by
      have := row_at 22 m (11 + k) (by omega)
      simp [List.getElem?_drop, hk, this]
    rw [← this]
  have q1 : DataW.trod enc Tryd.prog W base sp held 2 24 (((row 22 m).toList.drop 0).take (Tryd.prog.cellsOf 24)) = some (hd m, []) := by
    rw [cellsH, t1]; exact shut_arr 0 m hwf
  have q2 : DataW.trod enc Tryd.prog W base sp held 2 24 (((row 22 m).toList.drop 11).take (Tryd.prog.cellsOf 24)) = some (hd fun k => m (11 + k), []) := by
    rw [cellsH, t2]; exact shut_arr 0 _ (fun k => hwf (11 + k))
  have := trod_struct2_mk (enc := enc) (w := W) (base := base) (spare := sp) (held := held) (n := 2) (cs := (row 22 m).toList) (y0 := (hd m, [])) (y1 := (hd fun k => m (11 + k), [])) Tryd.underlying26 (by rw [cellsM]; simp [row_size]) q1 q2
  simpa [Value.cells, md] using this
end
theorem Wf.bd {h : Nat → Int} (hwf : Wf h) : ∀ k, 0 ≤ h k ∧ h k < 18446744073709551616 := fun k => by
  have := bounds_u64 (hwf k); omega
end Go.Proofs.YtejmobkfanejbaaDoor
