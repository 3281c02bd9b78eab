/-
  Proved here: slices.ContainsFunc at noSetting: whether a row has what is no setting. Condition: the row lies where it is said to.
-/
import Derived.Test.YtggbokghhohofaaDoorB1
namespace Go.Proofs.YtggbokghhohofaaDoor
open Go.RowKit
set_option maxRecDepth 100000

abbrev acl (a : Ac) : Array Value := #[.int .i8 a.dw, .int .i8 a.fd, .int .u64 a.n]
theorem acl_one (a : Ac) : (acl a).all (·.oneCell') = true := by simp [acl, Value.oneCell']
theorem Acs.at {T : Nat → Prop} {w : World} {ao : Option Addr} {n cap : Nat} {r : List Ac} (h : Acs T w (.slice ao n cap) r) (j : Nat) (hj : j < r.length) : ∃ b o, ao = some ⟨b, o, none⟩ ∧ T b ∧ b < w.heap.size ∧ w.rangeAt b (o + j * 3) (acl r[j]).toList ∧ r[j].Fit := by
  obtain ⟨b, o, e, hT, h0, h1, h2, h3⟩ := h.cell j hj
  refine ⟨b, o, e, hT, cell_lt h0, range_of fun i hi => ?_, h3⟩
  have : i = 0 ∨ i = 1 ∨ i = 2 := by simp at hi; omega
  rcases this with rfl | rfl | rfl
  · exact h0
  · exact h1
  · exact h2
set_option maxHeartbeats 1600000 in
theorem idxF_any {T : Nat → Prop} (w : World) (v : Value) (r : List Ac) (h : Acs T w v r) (hT : Tab w) (_hB : ∀ b, T b → b < w.heap.size) : Calls Tryd.prog 47 #[v, .func (.func 33) #[] #[]] w fun e w' => (∃ x : Int, e = .returned (.int .i64 x) ∧ (0 ≤ x ↔ r.all okS = false)) ∧ Below w.heap.size w w' := by
  obtain ⟨ao, cap, rfl, hcap⟩ := h.form
  have hlen := h.len
  have HA := hid h
  have HT := hid hT
  clear h hT
  go_enter Tryd.func47, Tryd.ntmps47
  go_upto_region 2 with fail
  go_loopw [5, 8] (fun _ i wr => ∃ j : Nat, i = .int .i64 ((j : Nat) : Int) ∧ j ≤ r.length ∧ Hid ((r.take j).all okS = true) ∧ Hid (Below w.heap.size w wr)) (fun _ i _ => r.length - (intOf i).toNat)
  case atStart => exact ⟨0, rfl, Nat.zero_le _, by show _ = _; simp, Below.refl _ _⟩
  case round =>
    obtain ⟨j, rfl, hj1, HO, HL⟩ := hrel
    by_cases hj : j < r.length
    · obtain ⟨b, o, rfl, hTb, hbl, hra, hfit⟩ := HA.out.at j hj
      have hd : decide ((j : Int) < (r.length : Int)) = true := by simp; omega
      have hjc : j < cap := by omega
      have hw3 : IntKind.i64.wrap ((j : Int) + 1) = (j : Int) + 1 := by rw [IntKind.wrap_i64]; omega
      have HRA : Hid (wr.rangeAt b (o + j * 3) (acl r[j]).toList) := fun k u hk => (cell_same (HL.out.block _ hbl)).trans (hra k u hk)
      have HN := hid (noSetting_any r[j] hfit.2.2 wr (HT.out.on HL.out))
      have hs := HL.out.size
      have HTk : Hid (r.take (j + 1) = r.take j ++ [r[j]]) := by show _ = _; simp
      have HM : Hid (r[j] ∈ r) := List.getElem_mem hj
      generalize r[j] = x at HRA HN HTk HM
      clear hra hfit
      cases hx : okS x
      · have HF : Hid (r.all okS = false) := by
          show _ = _
          rw [List.all_eq_false]
          exact ⟨x, HM.out, by simp [hx]⟩
        rw [hx] at HN
        go_wp2_with (first
          | (refine ldMid 54 (.tmp 14) rfl rfl b (o + j * 3) rfl (acl x) _ Tryd.underlying54 rfl infoACT HRA.out ?_)
          | (go_at_call 33; refine (HN.out).mono ?_; rintro e w4 ⟨rfl, h4⟩; have H4 := hid (HL.out.trans (h4.mono hs)); clear h4))
        go_ret
        exact ⟨⟨j, rfl, by rw [HF.out]; simp⟩, H4.out⟩
      · have HA2 : Hid ((r.take (j + 1)).all okS = true) := by show _ = _; rw [HTk.out, List.all_append, HO.out]; simp [hx]
        rw [hx] at HN
        go_wp2_with (first
          | (refine ldMid 54 (.tmp 14) rfl rfl b (o + j * 3) rfl (acl x) _ Tryd.underlying54 rfl infoACT HRA.out ?_)
          | (go_at_call 33; refine (HN.out).mono ?_; rintro e w4 ⟨rfl, h4⟩; have H4 := hid (HL.out.trans (h4.mono hs)); clear h4))
        go_roundw
        case rel => exact ⟨j + 1, by rw [show (((j + 1 : Nat) : Nat) : Int) = (j : Int) + 1 by omega], hj, HA2, H4⟩
        case measure => simp [intOf]; omega
    · have hd : decide ((j : Int) < (r.length : Int)) = false := by simp; omega
      obtain rfl : j = r.length := by omega
      have HF : Hid (r.all okS = true) := by have := HO.out; rwa [List.take_length] at this
      go_wp2
      go_ret
      exact ⟨⟨-1, rfl, by rw [HF.out]; simp⟩, HL.out⟩
theorem conF_any {T : Nat → Prop} (w : World) (v : Value) (r : List Ac) (h : Acs T w v r) (hT : Tab w) (hB : ∀ b, T b → b < w.heap.size) : Calls Tryd.prog 32 #[v, .func (.func 33) #[] #[]] w fun e w' => e = .returned (.bool (!r.all okS)) ∧ Below w.heap.size w w' := by
  have HC := hid (idxF_any w v r h hT hB)
  clear h hT hB
  go_enter Tryd.func32, Tryd.ntmps32
  go_wp2_with (go_at_call 47; refine (HC.out).mono ?_; rintro e w' ⟨⟨x, rfl, hx⟩, hb⟩; have HX := hid hx; have HB := hid hb; clear hx hb)
  go_ret
  refine ⟨?_, HB.out⟩
  have := HX.out
  cases hr : r.all okS
  · have : 0 ≤ x := this.2 hr
    simp [this]
  · have : ¬ 0 ≤ x := fun h => by have := this.1 h; rw [hr] at this; cases this
    simp [this]
end Go.Proofs.YtggbokghhohofaaDoor
