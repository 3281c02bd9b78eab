/-
  Proved here: right and all of the document's layer 18 tell whether a term is a predicate (or a policy), all the way down. Conditions: at most 4096 terms; the term lies in old memory.
-/
import Derived.Test.YtjallmncajhamaaDoorVE
namespace Go.Proofs.YtjallmncajhamaaDoor
open Go.RowKit
set_option maxRecDepth 100000

def bareB (fd : Int) (n : Nat) : Bool := decide (fd = 0) && decide (n = 0)
def mayB (fd : Int) (n : Nat) : Bool := decide (fd = 0) || (decide (fd = 1) || (decide (fd = 4) || (decide (fd = 5) || (decide (fd = 7) || (decide (fd = 8) || (decide (fd = 9) && decide (n ≠ 0)))))))
theorem oneI_eq (b : Bool) (op fd : Int) (n : Nat) (ks : List Ti) : oneI b (.mk op fd n ks) = (kndB b op && decide (lst1 op.toNat ≤ ks.length) && decide (ks.length ≤ mst op.toNat) && nwF (wfl op.toNat) op fd n && oneIs (decide (op ≤ 7)) ks) := by rw [oneI]
theorem rt0 (b : Bool) (op fd : Int) (n : Nat) (ks : List Ti) (h : op = 0 ∨ op = 1) : oneI b (.mk op fd n ks) = (b && (bareB fd n && decide (ks.length = 0))) := by
  have e : oneI b (.mk op fd n ks) = (b && decide (0 ≤ ks.length) && decide (ks.length ≤ 0) && bareB fd n && oneIs true ks) := by
    rw [oneI_eq]
    rcases h with rfl | rfl <;> cases b <;> rfl
  rw [e]
  cases ks with
  | nil => rw [oneIs]; simp
  | cons k ks => simp
theorem rt1 (b : Bool) (op fd : Int) (n : Nat) (ks : List Ti) (h : op = 3) : oneI b (.mk op fd n ks) = (b && (bareB fd n && (decide (ks.length = 1) && oneIs true ks))) := by
  have e : oneI b (.mk op fd n ks) = (b && decide (1 ≤ ks.length) && decide (ks.length ≤ 1) && bareB fd n && oneIs true ks) := by
    rw [oneI_eq]
    subst h; cases b <;> rfl
  rw [e]
  generalize oneIs true ks = u
  generalize bareB fd n = v
  cases b <;> cases u <;> cases v <;> simp only [Bool.and_true, Bool.and_false, Bool.true_and, Bool.false_and] <;> (rw [Bool.eq_iff_iff]; simp; omega)
theorem rt2 (b : Bool) (op fd : Int) (n : Nat) (ks : List Ti) (hl : ks.length ≤ 4096) (h : op = 4 ∨ op = 5) : oneI b (.mk op fd n ks) = (b && (bareB fd n && (decide (0 < ks.length) && oneIs true ks))) := by
  have e : oneI b (.mk op fd n ks) = (b && decide (1 ≤ ks.length) && decide (ks.length ≤ 4096) && bareB fd n && oneIs true ks) := by
    rw [oneI_eq]
    rcases h with rfl | rfl <;> cases b <;> rfl
  rw [e]
  generalize oneIs true ks = u
  generalize bareB fd n = v
  cases b <;> cases u <;> cases v <;> simp only [Bool.and_true, Bool.and_false, Bool.true_and, Bool.false_and] <;> (rw [Bool.eq_iff_iff]; simp; omega)
theorem rt3 (b : Bool) (op fd : Int) (n : Nat) (ks : List Ti) (h : op = 6) : oneI b (.mk op fd n ks) = (!b && (bareB fd n && (decide (ks.length = 1) && oneIs true ks))) := by
  have e : oneI b (.mk op fd n ks) = (!b && decide (1 ≤ ks.length) && decide (ks.length ≤ 1) && bareB fd n && oneIs true ks) := by
    rw [oneI_eq]
    subst h; cases b <;> rfl
  rw [e]
  generalize oneIs true ks = u
  generalize bareB fd n = v
  cases b <;> cases u <;> cases v <;> simp only [Bool.and_true, Bool.and_false, Bool.true_and, Bool.false_and, Bool.not_true, Bool.not_false] <;> (rw [Bool.eq_iff_iff]; simp; omega)
theorem rt4 (b : Bool) (op fd : Int) (n : Nat) (ks : List Ti) (hl : ks.length ≤ 4096) (h : op = 8 ∨ op = 9) : oneI b (.mk op fd n ks) = (!b && (bareB fd n && (decide (0 < ks.length) && oneIs false ks))) := by
  have e : oneI b (.mk op fd n ks) = (!b && decide (1 ≤ ks.length) && decide (ks.length ≤ 4096) && bareB fd n && oneIs false ks) := by
    rw [oneI_eq]
    rcases h with rfl | rfl <;> cases b <;> rfl
  rw [e]
  generalize oneIs false ks = u
  generalize bareB fd n = v
  cases b <;> cases u <;> cases v <;> simp only [Bool.and_true, Bool.and_false, Bool.true_and, Bool.false_and, Bool.not_true, Bool.not_false] <;> (rw [Bool.eq_iff_iff]; simp; omega)
theorem rt5 (b : Bool) (op fd : Int) (n : Nat) (ks : List Ti) (h : op = 10) : oneI b (.mk op fd n ks) = (!b && (bareB fd n && (decide (ks.length = 1) && oneIs false ks))) := by
  have e : oneI b (.mk op fd n ks) = (!b && decide (1 ≤ ks.length) && decide (ks.length ≤ 1) && bareB fd n && oneIs false ks) := by
    rw [oneI_eq]
    subst h; cases b <;> rfl
  rw [e]
  generalize oneIs false ks = u
  generalize bareB fd n = v
  cases b <;> cases u <;> cases v <;> simp only [Bool.and_true, Bool.and_false, Bool.true_and, Bool.false_and, Bool.not_true, Bool.not_false] <;> (rw [Bool.eq_iff_iff]; simp; omega)
theorem nat_of9 {fd : Int} (h : 0 ≤ fd ∧ fd ≤ 10) : ∃ f : Nat, fd = (f : Int) ∧ f ≤ 10 := ⟨fd.toNat, by omega, by omega⟩
theorem fit_no {fd : Int} {n : Nat} (h : ¬ (0 ≤ fd ∧ fd ≤ 10)) : fitB fd n = false := by
  unfold fitB
  by_cases h1 : 0 ≤ fd
  · rw [decide_eq_false (show ¬ fd ≤ 10 from fun h2 => h ⟨h1, h2⟩)]; simp
  · rw [decide_eq_false h1]; simp
theorem nw_is (fd : Int) (n : Nat) : nwF 2039 2 fd n = (fitB fd n && decide (fd ≠ 3)) := by
  unfold nwF
  rw [if_neg (by decide)]
  by_cases h : 0 ≤ fd ∧ fd ≤ 10
  · obtain ⟨f, rfl, hf⟩ := nat_of9 h
    rw [show ((f : Nat) : Int).toNat = f from rfl, ask_fbit hf]
    cases fitB (f : Int) n <;> simp
    omega
  · rw [fit_no h]; simp
theorem nw_set (fd : Int) (n : Nat) : nwF 947 7 fd n = (mayB fd n && fitB fd n) := by
  unfold nwF mayB
  rw [if_neg (by decide)]
  by_cases h : 0 ≤ fd ∧ fd ≤ 10
  · obtain ⟨f, rfl, hf⟩ := nat_of9 h
    rw [show ((f : Nat) : Int).toNat = f from rfl, sett_fbit hf]
    have hc : f = 0 ∨ f = 1 ∨ f = 2 ∨ f = 3 ∨ f = 4 ∨ f = 5 ∨ f = 6 ∨ f = 7 ∨ f = 8 ∨ f = 9 ∨ f = 10 := by omega
    generalize fitB ((f : Nat) : Int) n = q
    rcases hc with rfl | rfl | rfl | rfl | rfl | rfl | rfl | rfl | rfl | rfl | rfl <;> cases q <;> simp [sett]
  · rw [fit_no h]; simp
theorem rt6 (b : Bool) (op fd : Int) (n : Nat) (ks : List Ti) (h : op = 2) : oneI b (.mk op fd n ks) = (b && (decide (ks.length = 0) && (fitB fd n && decide (fd ≠ 3)))) := by
  have e : oneI b (.mk op fd n ks) = (b && decide (0 ≤ ks.length) && decide (ks.length ≤ 0) && nwF 2039 2 fd n && oneIs true ks) := by
    rw [oneI_eq]
    subst h; cases b <;> rfl
  rw [e, nw_is]
  cases ks with
  | nil => rw [oneIs]; simp
  | cons k ks => simp
theorem rt7 (b : Bool) (op fd : Int) (n : Nat) (ks : List Ti) (h : op = 7) : oneI b (.mk op fd n ks) = (!b && (decide (ks.length = 0) && (mayB fd n && fitB fd n))) := by
  have e : oneI b (.mk op fd n ks) = (!b && decide (0 ≤ ks.length) && decide (ks.length ≤ 0) && nwF 947 7 fd n && oneIs true ks) := by
    rw [oneI_eq]
    subst h; cases b <;> rfl
  rw [e, nw_set]
  cases ks with
  | nil => rw [oneIs]; simp
  | cons k ks => simp
theorem rt8 (b : Bool) (op fd : Int) (n : Nat) (ks : List Ti) (h : op < 0 ∨ 10 < op) : oneI b (.mk op fd n ks) = false := by
  rw [oneI_eq, kndB_no (by omega)]; simp
theorem oneIs_take {b : Bool} {ks : List Ti} {j : Nat} (hj : j < ks.length) : oneIs b (ks.take (j + 1)) = (oneIs b (ks.take j) && oneI b ks[j]) := by
  rw [Bool.eq_iff_iff, Bool.and_eq_true, oneIs_iff, oneIs_iff, List.take_add_one, List.getElem?_eq_getElem hj]
  constructor
  · intro h
    exact ⟨fun t ht => h t (List.mem_append_left _ ht), h _ (List.mem_append_right _ (by simp))⟩
  · rintro ⟨h1, h2⟩ t ht
    rcases List.mem_append.1 ht with ht | ht
    · exact h1 t ht
    · obtain rfl : t = ks[j] := by simpa using ht
      exact h2
/-- all, where right is known of the kids -/
theorem rall_any (b : Bool) (ks : List Ti) (ao : Option Addr) (cap : Nat) (xs : List Value) (w : World) (hl : ks.length ≤ 4096) (h2 : Rx (fun b => b < w.heap.size) 4 w (.slice ao ks.length cap) ks.length xs) (h3 : TiL (fun b => b < w.heap.size) w ks xs)
    (HR : Hid (∀ j (hj : j < ks.length) (cs : Array Value) (W : World), TiV (fun b => b < W.heap.size) W ks[j] cs → Calls Tryd.prog 41 #[.agg cs, .bool b] W fun e w' => e = .returned (.bool (oneI b ks[j])) ∧ Below W.heap.size W w')) :
    Calls Tryd.prog 67 #[.slice ao ks.length cap, .bool b] w fun e w' => e = .returned (.bool (oneIs b ks)) ∧ Below w.heap.size w w' := by
  have H2 := hid h2
  have H3 := hid h3
  obtain ⟨r, hr⟩ : ∃ r, r = oneIs b ks := ⟨_, rfl⟩
  have HRr := hid hr
  rw [← hr]
  clear h2 h3 hr
  go_enter Tryd.func67, Tryd.ntmps67
  go_upto_region 2 with fail
  go_loopw [5] (fun iv wr => ∃ j : Nat, iv = .int .i64 ((j : Nat) : Int) ∧ j ≤ ks.length ∧ Hid (Below w.heap.size w wr) ∧ Hid (oneIs b (ks.take j) = true)) (fun iv _ => ks.length - (intOf iv).toNat)
  case atStart => exact ⟨0, rfl, Nat.zero_le _, Below.refl _ _, by show _ = _; rw [List.take_zero, oneIs]⟩
  case round =>
    obtain ⟨j, rfl, hj1, HB, HO⟩ := hrel
    by_cases hj : j < ks.length
    · have hs3 : decide ((j : Int) < (ks.length : Int)) = true := by simp; omega
      obtain ⟨g, o, c0, e0, hcap, -, hgl, kcs, hkv, hra⟩ := TiL.rng H2.out H3.out hj
      cases e0
      have hk4 := hkv.size
      obtain ⟨x0, x1, x2, x3, rfl⟩ := arr4 hk4
      have HRA : Hid (wr.rangeAt g (o + j * 4) (#[x0, x1, x2, x3] : Array Value).toList) := fun i v hi => (cell_same (HB.out.block g hgl)).trans (hra i v hi)
      have HC := hid (HR.out j hj #[x0, x1, x2, x3] wr (ti_on hkv fun b hb hS => ⟨by have := HB.out.size; omega, HB.out.block b hb⟩))
      have hjc : j < cap := by omega
      have hw3 : IntKind.i64.wrap ((j : Int) + 1) = (j : Int) + 1 := by rw [IntKind.wrap_i64]; omega
      have hst := oneIs_take (b := b) hj
      rw [HO.out, Bool.true_and] at hst
      have HST := hid hst
      have HNo : Hid (oneI b ks[j] = false → r = false) := fun h => by
        rw [HRr.out, Bool.eq_false_iff]
        intro h9
        rw [oneIs_iff.1 h9 _ (List.getElem_mem hj)] at h
        cases h
      clear hkv hra hst HO
      cases hq : oneI b ks[j] with
      | true =>
        rw [hq] at HC HST
        clear HNo hq
        go_wp2_with (first
          | (refine ldMid 26 (.tmp 15) rfl rfl g (o + j * 4) rfl #[x0, x1, x2, x3] _ Tryd.underlying26 rfl sizeTM HRA.out ?_)
          | (go_at_call 41; refine (HC.out).mono ?_; rintro e w4 ⟨rfl, hw⟩; have HB4 := hid (HB.out.trans (hw.mono HB.out.size)); clear hw HC))
        refine ⟨⟨j + 1, rfl, hj, HB4, HST⟩, ?_⟩
        simp [intOf]; omega
      | false =>
        obtain rfl : r = false := HNo.out hq
        rw [hq] at HC
        clear HNo hq HST HRr
        go_wp2_with (first
          | (refine ldMid 26 (.tmp 15) rfl rfl g (o + j * 4) rfl #[x0, x1, x2, x3] _ Tryd.underlying26 rfl sizeTM HRA.out ?_)
          | (go_at_call 41; refine (HC.out).mono ?_; rintro e w4 ⟨rfl, hw⟩; have HB4 := hid (HB.out.trans (hw.mono HB.out.size)); clear hw HC))
        go_ret
        exact ⟨rfl, HB4.out⟩
    · have hs3 : decide ((j : Int) < (ks.length : Int)) = false := by simp; omega
      obtain rfl : j = ks.length := by omega
      obtain rfl : r = true := by rw [HRr.out, ← HO.out, List.take_length]
      clear HRr HO
      go_wp2
      go_ret
      exact ⟨rfl, HB.out⟩
end Go.Proofs.YtjallmncajhamaaDoor
