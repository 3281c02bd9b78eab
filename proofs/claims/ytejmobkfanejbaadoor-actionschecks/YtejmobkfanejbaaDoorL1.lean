/-
  Proved here: great tells when copies are many; Heads says true of two readings of one list of headers. No condition.
-/
import Derived.Test.YtejmobkfanejbaaDoorEQ
import Derived.Test.YtejmobkfanejbaaDoorB7
namespace Go.Proofs.YtejmobkfanejbaaDoor
open Go.RowKit

/-- What great says. -/
def GrP (c : List (List Ac)) (e : Ending) : Prop := ∃ r, e = .returned (.bool r) ∧ (r = false → c.length + cnt c ≤ 4096)
theorem GrP.yes {c : List (List Ac)} : GrP c (.returned (.bool true)) := ⟨true, rfl, fun h => by cases h⟩
theorem GrP.of {c : List (List Ac)} {n : Nat} (h : n = c.length + cnt c) : GrP c (.returned (.bool (decide ((4096 : Int) < (n : Int))))) := ⟨_, rfl, fun h' => by simp at h'; omega⟩
set_option maxHeartbeats 1600000 in
set_option maxRecDepth 100000 in
theorem great_any {T : Nat → Prop} {w : World} {v : Value} {c : List (List Ac)} (h : Cps T w v c) :
    Calls Tryd.prog 9 #[v] w fun e w' => GrP c e ∧ w' = w := by
  obtain ⟨ao, cap, rfl, hcap⟩ := h.form
  have hlen := h.len
  have H := hid h
  clear h
  go_enter Tryd.func9, Tryd.ntmps9
  go_wp2
  go_loop [3, 4] (fun s i => ∃ (k n : Nat), k ≤ c.length ∧ i = .int .i64 k ∧ s = .int .i64 n ∧ n = c.length + cnt (c.take k) ∧ n ≤ 281474976710656) (fun _ i => c.length - (intOf i).toNat)
  case atStart => exact ⟨0, c.length, by omega, rfl, rfl, by simp [cnt], by omega⟩
  case round =>
    obtain ⟨k, n, hk, rfl, rfl, hn, hbd⟩ := hrel
    have HN := hid hn
    clear hn
    by_cases hlt : k < c.length
    · have hkl : decide ((k : Int) < (c.length : Int)) = true := decide_eq_true (by omega)
      by_cases hn4 : n ≤ 4096
      · have hd4 : decide ((n : Int) ≤ 4096) = true := decide_eq_true (by omega)
        obtain ⟨b, o, a1, c1, rfl, f0, hc1, hl1, -⟩ := H.out.at (Below.refl _ _) hlt
        have HC : Hid (n + c[k].length = c.length + cnt (c.take (k + 1))) := by show _ = _; rw [take_one' c k hlt, cnt_one, HN.out]; omega
        clear HN
        generalize c[k] = y at f0 hc1 hl1 HC
        go_wp2
        go_round
        case rel => exact ⟨k + 1, n + y.length, by omega, by go_num, by go_num, HC.out, by omega⟩
        case measure => simp [intOf]; omega
      · have hd4 : decide ((n : Int) ≤ 4096) = false := by simp; omega
        have hd5 : decide ((4096 : Int) < (n : Int)) = true := decide_eq_true (by omega)
        clear HN
        go_wp2
        go_ret
        exact ⟨GrP.yes, rfl⟩
    · obtain rfl : k = c.length := by omega
      have hkl : decide ((c.length : Int) < (c.length : Int)) = false := by simp
      have HC : Hid (n = c.length + cnt c) := by have := HN.out; rw [List.take_length] at this; exact this
      clear HN
      go_wp2
      go_ret
      exact ⟨GrP.of HC.out, rfl⟩
/-- Two headers, wherever they lie. -/
structure H2 (b o b' o' : Nat) (x y : Nat → Int) (w : World) : Prop where
  rA : w.rangeAt b o (row 11 x).toList
  rB : w.rangeAt b' o' (row 11 y).toList
theorem range_drew {w : World} {b o : Nat} {cs : List Value} (h : w.rangeAt b o cs) : w.drew.rangeAt b o cs := h
theorem runNeS {o : Oper} {a : Act} {w : World} (x y : Operand) (ho : o.op = .binOp .neq 24 x y 24) (p : Nat → Int) (hx : a.eval x = hv p) (hy : a.eval y = hv p) : (execOp a.eval o).run Tryd.prog w = .ok (.value (.bool false)) w := by
  rw [runNeH x y ho p p hx hy, eqR_iff.2 fun _ _ => rfl]; rfl
theorem eqR_same (x : Nat → Int) : eqR 11 x x = true := eqR_iff.2 fun _ _ => rfl
theorem Hs.still {S : Nat → Prop} {w w' : World} {v : Value} {l : List (Nat → Int)} (h : Hs S w v l) (ho : Only (fun _ => False) w w') : Hs S w' v l := h.carry fun b _ hS => ⟨hS, ho.block b (fun hf => hf)⟩
set_option maxHeartbeats 3200000 in
set_option maxRecDepth 100000 in
theorem heads_same {S S' : Nat → Prop} {w : World} {v v' : Value} {l : List (Nat → Int)} (h : Hs S w v l) (h' : Hs S' w v' l) (hn : l.length < 1000000) :
    Calls Tryd.prog 16 #[v, v'] w fun e w' => e = .returned (.bool true) ∧ Only (fun _ => False) w w' := by
  obtain ⟨ao, cap, rfl⟩ := h.form
  obtain ⟨ao', cap', rfl⟩ := h'.form
  have H := hid h
  have H' := hid h'
  clear h h'
  go_enter Tryd.func16, Tryd.ntmps16
  go_upto_region 4 with fail
  go_loopw [5] (fun i wr => ∃ k : Nat, k ≤ l.length ∧ i = .int .i64 k ∧ Only (fun _ => False) w wr) (fun i _ => l.length - (intOf i).toNat)
  case atStart => exact ⟨0, by omega, rfl, Only.refl _ _⟩
  case round =>
    obtain ⟨k, hk, rfl, ho⟩ := hrel
    generalize wr = wx at *
    by_cases hlt : k < l.length
    · have hkl : decide ((k : Int) < (l.length : Int)) = true := decide_eq_true (by omega)
      obtain ⟨b, o, rfl, -, -, r1⟩ := (H.out.still ho).range hlt
      obtain ⟨b', o', rfl, -, -, r2⟩ := (H'.out.still ho).range hlt
      generalize l[k] = x at r1 r2
      have HH : Hid (H2 b (o + k * 11) b' (o' + k * 11) x x wx.drew) := ⟨range_drew r1, range_drew r2⟩
      have HO := hid ho
      clear ho r1 r2
      go_upto_region 6 with fail
      refine wp_region_held_drew (S := H2 b (o + k * 11) b' (o' + k * 11) x x) (by kernel_rfl) HH.out (fun hHeld => ?_)
      refine wpAnyH_take (i := 0) (v := ?_) rfl (by kernel_rfl) (by kernel_rfl) (by kernel_rfl) (fun _ _ _ h => h) (Or.inl ⟨by rfl, ?_⟩) hHeld ?_
      rotate_left
      · intro w' hSw
        clear hSw
        go_simp
        first | done | with_reducible rfl
      simp only [Act.put, List.getElem_toArray, List.getElem_cons_zero, List.setIfInBounds_toArray, List.set_cons_zero, List.set_cons_succ]
      refine wpAnyH_take (i := 1) (v := ?_) rfl (by kernel_rfl) (by kernel_rfl) (by kernel_rfl) (fun _ _ _ h => h) (Or.inl ⟨by rfl, ?_⟩) hHeld ?_
      rotate_left
      · intro w' hSw
        clear hSw
        go_simp
        first | done | with_reducible rfl
      simp only [Act.put, List.getElem_toArray, List.getElem_cons_succ, List.getElem_cons_zero, List.setIfInBounds_toArray, List.set_cons_zero, List.set_cons_succ]
      refine wpAnyH_take (i := 2) (v := ?_) rfl (by kernel_rfl) (by kernel_rfl) (by kernel_rfl) (fun _ _ _ h => h) (Or.inl ⟨by rfl, ?_⟩) hHeld ?_
      rotate_left
      · intro w' hSw
        clear hSw
        go_simp
        first | done | with_reducible rfl
      simp only [Act.put, List.getElem_toArray, List.getElem_cons_succ, List.getElem_cons_zero, List.setIfInBounds_toArray, List.set_cons_zero, List.set_cons_succ]
      refine wpAnyH_take (i := 3) (v := (hv x)) rfl (by kernel_rfl) (by kernel_rfl) (by kernel_rfl) (fun _ _ _ h => h) (Or.inl ⟨by rfl, ?_⟩) hHeld ?_
      · intro w' hSw
        exact runLd 24 (.tmp 19) rfl b (o + k * 11) rfl (row 11 x) _ hSw.rA Tryd.underlying24 rfl (size24 x)
      simp only [Act.put, List.getElem_toArray, List.getElem_cons_succ, List.getElem_cons_zero, List.setIfInBounds_toArray, List.set_cons_zero, List.set_cons_succ]
      refine wpAnyH_take (i := 4) (v := ?_) rfl (by kernel_rfl) (by kernel_rfl) (by kernel_rfl) (fun _ _ _ h => h) (Or.inl ⟨by rfl, ?_⟩) hHeld ?_
      rotate_left
      · intro w' hSw
        clear hSw
        go_simp
        first | done | with_reducible rfl
      simp only [Act.put, List.getElem_toArray, List.getElem_cons_succ, List.getElem_cons_zero, List.setIfInBounds_toArray, List.set_cons_zero, List.set_cons_succ]
      refine wpAnyH_take (i := 5) (v := ?_) rfl (by kernel_rfl) (by kernel_rfl) (by kernel_rfl) (fun _ _ _ h => h) (Or.inl ⟨by rfl, ?_⟩) hHeld ?_
      rotate_left
      · intro w' hSw
        clear hSw
        go_simp
        first | done | with_reducible rfl
      simp only [Act.put, List.getElem_toArray, List.getElem_cons_succ, List.getElem_cons_zero, List.setIfInBounds_toArray, List.set_cons_zero, List.set_cons_succ]
      refine wpAnyH_take (i := 6) (v := ?_) rfl (by kernel_rfl) (by kernel_rfl) (by kernel_rfl) (fun _ _ _ h => h) (Or.inl ⟨by rfl, ?_⟩) hHeld ?_
      rotate_left
      · intro w' hSw
        clear hSw
        go_simp
        first | done | with_reducible rfl
      simp only [Act.put, List.getElem_toArray, List.getElem_cons_succ, List.getElem_cons_zero, List.setIfInBounds_toArray, List.set_cons_zero, List.set_cons_succ]
      refine wpAnyH_take (i := 7) (v := (hv x)) rfl (by kernel_rfl) (by kernel_rfl) (by kernel_rfl) (fun _ _ _ h => h) (Or.inl ⟨by rfl, ?_⟩) hHeld ?_
      · intro w' hSw
        exact runLd 24 (.tmp 23) rfl b' (o' + k * 11) rfl (row 11 x) _ hSw.rB Tryd.underlying24 rfl (size24 x)
      simp only [Act.put, List.getElem_toArray, List.getElem_cons_succ, List.getElem_cons_zero, List.setIfInBounds_toArray, List.set_cons_zero, List.set_cons_succ]
      refine wpAnyH_take (i := 8) (v := (.bool false)) rfl (by kernel_rfl) (by kernel_rfl) (by kernel_rfl) (fun _ _ _ h => h) (Or.inl ⟨by rfl, ?_⟩) hHeld ?_
      · intro w' hSw
        exact runNeS (.tmp 20) (.tmp 24) rfl x rfl rfl
      simp only [Act.put, List.getElem_toArray, List.getElem_cons_succ, List.getElem_cons_zero, List.setIfInBounds_toArray, List.set_cons_zero, List.set_cons_succ]
      refine wpAnyH_done (by kernel_rfl) ?_ _
      go_wp2
      go_roundw
      case rel => exact ⟨k + 1, by omega, by go_num, HO.out.drew⟩
      case measure => simp [intOf]; omega
    · obtain rfl : k = l.length := by omega
      have hkl : decide ((l.length : Int) < (l.length : Int)) = false := by simp
      have HO := hid ho
      clear ho
      go_wp2
      go_ret
      exact ⟨rfl, HO.out⟩
end Go.Proofs.YtejmobkfanejbaaDoor
