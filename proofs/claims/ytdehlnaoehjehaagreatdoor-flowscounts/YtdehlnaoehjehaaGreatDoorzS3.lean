/-
  Laws of our own: an append of whatever slice, nil too; a cell of a row that is set. No condition.
-/
/-
  Laws of our own: numbers in a row that is sorted in place (Dt); cmp.Less at them. No condition.
-/
/-
  Proved here: insertionSortOrdered does what the plain insertion sort does. Conditions: the numbers lie as they say; the bounds lie within them.
-/
/-
  Proved here: order2Ordered, medianOrdered, medianAdjacentOrdered, choosePivotOrdered choose what the plain ones do. Conditions: the numbers lie as they say; the bounds lie within them.
-/
import Derived.Test.YtdehlnaoehjehaaGreatDoorzX0
import Derived.Deep.Upon
import Derived.Sort.AssemblyPlain
import Derived.Sort.Row
import Derived.BigQuiet
namespace Go.Proofs.YtdehlnaoehjehaaGreatDoor
set_option maxRecDepth 100000
open Go.RowKit

theorem Rw.room {S : Nat → Prop} {k t : Nat} {w : World} {v : Value} {n : Nat} {xs : List Value} (h : Rw S k t w v n xs) : ∃ ao cap, v = .slice ao n cap ∧ n ≤ cap := by
  rcases h.2 with ⟨rfl, rfl⟩ | ⟨g, o, cap, cur, rfl, _, _, h4, _⟩
  · exact ⟨_, _, rfl, Nat.le_refl _⟩
  · exact ⟨_, _, rfl, h4⟩
/-- WHATEVER IS APPENDED. -/
theorem run_rw_all {S : Nat → Prop} {k t by' : Nat} {w : World} {v z : Value} {n m c : Nat} {xs us : List Value} {ao : Option Addr} (tt ty : TypeId) (hu : Tryz.prog.underlying tt = some (.slice t)) (hinfo : (Tryz.prog.info? t).map (fun i => (i.zero, i.size, i.bytes)) = some (some z, k, by')) (hzs : z.cells.size = k) (hk : 0 < k) (hby : by' ≤ 4096)
    (h : Rw S k t w v n xs) (hul : us.length = m * k) (hnews : m ≠ 0 → ∃ a, ao = some a ∧ ∀ j x, us[j]? = some x → w.cell? (a.add j) = some x) (h1 : ∀ x ∈ us, x.oneCell' = true) (hl : n + m < 2147483648) :
    ∃ v' w', (Builtin.append_ #[tt, tt] ty #[v, .slice ao m c]).run Tryz.prog w = .ok v' w' ∧ Apd w v w' ∧ Rw (fun b => S b ∨ w.heap.size ≤ b) k t w' v' (n + m) (xs ++ us) := by
  by_cases hm : m = 0
  · subst hm
    obtain ⟨i, hi, -, -, -⟩ := info_parts hinfo
    obtain ⟨a0, cap, rfl, hle⟩ := h.room
    have hus : us = [] := List.length_eq_zero_iff.1 (by rw [hul]; simp)
    subst hus
    have hsrc : Src Tryz.prog i.size tt (.slice ao 0 c) 0 [] w := by
      cases ao with
      | none => exact Src.ofNil w hu c
      | some a => exact Src.ofSlice w hu a 0 c [] (by simp) (fun j u h => by simp at h) (fun u h => by cases h)
    refine ⟨_, _, run_append_nothing w tt tt ty t i hu hi a0 n cap hle _ hsrc, ⟨rfl, rfl, rfl, Nat.le_refl _, fun _ _ _ => rfl⟩, ?_⟩
    rw [List.append_nil]
    exact h.carry fun b _ hS => ⟨Or.inl hS, rfl⟩
  · obtain ⟨a, rfl, hc⟩ := hnews hm
    exact run_rw_app (c := c) tt ty hu hinfo hzs hk hby h hul hc h1 hl (Or.inl hm)
theorem appAll {ops : Array Oper} {rest : List Oper} {o : Oper} {a : Act} {w : World} {Q : Exit → Act → World → Prop} (s x : Operand) (tt : TypeId) (hop : o.op = .call { callee := .builtin .append, args := #[s, x], argTypes := #[tt, tt] }) (hw : Region.wanted o (yielded ops a.tmps) = true)
    {S : Nat → Prop} {k t by' n m c : Nat} {v z : Value} {xs us : List Value} {ao : Option Addr} (hs : a.eval s = v) (hx : a.eval x = .slice ao m c) (hu : Tryz.prog.underlying tt = some (.slice t)) (hinfo : (Tryz.prog.info? t).map (fun i => (i.zero, i.size, i.bytes)) = some (some z, k, by')) (hzs : z.cells.size = k) (hk : 0 < k) (hby : by' ≤ 4096)
    (h : Rw S k t w v n xs) (hul : us.length = m * k) (hnews : m ≠ 0 → ∃ a, ao = some a ∧ ∀ j x, us[j]? = some x → w.cell? (a.add j) = some x) (h1 : ∀ x ∈ us, x.oneCell' = true) (hl : n + m < 2147483648)
    (hK : ∀ v' w', Apd w v w' → Rw (fun b => S b ∨ w.heap.size ≤ b) k t w' v' (n + m) (xs ++ us) → wpList Tryz.prog ops Q rest (a.put o.dst v') w') : wpList Tryz.prog ops Q (o :: rest) a w := by
  obtain ⟨v', w', hr, hA, hR⟩ := run_rw_all (c := c) tt o.type hu hinfo hzs hk hby h hul hnews h1 hl
  unfold wpList
  rw [if_pos hw]
  refine Or.inl ?_
  unfold Oper.wp
  simp [execOp, hop, resolve, invoke, builtin, hs, hx, hr, Result.andThen]
  exact hK v' w' hA hR
/-- The same, in a region that draws its order. -/
theorem stepAll {ops : Array Oper} {o : Oper} {a : Act} {w : World} {K : Act → World → Prop} {Q : Exit → Act → World → Prop} {E : Prop} (s x : Operand) (tt : TypeId) (hop : o.op = .call { callee := .builtin .append, args := #[s, x], argTypes := #[tt, tt] }) (hw : Region.wanted o (yielded ops a.tmps) = true)
    {S : Nat → Prop} {k t by' n m c : Nat} {v z : Value} {xs us : List Value} {ao : Option Addr} (hs : a.eval s = v) (hx : a.eval x = .slice ao m c) (hu : Tryz.prog.underlying tt = some (.slice t)) (hinfo : (Tryz.prog.info? t).map (fun i => (i.zero, i.size, i.bytes)) = some (some z, k, by')) (hzs : z.cells.size = k) (hk : 0 < k) (hby : by' ≤ 4096)
    (h : Rw S k t w v n xs) (hul : us.length = m * k) (hnews : m ≠ 0 → ∃ a, ao = some a ∧ ∀ j x, us[j]? = some x → w.cell? (a.add j) = some x) (h1 : ∀ x ∈ us, x.oneCell' = true) (hl : n + m < 2147483648)
    (hK : ∀ v' w', Apd w v w' → Rw (fun b => S b ∨ w.heap.size ≤ b) k t w' v' (n + m) (xs ++ us) → K (a.put o.dst v') w') : if Region.wanted o (yielded ops a.tmps) = true then Oper.wp Tryz.prog o a w K Q else E := by
  rw [if_pos hw]
  obtain ⟨v', w', hr, hA, hR⟩ := run_rw_all (c := c) tt o.type hu hinfo hzs hk hby h hul hnews h1 hl
  unfold Oper.wp
  simp [execOp, hop, resolve, invoke, builtin, hs, hx, hr, Result.andThen]
  exact hK v' w' hA hR
/-- One cell of a row is set. -/
theorem Rw.set {S : Nat → Prop} {k t : Nat} {w : World} {g o n cap : Nat} {xs : List Value} (h : Rw S k t w (.slice (some ⟨g, o, none⟩) n cap) n xs) (p : Nat) (hp : p < n * k) (x : Value) : Rw S k t (w.setCell ⟨g, o + p, none⟩ x) (.slice (some ⟨g, o, none⟩) n cap) n (xs.set p x) := by
  refine ⟨by rw [List.length_set]; exact h.1, ?_⟩
  rcases h.2 with ⟨e, _⟩ | ⟨g', o', cap', cur, e, h2, h3, h4, h5, h6⟩
  · cases e
  · obtain ⟨⟨rfl, rfl⟩, rfl⟩ : (g = g' ∧ o = o') ∧ cap = cap' := by simpa using e
    refine Or.inr ⟨g, o, cap, _, rfl, h2, heap_setCell_same w g (o + p) cur t x h3, h4, by simpa using h5, ?_⟩
    have hle : n * k ≤ cap * k := Nat.mul_le_mul_right _ h4
    apply List.ext_getElem?
    intro j
    rw [List.getElem?_take, List.getElem?_drop, List.getElem?_set]
    by_cases hj : j < n * k
    · rw [if_pos hj, Array.getElem?_toList, Array.getElem?_setIfInBounds]
      by_cases e : p = j
      · subst e
        rw [if_pos rfl, if_pos rfl, if_pos (by omega), if_pos (by rw [h.1]; exact hp)]
      · rw [if_neg (by omega), if_neg e, ← h6, List.getElem?_take, if_pos hj, List.getElem?_drop, Array.getElem?_toList]
    · rw [if_neg hj, if_neg (by omega), List.getElem?_eq_none (by rw [h.1]; omega)]
end Go.Proofs.YtdehlnaoehjehaaGreatDoor
namespace Go.Proofs.YtdehlnaoehjehaaGreatDoor
open Go.RowKit Go.Sort

/-- The numbers d lie in block g from o on, with room for cap. -/
def Dt (w : World) (g o cap t : Nat) (d : Array Int) : Prop := ∃ cur, w.heap[g]? = some (.cells cur t (0, 0)) ∧ d.size ≤ cap ∧ o + cap ≤ cur.size ∧ ∀ j, j < d.size → cur[o + j]? = some (.int .u64 d[j]!)
section
variable {w w' : World} {g o cap t : Nat} {d : Array Int}
theorem Dt.cell (h : Dt w g o cap t d) (j : Nat) (hj : j < d.size) : w.cell? ⟨g, o + j, none⟩ = some (.int .u64 d[j]!) := by
  obtain ⟨cur, h1, _, _, h4⟩ := h
  rw [cell_of_row w g _ _ _ _ h1]; exact h4 j hj
theorem Dt.free (h : Dt w g o cap t d) (k : Nat) : w.frozen? ⟨g, k, none⟩ = false := by
  obtain ⟨cur, h1, _⟩ := h
  simp [World.frozen?, h1]
theorem Dt.lt (h : Dt w g o cap t d) : g < w.heap.size := by
  obtain ⟨cur, h1, _⟩ := h
  exact (Array.getElem?_eq_some_iff.1 h1).1
theorem Dt.same (h : Dt w g o cap t d) (hb : w'.heap[g]? = w.heap[g]?) : Dt w' g o cap t d := by
  obtain ⟨cur, h1, h2⟩ := h
  exact ⟨cur, hb.trans h1, h2⟩
theorem Dt.set (h : Dt w g o cap t d) (j : Nat) (hj : j < d.size) (x : Int) : Dt (w.setCell ⟨g, o + j, none⟩ (.int .u64 x)) g o cap t (d.setIfInBounds j x) := by
  obtain ⟨cur, h1, h2, h3, h4⟩ := h
  refine ⟨_, heap_setCell_same w g (o + j) _ _ _ h1, by simpa using h2, by simpa using h3, fun i hi => ?_⟩
  rw [Array.getElem?_setIfInBounds]
  by_cases e : i = j
  · subst e
    rw [if_pos rfl, if_pos (by omega), getElem!_set_same d i x hj]
  · rw [if_neg (by omega), getElem!_set_other d j i x e]
    exact h4 i (by simpa using hi)
/-- Two numbers change places. -/
theorem Dt.swp (h : Dt w g o cap t d) (i j : Nat) (hi : i < d.size) (hj : j < d.size) : Dt ((w.setCell ⟨g, o + i, none⟩ (.int .u64 d[j]!)).setCell ⟨g, o + j, none⟩ (.int .u64 d[i]!)) g o cap t (Go.Sort.swp d i j) :=
  (h.set i hi d[j]!).set j (by simpa using hj) d[i]!
end
set_option maxHeartbeats 800000 in
theorem nanU_any (x : Int) (w : World) : Calls Tryz.prog 202 #[.int .u64 x] w fun e w' => e = .returned (.bool false) ∧ w' = w := by
  have hx : (x != x) = false := by simp
  go_enter Tryz.func202, Tryz.ntmps202
  go_wp2
  go_ret
  exact ⟨rfl, rfl⟩
set_option maxHeartbeats 800000 in
theorem less_any (x y : Int) (w : World) : Calls Tryz.prog 165 #[.int .u64 x, .int .u64 y] w fun e w' => e = .returned (.bool (ltInt x y)) ∧ w' = w := by
  have HL : Hid (ltInt x y = decide (x < y)) := rfl
  go_enter Tryz.func165, Tryz.ntmps165
  go_wp2_with (go_at_call 202; refine (nanU_any _ _).mono ?_; rintro e z ⟨rfl, hz⟩; rw [hz]; clear hz z)
  go_ret
  exact ⟨by rw [HL.out]; rfl, rfl⟩
end Go.Proofs.YtdehlnaoehjehaaGreatDoor
namespace Go.Proofs.YtdehlnaoehjehaaGreatDoor
open Go.RowKit Go.Sort

/-- What a sorting step leaves: the numbers d', nothing else turned. -/
structure Sd (w : World) (g o cap t : Nat) (d' : Array Int) (w' : World) : Prop where
  only : Only (fun b => b = g) w w'
  dt : Dt w' g o cap t d'
theorem Sd.refl {w : World} {g o cap t : Nat} {d : Array Int} (h : Dt w g o cap t d) : Sd w g o cap t d w := ⟨Only.refl _ _, h⟩
theorem Sd.trans {w w' w'' : World} {g o cap t : Nat} {d d' : Array Int} (h : Sd w g o cap t d w') (k : Sd w' g o cap t d' w'') : Sd w g o cap t d' w'' := ⟨h.only.trans k.only, k.dt⟩
theorem Sd.drew {w w' : World} {g o cap t : Nat} {d : Array Int} (h : Sd w g o cap t d w') : Sd w g o cap t d w'.drew := ⟨h.only.drew, h.dt⟩
theorem Sd.drewN {w w' : World} {g o cap t : Nat} {d : Array Int} (h : Sd w g o cap t d w') (n : Nat) : Sd w g o cap t d (w'.drewN n) := ⟨⟨h.only.os, h.only.tape, h.only.output, h.only.size, h.only.block⟩, h.dt⟩
theorem Sd.swp {w w' : World} {g o cap t : Nat} {d : Array Int} (h : Sd w g o cap t d w') (i j : Nat) (hi : i < d.size) (hj : j < d.size) : Sd w g o cap t (Go.Sort.swp d i j) ((w'.setCell ⟨g, o + i, none⟩ (.int .u64 d[j]!)).setCell ⟨g, o + j, none⟩ (.int .u64 d[i]!)) :=
  ⟨(h.only.setCell (p := ⟨g, o + i, none⟩) rfl _).setCell (p := ⟨g, o + j, none⟩) rfl _, h.dt.swp i j hi hj⟩
theorem swp_size (d : Array Int) (i j : Nat) : (Go.Sort.swp d i j).size = d.size := by simp [Go.Sort.swp]
theorem insInner_size (a : Nat) : ∀ (j : Nat) (d : Array Int), (insInner ltInt a j d).size = d.size
  | 0, d => rfl
  | j + 1, d => by
    unfold insInner
    split
    · rw [insInner_size a j, swp_size]
    · rfl
set_option maxHeartbeats 3200000 in
set_option maxRecDepth 100000 in
theorem ins_any (w : World) (g o cap t : Nat) (d : Array Int) (a b : Nat) (h : Dt w g o cap t d) (hab : a ≤ b) (hb : b ≤ d.size) (hs : d.size < 4611686018427387904) :
    Calls Tryz.prog 159 #[.slice (some ⟨g, o, none⟩) d.size cap, .int .i64 a, .int .i64 b] w fun e w' => e = .returned (.tuple #[]) ∧ Sd w g o cap t (insertionSort ltInt d a b) w' := by
  have HS := hid (Sd.refl h)
  obtain ⟨N, hN⟩ : ∃ N, N = d.size := ⟨_, rfl⟩
  have HI : Hid (insertionSort ltInt d a b = insOuter ltInt a b (a + 1) d) := rfl
  rw [← hN] at hb hs ⊢
  have HN : Hid (N = d.size) := hN
  clear h hN
  go_enter Tryz.func159, Tryz.ntmps159
  go_upto_region 1 with fail
  go_loopw [6] (fun i wr => ∃ (k : Nat) (d' : Array Int), (a + 1 ≤ k ∧ (k ≤ b ∨ k = a + 1)) ∧ i = .int .i64 k ∧ d'.size = N ∧ Sd w g o cap t d' wr ∧ insOuter ltInt a b k d' = insertionSort ltInt d a b) (fun i _ => b - (intOf i).toNat)
  case atStart => exact ⟨a + 1, d, ⟨by omega, by omega⟩, by go_num, HN.out.symm, HS.out, HI.out.symm⟩
  case round =>
    obtain ⟨k, d', ⟨hk1, hk2⟩, rfl, hsz, hS, hE⟩ := hrel
    generalize wr = wx at *
    have HS' := hid hS
    have HE := hid hE
    have HZ := hid hsz
    clear hS hE hsz HS
    by_cases hlt : k < b
    · have hkl : decide ((k : Int) < (b : Int)) = true := decide_eq_true (by omega)
      have HE2 : Hid (insOuter ltInt a b (k + 1) (insInner ltInt a k d') = insertionSort ltInt d a b) := by
        have := HE.out
        rw [insOuter, if_pos hlt] at this
        exact this
      go_upto_region 4 with fail
      go_loopw [7] (fun i wr => ∃ (j : Nat) (d2 : Array Int), j ≤ k ∧ i = .int .i64 j ∧ d2.size = N ∧ Sd w g o cap t d2 wr ∧ insInner ltInt a j d2 = insInner ltInt a k d') (fun i _ => (intOf i).toNat)
      case atStart => exact ⟨k, d', by omega, rfl, HZ.out, HS'.out, rfl⟩
      case round =>
        obtain ⟨j, d2, hj, rfl, hsz, hS, hE⟩ := hrel
        generalize wr = wy at *
        have HS2 := hid hS
        have HEi := hid hE
        have HZ2 := hid hsz
        clear hS hE hsz HS'
        by_cases hja : a < j
        · obtain ⟨i, rfl⟩ : ∃ i, j = i + 1 := ⟨j - 1, by omega⟩
          have hjl : decide ((a : Int) < (i : Int) + 1) = true := decide_eq_true (by omega)
          have c1 := HS2.out.dt.cell (i + 1) (by rw [HZ2.out]; omega)
          have c0 := HS2.out.dt.cell i (by rw [HZ2.out]; omega)
          have f1 := HS2.out.dt.free (o + (i + 1))
          have f0 := HS2.out.dt.free (o + i)
          have hi1 : ((i : Int) + 1) < (N : Int) := by omega
          have hi0 : (i : Int) < (N : Int) := by omega
          have HLs := hid (fun w => less_any d2[i + 1]! d2[i]! w)
          obtain ⟨x1, hx1⟩ : ∃ x, x = d2[i + 1]! := ⟨_, rfl⟩
          obtain ⟨x0, hx0⟩ : ∃ x, x = d2[i]! := ⟨_, rfl⟩
          rw [← hx1] at c1
          rw [← hx0] at c0
          rw [← hx1, ← hx0] at HLs
          have HX := hid (And.intro hx1 hx0)
          clear hx1 hx0
          cases hc : ltInt x1 x0 with
          | true =>
            rw [hc] at HLs
            have HE3 : Hid (insInner ltInt a i (Go.Sort.swp d2 (i + 1) i) = insInner ltInt a k d') := by
              have := HEi.out
              rw [insInner, if_pos (by rw [← HX.out.1, ← HX.out.2, hc]; simp; omega)] at this
              exact this
            have HSw : Hid (∀ n, Sd w g o cap t (Go.Sort.swp d2 (i + 1) i) (((wy.drewN n).drew.setCell ⟨g, o + (i + 1), none⟩ (.int .u64 x0)).setCell ⟨g, o + i, none⟩ (.int .u64 x1))) := fun n => by
              have hSw := (HS2.out.drewN n).drew.swp (i + 1) i (by rw [HZ2.out]; omega) (by rw [HZ2.out]; omega)
              rw [← HX.out.1, ← HX.out.2] at hSw
              exact hSw
            clear hc
            go_wp2
            go_quiet (first | (go_at_call 165; refine Calls.quiet_of_same (HLs.out _)))
            trace_state
            go_wp2
            go_region
            go_wp2
            go_roundw
            case rel => exact ⟨i, _, by omega, by go_num, by rw [swp_size, HZ2.out], HSw.out _, HE3.out⟩
            case measure => simp [intOf]
          | false =>
            rw [hc] at HLs
            have HE3 : Hid (d2 = insInner ltInt a k d') := by
              have := HEi.out
              rw [insInner, if_neg (by rw [← HX.out.1, ← HX.out.2, hc]; simp)] at this
              exact this
            clear hc
            go_wp2
            go_quiet (first | (go_at_call 165; refine Calls.quiet_of_same (HLs.out _)))
            go_wp2
            go_roundw
            case rel => exact ⟨k + 1, d2, ⟨by omega, by omega⟩, by go_num, HZ2.out, HS2.out.drewN _, by rw [HE3.out]; exact HE2.out⟩
            case measure => simp [intOf]; omega
        · have hjl : decide ((a : Int) < (j : Int)) = false := decide_eq_false (by omega)
          have HE3 : Hid (d2 = insInner ltInt a k d') := by
            have := HEi.out
            cases j with
            | zero => exact this
            | succ i =>
              rw [insInner, if_neg (by simp; omega)] at this
              exact this
          go_wp2
          go_quiet (fail)
          go_wp2
          go_roundw
          case rel => exact ⟨k + 1, d2, ⟨by omega, by omega⟩, by go_num, HZ2.out, HS2.out.drewN _, by rw [HE3.out]; exact HE2.out⟩
          case measure => simp [intOf]; omega
    · have hkl : decide ((k : Int) < (b : Int)) = false := decide_eq_false (by omega)
      have HE2 : Hid (d' = insertionSort ltInt d a b) := by
        have := HE.out
        rw [insOuter, if_neg hlt] at this
        exact this
      go_wp2
      first | go_end0 | refine bodyPost_ret (results_none rfl _ _ _) rfl ?_
      exact ⟨rfl, by rw [← HE2.out]; exact HS'.out⟩
end Go.Proofs.YtdehlnaoehjehaaGreatDoor
namespace Go.Proofs.YtdehlnaoehjehaaGreatDoor
open Go.RowKit Go.Sort

/-- A counter in a block of its own. -/
def Ctr (w : World) (q : Nat) (s : Nat) : Prop := w.heap[q]? = some (.cells #[.int .i64 (s : Int)] 3 (0, 0))
theorem Ctr.cell {w : World} {q s : Nat} (h : Ctr w q s) : w.cell? ⟨q, 0, none⟩ = some (.int .i64 (s : Int)) := (cell_of_row w q 0 _ _ _ h).trans rfl
theorem Ctr.free {w : World} {q s : Nat} (h : Ctr w q s) : w.frozen? ⟨q, 0, none⟩ = false := by
  have : w.heap[q]? = some (.cells #[.int .i64 (s : Int)] 3 (0, 0)) := h
  simp [World.frozen?, this]
/-- The numbers as they were, and a counter. -/
structure Ct (w : World) (q s : Nat) (w' : World) : Prop where
  only : Only (fun b => b = q) w w'
  ct : Ctr w' q s
theorem Ct.drewN {w w' : World} {q s : Nat} (h : Ct w q s w') (n : Nat) : Ct w q s (w'.drewN n) := ⟨⟨h.only.os, h.only.tape, h.only.output, h.only.size, h.only.block⟩, h.ct⟩
theorem Ct.trans {w w' w'' : World} {q s s' : Nat} (h : Ct w q s w') (k : Ct w' q s' w'') : Ct w q s' w'' := ⟨h.only.trans k.only, k.ct⟩
theorem Ct.inc {w w' : World} {q s s' : Nat} (h : Ct w q s w') : Ct w q s' (w'.setCell ⟨q, 0, none⟩ (.int .i64 (s' : Int))) :=
  ⟨h.only.setCell (p := ⟨q, 0, none⟩) rfl _, by unfold Ctr; rw [heap_setCell_same w' q 0 _ _ _ h.ct]; rfl⟩
def O2P (w : World) (d : Array Int) (a b q s : Nat) (e : Ending) (w' : World) : Prop := e = .returned (.tuple #[.int .i64 ((order2 ltInt d a b s).1 : Nat), .int .i64 ((order2 ltInt d a b s).2.1 : Nat)]) ∧ Ct w q (order2 ltInt d a b s).2.2 w'
set_option maxHeartbeats 3200000 in
set_option maxRecDepth 100000 in
theorem o2_any (w : World) (g o cap t q : Nat) (d : Array Int) (a b s : Nat) (h : Dt w g o cap t d) (hq : Ctr w q s) (ha : a < d.size) (hb : b < d.size) (_hs : d.size < 4611686018427387904) (hss : s < 1000) :
    Calls Tryz.prog 217 #[.slice (some ⟨g, o, none⟩) d.size cap, .int .i64 a, .int .i64 b, .pointer (some ⟨q, 0, none⟩)] w (O2P w d a b q s) := by
  have ca := h.cell a ha
  have cb := h.cell b hb
  have hia : (a : Int) < (d.size : Int) := by omega
  have hib : (b : Int) < (d.size : Int) := by omega
  have HLs := hid (fun w => less_any d[b]! d[a]! w)
  have HO : Hid (∀ c, ltInt d[b]! d[a]! = c → order2 ltInt d a b s = if c = true then (b, a, s + 1) else (a, b, s)) := fun c hc => by unfold order2; rw [hc]
  have HC : Hid (Ct w q s w) := ⟨Only.refl _ _, hq⟩
  have cq := hq.cell
  have fq := hq.free
  obtain ⟨xa, hxa⟩ : ∃ x, x = d[a]! := ⟨_, rfl⟩
  obtain ⟨xb, hxb⟩ : ∃ x, x = d[b]! := ⟨_, rfl⟩
  rw [← hxa] at ca HLs HO
  rw [← hxb] at cb HLs HO
  clear hxa hxb h hq ha hb
  generalize d.size = N at *
  cases hc : ltInt xb xa with
  | true =>
    rw [hc] at HLs
    have HO2 : Hid (order2 ltInt d a b s = (b, a, s + 1)) := by
      have := HO.out true hc
      exact this
    clear hc HO
    go_enter Tryz.func217, Tryz.ntmps217
    go_wp2
    go_quiet (first | (go_at_call 165; refine Calls.quiet_of_same (HLs.out _)))
    go_wp2
    go_ret2
    refine ⟨by rw [HO2.out]; rfl, ?_⟩
    rw [HO2.out]
    exact (HC.out.drewN _).inc (s' := s + 1)
  | false =>
    rw [hc] at HLs
    have HO2 : Hid (order2 ltInt d a b s = (a, b, s)) := by
      have := HO.out false hc
      exact this
    clear hc HO
    go_enter Tryz.func217, Tryz.ntmps217
    go_wp2
    go_quiet (first | (go_at_call 165; refine Calls.quiet_of_same (HLs.out _)))
    go_wp2
    go_ret2
    refine ⟨by rw [HO2.out]; rfl, ?_⟩
    rw [HO2.out]
    exact HC.out.drewN _
theorem order2_bd {d : Array Int} {a b s n : Nat} (ha : a < n) (hb : b < n) : (order2 ltInt d a b s).1 < n ∧ (order2 ltInt d a b s).2.1 < n ∧ s ≤ (order2 ltInt d a b s).2.2 ∧ (order2 ltInt d a b s).2.2 ≤ s + 1 := by
  unfold order2
  split <;> simp <;> omega
set_option maxHeartbeats 3200000 in
set_option maxRecDepth 100000 in
theorem med_any (w : World) (g o cap t q : Nat) (d : Array Int) (a b c s : Nat) (h : Dt w g o cap t d) (hq : Ctr w q s) (hgq : g ≠ q) (ha : a < d.size) (hb : b < d.size) (hc : c < d.size) (hs : d.size < 4611686018427387904) (hss : s < 900) :
    Calls Tryz.prog 201 #[.slice (some ⟨g, o, none⟩) d.size cap, .int .i64 a, .int .i64 b, .int .i64 c, .pointer (some ⟨q, 0, none⟩)] w fun e w' => e = .returned (.int .i64 ((median ltInt d a b c s).1 : Nat)) ∧ Ct w q (median ltInt d a b c s).2 w' := by
  have HM : Hid (median ltInt d a b c s = ((order2 ltInt d (order2 ltInt d a b s).1 (order2 ltInt d (order2 ltInt d a b s).2.1 c (order2 ltInt d a b s).2.2).1 (order2 ltInt d (order2 ltInt d a b s).2.1 c (order2 ltInt d a b s).2.2).2.2).2.1, (order2 ltInt d (order2 ltInt d a b s).1 (order2 ltInt d (order2 ltInt d a b s).2.1 c (order2 ltInt d a b s).2.2).1 (order2 ltInt d (order2 ltInt d a b s).2.1 c (order2 ltInt d a b s).2.2).2.2).2.2)) := rfl
  have H1 := hid (o2_any w g o cap t q d a b s h hq ha hb hs (by omega))
  have hb1 := order2_bd (d := d) (s := s) ha hb
  have HD : Hid (∀ w' s', Ct w q s' w' → Dt w' g o cap t d ∧ Ctr w' q s') := fun w' s' hk => ⟨h.same (hk.only.block g hgq), hk.ct⟩
  unfold O2P at H1
  generalize order2 ltInt d a b s = r1 at *
  have hb2 := order2_bd (d := d) (s := r1.2.2) hb1.2.1 hc
  have H2 : Hid (∀ w', Ct w q r1.2.2 w' → Calls Tryz.prog 217 #[.slice (some ⟨g, o, none⟩) d.size cap, .int .i64 (r1.2.1 : Nat), .int .i64 c, .pointer (some ⟨q, 0, none⟩)] w' (O2P w' d r1.2.1 c q r1.2.2)) := fun w' hk => o2_any w' g o cap t q d _ c _ (HD.out w' _ hk).1 (HD.out w' _ hk).2 hb1.2.1 hc hs (by omega)
  unfold O2P at H2
  generalize order2 ltInt d r1.2.1 c r1.2.2 = r2 at *
  have hb3 := order2_bd (d := d) (s := r2.2.2) hb1.1 hb2.1
  have H3 : Hid (∀ w', Ct w q r2.2.2 w' → Calls Tryz.prog 217 #[.slice (some ⟨g, o, none⟩) d.size cap, .int .i64 (r1.1 : Nat), .int .i64 (r2.1 : Nat), .pointer (some ⟨q, 0, none⟩)] w' (O2P w' d r1.1 r2.1 q r2.2.2)) := fun w' hk => o2_any w' g o cap t q d _ _ _ (HD.out w' _ hk).1 (HD.out w' _ hk).2 hb1.1 hb2.1 hs (by omega)
  unfold O2P at H3
  generalize order2 ltInt d r1.1 r2.1 r2.2.2 = r3 at *
  generalize d.size = N at *
  clear h hq HD
  go_enter Tryz.func201, Tryz.ntmps201
  go_wp2_with (first
    | (
       go_at_call 217; refine (K3.out).mono ?_; rintro e x3 ⟨rfl, h1⟩
       have HZ := hid (K2.out.trans h1)
       clear K3 h1)
    | (
       go_at_call 217; refine (K1.out).mono ?_; rintro e x2 ⟨rfl, h1⟩
       have K2 := hid (K0.out.trans h1)
       have K3 := hid (H3.out x2 K2.out)
       clear K1 h1 H3)
    | (
       go_at_call 217; refine (H1.out).mono ?_; rintro e x1 ⟨rfl, h1⟩
       have K0 := hid h1
       have K1 := hid (H2.out x1 h1)
       clear H1 h1 H2))
  go_ret
  refine ⟨by rw [HM.out]; rfl, ?_⟩
  rw [HM.out]
  exact HZ.out
theorem median_bd {d : Array Int} {a b c s n : Nat} (ha : a < n) (hb : b < n) (hc : c < n) : (median ltInt d a b c s).1 < n ∧ s ≤ (median ltInt d a b c s).2 ∧ (median ltInt d a b c s).2 ≤ s + 3 := by
  unfold median
  have h1 := order2_bd (d := d) (s := s) ha hb
  have h2 := order2_bd (d := d) (s := (order2 ltInt d a b s).2.2) h1.2.1 hc
  have h3 := order2_bd (d := d) (s := (order2 ltInt d (order2 ltInt d a b s).2.1 c (order2 ltInt d a b s).2.2).2.2) h1.1 h2.1
  refine ⟨h3.2.1, ?_, ?_⟩ <;> simp only <;> omega
set_option maxHeartbeats 3200000 in
set_option maxRecDepth 100000 in
theorem medA_any (w : World) (g o cap t q : Nat) (d : Array Int) (a s : Nat) (h : Dt w g o cap t d) (hq : Ctr w q s) (hgq : g ≠ q) (ha0 : 1 ≤ a) (ha : a + 1 < d.size) (hs : d.size < 4611686018427387904) (hss : s < 900) :
    Calls Tryz.prog 200 #[.slice (some ⟨g, o, none⟩) d.size cap, .int .i64 a, .pointer (some ⟨q, 0, none⟩)] w fun e w' => e = .returned (.int .i64 ((medianAdjacent ltInt d a s).1 : Nat)) ∧ Ct w q (medianAdjacent ltInt d a s).2 w' := by
  have H1 := hid (med_any w g o cap t q d (a - 1) a (a + 1) s h hq hgq (by omega) (by omega) ha hs hss)
  rw [show ((a - 1 : Nat) : Int) = (a : Int) - 1 by omega, show ((a + 1 : Nat) : Int) = (a : Int) + 1 by omega] at H1
  have HM : Hid (medianAdjacent ltInt d a s = median ltInt d (a - 1) a (a + 1) s) := rfl
  generalize median ltInt d (a - 1) a (a + 1) s = r at *
  generalize d.size = N at *
  clear h hq
  go_enter Tryz.func200, Tryz.ntmps200
  go_wp2_with (go_at_call 201; refine (H1.out).mono ?_; rintro e x1 ⟨rfl, h1⟩; have K1 := hid h1; clear H1 h1)
  go_ret
  refine ⟨by rw [HM.out]; rfl, ?_⟩
  rw [HM.out]
  exact K1.out
end Go.Proofs.YtdehlnaoehjehaaGreatDoor
