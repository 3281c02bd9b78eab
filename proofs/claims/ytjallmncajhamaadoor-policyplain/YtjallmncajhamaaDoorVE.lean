/-
  Proved here: the document's Size and Deep of a term. Conditions: limits of at most 4096; Deep: at most 4096 terms; the term lies in old memory.
-/
import Derived.Test.YtjallmncajhamaaDoorVD
namespace Go.Proofs.YtjallmncajhamaaDoor
open Go.RowKit
set_option maxRecDepth 100000

theorem dpsI_snoc : ∀ (ks : List Ti) (t : Ti), dpsI (ks ++ [t]) = max (dpsI ks) (dpI t)
  | [], t => by rw [List.nil_append, dpsI, dpsI, dpsI]; omega
  | a :: ks, t => by rw [List.cons_append, dpsI, dpsI, dpsI_snoc ks t]; omega
theorem dpsI_take {ks : List Ti} {j : Nat} (hj : j < ks.length) : dpsI (ks.take (j + 1)) = max (dpsI (ks.take j)) (dpI ks[j]) := by
  rw [List.take_add_one, List.getElem?_eq_getElem hj]
  exact dpsI_snoc _ _
/-- a box of the argument, what it reads -/
structure Bx1 (w : World) (op fd : Int) (n : Nat) (v : Value) (W1 : World) : Prop where
  b : Below w.heap.size w W1
  n : W1.heap[w.heap.size]? = some (.cells (tic op fd n v) 26 (0, 0))
theorem Bx1.new (w : World) (op fd : Int) (n : Nat) (v : Value) : Bx1 w op fd n v (w.alloc (.cells (tic op fd n v) 26)) := ⟨(Below.refl _ _).alloc (Nat.le_refl _) _, heap_alloc_new _ _⟩
theorem Bx1.on {w : World} {op fd : Int} {n : Nat} {v : Value} {W1 W2 : World} (h : Bx1 w op fd n v W1) (hb : Below W1.heap.size W1 W2) : Bx1 w op fd n v W2 := ⟨h.b.trans (hb.mono h.b.size), (hb.block _ (Array.getElem?_eq_some_iff.1 h.n).1).trans h.n⟩
set_option maxHeartbeats 12800000 in
theorem rsize_any : ∀ (N m : Nat) (t : Ti) (cs : Array Value) (w : World), m < N → m ≤ 4096 → TiV (fun b => b < w.heap.size) w t cs → Calls Tryd.prog 64 #[.agg cs, .int .i64 ((m : Nat) : Int)] w fun e w' => e = .returned (.int .i64 ((min (szI t) (m + 1) : Nat) : Int)) ∧ Below w.heap.size w w'
  | 0, m, t, cs, w, hN, _, _ => by omega
  | N + 1, m, .mk op fd n ks, cs, w, hN, hm, ht => by
    have HIH := hid (rsize_any N)
    obtain ⟨v, xs, rfl, h2, h3⟩ := ht.get
    obtain ⟨ao, cap, rfl⟩ := h2.form
    have HSz := hid (szI_mk op fd n ks)
    have HX : Hid (Bx1 w op fd n (.slice ao ks.length cap) (w.alloc (.cells (tic op fd n (.slice ao ks.length cap)) 26))) := Bx1.new _ _ _ _ _
    have H2 := hid h2
    have H3 := hid h3
    have HSt : Hid ((1 : Int) = ((min (1 + szsI (ks.take 0)) (m + 1) : Nat) : Int)) := by show _ = _; rw [List.take_zero, szsI]; omega
    clear h2 h3 ht
    go_enter Tryd.func64, Tryd.ntmps64
    go_upto_region 1 with fail
    generalize w.alloc (.cells (tic op fd n (.slice ao ks.length cap)) 26) = W1 at HX ⊢
    go_upto_region 3 with fail
    go_loopw [5, 6] (fun nv iv wr => ∃ j : Nat, nv = .int .i64 ((min (1 + szsI (ks.take j)) (m + 1) : Nat) : Int) ∧ iv = .int .i64 ((j : Nat) : Int) ∧ j ≤ ks.length ∧ Hid (Bx1 w op fd n (.slice ao ks.length cap) wr)) (fun _ iv _ => ks.length - (intOf iv).toNat)
    case atStart => exact ⟨0, by rw [← HSt.out], rfl, Nat.zero_le _, HX⟩
    case round =>
      obtain ⟨j, rfl, rfl, hj1, HB⟩ := hrel
      clear HSt HX
      have c3 := (four_cells HB.out.n).2.2.2
      obtain ⟨a, ha⟩ : ∃ a, a = min (1 + szsI (ks.take j)) (m + 1) := ⟨_, rfl⟩
      rw [← ha]
      have HA := hid ha
      by_cases hj : j < ks.length
      · have hs3 : decide ((j : Int) < (ks.length : Int)) = true := by simp; omega
        by_cases hm1 : a ≤ m
        · have hsl := szsI_take hj
          have hlj := len_szsI ks j (by omega)
          have ha1 : a = 1 + szsI (ks.take j) := by omega
          have d1 : decide (a ≤ m) = true := decide_eq_true hm1
          have d1' : decide ((a : Int) ≤ (m : Int)) = true := decide_eq_true (by omega)
          obtain ⟨g, o, c0, e0, hcap, -, hgl, kcs, hkv, hra⟩ := TiL.rng H2.out H3.out hj
          cases e0
          have hlow := HB.out.b
          have hk4 := hkv.size
          obtain ⟨x0, x1, x2, x3, rfl⟩ := arr4 hk4
          have HRA : Hid (wr.rangeAt g (o + j * 4) (#[x0, x1, x2, x3] : Array Value).toList) := fun i v hi => (cell_same (hlow.block g hgl)).trans (hra i v hi)
          obtain ⟨m', hm'⟩ : ∃ m', m' = m - a := ⟨_, rfl⟩
          have hsub : IntKind.i64.wrap ((m : Int) - (a : Int)) = (m' : Int) := by rw [IntKind.wrap_i64]; omega
          have HC := hid (HIH.out m' ks[j] #[x0, x1, x2, x3] wr (by omega) (by omega) (ti_on hkv fun b hb hS => ⟨by have := hlow.size; omega, hlow.block b hb⟩))
          obtain ⟨r, hr⟩ : ∃ r, r = min (szI ks[j]) (m' + 1) := ⟨_, rfl⟩
          rw [← hr] at HC
          have hadd : IntKind.i64.wrap ((a : Int) + (r : Int)) = ((a + r : Nat) : Int) := by rw [IntKind.wrap_i64]; omega
          have HNx : Hid (a + r = min (1 + szsI (ks.take (j + 1))) (m + 1)) := by show _ = _; rw [hsl]; omega
          have hjc : j < cap := by omega
          have hw3 : IntKind.i64.wrap ((j : Int) + 1) = (j : Int) + 1 := by rw [IntKind.wrap_i64]; omega
          clear hkv hra hlow hsl hlj ha ha1 hm' hr HA
          go_wp2_with (first
            | (refine ldMid 26 (.tmp 23) rfl rfl g (o + j * 4) rfl #[x0, x1, x2, x3] _ Tryd.underlying26 rfl sizeTM HRA.out ?_)
            | (go_at_call 64; refine (HC.out).mono ?_; rintro e w4 ⟨rfl, hw⟩; have HB4 := hid (HB.out.on hw); clear hw HC))
          refine ⟨⟨j + 1, by rw [← HNx.out, Int.natCast_add], rfl, hj, HB4⟩, ?_⟩
          simp [intOf]; omega
        · have d1 : decide (a ≤ m) = false := decide_eq_false hm1
          have d1' : decide ((a : Int) ≤ (m : Int)) = false := decide_eq_false (by omega)
          have hle := szsI_le ks j
          have HRt : Hid (a = min (szI (.mk op fd n ks)) (m + 1)) := by show _ = _; rw [HSz.out]; omega
          clear ha hle HA
          go_wp2
          go_ret
          exact ⟨by rw [← HRt.out]; rfl, HB.out.b⟩
      · have hs3 : decide ((j : Int) < (ks.length : Int)) = false := by simp; omega
        obtain rfl : j = ks.length := by omega
        have HRt : Hid (a = min (szI (.mk op fd n ks)) (m + 1)) := by show _ = _; rw [HSz.out, ha, List.take_length]; omega
        clear ha HA
        go_wp2
        go_ret
        exact ⟨by rw [← HRt.out]; rfl, HB.out.b⟩
set_option maxHeartbeats 12800000 in
theorem rdeep_any : ∀ (d : Nat) (t : Ti) (cs : Array Value) (w : World), d ≤ 4096 → szI t ≤ 4096 → TiV (fun b => b < w.heap.size) w t cs → Calls Tryd.prog 65 #[.agg cs, .int .i64 ((d : Nat) : Int)] w fun e w' => e = .returned (.int .i64 ((min (dpI t) (d + 1) : Nat) : Int)) ∧ Below w.heap.size w w'
  | 0, .mk op fd n ks, cs, w, _, _, ht => by
    have hp := dpI_pos (.mk op fd n ks)
    have HRt : Hid (min (dpI (.mk op fd n ks)) (0 + 1) = 1) := by show _ = _; omega
    obtain ⟨v, xs, rfl, -, -⟩ := ht.get
    have HX : Hid (Bx1 w op fd n v (w.alloc (.cells (tic op fd n v) 26))) := Bx1.new _ _ _ _ _
    clear hp ht
    go_enter Tryd.func65, Tryd.ntmps65
    go_wp2
    go_ret
    exact ⟨by rw [HRt.out]; rfl, HX.out.b⟩
  | d + 1, .mk op fd n ks, cs, w, hd, hs, ht => by
    have HIH := hid (rdeep_any d)
    obtain ⟨v, xs, rfl, h2, h3⟩ := ht.get
    obtain ⟨ao, cap, rfl⟩ := h2.form
    have HDp := hid (dpI_mk op fd n ks)
    rw [szI] at hs
    have HX : Hid (Bx1 w op fd n (.slice ao ks.length cap) (w.alloc (.cells (tic op fd n (.slice ao ks.length cap)) 26))) := Bx1.new _ _ _ _ _
    have H2 := hid h2
    have H3 := hid h3
    have hkl : ks.length ≤ 4096 := by have := len_szsI ks ks.length (Nat.le_refl _); rw [List.take_length] at this; omega
    have HSs : Hid (∀ j (hj : j < ks.length), szI ks[j] ≤ 4096) := fun j hj => by have := szsI_mem (List.getElem_mem hj); omega
    have HSt : Hid ((0 : Int) = ((min (dpsI (ks.take 0)) (d + 1) : Nat) : Int)) := by show _ = _; rw [List.take_zero, dpsI]; omega
    obtain ⟨D, hD⟩ : ∃ D, D = d + 1 := ⟨_, rfl⟩
    have HD := hid hD
    rw [show ((d + 1 : Nat) : Int) = ((D : Nat) : Int) by rw [hD]]
    have g1 : decide (D ≤ 0) = false := decide_eq_false (by omega)
    have g1' : decide ((D : Int) ≤ 0) = false := decide_eq_false (by omega)
    have g1n : ¬ D = 0 := by omega
    have g1m : decide (D = 0) = false := decide_eq_false g1n
    have g2 : IntKind.i64.wrap ((D : Int) - 1) = (d : Int) := by rw [IntKind.wrap_i64]; omega
    clear h2 h3 ht hs hD
    go_enter Tryd.func65, Tryd.ntmps65
    go_upto_region 1 with fail
    generalize w.alloc (.cells (tic op fd n (.slice ao ks.length cap)) 26) = W1 at HX ⊢
    go_upto_region 5 with fail
    go_loopw [5, 6] (fun nv iv wr => ∃ j : Nat, nv = .int .i64 ((min (dpsI (ks.take j)) (d + 1) : Nat) : Int) ∧ iv = .int .i64 ((j : Nat) : Int) ∧ j ≤ ks.length ∧ Hid (Bx1 w op fd n (.slice ao ks.length cap) wr)) (fun _ iv _ => ks.length - (intOf iv).toNat)
    case atStart => exact ⟨0, by rw [← HSt.out], rfl, Nat.zero_le _, HX⟩
    case round =>
      obtain ⟨j, rfl, rfl, hj1, HB⟩ := hrel
      clear HSt HX
      have c3 := (four_cells HB.out.n).2.2.2
      obtain ⟨a, ha⟩ : ∃ a, a = min (dpsI (ks.take j)) (d + 1) := ⟨_, rfl⟩
      rw [← ha]
      by_cases hj : j < ks.length
      · have hs3 : decide ((j : Int) < (ks.length : Int)) = true := by simp; omega
        have hsl := dpsI_take hj
        obtain ⟨g, o, c0, e0, hcap, -, hgl, kcs, hkv, hra⟩ := TiL.rng H2.out H3.out hj
        cases e0
        have hlow := HB.out.b
        have hk4 := hkv.size
        obtain ⟨x0, x1, x2, x3, rfl⟩ := arr4 hk4
        have HRA : Hid (wr.rangeAt g (o + j * 4) (#[x0, x1, x2, x3] : Array Value).toList) := fun i v hi => (cell_same (hlow.block g hgl)).trans (hra i v hi)
        have HC := hid (HIH.out ks[j] #[x0, x1, x2, x3] wr (by omega) (HSs.out j hj) (ti_on hkv fun b hb hS => ⟨by have := hlow.size; omega, hlow.block b hb⟩))
        obtain ⟨r, hr⟩ : ∃ r, r = min (dpI ks[j]) (d + 1) := ⟨_, rfl⟩
        rw [← hr] at HC
        have HNx : Hid (max a r = min (dpsI (ks.take (j + 1))) (d + 1)) := by show _ = _; rw [hsl]; omega
        have hjc : j < cap := by omega
        have hw3 : IntKind.i64.wrap ((j : Int) + 1) = (j : Int) + 1 := by rw [IntKind.wrap_i64]; omega
        clear hkv hra hlow hsl ha hr
        go_wp2_with (first
          | (refine ldMid 26 (.tmp 20) rfl rfl g (o + j * 4) rfl #[x0, x1, x2, x3] _ Tryd.underlying26 rfl sizeTM HRA.out ?_)
          | (go_at_call 65; refine (HC.out).mono ?_; rintro e w4 ⟨rfl, hw⟩; have HB4 := hid (HB.out.on hw); clear hw HC))
        refine ⟨⟨j + 1, ?_, rfl, hj, HB4⟩, ?_⟩
        · rw [← HNx.out]
          congr 1
          split <;> omega
        · simp [intOf]; omega
      · have hs3 : decide ((j : Int) < (ks.length : Int)) = false := by simp; omega
        obtain rfl : j = ks.length := by omega
        have ha2 : a ≤ d + 1 := by omega
        have hw4 : IntKind.i64.wrap ((a : Int) + 1) = ((a + 1 : Nat) : Int) := by rw [IntKind.wrap_i64]; omega
        have HRt : Hid (a + 1 = min (dpI (.mk op fd n ks)) (d + 1 + 1)) := by show _ = _; rw [HDp.out, ha, List.take_length]; omega
        clear ha
        go_wp2
        go_ret
        exact ⟨by rw [← HRt.out]; rfl, HB.out.b⟩
end Go.Proofs.YtjallmncajhamaaDoor
