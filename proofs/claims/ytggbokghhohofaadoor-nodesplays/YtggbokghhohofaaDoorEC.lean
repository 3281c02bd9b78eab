/-
  Proved here: the document's own answer for layer 20: are two leaves' rows alike; rows in order, each once, or none. Condition: the rows lie where they are said to.
-/
import Derived.Test.YtggbokghhohofaaDoorEB
import Derived.Test.YtggbokghhohofaaDoorWB
namespace Go.Proofs.YtggbokghhohofaaDoor
open Go.RowKit
set_option maxRecDepth 100000

/-- What a comparison of two rows reads. -/
structure Hal2 (b1 i1 b2 i2 : Nat) (x y : Value) (w : World) : Prop where
  r1 : w.cell? ⟨b1, i1, none⟩ = some x
  r2 : w.cell? ⟨b2, i2, none⟩ = some y
theorem cmpR_self (r : List Ac) : cmpR r r = 0 := eqR_iff.2 (by unfold eqR; simp)
set_option maxHeartbeats 12800000 in
theorem ralike_any {T T' : Nat → Prop} (w : World) (u v : Value) (K L : List (List Ac)) (ha : Cps T w u K) (hb : Cps T' w v L) (_hTl : ∀ b, T b → b < w.heap.size) (_hTl' : ∀ b, T' b → b < w.heap.size) (hK : Kd K) (hL : Kd L) : Calls Tryd.prog 41 #[u, v] w fun e w' => ∃ r : Bool, e = .returned (.bool r) ∧ (r = true ↔ K = L) ∧ Below w.heap.size w w' := by
  obtain ⟨a0, c0, rfl, hc0⟩ := ha.form
  obtain ⟨a1, c1, rfl, hc1⟩ := hb.form
  have hKl := ha.len
  have hLl := hb.len
  have HA := hid (And.intro ha hb)
  clear ha hb
  by_cases hq : K.length = L.length
  case neg =>
    have t0 : ((K.length : Int) != (L.length : Int)) = true := bne_iff_ne.2 (by omega)
    have HQ := hid hq
    clear hq
    go_enter Tryd.func41, Tryd.ntmps41
    go_wp2
    go_ret
    exact ⟨false, rfl, by simpa using fun h => absurd (congrArg List.length h) HQ.out, Below.refl _ _⟩
  have t0 : ((K.length : Int) != (L.length : Int)) = false := by simp [hq]
  have HQ := hid hq
  go_enter Tryd.func41, Tryd.ntmps41
  go_upto_region 4 with fail
  clear t0
  go_loopw [5] (fun si wr => ∃ i : Nat, si = .int .i64 ((i : Nat) : Int) ∧ i ≤ K.length ∧ Hid (K.take i = L.take i) ∧ Hid (Below w.heap.size w wr)) (fun si _ => K.length - (intOf si).toNat)
  case atStart => exact ⟨0, rfl, Nat.zero_le _, by show _ = _; simp, Below.refl _ _⟩
  case round =>
    obtain ⟨i, rfl, hi1, HTk, HB⟩ := hrel
    by_cases hi : i < K.length
    · have hd : decide ((i : Int) < (K.length : Int)) = true := by simp; omega
      have hj : i < L.length := by omega
      have hiw : IntKind.i64.wrap ((i : Int) + 1) = (i : Int) + 1 := by rw [IntKind.wrap_i64]; omega
      obtain ⟨b1, o1, p1, rfl, -, hp1, hac1⟩ := (HA.out.1.on HB.out).cell1 i hi
      obtain ⟨b2, o2, p2, rfl, -, hp2, hac2⟩ := (HA.out.2.on HB.out).cell1 i hj
      have hik : i < c0 := by omega
      have hjk : i < c1 := by omega
      have HH : Hid (Hal2 b1 (o1 + i) b2 (o2 + i) p1 p2 wr) := ⟨hp1, hp2⟩
      have HE : Hid (cmpR K[i] L[i] = 0 → K[i] = L[i]) := fun e => eqR_eq (hK _ (List.getElem_mem hi)) (hL _ (List.getElem_mem hj)) (eqR_iff.1 e)
      have HS : Hid (K[i] = L[i] → cmpR K[i] L[i] = 0) := fun e => by rw [e]; exact cmpR_self _
      have HKi : Hid (K.take (i + 1) = K.take i ++ [K[i]]) := by show _ = _; simp
      have HLi : Hid (L.take (i + 1) = L.take i ++ [L[i]]) := by show _ = _; simp
      have HNe := hid (take_ne hi hj)
      have HOr := hid (order_any wr.drew p1 p2 _ _ (hac1.on (Gro.refl wr).drew.below) (hac2.on (Gro.refl wr).drew.below))
      have HLt : Hid (b1 < wr.heap.size ∧ b2 < wr.heap.size) := ⟨cell_lt hp1, cell_lt hp2⟩
      generalize K[i] = r at HE HS HKi HNe HOr hac1
      generalize L[i] = s at HE HS HLi HNe HOr hac2
      clear hp1 hp2 hac1 hac2
      go_upto_region 6 with fail
      refine wp_region_held_drew (S := Hal2 b1 (o1 + i) b2 (o2 + i) p1 p2) (by kernel_rfl) ⟨HH.out.r1, HH.out.r2⟩ (fun hHeld => ?_)
      refine wpAnyH_take (i := 0) (v := ?_) rfl (by kernel_rfl) (by kernel_rfl) (by kernel_rfl) (fun _ _ _ h => h) (Or.inl ⟨by rfl, ?_⟩) hHeld ?_
      rotate_left
      · intro w' hSw
        clear hSw
        go_simp
        first | done | with_reducible rfl
      simp only [Act.put, List.getElem_toArray, List.getElem_cons_zero, List.setIfInBounds_toArray, List.set_cons_zero, List.set_cons_succ]
      refine wpAnyH_take (i := 1) (v := ?_) rfl (by kernel_rfl) (by kernel_rfl) (by kernel_rfl) (fun _ _ _ h => h) (Or.inl ⟨by rfl, ?_⟩) hHeld ?_
      rotate_left
      · intro w' hSw
        clear hSw
        go_simp
        first | done | with_reducible rfl
      simp only [Act.put, List.getElem_toArray, List.getElem_cons_succ, List.getElem_cons_zero, List.setIfInBounds_toArray, List.set_cons_zero, List.set_cons_succ]
      refine wpAnyH_take (i := 2) (v := ?_) rfl (by kernel_rfl) (by kernel_rfl) (by kernel_rfl) (fun _ _ _ h => h) (Or.inl ⟨by rfl, ?_⟩) hHeld ?_
      rotate_left
      · intro w' hSw
        clear hSw
        go_simp
        first | done | with_reducible rfl
      simp only [Act.put, List.getElem_toArray, List.getElem_cons_succ, List.getElem_cons_zero, List.setIfInBounds_toArray, List.set_cons_zero, List.set_cons_succ]
      refine wpAnyH_take (i := 3) (v := ?_) rfl (by kernel_rfl) (by kernel_rfl) (by kernel_rfl) (fun _ _ _ h => h) (Or.inl ⟨by rfl, ?_⟩) hHeld ?_
      rotate_left
      · intro w' hSw
        have r1 := hSw.r1
        clear hSw
        go_simp
        first | done | with_reducible rfl
      simp only [Act.put, List.getElem_toArray, List.getElem_cons_succ, List.getElem_cons_zero, List.setIfInBounds_toArray, List.set_cons_zero, List.set_cons_succ]
      refine wpAnyH_take (i := 4) (v := ?_) rfl (by kernel_rfl) (by kernel_rfl) (by kernel_rfl) (fun _ _ _ h => h) (Or.inl ⟨by rfl, ?_⟩) hHeld ?_
      rotate_left
      · intro w' hSw
        clear hSw
        go_simp
        first | done | with_reducible rfl
      simp only [Act.put, List.getElem_toArray, List.getElem_cons_succ, List.getElem_cons_zero, List.setIfInBounds_toArray, List.set_cons_zero, List.set_cons_succ]
      refine wpAnyH_take (i := 5) (v := ?_) rfl (by kernel_rfl) (by kernel_rfl) (by kernel_rfl) (fun _ _ _ h => h) (Or.inl ⟨by rfl, ?_⟩) hHeld ?_
      rotate_left
      · intro w' hSw
        clear hSw
        go_simp
        first | done | with_reducible rfl
      simp only [Act.put, List.getElem_toArray, List.getElem_cons_succ, List.getElem_cons_zero, List.setIfInBounds_toArray, List.set_cons_zero, List.set_cons_succ]
      refine wpAnyH_take (i := 6) (v := ?_) rfl (by kernel_rfl) (by kernel_rfl) (by kernel_rfl) (fun _ _ _ h => h) (Or.inl ⟨by rfl, ?_⟩) hHeld ?_
      rotate_left
      · intro w' hSw
        clear hSw
        go_simp
        first | done | with_reducible rfl
      simp only [Act.put, List.getElem_toArray, List.getElem_cons_succ, List.getElem_cons_zero, List.setIfInBounds_toArray, List.set_cons_zero, List.set_cons_succ]
      refine wpAnyH_take (i := 7) (v := ?_) rfl (by kernel_rfl) (by kernel_rfl) (by kernel_rfl) (fun _ _ _ h => h) (Or.inl ⟨by rfl, ?_⟩) hHeld ?_
      rotate_left
      · intro w' hSw
        have r2 := hSw.r2
        clear hSw
        go_simp
        first | done | with_reducible rfl
      simp only [Act.put, List.getElem_toArray, List.getElem_cons_succ, List.getElem_cons_zero, List.setIfInBounds_toArray, List.set_cons_zero, List.set_cons_succ]
      refine wpAnyH_ready (rs := [8]) (by kernel_rfl) (by simp) ?_
      refine AllReadyH.cons rfl (fun K hK => ?_) AllReadyH.nil
      refine stepFnW 40 (.func 40) [.tmp 20, .tmp 24] _ [p1, p2] [] rfl rfl rfl rfl (fun _ _ => rfl) _ HOr.out ?_
      rintro e w1 ⟨z, rfl, -, hz, hb⟩
      refine Or.inl ⟨_, rfl, ?_⟩
      have HB1 : Hid (Below w.heap.size w w1) := (HB.out.trans ((Gro.refl wr).drew.below.mono HB.out.size)).trans (hb.mono (Nat.le_trans HB.out.size (Gro.refl wr).drew.below.size))
      have HZ := hid hz
      have HH1 : Hid (Hal2 b1 (o1 + i) b2 (o2 + i) p1 p2 w1) := ⟨(cell_same (hb.block _ HLt.out.1)).trans HH.out.r1, (cell_same (hb.block _ HLt.out.2)).trans HH.out.r2⟩
      clear hb hz hHeld HB HH HOr
      refine hK.out _ _ HH1.out (fun hHeld => ?_)
      clear hK K
      simp only [Act.put, List.getElem_toArray, List.getElem_cons_succ, List.getElem_cons_zero, List.setIfInBounds_toArray, List.set_cons_zero, List.set_cons_succ]
      refine wpAnyH_take (i := 9) (v := ?_) rfl (by kernel_rfl) (by kernel_rfl) (by kernel_rfl) (fun _ _ _ h => h) (Or.inl ⟨by rfl, ?_⟩) hHeld ?_
      rotate_left
      · intro w' hSw
        clear hSw
        go_simp
        first | done | with_reducible rfl
      simp only [Act.put, List.getElem_toArray, List.getElem_cons_succ, List.getElem_cons_zero, List.setIfInBounds_toArray, List.set_cons_zero, List.set_cons_succ]
      refine wpAnyH_done (by kernel_rfl) ?_ _
      clear hHeld
      by_cases hz0 : z = 0
      · have tz : (z != 0) = false := by simp [hz0]
        have HK2 : Hid (K.take (i + 1) = L.take (i + 1)) := by show _ = _; rw [HKi.out, HLi.out, HTk.out, HE.out (HZ.out.1 hz0)]
        clear hz0
        go_wp2
        go_roundw
        case rel => exact ⟨i + 1, by rw [show (((i + 1 : Nat) : Nat) : Int) = (i : Int) + 1 by omega], hi, HK2, HB1⟩
        case measure => simp [intOf]; omega
      · have tz : (z != 0) = true := bne_iff_ne.2 hz0
        have HN : Hid (K ≠ L) := HNe.out fun e => hz0 (HZ.out.2 (HS.out e))
        clear hz0
        go_wp2
        go_ret
        exact ⟨false, rfl, by simpa using fun h => absurd h HN.out, HB1.out⟩
    · have hd : decide ((i : Int) < (K.length : Int)) = false := by simp; omega
      obtain rfl : i = K.length := by omega
      have HE : Hid (K = L) := by
        show _ = _
        have := HTk.out
        rwa [List.take_length, show K.length = L.length from HQ.out, List.take_length] at this
      go_wp2
      go_ret
      exact ⟨true, rfl, by simp [HE.out], HB.out⟩
theorem canon_snoc (M : List (List Ac)) (r : List Ac) : canon (M ++ [r]) = insR r (canon M) := by unfold canon; rw [List.foldl_append]; rfl
theorem insR_at (r : List Ac) : ∀ (O : List (List Ac)) (k : Nat), (∀ j (h : j < O.length), j < k → cmpR O[j] r < 0) → k ≤ O.length → ((∃ h : k < O.length, cmpR O[k] r = 0) → insR r O = O) ∧ ((∀ h : k < O.length, 0 < cmpR O[k] r) → insR r O = O.take k ++ [r] ++ O.drop k)
  | [], k, _, hk => ⟨fun ⟨h, _⟩ => by simp at h, fun _ => by simp [insR]⟩
  | x :: O, 0, _, _ => ⟨fun ⟨_, h⟩ => by
      simp only [List.getElem_cons_zero] at h
      unfold insR
      rw [if_neg (by omega), if_pos h], fun h => by
      have h := h (by simp)
      simp only [List.getElem_cons_zero] at h
      unfold insR
      rw [if_neg (by omega), if_neg (by omega)]; simp⟩
  | x :: O, k + 1, h, hk => by
    have h0 := h 0 (by simp) (by omega)
    simp only [List.getElem_cons_zero] at h0
    have ih := insR_at r O k (fun j hj hjk => by have := h (j + 1) (by simpa using hj) (by omega); simpa using this) (by simpa using hk)
    have e : insR r (x :: O) = x :: insR r O := by rw [insR, if_pos h0]
    rw [e]
    refine ⟨fun ⟨h1, h2⟩ => ?_, fun h1 => ?_⟩
    · rw [ih.1 ⟨by simpa using h1, by simpa using h2⟩]
    · rw [ih.2 fun h2 => by have := h1 (by simpa using h2); simpa using this]; simp
theorem canon_le (L : List (List Ac)) : (canon L).length ≤ L.length := by have := canon_le_aux L []; simpa [canon] using this
theorem nrows_none {l : List (List Ac)} {r : List Ac} (h : r ∈ l) (hr : rowOk r = false) : nrows l = none := by
  unfold nrows
  rw [if_neg fun hall => by rw [List.all_eq_true.1 hall r h] at hr; cases hr]
/-- Rows made anew: what was, stays. -/
theorem below_of {S : Nat → Prop} {k t n B : Nat} {w w' : World} {v : Value} {xs : List Value} (h : Rw S k t w v n xs) (hS : ∀ b, S b → B ≤ b) (hA : Apd w v w') (hB : B ≤ w.heap.size) : Below B w w' :=
  ⟨hA.os, hA.tape, hA.output, hA.size, fun b hb => hA.block b (by omega) fun e => by have := hS b (h.own b e); omega⟩
end Go.Proofs.YtggbokghhohofaaDoor
