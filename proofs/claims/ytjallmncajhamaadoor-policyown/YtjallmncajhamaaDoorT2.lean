/-
  Proved here: isTooBig of package policy, by its inner function. Conditions: the terms lie in memory that is not the inner function's own.
-/
import Derived.Test.YtjallmncajhamaaDoorT1
namespace Go.Proofs.YtjallmncajhamaaDoor
open Go.RowKit
set_option maxRecDepth 100000

/-- the inner function's own two variables -/
structure Own2 (Lb Fb : Nat) (L : Int) (w : World) : Prop where
  l : w.heap[Lb]? = some (.cells #[.int .i64 L] 3 (0, 0))
  f : w.heap[Fb]? = some (.cells #[.func (.func 59) #[] #[ptr Lb, ptr Fb]] 87 (0, 0))
theorem Own2.cl {Lb Fb : Nat} {L : Int} {w : World} (h : Own2 Lb Fb L w) : w.cell? ⟨Lb, 0, none⟩ = some (.int .i64 L) := (cell_of_row _ _ _ _ _ _ h.l).trans rfl
theorem Own2.fl {Lb Fb : Nat} {L : Int} {w : World} (h : Own2 Lb Fb L w) : w.frozen? ⟨Lb, 0, none⟩ = false := by simp [World.frozen?, h.l]
theorem Own2.cf {Lb Fb : Nat} {L : Int} {w : World} (h : Own2 Lb Fb L w) : w.cell? ⟨Fb, 0, none⟩ = some (.func (.func 59) #[] #[ptr Lb, ptr Fb]) := (cell_of_row _ _ _ _ _ _ h.f).trans rfl
theorem Own2.bel {Lb Fb : Nat} {L : Int} {w w' : World} (h : Own2 Lb Fb L w) (hb : Below w.heap.size w w') : Own2 Lb Fb L w' :=
  ⟨(hb.block _ (Array.getElem?_eq_some_iff.1 h.l).1).trans h.l, (hb.block _ (Array.getElem?_eq_some_iff.1 h.f).1).trans h.f⟩
theorem Own2.set {Lb Fb : Nat} {L : Int} {w : World} (h : Own2 Lb Fb L w) (hne : Fb ≠ Lb) (L' : Int) : Own2 Lb Fb L' (w.setCell ⟨Lb, 0, none⟩ (.int .i64 L')) :=
  ⟨by rw [heap_setCell_same w Lb 0 _ _ _ h.l]; rfl, (heap_setCell_other w ⟨Lb, 0, none⟩ Fb _ hne).trans h.f⟩
/-- what the inner function may turn -/
abbrev Ln (Lb : Nat) (w : World) : Nat → Prop := fun x => x = Lb ∨ w.heap.size ≤ x
/-- What the inner function tells. -/
def FtP (Lb Fb : Nat) (t : Ti) (L d : Nat) (w : World) (e : Ending) (w' : World) : Prop :=
  Only (Ln Lb w) w w' ∧ ((szI t ≤ L ∧ d + dpI t ≤ 129 ∧ e = .returned (.bool true) ∧ Own2 Lb Fb ((L - szI t : Nat) : Int) w') ∨ (¬ (szI t ≤ L ∧ d + dpI t ≤ 129) ∧ e = .returned (.bool false)))
theorem Only.thl {r : Nat} {a b c : World} (h : Only (Ln r a) a b) (k : Only (Ln r b) b c) : Only (Ln r a) a c := h.trans (k.mono fun x hx => by have := h.size; rcases hx with e | e <;> omega)
/-- where its loop is -/
structure FtS (Lb Fb : Nat) (w : World) (ks : List Ti) (v : Value) (L' : Nat) (wr : World) : Prop where
  only : Only (Ln Lb w) w wr
  own : Own2 Lb Fb ((L' : Nat) : Int) wr
  ks : ∃ xs, Rx (fun b => b ≠ Lb ∧ b < w.heap.size) 4 wr v ks.length xs ∧ TiL (fun b => b ≠ Lb ∧ b < w.heap.size) wr ks xs
theorem FtS.thn {Lb Fb : Nat} {w : World} {ks : List Ti} {v : Value} {L' L'' : Nat} {wr w' : World} (h : FtS Lb Fb w ks v L' wr) (ho : Only (Ln Lb wr) wr w') (hw : Own2 Lb Fb ((L'' : Nat) : Int) w') : FtS Lb Fb w ks v L'' w' := by
  obtain ⟨xs, g1, g2⟩ := h.ks
  have hz := h.only.size
  have hc : ∀ b, b < wr.heap.size → (b ≠ Lb ∧ b < w.heap.size) → (b ≠ Lb ∧ b < w.heap.size) ∧ w'.heap[b]? = wr.heap[b]? := fun b hb hS => ⟨hS, ho.block b (by rintro (e | e); exact hS.1 e; omega)⟩
  exact ⟨h.only.thl ho, hw, ⟨xs, g1.carry hc, TiL.carry hc _ _ g2⟩⟩
/-- the j-th kid -/
theorem FtS.kid {Lb Fb : Nat} {w : World} {ks : List Ti} {ao : Option Addr} {cap : Nat} {L' : Nat} {wr : World} (h : FtS Lb Fb w ks (.slice ao ks.length cap) L' wr) {j : Nat} (hj : j < ks.length) :
    ∃ g o, ao = some ⟨g, o, none⟩ ∧ ks.length ≤ cap ∧ ∃ ds, TiV (fun b => b ≠ Lb ∧ b < w.heap.size) wr ks[j] ds ∧ wr.rangeAt g (o + j * 4) ds.toList := by
  obtain ⟨xs, g1, g2⟩ := h.ks
  obtain ⟨g, o, e, hc, -, -, hr⟩ := g1.at hj
  obtain ⟨ds, h4, h5⟩ := TiL.at ks xs j hj g2
  refine ⟨g, o, e, hc, ds, h4, hr _ fun i hi => ?_⟩
  have hi4 : i < 4 := by have := h4.size; simp at hi; omega
  rw [h5 i hi4]
  simp
theorem FtP.yes {Lb Fb : Nat} {t : Ti} {L d : Nat} {w : World} {A : Array Value} (h : Calls Tryd.prog 59 A w (FtP Lb Fb t L d w)) (hf : szI t ≤ L ∧ d + dpI t ≤ 129) : Calls Tryd.prog 59 A w fun e w' => e = .returned (.bool true) ∧ Only (Ln Lb w) w w' ∧ Own2 Lb Fb ((L - szI t : Nat) : Int) w' := by
  refine h.mono ?_
  rintro e w' ⟨h1, ⟨-, -, h2, h3⟩ | ⟨h2, -⟩⟩
  · exact ⟨h2, h1, h3⟩
  · exact absurd hf h2
theorem FtP.no {Lb Fb : Nat} {t : Ti} {L d : Nat} {w : World} {A : Array Value} (h : Calls Tryd.prog 59 A w (FtP Lb Fb t L d w)) (hf : ¬ (szI t ≤ L ∧ d + dpI t ≤ 129)) : Calls Tryd.prog 59 A w fun e w' => e = .returned (.bool false) ∧ Only (Ln Lb w) w w' := by
  refine h.mono ?_
  rintro e w' ⟨h1, ⟨h2, h3, -⟩ | ⟨-, h2⟩⟩
  · exact absurd ⟨h2, h3⟩ hf
  · exact ⟨h2, h1⟩
set_option maxHeartbeats 12800000 in
theorem fits8_any (Lb Fb : Nat) (hne : Fb ≠ Lb) : ∀ (N : Nat) (t : Ti) (cs : Array Value) (L d : Nat) (w : World), szI t ≤ N → TiV (fun b => b ≠ Lb ∧ b < w.heap.size) w t cs → Own2 Lb Fb ((L : Nat) : Int) w → L ≤ 4096 → d ≤ 200 →
    Calls Tryd.prog 59 #[.agg cs, .int .i64 ((d : Nat) : Int), ptr Lb, ptr Fb] w (FtP Lb Fb t L d w)
  | 0, t, cs, L, d, w, hN, _, _, _, _ => by have := szI_pos t; omega
  | N + 1, .mk op fd n ks, cs, L, d, w, hN, ht, ho, hL, hd => by
    have HIH := hid (fits8_any Lb Fb hne N)
    obtain ⟨v, xs, rfl, h2, h3⟩ := ht.get
    obtain ⟨ao, cap, rfl⟩ := h2.form
    have hlL := (Array.getElem?_eq_some_iff.1 ho.l).1
    have hlF := (Array.getElem?_eq_some_iff.1 ho.f).1
    obtain ⟨W1, hW1⟩ : ∃ W1, W1 = w.alloc (.cells #[.int .i8 op, .int .i8 fd, .int .u64 ((n : Nat) : Int), .slice ao ks.length cap] 26) := ⟨_, rfl⟩
    have hb1 : Below w.heap.size w W1 := by rw [hW1]; exact (Below.refl _ _).alloc (Nat.le_refl _) _
    have hz1 : W1.heap.size = w.heap.size + 1 := by rw [hW1]; simp
    have hN1 : W1.heap[w.heap.size]? = some (.cells #[.int .i8 op, .int .i8 fd, .int .u64 ((n : Nat) : Int), .slice ao ks.length cap] 26 (0, 0)) := by rw [hW1]; exact heap_alloc_new _ _
    have HE : Hid (w.alloc (.cells #[.int .i8 op, .int .i8 fd, .int .u64 ((n : Nat) : Int), .slice ao ks.length cap] 26) = W1) := hW1.symm
    have hO1 := ho.bel hb1
    have hc1 := hO1.cl
    have hf1 := hO1.fl
    have hO2 := hO1.set hne ((L : Int) - 1)
    have hw1 : IntKind.i64.wrap ((L : Int) - 1) = (L : Int) - 1 := by rw [IntKind.wrap_i64]; omega
    have hon1 : Only (Ln Lb w) w (W1.setCell ⟨Lb, 0, none⟩ (.int .i64 ((L : Int) - 1))) := (Only.of hb1 (S := Ln Lb w) fun _ hk => Or.inr hk).setCell (p := ⟨Lb, 0, none⟩) (Or.inl rfl) _
    have hk2 : ∀ b, b ≠ Lb → (W1.setCell ⟨Lb, 0, none⟩ (.int .i64 ((L : Int) - 1))).heap[b]? = W1.heap[b]? := fun b hb => heap_setCell_other W1 ⟨Lb, 0, none⟩ b _ hb
    have hN2 : (W1.setCell ⟨Lb, 0, none⟩ (.int .i64 ((L : Int) - 1))).heap[w.heap.size]? = some (.cells #[.int .i8 op, .int .i8 fd, .int .u64 ((n : Nat) : Int), .slice ao ks.length cap] 26 (0, 0)) := (hk2 _ (by omega)).trans hN1
    have HK2 : Hid (∃ xs, Rx (fun b => b ≠ Lb ∧ b < w.heap.size) 4 (W1.setCell ⟨Lb, 0, none⟩ (.int .i64 ((L : Int) - 1))) (.slice ao ks.length cap) ks.length xs ∧ TiL (fun b => b ≠ Lb ∧ b < w.heap.size) (W1.setCell ⟨Lb, 0, none⟩ (.int .i64 ((L : Int) - 1))) ks xs) := ⟨xs, h2.carry fun b hb hS => ⟨hS, (hk2 b hS.1).trans (hb1.block b hb)⟩, TiL.carry (fun b hb hS => ⟨hS, (hk2 b hS.1).trans (hb1.block b hb)⟩) _ _ h3⟩
    have HON := hid hon1
    have HO2 := hid hO2
    clear ht h2 h3 ho hW1 hN1 hk2 hon1 hb1 hO1
    rw [szI] at hN
    go_enter Tryd.func59, Tryd.ntmps59
    go_upto_region 1 with fail
    rw [show w.alloc (.cells #[.int .i8 op, .int .i8 fd, .int .u64 ((n : Nat) : Int), .slice ao ks.length cap] 26) = W1 from HE.out]
    clear HE
    go_upto_region 2 with fail
    clear hc1 hf1
    generalize W1.setCell ⟨Lb, 0, none⟩ (.int .i64 ((L : Int) - 1)) = w2 at HK2 HON HO2 hN2 hO2 ⊢
    have hc2 := hO2.cl
    have d3 : w2.cell? ⟨w.heap.size, 3, none⟩ = some (.slice ao ks.length cap) := (cell_of_row _ _ _ _ _ _ hN2).trans rfl
    clear hO2
    by_cases hL0 : L = 0
    · have hs1 : decide ((L : Int) - 1 < 0) = true := by simp; omega
      have HF : Hid (¬ (szI (.mk op fd n ks) ≤ L ∧ d + dpI (.mk op fd n ks) ≤ 129)) := fun h => by have := szI_pos (.mk op fd n ks); omega
      go_wp2
      go_ret
      exact ⟨HON.out, Or.inr ⟨HF.out, rfl⟩⟩
    · have hs1 : decide ((L : Int) - 1 < 0) = false := by simp; omega
      by_cases hd1 : 128 < d
      · have hs2 : decide ((128 : Int) < (d : Int)) = true := by simp; omega
        have HF : Hid (¬ (szI (.mk op fd n ks) ≤ L ∧ d + dpI (.mk op fd n ks) ≤ 129)) := fun h => by have := dpI_pos (.mk op fd n ks); omega
        go_wp2
        go_ret
        exact ⟨HON.out, Or.inr ⟨HF.out, rfl⟩⟩
      · have hs2 : decide ((128 : Int) < (d : Int)) = false := by simp; omega
        have HS0 : Hid (FtS Lb Fb w ks (.slice ao ks.length cap) (L - 1) w2) := ⟨HON.out, by rw [show (((L - 1 : Nat) : Nat) : Int) = (L : Int) - 1 by omega]; exact HO2.out, HK2.out⟩
        go_upto_region 5 with fail
        have hL1 : 1 ≤ L := by omega
        clear hc2 d3 hN2 HK2 HON HO2
        go_loopw [20] (fun v wr => ∃ j : Nat, v = .int .i64 ((j : Nat) : Int) ∧ j ≤ ks.length ∧ szsI (ks.take j) + 1 ≤ L ∧ Hid (∀ i (hi : i < ks.length), i < j → d + 1 + dpI ks[i] ≤ 129) ∧ Hid (FtS Lb Fb w ks (.slice ao ks.length cap) (L - 1 - szsI (ks.take j)) wr)) (fun v _ => ks.length - (intOf v).toNat)
        case atStart => exact ⟨0, rfl, Nat.zero_le _, by rw [List.take_zero, szsI]; omega, fun i hi h => by omega, by rw [List.take_zero, szsI]; exact HS0.out⟩
        case round =>
          clear HS0
          obtain ⟨j, rfl, hj1, hj2, HD, HS⟩ := hrel
          have hj3 := len_szsI ks j hj1
          by_cases hj : j < ks.length
          · obtain ⟨g, o, rfl, hcap, ds, ht, hra⟩ := HS.out.kid hj
            have hs3 : decide ((j : Int) < (ks.length : Int)) = true := by simp; omega
            have hjc : j < cap := by omega
            have hw2 : IntKind.i64.wrap ((d : Int) + 1) = (d : Int) + 1 := by rw [IntKind.wrap_i64]; omega
            have hw3 : IntKind.i64.wrap ((j : Int) + 1) = (j : Int) + 1 := by rw [IntKind.wrap_i64]; omega
            have hb3 : Below wr.heap.size wr (wr.alloc (.cells ds 26)) := (Below.refl _ _).alloc (Nat.le_refl _) _
            have HN3 : Hid ((wr.alloc (.cells ds 26)).heap[wr.heap.size]? = some (.cells ds 26 (0, 0))) := heap_alloc_new _ _
            have hO3 := HS.out.own.bel hb3
            have HS3 := hid (HS.out.thn (Only.of hb3 fun _ hk => Or.inr hk) hO3)
            have hcf := hO3.cf
            have hzr := HS.out.only.size
            have hzA : (wr.alloc (.cells ds 26)).heap.size = wr.heap.size + 1 := by simp
            have HC := hid (HIH.out ks[j] ds (L - 1 - szsI (ks.take j)) (d + 1) _ (by have := szsI_mem (List.getElem_mem hj); omega) (ti_on ht fun b hb hS => ⟨⟨hS.1, by omega⟩, hb3.block b hb⟩) hO3 (by omega) (by omega))
            have HT := hid ht
            have HRA := hid hra
            have HTk := hid (szsI_take hj)
            clear hO3 ht hra hb3 HS
            rw [show (((d + 1 : Nat) : Nat) : Int) = (d : Int) + 1 by omega] at HC
            have HCt := hid (fun hfit => FtP.yes HC.out hfit)
            have HCf := hid (fun hfit => FtP.no HC.out hfit)
            clear HC
            go_upto_region 7 with (first
              | (refine ldMid 26 (.tmp 22) rfl rfl g (o + j * 4) rfl ds _ Tryd.underlying26 rfl HT.out.info HRA.out ?_)
              | (refine stNew 26 (.tmp 8) (.tmp 23) rfl rfl wr 26 (tmc 0 0 0 nilS) ds rfl rfl rfl HT.out.info (by rw [HT.out.size]; rfl) HT.out.one ?_))
            generalize wr.alloc (.cells ds 26) = w3 at HN3 HS3 hcf HCt HCf hzA ⊢
            by_cases hfit : szI ks[j] ≤ L - 1 - szsI (ks.take j) ∧ d + 1 + dpI ks[j] ≤ 129
            · go_wp2_with (first
                | (refine ldRow 26 (.tmp 8) rfl rfl wr.heap.size rfl 26 ds _ Tryd.underlying26 rfl HT.out.info HN3.out ?_)
                | (go_at_call 59; refine (HCt.out hfit).mono ?_; rintro e w4 ⟨rfl, h1, h2⟩; have HS4 := hid (HS3.out.thn h1 h2); clear h1 h2))
              have hL5 : L - 1 - szsI (ks.take (j + 1)) = L - 1 - szsI (ks.take j) - szI ks[j] := by rw [HTk.out]; omega
              have hX : ∃ k : Nat, Value.int .i64 ((j : Int) + 1) = .int .i64 ((k : Nat) : Int) ∧ k ≤ ks.length ∧ szsI (ks.take k) + 1 ≤ L ∧ Hid (∀ i (hi : i < ks.length), i < k → d + 1 + dpI ks[i] ≤ 129) ∧ Hid (FtS Lb Fb w ks (.slice (some ⟨g, o, none⟩) ks.length cap) (L - 1 - szsI (ks.take k)) w4) := by
                refine ⟨j + 1, by rw [show (((j + 1 : Nat) : Nat) : Int) = (j : Int) + 1 by omega], hj, by rw [HTk.out]; omega, fun i hi hij => ?_, by rw [hL5]; exact HS4⟩
                by_cases e : i = j
                · subst e; exact hfit.2
                · exact HD.out i hi (by omega)
              refine ⟨?_, ?_⟩
              · first
                  | exact hX
                  | ((repeat apply Exists.intro); refine ⟨?_, rfl⟩; exact hX)
              · simp [intOf]; omega
            · have HF : Hid (¬ (szI (.mk op fd n ks) ≤ L ∧ d + dpI (.mk op fd n ks) ≤ 129)) := fun h => hfit (by
                have h1 := szsI_le ks (j + 1)
                have h2 := dpsI_mem (List.getElem_mem hj)
                rw [HTk.out] at h1
                rw [szI_mk, dpI_mk] at h
                omega)
              go_wp2_with (first
                | (refine ldRow 26 (.tmp 8) rfl rfl wr.heap.size rfl 26 ds _ Tryd.underlying26 rfl HT.out.info HN3.out ?_)
                | (go_at_call 59; refine (HCf.out hfit).mono ?_; rintro e w4 ⟨rfl, h1⟩; have HO4 := hid (HS3.out.only.thl h1); clear h1))
              go_ret
              exact ⟨HO4.out, Or.inr ⟨HF.out, rfl⟩⟩
          · have hs3 : decide ((j : Int) < (ks.length : Int)) = false := by simp; omega
            obtain rfl : j = ks.length := by omega
            have HF : Hid (szI (.mk op fd n ks) ≤ L ∧ d + dpI (.mk op fd n ks) ≤ 129 ∧ L - 1 - szsI (ks.take ks.length) = L - szI (.mk op fd n ks)) := by
              rw [List.take_length] at hj2
              refine ⟨by rw [szI_mk]; omega, ?_, by rw [List.take_length, szI_mk]; omega⟩
              rw [dpI_mk]
              have := dpsI_le (m := 128 - d) (ks := ks) fun t ht => by
                obtain ⟨i, hi, rfl⟩ := List.getElem_of_mem ht
                have := HD.out i hi hi
                omega
              omega
            go_wp2
            go_ret
            exact ⟨HS.out.only, Or.inl ⟨HF.out.1, HF.out.2.1, rfl, by rw [← HF.out.2.2]; exact HS.out.own⟩⟩
end Go.Proofs.YtjallmncajhamaaDoor
