/-
  Proved here: the inner function of isPolicy tells whether a term has words, is not too great and not too deep. Conditions: the tables; the term lies in memory that is not the inner function's own.
-/
import Derived.Test.YtoncogkamlgjhaaGreatDoorFOS
namespace Go.Proofs.YtoncogkamlgjhaaGreatDoor
set_option maxRecDepth 100000
open Go.RowKit
set_option maxRecDepth 100000

/-- the inner function's own two variables -/
structure Own3 (Lb Fb : Nat) (L : Int) (w : World) : Prop where
  l : w.heap[Lb]? = some (.cells #[.int .i64 L] 3 (0, 0))
  f : w.heap[Fb]? = some (.cells #[.func (.func 18) #[] #[ptr Lb, ptr Fb]] 59 (0, 0))
theorem Own3.cl {Lb Fb : Nat} {L : Int} {w : World} (h : Own3 Lb Fb L w) : w.cell? ⟨Lb, 0, none⟩ = some (.int .i64 L) := (cell_of_row _ _ _ _ _ _ h.l).trans rfl
theorem Own3.fl {Lb Fb : Nat} {L : Int} {w : World} (h : Own3 Lb Fb L w) : w.frozen? ⟨Lb, 0, none⟩ = false := by simp [World.frozen?, h.l]
theorem Own3.cf {Lb Fb : Nat} {L : Int} {w : World} (h : Own3 Lb Fb L w) : w.cell? ⟨Fb, 0, none⟩ = some (.func (.func 18) #[] #[ptr Lb, ptr Fb]) := (cell_of_row _ _ _ _ _ _ h.f).trans rfl
theorem Own3.bel {Lb Fb : Nat} {L : Int} {w w' : World} (h : Own3 Lb Fb L w) (hb : Below w.heap.size w w') : Own3 Lb Fb L w' :=
  ⟨(hb.block _ (Array.getElem?_eq_some_iff.1 h.l).1).trans h.l, (hb.block _ (Array.getElem?_eq_some_iff.1 h.f).1).trans h.f⟩
theorem Own3.set {Lb Fb : Nat} {L : Int} {w : World} (h : Own3 Lb Fb L w) (hne : Fb ≠ Lb) (L' : Int) : Own3 Lb Fb L' (w.setCell ⟨Lb, 0, none⟩ (.int .i64 L')) :=
  ⟨by rw [heap_setCell_same w Lb 0 _ _ _ h.l]; rfl, (heap_setCell_other w ⟨Lb, 0, none⟩ Fb _ hne).trans h.f⟩
/-- What the inner function tells. -/
def SdP (Lb Fb : Nat) (t : Ti) (b : Bool) (L d : Nat) (w : World) (e : Ending) (w' : World) : Prop :=
  Only (Ln Lb w) w w' ∧ ((Std b d L t ∧ e = .returned (.bool true) ∧ Own3 Lb Fb ((L - szI t : Nat) : Int) w') ∨ (¬ Std b d L t ∧ e = .returned (.bool false)))
/-- where its loop is -/
structure SdS (Lb Fb : Nat) (w : World) (ks : List Ti) (v : Value) (L' : Nat) (row : Array Value) (wr : World) : Prop where
  only : Only (Ln Lb w) w wr
  own : Own3 Lb Fb ((L' : Nat) : Int) wr
  ks : ∃ xs, Rx (fun b => b ≠ Lb ∧ b < w.heap.size) 4 wr v ks.length xs ∧ TiL (fun b => b ≠ Lb ∧ b < w.heap.size) wr ks xs
  row : wr.heap[w.heap.size]? = some (.cells row 26 (0, 0))
theorem SdS.thn {Lb Fb : Nat} {w : World} {ks : List Ti} {v : Value} {L' L'' : Nat} {row : Array Value} {wr w' : World} (h : SdS Lb Fb w ks v L' row wr) (hl : Lb < w.heap.size) (ho : Only (Ln Lb wr) wr w') (hw : Own3 Lb Fb ((L'' : Nat) : Int) w') : SdS Lb Fb w ks v L'' row w' := by
  obtain ⟨xs, g1, g2⟩ := h.ks
  have hz := h.only.size
  have hr := (Array.getElem?_eq_some_iff.1 h.row).1
  have hc : ∀ b, b < wr.heap.size → (b ≠ Lb ∧ b < w.heap.size) → (b ≠ Lb ∧ b < w.heap.size) ∧ w'.heap[b]? = wr.heap[b]? := fun b hb hS => ⟨hS, ho.block b (by rintro (e | e); exact hS.1 e; omega)⟩
  exact ⟨h.only.thl ho, hw, ⟨xs, g1.carry hc, TiL.carry hc _ _ g2⟩, (ho.block _ (by rintro (e | e) <;> omega)).trans h.row⟩
/-- the j-th kid -/
theorem SdS.kid {Lb Fb : Nat} {w : World} {ks : List Ti} {ao : Option Addr} {cap : Nat} {L' : Nat} {row : Array Value} {wr : World} (h : SdS Lb Fb w ks (.slice ao ks.length cap) L' row wr) {j : Nat} (hj : j < ks.length) :
    ∃ g o, ao = some ⟨g, o, none⟩ ∧ ks.length ≤ cap ∧ ∃ ds, TiV (fun b => b ≠ Lb ∧ b < w.heap.size) wr ks[j] ds ∧ wr.rangeAt g (o + j * 4) ds.toList := by
  obtain ⟨xs, g1, g2⟩ := h.ks
  obtain ⟨g, o, e, hc, -, -, hr⟩ := g1.at hj
  obtain ⟨ds, h4, h5⟩ := TiL.at ks xs j hj g2
  refine ⟨g, o, e, hc, ds, h4, hr _ fun i hi => ?_⟩
  have hi4 : i < 4 := by have := h4.size; simp at hi; omega
  rw [h5 i hi4]
  simp
theorem SdP.yes {Lb Fb : Nat} {t : Ti} {b : Bool} {L d : Nat} {w : World} {A : Array Value} (h : Calls Tryz.prog 18 A w (SdP Lb Fb t b L d w)) (hf : Std b d L t) : Calls Tryz.prog 18 A w fun e w' => e = .returned (.bool true) ∧ Only (Ln Lb w) w w' ∧ Own3 Lb Fb ((L - szI t : Nat) : Int) w' := by
  refine h.mono ?_
  rintro e w' ⟨h1, ⟨-, h2, h3⟩ | ⟨h2, -⟩⟩
  · exact ⟨h2, h1, h3⟩
  · exact absurd hf h2
theorem SdP.no {Lb Fb : Nat} {t : Ti} {b : Bool} {L d : Nat} {w : World} {A : Array Value} (h : Calls Tryz.prog 18 A w (SdP Lb Fb t b L d w)) (hf : ¬ Std b d L t) : Calls Tryz.prog 18 A w fun e w' => e = .returned (.bool false) ∧ Only (Ln Lb w) w w' := by
  refine h.mono ?_
  rintro e w' ⟨h1, ⟨h2, -⟩ | ⟨-, h2⟩⟩
  · exact absurd h2 hf
  · exact ⟨h2, h1⟩
/-- what the region that calls on holds -/
structure StR (Fb G K : Nat) (fv : Value) (sf ds : Array Value) (W : World) : Prop where
  cf : W.cell? ⟨Fb, 0, none⟩ = some fv
  rs : W.rangeAt G 0 sf.toList
  rk : W.rangeAt K 0 ds.toList
theorem row4_rng {W : World} {P t : Nat} {cs : Array Value} (h : W.heap[P]? = some (.cells cs t (0, 0))) : W.rangeAt P 0 cs.toList := fun j v hj => by
  rw [Nat.zero_add, cell_of_row _ _ _ _ _ _ h]; simpa using hj
theorem StR.thn {Lb Fb G K : Nat} {fv : Value} {sf ds : Array Value} {W W' : World} (h : StR Fb G K fv sf ds W) (ho : Only (Ln Lb W) W W') (h1 : Fb ≠ Lb) (h2 : G ≠ Lb) (h3 : K ≠ Lb) (l2 : G < W.heap.size) (l3 : K < W.heap.size) : StR Fb G K fv sf ds W' := by
  have l1 := cell_lt h.cf
  refine ⟨(cell_same (ho.block Fb (by rintro (e | e); exact h1 e; omega))).trans h.cf, fun j v hj => (cell_same (ho.block G (by rintro (e | e); exact h2 e; omega))).trans (h.rs j v hj), fun j v hj => (cell_same (ho.block K (by rintro (e | e); exact h3 e; omega))).trans (h.rk j v hj)⟩
set_option maxHeartbeats 12800000 in
theorem stands_any (Lb Fb : Nat) (hne : Fb ≠ Lb) (hgl : 9 ≤ Lb) : ∀ (N : Nat) (t : Ti) (cs : Array Value) (b : Bool) (L d : Nat) (w : World), szI t ≤ N → TiV (fun b => b ≠ Lb ∧ b < w.heap.size) w t cs → Own3 Lb Fb ((L : Nat) : Int) w → TabS w → L ≤ 4096 → d ≤ 200 →
    Calls Tryz.prog 18 #[.agg cs, .bool b, .int .i64 ((d : Nat) : Int), ptr Lb, ptr Fb] w (SdP Lb Fb t b L d w)
  | 0, t, cs, b, L, d, w, hN, _, _, _, _, _ => by have := szI_pos t; omega
  | N + 1, .mk op fd n ks, cs, b, L, d, w, hN, ht, ho, hT, hL, hd => by
    have HIH := hid (stands_any Lb Fb hne hgl N)
    obtain ⟨v, xs, rfl, h2, h3⟩ := ht.get
    obtain ⟨ao, cap, rfl⟩ := h2.form
    have hlL := (Array.getElem?_eq_some_iff.1 ho.l).1
    have hlF := (Array.getElem?_eq_some_iff.1 ho.f).1
    obtain ⟨W1, hW1⟩ : ∃ W1, W1 = w.alloc (.cells #[.int .i8 op, .int .i8 fd, .int .u64 ((n : Nat) : Int), .slice ao ks.length cap] 26) := ⟨_, rfl⟩
    have hb1 : Below w.heap.size w W1 := by rw [hW1]; exact (Below.refl _ _).alloc (Nat.le_refl _) _
    have hz1 : W1.heap.size = w.heap.size + 1 := by rw [hW1]; simp
    have hN1 : W1.heap[w.heap.size]? = some (.cells #[.int .i8 op, .int .i8 fd, .int .u64 ((n : Nat) : Int), .slice ao ks.length cap] 26 (0, 0)) := by rw [hW1]; exact heap_alloc_new _ _
    have HE : Hid (w.alloc (.cells #[.int .i8 op, .int .i8 fd, .int .u64 ((n : Nat) : Int), .slice ao ks.length cap] 26) = W1) := hW1.symm
    have hO1 := ho.bel hb1
    have hc1 := hO1.cl
    have hf1 := hO1.fl
    have hO2 := hO1.set hne ((L : Int) - 1)
    have hw1 : IntKind.i64.wrap ((L : Int) - 1) = (L : Int) - 1 := by rw [IntKind.wrap_i64]; omega
    have hon1 : Only (Ln Lb w) w (W1.setCell ⟨Lb, 0, none⟩ (.int .i64 ((L : Int) - 1))) := (Only.of hb1 (S := Ln Lb w) fun _ hk => Or.inr hk).setCell (p := ⟨Lb, 0, none⟩) (Or.inl rfl) _
    have hk2 : ∀ b, b ≠ Lb → (W1.setCell ⟨Lb, 0, none⟩ (.int .i64 ((L : Int) - 1))).heap[b]? = W1.heap[b]? := fun b hb => heap_setCell_other W1 ⟨Lb, 0, none⟩ b _ hb
    have hN2 : (W1.setCell ⟨Lb, 0, none⟩ (.int .i64 ((L : Int) - 1))).heap[w.heap.size]? = some (.cells #[.int .i8 op, .int .i8 fd, .int .u64 ((n : Nat) : Int), .slice ao ks.length cap] 26 (0, 0)) := (hk2 _ (by omega)).trans hN1
    have HK2 : Hid (∃ xs, Rx (fun b => b ≠ Lb ∧ b < w.heap.size) 4 (W1.setCell ⟨Lb, 0, none⟩ (.int .i64 ((L : Int) - 1))) (.slice ao ks.length cap) ks.length xs ∧ TiL (fun b => b ≠ Lb ∧ b < w.heap.size) (W1.setCell ⟨Lb, 0, none⟩ (.int .i64 ((L : Int) - 1))) ks xs) := ⟨xs, h2.carry fun b hb hS => ⟨hS, (hk2 b hS.1).trans (hb1.block b hb)⟩, TiL.carry (fun b hb hS => ⟨hS, (hk2 b hS.1).trans (hb1.block b hb)⟩) _ _ h3⟩
    have hzs : w.heap.size ≤ (W1.setCell ⟨Lb, 0, none⟩ (.int .i64 ((L : Int) - 1))).heap.size := hon1.size
    have HT2 : Hid (TabS (W1.setCell ⟨Lb, 0, none⟩ (.int .i64 ((L : Int) - 1)))) := hT.keep fun k hk => (hk2 k (by omega)).trans (hb1.block k (by omega))
    have HTw := hid hT
    have HON := hid hon1
    have HO2 := hid hO2
    have HFD : Hid (∀ L d, okI b (.mk op fd n ks) = (kndB b op && whlB op fd n ks.length && okIs (decide (op ≤ 6)) ks) ∧ (d + dpI (.mk op fd n ks) = d + 1 + dpsI ks ∧ szI (.mk op fd n ks) ≤ L ↔ d + dpI (.mk op fd n ks) = d + 1 + dpsI ks ∧ szsI ks + 1 ≤ L)) := fun L d => ⟨by rw [okI], by rw [szI]⟩
    have HST : Hid (Std b d L (.mk op fd n ks) ↔ kndB b op = true ∧ whlB op fd n ks.length = true ∧ okIs (decide (op ≤ 6)) ks = true ∧ d + 1 + dpsI ks ≤ 129 ∧ szsI ks + 1 ≤ L) := by
      show _ ↔ _
      unfold Std
      rw [okI, szI, dpI, Bool.and_eq_true, Bool.and_eq_true]
      constructor
      · rintro ⟨⟨⟨a1, a2⟩, a3⟩, a4, a5⟩; exact ⟨a1, a2, a3, by omega, a5⟩
      · rintro ⟨a1, a2, a3, a4, a5⟩; exact ⟨⟨⟨a1, a2⟩, a3⟩, by omega, a5⟩
    clear ht h2 h3 ho hW1 hN1 hk2 hon1 hb1 hO1 HFD hT
    rw [szI] at hN
    go_enter Tryz.func18, Tryz.ntmps18
    go_upto_region 1 with fail
    rw [show w.alloc (.cells #[.int .i8 op, .int .i8 fd, .int .u64 ((n : Nat) : Int), .slice ao ks.length cap] 26) = W1 from HE.out]
    clear HE
    go_upto_region 2 with fail
    clear hc1 hf1
    generalize W1.setCell ⟨Lb, 0, none⟩ (.int .i64 ((L : Int) - 1)) = w2 at HK2 HON HO2 hN2 hO2 HT2 hzs ⊢
    have hc2 := hO2.cl
    have HN2 := hid hN2
    have HRs := hid (row4_rng hN2)
    clear hO2
    have hinf : (Tryz.prog.info? 26).map (·.size) = some (tic op fd n (.slice ao ks.length cap)).size := sizeTM
    by_cases hL0 : L = 0
    · have hs1 : decide ((L : Int) - 1 < 0) = true := by simp; omega
      have HF : Hid (¬ Std b d L (.mk op fd n ks)) := fun h => by have := HST.out.1 h; omega
      clear HST HTw HIH hN2 hL0
      go_wp2
      go_ret
      exact ⟨HON.out, Or.inr ⟨HF.out, rfl⟩⟩
    have hs1 : decide ((L : Int) - 1 < 0) = false := by simp; omega
    by_cases hd1 : 128 < d
    · have hs2 : decide ((128 : Int) < (d : Int)) = true := by simp; omega
      have HF : Hid (¬ Std b d L (.mk op fd n ks)) := fun h => by have := HST.out.1 h; omega
      clear HST HTw HIH hN2
      go_wp2
      go_ret
      exact ⟨HON.out, Or.inr ⟨HF.out, rfl⟩⟩
    have hs2 : decide ((128 : Int) < (d : Int)) = false := by simp; omega
    have HKa := hid (kind_any b op fd n (.slice ao ks.length cap) w2 rfl)
    cases hk : kndB b op with
    | false =>
      have HF : Hid (¬ Std b d L (.mk op fd n ks)) := fun h => by have := (HST.out.1 h).1; rw [hk] at this; cases this
      rw [hk] at HKa
      clear HST HTw HIH hk hN2
      go_wp2_with (first
        | (refine ldRow 26 (.tmp 5) rfl rfl w.heap.size rfl 26 (tic op fd n (.slice ao ks.length cap)) _ Tryz.underlying26 rfl hinf HN2.out ?_)
        | (go_at_call 19; refine (HKa.out).mono ?_; rintro e w3 ⟨rfl, hw⟩; have HX := hid (HON.out.thl (Only.of hw fun _ hk => Or.inr hk)); clear hw))
      go_ret
      exact ⟨HX.out, Or.inr ⟨HF.out, rfl⟩⟩
    | true =>
      rw [hk] at HKa
      obtain ⟨o, rfl⟩ : ∃ o : Nat, op = (o : Int) := ⟨op.toNat, by unfold kndB at hk; cases b <;> simp at hk <;> omega⟩
      have ho11 : o < 11 := by unfold kndB at hk; cases b <;> simp at hk <;> omega
      have HWl : Hid (∀ W, Below w2.heap.size w2 W → Calls Tryz.prog 20 #[.agg (tic o fd n (.slice ao ks.length cap))] W fun e w' => e = .returned (.bool (whlB o fd n ks.length)) ∧ Below W.heap.size W w') := fun W hb => whole_any o fd n ks.length cap ao W (HT2.out.on hb (by omega)) (by have := hb.size; omega) ho11
      cases hwh : whlB o fd n ks.length with
      | false =>
        have HF : Hid (¬ Std b d L (.mk o fd n ks)) := fun h => by have := (HST.out.1 h).2.1; rw [hwh] at this; cases this
        rw [hwh] at HWl
        clear HST HTw HIH hk hwh ho11 HT2 hN2
        go_wp2_with (first
          | (refine ldRow 26 (.tmp 5) rfl rfl w.heap.size rfl 26 (tic o fd n (.slice ao ks.length cap)) _ Tryz.underlying26 rfl hinf HN3.out ?_)
          | (refine ldRow 26 (.tmp 5) rfl rfl w.heap.size rfl 26 (tic o fd n (.slice ao ks.length cap)) _ Tryz.underlying26 rfl hinf HN2.out ?_)
          | (go_at_call 20; refine (HWl3.out).mono ?_; rintro e w4 ⟨rfl, hw⟩; have HX := hid (HX3.out.thl (Only.of hw fun _ hk => Or.inr hk)); clear hw)
          | (go_at_call 19; refine (HKa.out).mono ?_; rintro e w3 ⟨rfl, hw⟩; have HX3 := hid (HON.out.thl (Only.of hw fun _ hk => Or.inr hk)); have HWl3 := hid (HWl.out w3 hw); have HN3 := hid ((hw.block _ (Array.getElem?_eq_some_iff.1 HN2.out).1).trans HN2.out); clear hw HKa HWl HN2))
        go_ret
        exact ⟨HX.out, Or.inr ⟨HF.out, rfl⟩⟩
      | true =>
        rw [hwh] at HWl
        have HSu : Hid (Std b d L (.mk o fd n ks) ↔ okIs (decide ((o : Int) ≤ 6)) ks = true ∧ d + 1 + dpsI ks ≤ 129 ∧ szsI ks + 1 ≤ L) := by
          show _ ↔ _
          rw [HST.out, hk, hwh]; simp
        have hlL3 := hlL
        clear HST hk hwh hN2
        go_upto_region 4 with (first
          | (refine ldRow 26 (.tmp 5) rfl rfl w.heap.size rfl 26 (tic o fd n (.slice ao ks.length cap)) _ Tryz.underlying26 rfl hinf HN3.out ?_)
          | (refine ldRow 26 (.tmp 5) rfl rfl w.heap.size rfl 26 (tic o fd n (.slice ao ks.length cap)) _ Tryz.underlying26 rfl hinf HN2.out ?_)
          | (go_at_call 20; refine (HWl3.out).mono ?_; rintro e w4 ⟨rfl, hw⟩; have HB4 := hid (HB3.out.trans (hw.mono HB3.out.size)); clear hw)
          | (go_at_call 19; refine (HKa.out).mono ?_; rintro e w3 ⟨rfl, hw⟩; have HB3 := hid hw; have HWl3 := hid (HWl.out w3 hw); have HN3 := hid ((hw.block _ (Array.getElem?_eq_some_iff.1 HN2.out).1).trans HN2.out); clear hw HKa HWl))
        have HS2 : Hid (SdS Lb Fb w ks (.slice ao ks.length cap) (L - 1) (tic o fd n (.slice ao ks.length cap)) w2) := ⟨HON.out, by rw [show (((L - 1 : Nat) : Nat) : Int) = (L : Int) - 1 by omega]; exact HO2.out, HK2.out, HN2.out⟩
        have HS0 := hid (HS2.out.thn hlL (Only.of HB4.out fun _ hk => Or.inr hk) (HS2.out.own.bel HB4.out))
        have d3 : w4.cell? ⟨w.heap.size, 3, none⟩ = some (.slice ao ks.length cap) := (cell_of_row _ _ _ _ _ _ HS0.out.row).trans rfl
        go_upto_region 5 with fail
        have hL1 : 1 ≤ L := by omega
        clear hc2 d3 HK2 HON HO2 HB3 HB4 HWl3 HN3 HN2 HS2 HRs hzs HT2
        go_loopw [33] (fun v wr => ∃ j : Nat, v = .int .i64 ((j : Nat) : Int) ∧ j ≤ ks.length ∧ szsI (ks.take j) + 1 ≤ L ∧ Hid (∀ i (hi : i < ks.length), i < j → okI (decide ((o : Int) ≤ 6)) ks[i] = true ∧ d + 1 + dpI ks[i] ≤ 129) ∧ Hid (SdS Lb Fb w ks (.slice ao ks.length cap) (L - 1 - szsI (ks.take j)) (tic o fd n (.slice ao ks.length cap)) wr)) (fun v _ => ks.length - (intOf v).toNat)
        case atStart => exact ⟨0, rfl, Nat.zero_le _, by rw [List.take_zero, szsI]; omega, fun i hi h => by omega, by rw [List.take_zero, szsI]; exact HS0.out⟩
        case round =>
          clear HS0
          obtain ⟨j, rfl, hj1, hj2, HD, HS⟩ := hrel
          have hj3 := len_szsI ks j hj1
          by_cases hj : j < ks.length
          · obtain ⟨g, p, rfl, hcap, ds, ht, hra⟩ := HS.out.kid hj
            have hs3 : decide ((j : Int) < (ks.length : Int)) = true := by simp; omega
            have hjc : j < cap := by omega
            have hw2 : IntKind.i64.wrap ((d : Int) + 1) = (d : Int) + 1 := by rw [IntKind.wrap_i64]; omega
            have hw3 : IntKind.i64.wrap ((j : Int) + 1) = (j : Int) + 1 := by rw [IntKind.wrap_i64]; omega
            have hb3 : Below wr.heap.size wr (wr.alloc (.cells ds 26)) := (Below.refl _ _).alloc (Nat.le_refl _) _
            have HN3 : Hid ((wr.alloc (.cells ds 26)).heap[wr.heap.size]? = some (.cells ds 26 (0, 0))) := heap_alloc_new _ _
            have hO3 := HS.out.own.bel hb3
            have HS3 := hid (HS.out.thn hlL (Only.of hb3 fun _ hk => Or.inr hk) hO3)
            have hzr := HS.out.only.size
            have HT := hid ht
            have HT3 := hid (ti_on ht fun b hb hS => ⟨hS, hb3.block b hb⟩)
            have HRA := hid hra
            have HTk := hid (szsI_take hj)
            clear hO3 ht hra hb3 HS
            go_upto_region 7 with (first
              | (refine ldMid 26 (.tmp 35) rfl rfl g (p + j * 4) rfl ds _ Tryz.underlying26 rfl HT.out.info HRA.out ?_)
              | (refine stNew 26 (.tmp 10) (.tmp 36) rfl rfl wr 26 (tmc 0 0 0 nilS) ds rfl rfl rfl HT.out.info (by rw [HT.out.size]; rfl) HT.out.one ?_))
            have hinf3 := HT.out.info
            clear HRA HT
            generalize wr.alloc (.cells ds 26) = w3 at HN3 HS3 HT3 ⊢
            have hz3 := (Array.getElem?_eq_some_iff.1 HN3.out).1
            have hSd : StR Fb w.heap.size wr.heap.size (.func (.func 18) #[] #[ptr Lb, ptr Fb]) (tic o fd n (.slice (some ⟨g, p, none⟩) ks.length cap)) ds w3.drew := ⟨HS3.out.own.cf, row4_rng HS3.out.row, row4_rng HN3.out⟩
            have HPr := hid (preds_any o fd n (.slice (some ⟨g, p, none⟩) ks.length cap) w3.drew rfl)
            have HSd : Hid (SdS Lb Fb w ks (.slice (some ⟨g, p, none⟩) ks.length cap) (L - 1 - szsI (ks.take j)) (tic o fd n (.slice (some ⟨g, p, none⟩) ks.length cap)) w3.drew) := HS3.out.thn hlL (Only.refl _ w3).drew ⟨HS3.out.own.l, HS3.out.own.f⟩
            have HTd : Hid (TiV (fun b => b ≠ Lb ∧ b < w.heap.size) w3.drew ks[j] ds) := ti_on HT3.out fun b _ hS => ⟨hS, rfl⟩
            clear HT3
            refine wp_region_held_drew (S := StR Fb w.heap.size wr.heap.size (.func (.func 18) #[] #[ptr Lb, ptr Fb]) (tic o fd n (.slice (some ⟨g, p, none⟩) ks.length cap)) ds) (by kernel_rfl) hSd (fun hHeld => ?_)
            refine wpAnyH_take (i := 0) (v := ?_) rfl (by kernel_rfl) (by kernel_rfl) (by kernel_rfl) (fun _ _ _ h => h) (Or.inl ⟨by rfl, ?_⟩) hHeld ?_
            rotate_left
            · intro w' hSw
              have cf := hSw.cf
              clear hSw
              go_simp
              first | done | with_reducible rfl
            simp only [Act.put, List.getElem_toArray, List.getElem_cons_zero, List.setIfInBounds_toArray, List.set_cons_zero, List.set_cons_succ]
            refine wpAnyH_take (i := 1) (v := .agg ds) rfl (by kernel_rfl) (by kernel_rfl) (by kernel_rfl) (fun _ _ _ h => h) (Or.inl ⟨by rfl, ?_⟩) hHeld ?_
            · intro w' hSw
              exact runLd 26 (.tmp 10) rfl wr.heap.size 0 rfl ds _ hSw.rk Tryz.underlying26 rfl hinf3
            simp only [Act.put, List.getElem_toArray, List.getElem_cons_succ, List.getElem_cons_zero, List.setIfInBounds_toArray, List.set_cons_zero, List.set_cons_succ]
            refine wpAnyH_take (i := 2) (v := .agg (tic o fd n (.slice (some ⟨g, p, none⟩) ks.length cap))) rfl (by kernel_rfl) (by kernel_rfl) (by kernel_rfl) (fun _ _ _ h => h) (Or.inl ⟨by rfl, ?_⟩) hHeld ?_
            · intro w' hSw
              exact runLd 26 (.tmp 5) rfl w.heap.size 0 rfl (tic o fd n (.slice (some ⟨g, p, none⟩) ks.length cap)) _ hSw.rs Tryz.underlying26 rfl hinf
            simp only [Act.put, List.getElem_toArray, List.getElem_cons_succ, List.getElem_cons_zero, List.setIfInBounds_toArray, List.set_cons_zero, List.set_cons_succ]
            refine wpAnyH_take (i := 4) (v := ?_) rfl (by kernel_rfl) (by kernel_rfl) (by kernel_rfl) (fun _ _ _ h => h) (Or.inl ⟨by rfl, ?_⟩) hHeld ?_
            rotate_left
            · intro w' hSw
              clear hSw
              go_simp
              first | done | with_reducible rfl
            simp only [Act.put, List.getElem_toArray, List.getElem_cons_succ, List.getElem_cons_zero, List.setIfInBounds_toArray, List.set_cons_zero, List.set_cons_succ]
            refine wpAnyH_take (i := 5) (v := ?_) rfl (by kernel_rfl) (by kernel_rfl) (by kernel_rfl) (fun _ _ _ h => h) (Or.inl ⟨by rfl, ?_⟩) hHeld ?_
            rotate_left
            · intro w' hSw
              clear hSw
              go_simp
              first | done | with_reducible rfl
            simp only [Act.put, List.getElem_toArray, List.getElem_cons_succ, List.getElem_cons_zero, List.setIfInBounds_toArray, List.set_cons_zero, List.set_cons_succ]
            refine ready_one 3 _ (by kernel_rfl) rfl (stepFnW 21 (.func 21) [.tmp 39] _ [.agg (tic o fd n (.slice (some ⟨g, p, none⟩) ks.length cap))] rfl rfl rfl rfl (fun _ => rfl) _ HPr.out ?_)
            rintro e w4 ⟨rfl, hw⟩
            refine Or.inl ⟨_, rfl, ?_⟩
            have HS4 := hid (HSd.out.thn hlL (Only.of hw fun _ hk => Or.inr hk) (HSd.out.own.bel hw))
            have HT4 : Hid (TiV (fun b => b ≠ Lb ∧ b < w.heap.size) w4 ks[j] ds) := ti_on HTd.out fun b hb hS => ⟨hS, hw.block b hb⟩
            have hRk := (hw.block wr.heap.size hz3).trans HN3.out
            clear HSd HTd HN3 hw HPr HS3
            have hz4 := HS4.out.only.size
            have hR4 : StR Fb w.heap.size wr.heap.size (.func (.func 18) #[] #[ptr Lb, ptr Fb]) (tic o fd n (.slice (some ⟨g, p, none⟩) ks.length cap)) ds w4 := ⟨HS4.out.own.cf, row4_rng HS4.out.row, row4_rng hRk⟩
            have hG4 := (Array.getElem?_eq_some_iff.1 HS4.out.row).1
            have hK4 := (Array.getElem?_eq_some_iff.1 hRk).1
            have HR4 := hid hR4
            refine ⟨hR4, ?_⟩
            clear hR4
            simp only [Act.put, List.getElem_toArray, List.getElem_cons_succ, List.getElem_cons_zero, List.setIfInBounds_toArray, List.set_cons_zero, List.set_cons_succ]
            have HC := hid (HIH.out ks[j] ds (decide ((o : Int) ≤ 6)) (L - 1 - szsI (ks.take j)) (d + 1) w4 (by have := szsI_mem (List.getElem_mem hj); omega) (ti_on HT4.out fun b hb hS => ⟨⟨hS.1, by omega⟩, rfl⟩) HS4.out.own (HTw.out.keep fun k hk => HS4.out.only.block k (by rintro (e | e) <;> omega)) (by omega) (by omega))
            rw [show (((d + 1 : Nat) : Nat) : Int) = (d : Int) + 1 by omega] at HC
            clear hRk HT4
            by_cases hfit : Std (decide ((o : Int) ≤ 6)) (d + 1) (L - 1 - szsI (ks.take j)) ks[j]
            · have HCt := hid (SdP.yes HC.out hfit)
              refine ready_one 6 _ (by kernel_rfl) rfl (stepC 18 (.tmp 37) [.tmp 38, .tmp 40, .tmp 42] _ [.agg ds, .bool (decide ((o : Int) ≤ 6)), .int .i64 ((d : Int) + 1)] [ptr Lb, ptr Fb] rfl rfl rfl rfl (fun _ _ => rfl) _ HCt.out ?_)
              rintro e w5 ⟨rfl, h1, h2⟩
              refine Or.inl ⟨_, rfl, ?_⟩
              have HS5 := hid (HS4.out.thn hlL h1 h2)
              have hHeld := HR4.out.thn h1 hne (by omega) (by omega) hG4 hK4
              clear h1 h2 HS4 HC HCt HR4
              refine ⟨hHeld, ?_⟩
              simp only [Act.put, List.getElem_toArray, List.getElem_cons_succ, List.getElem_cons_zero, List.setIfInBounds_toArray, List.set_cons_zero, List.set_cons_succ]
              refine wpAnyH_take (i := 7) (v := ?_) rfl (by kernel_rfl) (by kernel_rfl) (by kernel_rfl) (fun _ _ _ h => h) (Or.inl ⟨by rfl, ?_⟩) hHeld ?_
              rotate_left
              · intro w' hSw
                clear hSw
                go_simp
                first | done | with_reducible rfl
              simp only [Act.put, List.getElem_toArray, List.getElem_cons_succ, List.getElem_cons_zero, List.setIfInBounds_toArray, List.set_cons_zero, List.set_cons_succ]
              refine wpAnyH_done (by kernel_rfl) ?_ _
              clear hHeld
              go_wp2
              have hL5 : L - 1 - szsI (ks.take (j + 1)) = L - 1 - szsI (ks.take j) - szI ks[j] := by rw [HTk.out]; omega
              have hX : ∃ k : Nat, Value.int .i64 ((j : Int) + 1) = .int .i64 ((k : Nat) : Int) ∧ k ≤ ks.length ∧ szsI (ks.take k) + 1 ≤ L ∧ Hid (∀ i (hi : i < ks.length), i < k → okI (decide ((o : Int) ≤ 6)) ks[i] = true ∧ d + 1 + dpI ks[i] ≤ 129) ∧ Hid (SdS Lb Fb w ks (.slice (some ⟨g, p, none⟩) ks.length cap) (L - 1 - szsI (ks.take k)) (tic o fd n (.slice (some ⟨g, p, none⟩) ks.length cap)) w5) := by
                refine ⟨j + 1, by rw [show (((j + 1 : Nat) : Nat) : Int) = (j : Int) + 1 by omega], hj, by rw [HTk.out]; have := hfit.2.2; omega, fun i hi hij => ?_, by rw [hL5]; exact HS5⟩
                by_cases e : i = j
                · subst e; exact ⟨hfit.1, hfit.2.1⟩
                · exact HD.out i hi (by omega)
              refine ⟨?_, ?_⟩
              · first
                  | exact hX
                  | ((repeat apply Exists.intro); refine ⟨?_, rfl⟩; exact hX)
              · simp [intOf]; omega
            · have HCf := hid (SdP.no HC.out hfit)
              have HF : Hid (¬ Std b d L (.mk o fd n ks)) := fun h => hfit (by
                obtain ⟨a1, a2, a3⟩ := HSu.out.1 h
                have h1 := szsI_le ks (j + 1)
                have h2 := dpsI_mem (List.getElem_mem hj)
                rw [HTk.out] at h1
                exact ⟨okIs_iff.1 a1 _ (List.getElem_mem hj), by omega, by omega⟩)
              refine ready_one 6 _ (by kernel_rfl) rfl (stepC 18 (.tmp 37) [.tmp 38, .tmp 40, .tmp 42] _ [.agg ds, .bool (decide ((o : Int) ≤ 6)), .int .i64 ((d : Int) + 1)] [ptr Lb, ptr Fb] rfl rfl rfl rfl (fun _ _ => rfl) _ HCf.out ?_)
              rintro e w5 ⟨rfl, h1⟩
              refine Or.inl ⟨_, rfl, ?_⟩
              have HO4 := hid (HS4.out.only.thl h1)
              have hHeld := HR4.out.thn h1 hne (by omega) (by omega) hG4 hK4
              clear h1 HS4 HC HCf HR4
              refine ⟨hHeld, ?_⟩
              simp only [Act.put, List.getElem_toArray, List.getElem_cons_succ, List.getElem_cons_zero, List.setIfInBounds_toArray, List.set_cons_zero, List.set_cons_succ]
              refine wpAnyH_take (i := 7) (v := ?_) rfl (by kernel_rfl) (by kernel_rfl) (by kernel_rfl) (fun _ _ _ h => h) (Or.inl ⟨by rfl, ?_⟩) hHeld ?_
              rotate_left
              · intro w' hSw
                clear hSw
                go_simp
                first | done | with_reducible rfl
              simp only [Act.put, List.getElem_toArray, List.getElem_cons_succ, List.getElem_cons_zero, List.setIfInBounds_toArray, List.set_cons_zero, List.set_cons_succ]
              refine wpAnyH_done (by kernel_rfl) ?_ _
              clear hHeld
              go_wp2
              go_ret
              exact ⟨HO4.out, Or.inr ⟨HF.out, rfl⟩⟩
          · have hs3 : decide ((j : Int) < (ks.length : Int)) = false := by simp; omega
            obtain rfl : j = ks.length := by omega
            have HF : Hid (Std b d L (.mk o fd n ks) ∧ L - 1 - szsI (ks.take ks.length) = L - szI (.mk o fd n ks)) := by
              rw [List.take_length] at hj2
              refine ⟨HSu.out.2 ⟨okIs_iff.2 fun t ht => ?_, ?_, hj2⟩, by rw [List.take_length, szI_mk]; omega⟩
              · obtain ⟨i, hi, rfl⟩ := List.getElem_of_mem ht
                exact (HD.out i hi hi).1
              · have := dpsI_le (m := 128 - d) (ks := ks) fun t ht => by
                  obtain ⟨i, hi, rfl⟩ := List.getElem_of_mem ht
                  have := (HD.out i hi hi).2
                  omega
                omega
            go_wp2
            go_ret
            exact ⟨HS.out.only, Or.inl ⟨HF.out.1, rfl, by rw [← HF.out.2]; exact HS.out.own⟩⟩
end Go.Proofs.YtoncogkamlgjhaaGreatDoor
