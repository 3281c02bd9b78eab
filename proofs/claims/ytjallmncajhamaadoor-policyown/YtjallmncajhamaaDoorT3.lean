/-
  Proved here: isTooBig of package policy tells whether some terms are too many together, or one too deep. Conditions: the terms lie in old memory, and are at most a hundred.
-/
import Derived.Test.YtjallmncajhamaaDoorT2
namespace Go.Proofs.YtjallmncajhamaaDoor
open Go.RowKit
set_option maxRecDepth 100000

def fitI (ts : List Ti) : Bool := decide (szsI ts ≤ 4096) && decide (dpsI ts ≤ 128)
theorem fitI_iff {ts : List Ti} : fitI ts = true ↔ szsI ts ≤ 4096 ∧ dpsI ts ≤ 128 := by unfold fitI; simp
/-- where its loop is -/
structure TbS (Lb Fb : Nat) (w : World) (ts : List Ti) (v : Value) (L' : Nat) (wr : World) : Prop where
  low : Below w.heap.size w wr
  own : Own2 Lb Fb ((L' : Nat) : Int) wr
  ks : ∃ xs, Rx (fun b => b < w.heap.size) 4 wr v ts.length xs ∧ TiL (fun b => b < w.heap.size) wr ts xs
theorem TbS.thn {Lb Fb : Nat} {w : World} {ts : List Ti} {v : Value} {L' L'' : Nat} {wr w' : World} (h : TbS Lb Fb w ts v L' wr) (hL : w.heap.size ≤ Lb) (ho : Only (Ln Lb wr) wr w') (hw : Own2 Lb Fb ((L'' : Nat) : Int) w') : TbS Lb Fb w ts v L'' w' := by
  obtain ⟨xs, g1, g2⟩ := h.ks
  have hz := h.low.size
  have hc : ∀ b, b < wr.heap.size → b < w.heap.size → b < w.heap.size ∧ w'.heap[b]? = wr.heap[b]? := fun b hb hS => ⟨hS, ho.block b (by rintro (e | e) <;> omega)⟩
  exact ⟨h.low.trans (ho.below fun k hk => by rcases hk with e | e <;> omega), hw, ⟨xs, g1.carry hc, TiL.carry hc _ _ g2⟩⟩
theorem TbS.kid {Lb Fb : Nat} {w : World} {ts : List Ti} {ao : Option Addr} {cap : Nat} {L' : Nat} {wr : World} (h : TbS Lb Fb w ts (.slice ao ts.length cap) L' wr) {j : Nat} (hj : j < ts.length) :
    ∃ g o, ao = some ⟨g, o, none⟩ ∧ ts.length ≤ cap ∧ ∃ ds, TiV (fun b => b < w.heap.size) wr ts[j] ds ∧ wr.rangeAt g (o + j * 4) ds.toList := by
  obtain ⟨xs, g1, g2⟩ := h.ks
  obtain ⟨g, o, e, hc, -, -, hr⟩ := g1.at hj
  obtain ⟨ds, h4, h5⟩ := TiL.at ts xs j hj g2
  refine ⟨g, o, e, hc, ds, h4, hr _ fun i hi => ?_⟩
  have hi4 : i < 4 := by have := h4.size; simp at hi; omega
  rw [h5 i hi4]
  simp
set_option maxHeartbeats 12800000 in
theorem big8_any (ts : List Ti) (v : Value) (xs : List Value) (w : World) (hn : ts.length ≤ 100) (h1 : Rx (fun b => b < w.heap.size) 4 w v ts.length xs) (h2 : TiL (fun b => b < w.heap.size) w ts xs) : Calls Tryd.prog 36 #[v] w fun e w' => e = .returned (.bool (!fitI ts)) ∧ Below w.heap.size w w' := by
  obtain ⟨ao, cap, rfl⟩ := h1.form
  have hmf : ∀ (fn : Fn) (first cap : Array Value) (w : World), (Instr.makeFunc fn first cap).run Tryd.prog w = .ok (.func fn first cap) w := fun _ _ _ _ => rfl
  go_enter Tryd.func36, Tryd.ntmps36
  go_upto_region 3 with fail
  have hbA : Below w.heap.size w ((w.alloc (.cells #[.int .i64 4096] 3)).alloc (.cells #[Value.nilFunc] 87)) := ((Below.refl _ _).alloc (Nat.le_refl _) _).alloc (by simp) _
  have hL : ((w.alloc (.cells #[.int .i64 4096] 3)).alloc (.cells #[Value.nilFunc] 87)).heap[w.heap.size]? = some (.cells #[.int .i64 4096] 3 (0, 0)) := (heap_alloc_old _ _ (by simp)).trans (heap_alloc_new _ _)
  have hF : ((w.alloc (.cells #[.int .i64 4096] 3)).alloc (.cells #[Value.nilFunc] 87)).heap[w.heap.size + 1]? = some (.cells #[Value.nilFunc] 87 (0, 0)) := by have := heap_alloc_new (w.alloc (.cells #[.int .i64 4096] 3)) (.cells #[Value.nilFunc] 87); simpa using this
  generalize (w.alloc (.cells #[.int .i64 4096] 3)).alloc (.cells #[Value.nilFunc] 87) = W3 at hbA hL hF ⊢
  obtain ⟨Lb, hLb⟩ : ∃ Lb, Lb = w.heap.size := ⟨_, rfl⟩
  obtain ⟨Fb, hFb⟩ : ∃ Fb, Fb = w.heap.size + 1 := ⟨_, rfl⟩
  rw [← hFb] at hF
  rw [← hLb] at hL
  obtain ⟨fv, hfv⟩ : ∃ fv, fv = Value.func (.func 59) #[] #[ptr Lb, ptr Fb] := ⟨_, rfl⟩
  have hko : ∀ b, b ≠ Fb → (W3.setRow Fb #[fv]).heap[b]? = W3.heap[b]? := fun b hb => setRow_other W3 Fb b _ hb
  have hO4 : Own2 Lb Fb ((4096 : Nat) : Int) (W3.setRow Fb #[fv]) := ⟨(hko Lb (by omega)).trans hL, by rw [setRow_heap W3 Fb _ #[fv] _ _ hF, hfv]⟩
  have hb4 : Below w.heap.size w (W3.setRow Fb #[fv]) := bel_row hbA (by omega) _
  have HF3 := hid hF
  go_upto_region 4 with (refine stOne 87 (.tmp 4) (.tmp 7) rfl rfl Fb (by rw [hFb]; rfl) fv (by rw [hfv, hLb, hFb]; rfl) (by rw [hfv]; rfl) 87 _ HF3.out (by kernel_rfl) ?_)
  clear hko hbA hL hF HF3
  generalize W3.setRow Fb #[fv] = W4 at hO4 hb4 ⊢
  have HS0 : Hid (TbS Lb Fb w ts (.slice ao ts.length cap) 4096 W4) := ⟨hb4, hO4, xs, h1.carry fun b hb hS => ⟨hS, hb4.block b hb⟩, TiL.carry (fun b hb hS => ⟨hS, hb4.block b hb⟩) _ _ h2⟩
  have hne : Fb ≠ Lb := by omega
  subst hFb
  subst hLb
  clear hO4 hb4 h1 h2 hmf hfv
  go_upto_region 5 with fail
  go_loopw [10] (fun v wr => ∃ j : Nat, v = .int .i64 ((j : Nat) : Int) ∧ j ≤ ts.length ∧ szsI (ts.take j) ≤ 4096 ∧ Hid (∀ i (hi : i < ts.length), i < j → 1 + dpI ts[i] ≤ 129) ∧ Hid (TbS w.heap.size (w.heap.size + 1) w ts (.slice ao ts.length cap) (4096 - szsI (ts.take j)) wr)) (fun v _ => ts.length - (intOf v).toNat)
  case atStart => exact ⟨0, rfl, Nat.zero_le _, by rw [List.take_zero, szsI]; omega, fun i hi h => by omega, by rw [List.take_zero, szsI]; exact HS0.out⟩
  case round =>
    clear HS0
    obtain ⟨j, rfl, hj1, hj2, HD, HS⟩ := hrel
    by_cases hj : j < ts.length
    · obtain ⟨g, o, rfl, hcap, ds, ht, hra⟩ := HS.out.kid hj
      have hs3 : decide ((j : Int) < (ts.length : Int)) = true := by simp; omega
      have hjc : j < cap := by omega
      have hw3 : IntKind.i64.wrap ((j : Int) + 1) = (j : Int) + 1 := by rw [IntKind.wrap_i64]; omega
      have hb3 : Below wr.heap.size wr (wr.alloc (.cells ds 26)) := (Below.refl _ _).alloc (Nat.le_refl _) _
      have HN3 : Hid ((wr.alloc (.cells ds 26)).heap[wr.heap.size]? = some (.cells ds 26 (0, 0))) := heap_alloc_new _ _
      have hO3 := HS.out.own.bel hb3
      have HS3 := hid (HS.out.thn (Nat.le_refl _) (Only.of hb3 fun _ hk => Or.inr hk) hO3)
      have hcf := hO3.cf
      have hzr := HS.out.low.size
      have hzL := (Array.getElem?_eq_some_iff.1 HS.out.own.l).1
      have hzA : (wr.alloc (.cells ds 26)).heap.size = wr.heap.size + 1 := by simp
      have HC := hid (fits8_any w.heap.size (w.heap.size + 1) hne _ ts[j] ds (4096 - szsI (ts.take j)) 1 _ (Nat.le_refl _) (ti_on ht fun b hb hS => ⟨⟨by omega, by omega⟩, hb3.block b hb⟩) hO3 (by omega) (by omega))
      rw [show (((1 : Nat) : Nat) : Int) = 1 from rfl] at HC
      have HT := hid ht
      have HRA := hid hra
      have HTk := hid (szsI_take hj)
      clear hO3 ht hra hb3 HS
      have HCt := hid (fun hfit => FtP.yes HC.out hfit)
      have HCf := hid (fun hfit => FtP.no HC.out hfit)
      clear HC
      go_upto_region 7 with (first
        | (refine ldMid 26 (.tmp 12) rfl rfl g (o + j * 4) rfl ds _ Tryd.underlying26 rfl HT.out.info HRA.out ?_)
        | (refine stNew 26 (.tmp 6) (.tmp 13) rfl rfl wr 26 (tmc 0 0 0 nilS) ds rfl rfl rfl HT.out.info (by rw [HT.out.size]; rfl) HT.out.one ?_))
      generalize wr.alloc (.cells ds 26) = w3 at HN3 HS3 hcf HCt HCf hzA ⊢
      by_cases hft : szI ts[j] ≤ 4096 - szsI (ts.take j) ∧ 1 + dpI ts[j] ≤ 129
      · go_wp2_with (first
          | (refine ldRow 26 (.tmp 6) rfl rfl wr.heap.size rfl 26 ds _ Tryd.underlying26 rfl HT.out.info HN3.out ?_)
          | (go_at_call 59; refine (HCt.out hft).mono ?_; rintro e w4 ⟨rfl, a1, a2⟩; have HS4 := hid (HS3.out.thn (Nat.le_refl _) a1 a2); clear a1 a2))
        have hL5 : 4096 - szsI (ts.take (j + 1)) = 4096 - szsI (ts.take j) - szI ts[j] := by rw [HTk.out]; omega
        have hX : ∃ k : Nat, Value.int .i64 ((j : Int) + 1) = .int .i64 ((k : Nat) : Int) ∧ k ≤ ts.length ∧ szsI (ts.take k) ≤ 4096 ∧ Hid (∀ i (hi : i < ts.length), i < k → 1 + dpI ts[i] ≤ 129) ∧ Hid (TbS w.heap.size (w.heap.size + 1) w ts (.slice (some ⟨g, o, none⟩) ts.length cap) (4096 - szsI (ts.take k)) w4) := by
          refine ⟨j + 1, by rw [show (((j + 1 : Nat) : Nat) : Int) = (j : Int) + 1 by omega], hj, by rw [HTk.out]; omega, fun i hi hij => ?_, by rw [hL5]; exact HS4⟩
          by_cases e : i = j
          · subst e; exact hft.2
          · exact HD.out i hi (by omega)
        refine ⟨?_, ?_⟩
        · first
            | exact hX
            | ((repeat apply Exists.intro); refine ⟨?_, rfl⟩; exact hX)
        · simp [intOf]; omega
      · have HF : Hid (fitI ts = false) := by
          show _ = _
          rw [Bool.eq_false_iff]
          intro h
          have h := fitI_iff.1 h
          have h1 := szsI_le ts (j + 1)
          have h2 := dpsI_mem (List.getElem_mem hj)
          rw [HTk.out] at h1
          exact hft (by omega)
        go_wp2_with (first
          | (refine ldRow 26 (.tmp 6) rfl rfl wr.heap.size rfl 26 ds _ Tryd.underlying26 rfl HT.out.info HN3.out ?_)
          | (go_at_call 59; refine (HCf.out hft).mono ?_; rintro e w4 ⟨rfl, a1⟩; have HO5 := hid (HS3.out.low.trans (a1.below (B := w.heap.size) fun k hk => by rcases hk with e | e <;> omega)); clear a1))
        go_ret
        exact ⟨by rw [HF.out]; rfl, HO5.out⟩
    · have hs3 : decide ((j : Int) < (ts.length : Int)) = false := by simp; omega
      obtain rfl : j = ts.length := by omega
      have HF : Hid (fitI ts = true) := by
        rw [List.take_length] at hj2
        exact fitI_iff.2 ⟨hj2, dpsI_le fun t ht => by
          obtain ⟨i, hi, rfl⟩ := List.getElem_of_mem ht
          have := HD.out i hi hi
          omega⟩
      go_wp2
      go_ret
      exact ⟨by rw [HF.out]; rfl, HS.out.low⟩
end Go.Proofs.YtjallmncajhamaaDoor
