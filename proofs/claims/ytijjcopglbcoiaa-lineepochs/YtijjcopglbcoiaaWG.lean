/-
  Proved here: LineEpochs' own text: it returns true for every two lists of messages and any two epochs. Condition: the seven functions of package line serve ends.
-/
import Derived.Test.YtijjcopglbcoiaaWF
namespace Go.Proofs.Ytijjcopglbcoiaa
open Go.RowKit Seal

abbrev lateB : List Int := [108, 97, 116, 101]
abbrev lateC : Array Value := #[.int .u8 108, .int .u8 97, .int .u8 116, .int .u8 101]
theorem conv4 (w : World) : (convert 31 31 (.slice (some ⟨w.heap.size, 0, none⟩) 4 4)).run Try.prog (w.alloc (.cells lateC 5)) = .ok (.slice (some ⟨w.heap.size, 0, none⟩) 4 4) (w.alloc (.cells lateC 5 (4, 5))) := Lib.run_convert_bytes_const w 31 5 lateC 4 4 Try.underlying31 Try.underlying5
theorem lay4 (c : Nat → Nat) (i : Nat) (w : World) : SlC (Col (tint c w.heap.size i) i) (w.alloc (.cells lateC 5 (4, 5))) (.slice (some ⟨w.heap.size, 0, none⟩) 4 4) lateB ∧ Keep c (tint c w.heap.size i) i w (w.alloc (.cells lateC 5 (4, 5))) := by
  refine ⟨⟨_, 4, rfl, by decide, by decide, isB_of (by decide), (fun h => by cases h), fun _ => ⟨w.heap.size, 0, tint_new (Nat.le_refl _), rfl, fun j hj => ?_⟩⟩, Keep.alloc c i w _⟩
  rw [Nat.zero_add, World.cell?_alloc_mark w]
  have : j = 0 ∨ j = 1 ∨ j = 2 ∨ j = 3 := by simp at hj; omega
  rcases this with rfl | rfl | rfl | rfl <;> rfl
theorem fit_e {p c : Nat} {P X : List (List Int)} (hp : p < 4294967296) (h1 : P.length ≤ 60 ∧ ∀ m ∈ P, m.length ≤ 4096) (h2 : c ≤ 60) (h3 : X.length ≤ 60) : Fit ⟨p, P, 0, c, X⟩ := ⟨hp, by show 0 + P.length < _; omega, by show c < _; omega, by show X.length < _; omega, fun m hm => by have := h1.2 m hm; omega⟩

set_option maxRecDepth 100000 in
set_option maxHeartbeats 1600000 in
theorem epochs_main (A : PApi) (pv qv : Value) (low high : Nat) (P Q : List (List Int)) (w : World) (hp : Ls (fun k => k < w.heap.size) w pv P) (hq : Ls (fun k => k < w.heap.size) w qv Q) (sp : smL P = true) (sq : smL Q = true) (hlh : low < high) (hh : high < 4294967296) (fp : ftL P = true) (fq : ftL Q = true) :
    Calls Try.prog 8 #[pv, qv, .int .u32 (low : Nat), .int .u32 (high : Nat)] w fun r w' => r = .returned (.bool true) ∧ Below w.heap.size w w' := by
  have HPL : Hid (Ls (fun k => k < w.heap.size) w pv P) := hp
  have HQL : Hid (Ls (fun k => k < w.heap.size) w qv Q) := hq
  have HSM : Hid (smL P = true ∧ smL Q = true) := ⟨sp, sq⟩
  have HSP : Hid (Calls Try.prog 23 #[pv] w fun r w' => r = .returned (.bool true) ∧ w' = w) := by
    have := small_any _ pv P w hp; rw [sp] at this; exact this
  have HSQ : Hid (Calls Try.prog 23 #[qv] w fun r w' => r = .returned (.bool true) ∧ w' = w) := by
    have := small_any _ qv Q w hq; rw [sq] at this; exact this
  have HFP : Hid (Calls Try.prog 26 #[pv] w fun r w' => r = .returned (.bool true) ∧ w' = w) := by
    have := fits_any _ pv P w hp sp; rw [fp] at this; exact this
  have HFQ : Hid (Calls Try.prog 26 #[qv] w fun r w' => r = .returned (.bool true) ∧ w' = w) := by
    have := fits_any _ qv Q w hq sq; rw [fq] at this; exact this
  have HEP : Hid (∀ m, taE (tkL ⟨high, Q, 0, 0, []⟩) = 0 ∧ taS ⟨low, m, 0, 0, []⟩ (tkL ⟨high, Q, 0, 0, []⟩) = ⟨high, [], 0, Q.length, Q⟩ ∧ taE (tkL ⟨low, P, 0, 0, []⟩) = 0 ∧ taS ⟨high, [], 0, Q.length, []⟩ (tkL ⟨low, P, 0, 0, []⟩) = ⟨high, [], 0, Q.length, []⟩) := fun m => epochs hp.allB hq.allB sp sq fp fq hlh hh m
  have hp6 := of_decide_eq_true sp
  have hq6 := of_decide_eq_true sq
  have HP6 : Hid (P.length ≤ 60 ∧ ∀ m ∈ P, m.length ≤ 4096) := hp6
  have HQ6 : Hid (Q.length ≤ 60 ∧ ∀ m ∈ Q, m.length ≤ 4096) := hq6
  clear hp6 hq6
  have hQ60 := HQ6.out.1
  obtain ⟨pa, pc, rfl, -, -, -, -⟩ := hp
  obtain ⟨qa, qc, rfl, -, -, -, -⟩ := hq
  have hnot : ∀ (x : Bool) (w : World), (Op.unary .not (.bool x)).run Try.prog w = .ok (.bool (!x)) w := fun _ _ => rfl
  clear sp sq fp fq
  go_enter Try.func8, Try.ntmps8
  go_wp2_with fail
  go_fit HSP.out
  rintro r w1 ⟨rfl, h1⟩
  rw [h1]; clear h1 w1
  go_wp2_with fail
  go_fit HSQ.out
  rintro r w1 ⟨rfl, h1⟩
  rw [h1]; clear h1 w1
  go_wp2_with fail
  go_fit HFP.out
  rintro r w1 ⟨rfl, h1⟩
  rw [h1]; clear h1 w1
  go_wp2_with fail
  go_fit HFQ.out
  rintro r w1 ⟨rfl, h1⟩
  rw [h1]; clear h1 w1
  go_wp2_with fail
  go_fit (make1 A w low (by omega))
  rintro r w1 ⟨va, c1, rfl, hl1, ho1, hp1⟩
  have H1 : Hid (Below w.heap.size w w1 ∧ (∀ k, k < w.heap.size → c1 k = 0) ∧ A.PE (Col c1 1) w1 va (E.mk0 low)) := ⟨hl1, ho1, hp1⟩
  clear hl1 ho1 hp1 HSP HSQ HFP HFQ
  go_wp2_with fail
  go_fit (S2.make H1.out.1 H1.out.2.1 H1.out.2.2 high hh)
  rintro r w2 ⟨vb, c2, rfl, -, h2⟩
  have T2 : Hid (S2 A w w2 c2 va vb (E.mk0 low) (E.mk0 high)) := h2
  clear h2 H1
  go_wp2_with fail
  go_fit (A.newC c2 9 low w2 (by omega))
  rintro r w3 ⟨vc, c3, rfl, k3, -, -, h3⟩
  have T3 : Hid (S2 A w w3 c3 va vb (E.mk0 low) (E.mk0 high) ∧ A.PE (Col c3 9) w3 vc (E.mk0 low)) := ⟨T2.out.other k3 (by omega) (by omega) (by omega), h3⟩
  clear k3 h3 T2
  go_wp2_with fail
  go_fit (sent_any A c3 1 low va _ P w3 T3.out.1.a (by omega) (HPL.out.carry fun k _ h => ⟨T3.out.1.old k h, T3.out.1.low.block k h⟩) (by omega) HSM.out.1)
  rintro r w4 ⟨c4, rfl, k4, h4⟩
  have T4 : Hid (S2 A w w4 c4 va vb ⟨low, P, 0, 0, []⟩ (E.mk0 high) ∧ A.PE (Col c4 9) w4 vc (E.mk0 low)) := ⟨T3.out.1.stepA k4 h4, k4.pe A (by omega) T3.out.2⟩
  clear k4 h4 T3
  go_wp2_with fail
  go_fit (sent_any A c4 2 high vb _ Q w4 T4.out.1.b (by omega) (HQL.out.carry fun k _ h => ⟨T4.out.1.old k h, T4.out.1.low.block k h⟩) hh HSM.out.2)
  rintro r w5 ⟨c5, rfl, k5, h5⟩
  have T5 : Hid (S2 A w w5 c5 va vb ⟨low, P, 0, 0, []⟩ ⟨high, Q, 0, 0, []⟩ ∧ A.PE (Col c5 9) w5 vc (E.mk0 low)) := ⟨T4.out.1.stepB k5 h5, k5.pe A (by omega) T4.out.2⟩
  clear k5 h5 T4
  have q5 := conv4 w5
  have l5 := lay4 c5 7 w5
  have T6 : Hid (S2 A w (w5.alloc (.cells lateC 5 (4, 5))) (tint c5 w5.heap.size 7) va vb ⟨low, P, 0, 0, []⟩ ⟨high, Q, 0, 0, []⟩ ∧ A.PE (Col (tint c5 w5.heap.size 7) 9) (w5.alloc (.cells lateC 5 (4, 5))) vc (E.mk0 low)) := ⟨T5.out.1.other l5.2 (by omega) (by omega) (by omega), l5.2.pe A (by omega) T5.out.2⟩
  have L6 : Hid (SlC (Col (tint c5 w5.heap.size 7) 7) (w5.alloc (.cells lateC 5 (4, 5))) (.slice (some ⟨w5.heap.size, 0, none⟩) 4 4) lateB) := l5.1
  clear l5 T5
  go_wp2_with fail
  go_fit (A.sendC (tint c5 w5.heap.size 7) 9 vc _ (E.mk0 low) lateB _ T6.out.2 (fit_e (by omega) ⟨by simp, by simp⟩ (by omega) (by simp)) (L6.out.ne (by omega)))
  rintro r w7 ⟨c7, rfl, k7, h7⟩
  rw [show sdE (E.mk0 low) lateB = 0 from rfl]
  have T7 : Hid (S2 A w w7 c7 va vb ⟨low, P, 0, 0, []⟩ ⟨high, Q, 0, 0, []⟩ ∧ A.PE (Col c7 9) w7 vc ⟨low, [lateB], 0, 0, []⟩) := ⟨T6.out.1.other k7 (by omega) (by omega) (by omega), h7⟩
  clear k7 h7 T6 L6 q5
  go_wp2_with fail
  go_fit (T7.out.1.tickA (fit_e (by omega) HP6.out (by omega) (by simp)) 3)
  rintro r w8 ⟨v8, c8, rfl, k8, h8, l8⟩
  have T8 : Hid (S2 A w w8 c8 va vb ⟨low, P, 0, 0, []⟩ ⟨high, Q, 0, 0, []⟩ ∧ A.PE (Col c8 9) w8 vc ⟨low, [lateB], 0, 0, []⟩) := ⟨h8, k8.pe A (by omega) T7.out.2⟩
  have L8 : Hid (Ls (Col c8 3) w8 v8 [tkL ⟨low, P, 0, 0, []⟩]) := l8
  clear k8 h8 l8 T7
  go_wp2_with fail
  go_fit (T8.out.1.tickB (fit_e hh HQ6.out (by omega) (by simp)) 3)
  rintro r w9 ⟨v9, c9, rfl, k9, h9, l9⟩
  have T9 : Hid (S2 A w w9 c9 va vb ⟨low, P, 0, 0, []⟩ ⟨high, Q, 0, 0, []⟩ ∧ A.PE (Col c9 9) w9 vc ⟨low, [lateB], 0, 0, []⟩) := ⟨h9, k9.pe A (by omega) T8.out.2⟩
  have L9 : Hid (Ls (Col c9 3) w9 v9 [tkL ⟨high, Q, 0, 0, []⟩] ∧ Ls (Col c9 3) w9 v8 [tkL ⟨low, P, 0, 0, []⟩]) := ⟨l9, k9.ls (by omega) L8.out⟩
  clear k9 h9 l9 T8 L8
  obtain ⟨b9, o9, q9, x9, y9, e9, -, -⟩ := L9.out.1.one
  obtain ⟨b8, o8, q8, x8, y8, e8, -, -⟩ := L9.out.2.one
  subst e9
  subst e8
  go_wp2_with fail
  go_loopw [14] (fun i wr => ∃ (k : Nat) (c : Nat → Nat) (e : E), k ≤ 1 ∧ i = .int .i64 k ∧ S2 A w wr c va vb ⟨low, P, 0, 0, []⟩ ⟨high, Q, 0, 0, []⟩ ∧ A.PE (Col c 9) wr vc e ∧ Ls (Col c 3) wr (.slice (some ⟨b9, o9, none⟩) 1 q9) [tkL ⟨high, Q, 0, 0, []⟩] ∧ Ls (Col c 3) wr (.slice (some ⟨b8, o8, none⟩) 1 q8) [tkL ⟨low, P, 0, 0, []⟩] ∧ ((k = 0 ∧ e = ⟨low, [lateB], 0, 0, []⟩) ∨ (k = 1 ∧ e = ⟨high, [], 0, Q.length, Q⟩))) (fun i _ => 1 - (intOf i).toNat)
  case atStart => exact ⟨0, c9, _, by omega, rfl, T9.out.1, T9.out.2, L9.out.1, L9.out.2, Or.inl ⟨rfl, rfl⟩⟩
  case round =>
    obtain ⟨k, c, e, hk, rfl, h2, h3, h4, h5, h6⟩ := hrel
    clear T9 L9
    rcases h6 with ⟨rfl, rfl⟩ | ⟨rfl, rfl⟩
    · obtain ⟨b, o, q, ua, uc, ee, hcl, hs⟩ := h4.one
      simp only [Value.slice.injEq, Option.some.injEq, Addr.mk.injEq, and_true, true_and] at ee
      obtain ⟨⟨rfl, rfl⟩, rfl⟩ := ee
      have HU : Hid (SlC (Col c 3) wr _ (tkL ⟨high, Q, 0, 0, []⟩)) := hs
      have TT : Hid (S2 A w wr c va vb ⟨low, P, 0, 0, []⟩ ⟨high, Q, 0, 0, []⟩ ∧ A.PE (Col c 9) wr vc ⟨low, [lateB], 0, 0, []⟩) := ⟨h2, h3⟩
      have LL : Hid (Ls (Col c 3) wr (.slice (some ⟨b9, o9, none⟩) 1 q9) [tkL ⟨high, Q, 0, 0, []⟩] ∧ Ls (Col c 3) wr (.slice (some ⟨b8, o8, none⟩) 1 q8) [tkL ⟨low, P, 0, 0, []⟩]) := ⟨h4, h5⟩
      clear h2 h3 h4 h5 hs
      go_wp2_with fail
      go_fit (A.takeC c 9 vc _ _ _ wr TT.out.2 (fit_e (by omega) ⟨by simp, by simp⟩ (by omega) (by simp)) (HU.out.ne (by omega)))
      rintro r wa ⟨ca, rfl, ka, ha⟩
      rw [(HEP.out [lateB]).1]
      rw [(HEP.out [lateB]).2.1] at ha
      have TA : Hid (S2 A w wa ca va vb ⟨low, P, 0, 0, []⟩ ⟨high, Q, 0, 0, []⟩ ∧ A.PE (Col ca 9) wa vc ⟨high, [], 0, Q.length, Q⟩) := ⟨TT.out.1.other ka (by omega) (by omega) (by omega), ha⟩
      have LA : Hid (Ls (Col ca 3) wa (.slice (some ⟨b9, o9, none⟩) 1 q9) [tkL ⟨high, Q, 0, 0, []⟩] ∧ Ls (Col ca 3) wa (.slice (some ⟨b8, o8, none⟩) 1 q8) [tkL ⟨low, P, 0, 0, []⟩]) := ⟨ka.ls (by omega) LL.out.1, ka.ls (by omega) LL.out.2⟩
      clear ka ha TT LL
      go_wp2
      go_roundw
      case rel => exact ⟨1, ca, _, by omega, by go_num, TA.out.1, TA.out.2, LA.out.1, LA.out.2, Or.inr ⟨rfl, rfl⟩⟩
      case measure => simp [intOf]
    · have TT : Hid (S2 A w wr c va vb ⟨low, P, 0, 0, []⟩ ⟨high, Q, 0, 0, []⟩ ∧ A.PE (Col c 9) wr vc ⟨high, [], 0, Q.length, Q⟩) := ⟨h2, h3⟩
      have LL : Hid (Ls (Col c 3) wr (.slice (some ⟨b8, o8, none⟩) 1 q8) [tkL ⟨low, P, 0, 0, []⟩]) := h5
      clear h2 h3 h4 h5
      go_wp2_with fail
      go_fit (A.cameC c 9 4 vc _ wr TT.out.2 (fit_e hh ⟨by simp, by simp⟩ hQ60 hQ60))
      rintro r wa ⟨va', ca, rfl, ka, ha, la⟩
      have TA : Hid (S2 A w wa ca va vb ⟨low, P, 0, 0, []⟩ ⟨high, Q, 0, 0, []⟩ ∧ A.PE (Col ca 9) wa vc ⟨high, [], 0, Q.length, []⟩) := ⟨TT.out.1.other ka (by omega) (by omega) (by omega), ha⟩
      have LA : Hid (Ls (Col ca 4) wa va' Q ∧ Ls (Col ca 3) wa (.slice (some ⟨b8, o8, none⟩) 1 q8) [tkL ⟨low, P, 0, 0, []⟩]) := ⟨la, ka.ls (by omega) LL.out⟩
      clear ka ha la TT LL
      go_wp2_with fail
      go_loopw [16] (fun i ws => ∃ (k : Nat) (c : Nat → Nat), k ≤ 1 ∧ i = .int .i64 k ∧ S2 A w ws c va vb ⟨low, P, 0, 0, []⟩ ⟨high, Q, 0, 0, []⟩ ∧ A.PE (Col c 9) ws vc ⟨high, [], 0, Q.length, []⟩ ∧ Ls (Col c 4) ws va' Q ∧ Ls (Col c 3) ws (.slice (some ⟨b8, o8, none⟩) 1 q8) [tkL ⟨low, P, 0, 0, []⟩]) (fun i _ => 1 - (intOf i).toNat)
      case atStart => exact ⟨0, ca, by omega, rfl, TA.out.1, TA.out.2, LA.out.1, LA.out.2⟩
      case round =>
        obtain ⟨k, cs, hk, rfl, h2, h3, h4, h5⟩ := hrel
        have TS : Hid (S2 A w wr cs va vb ⟨low, P, 0, 0, []⟩ ⟨high, Q, 0, 0, []⟩ ∧ A.PE (Col cs 9) wr vc ⟨high, [], 0, Q.length, []⟩) := ⟨h2, h3⟩
        have LS : Hid (Ls (Col cs 4) wr va' Q ∧ Ls (Col cs 3) wr (.slice (some ⟨b8, o8, none⟩) 1 q8) [tkL ⟨low, P, 0, 0, []⟩]) := ⟨h4, h5⟩
        clear TA LA
        by_cases hk0 : k = 0
        · subst hk0
          obtain ⟨b, o, q, ua, uc, ee, hcl, hs⟩ := h5.one
          simp only [Value.slice.injEq, Option.some.injEq, Addr.mk.injEq, and_true, true_and] at ee
          obtain ⟨⟨rfl, rfl⟩, rfl⟩ := ee
          have HU : Hid (SlC (Col cs 3) wr (.slice ua (tkL ⟨low, P, 0, 0, []⟩).length uc) (tkL ⟨low, P, 0, 0, []⟩)) := hs
          clear h2 h3 h4 h5 hs
          go_wp2_with fail
          go_fit (A.takeC cs 9 vc _ _ _ wr TS.out.2 (fit_e hh ⟨by simp, by simp⟩ hQ60 (by simp)) (HU.out.ne (by omega)))
          rintro r wt ⟨ct, rfl, kt, ht⟩
          rw [(HEP.out []).2.2.1]
          rw [(HEP.out []).2.2.2] at ht
          have TT : Hid (S2 A w wt ct va vb ⟨low, P, 0, 0, []⟩ ⟨high, Q, 0, 0, []⟩ ∧ A.PE (Col ct 9) wt vc ⟨high, [], 0, Q.length, []⟩) := ⟨TS.out.1.other kt (by omega) (by omega) (by omega), ht⟩
          have LT : Hid (Ls (Col ct 4) wt va' Q ∧ Ls (Col ct 3) wt (.slice (some ⟨b8, o8, none⟩) 1 q8) [tkL ⟨low, P, 0, 0, []⟩]) := ⟨kt.ls (by omega) LS.out.1, kt.ls (by omega) LS.out.2⟩
          clear kt ht TS LS
          go_wp2
          go_roundw
          case rel => exact ⟨1, ct, by omega, by go_num, TT.out.1, TT.out.2, LT.out.1, LT.out.2⟩
          case measure => simp [intOf]
        · obtain rfl : k = 1 := by omega
          clear h2 h3 h4 h5
          have LQ : Hid (Ls (fun k => k < w.heap.size) wr (.slice qa Q.length qc) Q) := HQL.out.carry fun k _ h => ⟨h, TS.out.1.low.block k h⟩
          have HLow : Hid (Below w.heap.size w wr) := TS.out.1.low
          go_wp2_with fail
          go_fit (all_any _ _ _ _ Q Q wr LS.out.1 LQ.out)
          rintro r wt ⟨rfl, ht⟩
          rw [decide_eq_true (rfl : Q = Q)]
          have TT : Hid (S2 A w wt (tint cs wr.heap.size 7) va vb ⟨low, P, 0, 0, []⟩ ⟨high, Q, 0, 0, []⟩ ∧ A.PE (Col (tint cs wr.heap.size 7) 9) wt vc ⟨high, [], 0, Q.length, []⟩) := ⟨TS.out.1.other (Keep.below cs 7 ht) (by omega) (by omega) (by omega), (Keep.below cs 7 ht).pe A (by omega) TS.out.2⟩
          clear ht TS LS LQ
          go_wp2_with fail
          go_fit (A.cameC _ 9 4 vc _ wt TT.out.2 (fit_e hh ⟨by simp, by simp⟩ hQ60 (by simp)))
          rintro r wu ⟨vu, cu, rfl, ku, hu, lu⟩
          obtain ⟨au, ku', rfl, -⟩ := lu
          have TU : Hid (S2 A w wu cu va vb ⟨low, P, 0, 0, []⟩ ⟨high, Q, 0, 0, []⟩ ∧ A.PE (Col cu 9) wu vc ⟨high, [], 0, Q.length, []⟩) := ⟨TT.out.1.other ku (by omega) (by omega) (by omega), hu⟩
          clear ku hu TT
          go_wp2_with fail
          go_fit (A.leftC cu 9 vc _ wu TU.out.2 (fit_e hh ⟨by simp, by simp⟩ hQ60 (by simp)))
          rintro r wx ⟨cx, rfl, kx', hx⟩
          have HX : Hid (Below w.heap.size w wx) := (TU.out.1.other kx' (by omega) (by omega) (by omega)).low
          clear kx' hx TU
          go_wp2_with fail
          go_fit (wakes_any A wx)
          rintro r wy ⟨rfl, hy⟩
          have HY : Hid (Below w.heap.size w wy) := HX.out.trans (hy.mono HX.out.size)
          clear hy HX
          go_wp2
          go_ret
          exact ⟨rfl, HY.out⟩
end Go.Proofs.Ytijjcopglbcoiaa
