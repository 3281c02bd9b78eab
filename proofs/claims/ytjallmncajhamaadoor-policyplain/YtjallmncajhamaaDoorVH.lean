/-
  Proved here: the document's Big of a policy. Conditions: at most 32 queries; the policy lies in old memory.
-/
import Derived.Test.YtjallmncajhamaaDoorVGB
namespace Go.Proofs.YtjallmncajhamaaDoor
open Go.RowKit
set_option maxRecDepth 100000

theorem pds_at {qs : List Qi} {j : Nat} (hj : j < qs.length) (h' : j < (qs.map (·.pd)).length) : (qs.map (·.pd))[j] = (qs[j]).pd := by simp
/-- a box of a policy, what it reads -/
structure Bxp (w : World) (x0 x1 x2 x3 : Value) (ao : Option Addr) (n cap : Nat) (W1 : World) : Prop where
  b : Below w.heap.size w W1
  n : W1.heap[w.heap.size]? = some (.cells #[x0, x1, x2, x3, .slice ao n cap] 29 (0, 0))
theorem Bxp.new (w : World) (x0 x1 x2 x3 : Value) (ao : Option Addr) (n cap : Nat) : Bxp w x0 x1 x2 x3 ao n cap (w.alloc (.cells #[x0, x1, x2, x3, .slice ao n cap] 29)) := ⟨(Below.refl _ _).alloc (Nat.le_refl _) _, heap_alloc_new _ _⟩
section
variable {w : World} {x0 x1 x2 x3 : Value} {ao : Option Addr} {n cap : Nat} {W1 W2 : World}
theorem Bxp.on (h : Bxp w x0 x1 x2 x3 ao n cap W1) (hb : Below W1.heap.size W1 W2) : Bxp w x0 x1 x2 x3 ao n cap W2 := ⟨h.b.trans (hb.mono h.b.size), (hb.block _ (Array.getElem?_eq_some_iff.1 h.n).1).trans h.n⟩
theorem Bxp.c4 (h : Bxp w x0 x1 x2 x3 ao n cap W1) : W1.cell? ⟨w.heap.size, 4, none⟩ = some (.slice ao n cap) := (cell_of_row _ _ _ _ _ _ h.n).trans rfl
end
theorem dps_all {m : Nat} : ∀ {ks : List Ti}, dpsI ks ≤ m → ∀ t ∈ ks, dpI t ≤ m := fun h t ht => by have := dpsI_mem ht; omega
set_option maxHeartbeats 25600000 in
theorem rbig_any (p : Pi) (cs : Array Value) (w : World) (hq : p.qs.length ≤ 32) (hp : PiV (fun b => b < w.heap.size) w p cs) : Calls Tryd.prog 40 #[.agg cs] w fun e w' => e = .returned (.bool (!fitI (tmsI p))) ∧ Below w.heap.size w w' := by
  obtain ⟨x0, x1, x2, x3, ao, cap, xs, rfl, h1, h2, h3⟩ := hp.five
  obtain ⟨r, hr⟩ : ∃ r, r = !fitI (tmsI p) := ⟨_, rfl⟩
  rw [← hr]
  obtain ⟨ps, hps⟩ : ∃ ps, ps = p.qs.map (·.pd) := ⟨_, rfl⟩
  have hpl : ps.length = p.qs.length := by rw [hps, List.length_map]
  have HT : Hid (4096 < szI p.main + szsI ps → r = true) := fun h => by
    rw [hr]; unfold fitI tmsI; rw [szsI, ← hps, decide_eq_false (show ¬ szI p.main + szsI ps ≤ 4096 by omega)]; rfl
  have HD : Hid (128 < max (dpI p.main) (dpsI ps) → r = true) := fun h => by
    rw [hr]; unfold fitI tmsI; rw [dpsI, ← hps, decide_eq_false (show ¬ max (dpI p.main) (dpsI ps) ≤ 128 by omega)]; simp
  have HF : Hid (szI p.main + szsI ps ≤ 4096 → dpI p.main ≤ 128 → dpsI ps ≤ 128 → r = false) := fun a b c => by
    rw [hr]; unfold fitI tmsI; rw [szsI, dpsI, ← hps, decide_eq_true a, decide_eq_true (show max (dpI p.main) (dpsI ps) ≤ 128 by omega)]; rfl
  have HPd : Hid (∀ j (hj : j < p.qs.length) (hj' : j < ps.length), ps[j] = (p.qs[j]).pd) := by subst hps; exact fun j hj hj' => pds_at hj hj'
  have HX : Hid (Bxp w x0 x1 x2 x3 ao p.qs.length cap (w.alloc (.cells #[x0, x1, x2, x3, .slice ao p.qs.length cap] 29))) := Bxp.new _ _ _ _ _ _ _ _
  have H1 := hid h1
  have H2 := hid h2
  have H3 := hid h3
  have HPL := hid hpl
  clear h1 h2 h3 hp hr hps hpl
  go_enter Tryd.func40, Tryd.ntmps40
  go_upto_region 1 with fail
  generalize w.alloc (.cells #[x0, x1, x2, x3, .slice ao p.qs.length cap] 29) = W1 at HX ⊢
  have HSm := hid (rsize_any 4097 4096 p.main #[x0, x1, x2, x3] W1 (by omega) (by omega) (ti_on H1.out fun b hb hS => ⟨by have := HX.out.b.size; omega, HX.out.b.block b hb⟩))
  have HR1 := hid (five_rng HX.out.n)
  obtain ⟨a0, ha0⟩ : ∃ a, a = min (szI p.main) (4096 + 1) := ⟨_, rfl⟩
  rw [← ha0] at HSm
  have HA0 := hid ha0
  clear ha0
  go_upto_region 3 with (first
    | (refine ldMid 26 (.tmp 6) rfl rfl w.heap.size 0 rfl #[x0, x1, x2, x3] _ Tryd.underlying26 rfl sizeTM HR1.out ?_)
    | (go_at_call 64; refine (HSm.out).mono ?_; rintro e W2 ⟨rfl, hw⟩; have HX2 := hid (HX.out.on hw); clear hw HSm))
  clear HR1 HX
  go_loopw [3, 4] (fun nv iv wr => ∃ a j : Nat, nv = .int .i64 ((a : Nat) : Int) ∧ iv = .int .i64 ((j : Nat) : Int) ∧ j ≤ p.qs.length ∧ Hid (Bxp w x0 x1 x2 x3 ao p.qs.length cap wr) ∧ Hid (a ≤ 4097 * (j + 1) ∧ (a ≤ 4096 → a = szI p.main + szsI (ps.take j)) ∧ (4096 < a → 4096 < szI p.main + szsI (ps.take j)))) (fun _ iv _ => p.qs.length - (intOf iv).toNat)
  case atStart =>
    refine ⟨a0, 0, rfl, rfl, Nat.zero_le _, HX2, ?_⟩
    show _ ∧ _
    have := HA0.out
    rw [List.take_zero, szsI]
    omega
  case round =>
    clear HX2 HA0
    obtain ⟨a, j, rfl, rfl, hj1, HB, HI⟩ := hrel
    have c4 := HB.out.c4
    by_cases hA : a ≤ 4096
    · have dA : decide (a ≤ 4096) = true := decide_eq_true hA
      have dA' : decide ((a : Int) ≤ 4096) = true := decide_eq_true (by omega)
      by_cases hj : j < p.qs.length
      · have hs3 : decide ((j : Int) < (p.qs.length : Int)) = true := by simp; omega
        obtain ⟨g, o, c0, e0, hcap, hgl, kcs, hkv, -, hra⟩ := QiL.rng H2.out H3.out hj
        cases e0
        have hlow := HB.out.b
        have hk4 := hkv.size
        obtain ⟨y0, y1, y2, y3, rfl⟩ := arr4 hk4
        have HRA : Hid (wr.rangeAt g (o + j * 5 + 1) (#[y0, y1, y2, y3] : Array Value).toList) := fun i v hi => (cell_same (hlow.block g hgl)).trans (hra i v hi)
        have HC := hid (rsize_any 4097 4096 (p.qs[j]).pd #[y0, y1, y2, y3] wr (by omega) (by omega) (ti_on hkv fun b hb hS => ⟨by have := hlow.size; omega, hlow.block b hb⟩))
        obtain ⟨z, hz⟩ : ∃ z, z = min (szI (p.qs[j]).pd) (4096 + 1) := ⟨_, rfl⟩
        rw [← hz] at HC
        have hjp : j < ps.length := by have := HPL.out; omega
        have hsl := szsI_take hjp
        rw [HPd.out j hj hjp] at hsl
        have hadd : IntKind.i64.wrap ((a : Int) + (z : Int)) = ((a + z : Nat) : Int) := by rw [IntKind.wrap_i64]; omega
        have HI2 : Hid (a + z ≤ 4097 * (j + 1 + 1) ∧ (a + z ≤ 4096 → a + z = szI p.main + szsI (ps.take (j + 1))) ∧ (4096 < a + z → 4096 < szI p.main + szsI (ps.take (j + 1)))) := by
          have := HI.out.2.1 hA
          show _ ∧ _
          rw [hsl]
          omega
        have hjc : j < cap := by omega
        have hw3 : IntKind.i64.wrap ((j : Int) + 1) = (j : Int) + 1 := by rw [IntKind.wrap_i64]; omega
        clear hkv hra hlow hsl hz HI
        go_wp2_with (first
          | (refine ldMid 26 (.tmp 25) rfl rfl g (o + j * 5 + 1) rfl #[y0, y1, y2, y3] _ Tryd.underlying26 rfl sizeTM HRA.out ?_)
          | (go_at_call 64; refine (HC.out).mono ?_; rintro e w4 ⟨rfl, hw⟩; have HB4 := hid (HB.out.on hw); clear hw HC))
        refine ⟨⟨a + z, j + 1, by rw [Int.natCast_add], rfl, hj, HB4, HI2⟩, ?_⟩
        simp [intOf]; omega
      · have hs3 : decide ((j : Int) < (p.qs.length : Int)) = false := by simp; omega
        obtain rfl : j = p.qs.length := by omega
        have htot := HI.out.2.1 hA
        rw [List.take_of_length_le (by have := HPL.out; omega)] at htot
        have HTot : Hid (szI p.main + szsI ps ≤ 4096) := by show _ ≤ _; omega
        have HLo := hid HB.out.b
        have HC := hid (rdeep_any 128 p.main #[x0, x1, x2, x3] wr (by omega) (by have := HTot.out; omega) (ti_on H1.out fun b hb hS => ⟨by have := HLo.out.size; omega, HLo.out.block b hb⟩))
        have HR1 := hid (five_rng HB.out.n)
        obtain ⟨z, hz⟩ : ∃ z, z = min (dpI p.main) (128 + 1) := ⟨_, rfl⟩
        rw [← hz] at HC
        have nA : decide (4096 < a) = false := decide_eq_false (by omega)
        have nA' : decide ((4096 : Int) < (a : Int)) = false := decide_eq_false (by omega)
        clear htot HI
        by_cases hd : 128 < dpI p.main
        · obtain rfl : r = true := HD.out (by omega)
          have dz : decide (128 < z) = true := decide_eq_true (by omega)
          have dz' : decide ((128 : Int) < (z : Int)) = true := decide_eq_true (by omega)
          clear hz hd
          go_wp2_with (first
            | (refine ldMid 26 (.tmp 32) rfl rfl w.heap.size 0 rfl #[x0, x1, x2, x3] _ Tryd.underlying26 rfl sizeTM HR1.out ?_)
            | (go_at_call 65; refine (HC.out).mono ?_; rintro e w4 ⟨rfl, hw⟩; have HB4 := hid (HB.out.on hw); clear hw HC))
          go_ret
          exact ⟨rfl, HB4.out.b⟩
        have dz : decide (128 < z) = false := decide_eq_false (by omega)
        have dz' : decide ((128 : Int) < (z : Int)) = false := decide_eq_false (by omega)
        have HDm : Hid (dpI p.main ≤ 128) := by show _ ≤ _; omega
        clear hz hd
        go_upto_region 9 with (first
            | (refine ldMid 26 (.tmp 32) rfl rfl w.heap.size 0 rfl #[x0, x1, x2, x3] _ Tryd.underlying26 rfl sizeTM HR1.out ?_)
            | (go_at_call 65; refine (HC.out).mono ?_; rintro e w4 ⟨rfl, hw⟩; have HB4 := hid (HB.out.on hw); clear hw HC))
        clear c4 HR1 HB hs3 hj hj1
        go_loopw [5] (fun iv wr => ∃ j : Nat, iv = .int .i64 ((j : Nat) : Int) ∧ j ≤ p.qs.length ∧ Hid (Bxp w x0 x1 x2 x3 ao p.qs.length cap wr) ∧ Hid (dpsI (ps.take j) ≤ 128)) (fun iv _ => p.qs.length - (intOf iv).toNat)
        case atStart => exact ⟨0, rfl, Nat.zero_le _, HB4, by show _ ≤ _; rw [List.take_zero, dpsI]; omega⟩
        case round =>
          clear HB4 HLo
          obtain ⟨j, rfl, hj1, HB, HI⟩ := hrel
          have c4 := HB.out.c4
          by_cases hj : j < p.qs.length
          · have hs3 : decide ((j : Int) < (p.qs.length : Int)) = true := by simp; omega
            obtain ⟨g, o, c0, e0, hcap, hgl, kcs, hkv, -, hra⟩ := QiL.rng H2.out H3.out hj
            cases e0
            have hlow := HB.out.b
            have hk4 := hkv.size
            obtain ⟨y0, y1, y2, y3, rfl⟩ := arr4 hk4
            have HRA : Hid (wr.rangeAt g (o + j * 5 + 1) (#[y0, y1, y2, y3] : Array Value).toList) := fun i v hi => (cell_same (hlow.block g hgl)).trans (hra i v hi)
            have hjp : j < ps.length := by have := HPL.out; omega
            have hpe := HPd.out j hj hjp
            have hszj : szI (p.qs[j]).pd ≤ 4096 := by have := szsI_mem (List.getElem_mem hjp); rw [hpe] at this; have := HTot.out; omega
            have HC := hid (rdeep_any 128 (p.qs[j]).pd #[y0, y1, y2, y3] wr (by omega) hszj (ti_on hkv fun b hb hS => ⟨by have := hlow.size; omega, hlow.block b hb⟩))
            obtain ⟨z, hz⟩ : ∃ z, z = min (dpI (p.qs[j]).pd) (128 + 1) := ⟨_, rfl⟩
            rw [← hz] at HC
            have hdl := dpsI_take hjp
            rw [hpe] at hdl
            have hjc : j < cap := by omega
            have hw3 : IntKind.i64.wrap ((j : Int) + 1) = (j : Int) + 1 := by rw [IntKind.wrap_i64]; omega
            by_cases hd : 128 < dpI (p.qs[j]).pd
            · obtain rfl : r = true := HD.out (by have := dpsI_mem (List.getElem_mem hjp); rw [hpe] at this; omega)
              have dz : decide (128 < z) = true := decide_eq_true (by omega)
              have dz' : decide ((128 : Int) < (z : Int)) = true := decide_eq_true (by omega)
              clear hkv hra hlow hdl hz HI hpe hszj hd
              go_wp2_with (first
                | (refine ldMid 26 (.tmp 48) rfl rfl g (o + j * 5 + 1) rfl #[y0, y1, y2, y3] _ Tryd.underlying26 rfl sizeTM HRA.out ?_)
                | (go_at_call 65; refine (HC.out).mono ?_; rintro e w4 ⟨rfl, hw⟩; have HB4 := hid (HB.out.on hw); clear hw HC))
              go_ret
              exact ⟨rfl, HB4.out.b⟩
            · have dz : decide (128 < z) = false := decide_eq_false (by omega)
              have dz' : decide ((128 : Int) < (z : Int)) = false := decide_eq_false (by omega)
              have HI2 : Hid (dpsI (ps.take (j + 1)) ≤ 128) := by have := HI.out; show _ ≤ _; rw [hdl]; omega
              clear hkv hra hlow hdl hz HI hpe hszj hd
              go_wp2_with (first
                | (refine ldMid 26 (.tmp 48) rfl rfl g (o + j * 5 + 1) rfl #[y0, y1, y2, y3] _ Tryd.underlying26 rfl sizeTM HRA.out ?_)
                | (go_at_call 65; refine (HC.out).mono ?_; rintro e w4 ⟨rfl, hw⟩; have HB4 := hid (HB.out.on hw); clear hw HC))
              refine ⟨⟨j + 1, rfl, hj, HB4, HI2⟩, ?_⟩
              simp [intOf]; omega
          · have hs3 : decide ((j : Int) < (p.qs.length : Int)) = false := by simp; omega
            obtain rfl : j = p.qs.length := by omega
            have hI := HI.out
            rw [List.take_of_length_le (by have := HPL.out; omega)] at hI
            obtain rfl : r = false := HF.out HTot.out HDm.out hI
            clear hI HI
            go_wp2
            go_ret
            exact ⟨rfl, HB.out.b⟩
    · have dA : decide (a ≤ 4096) = false := decide_eq_false hA
      have dA' : decide ((a : Int) ≤ 4096) = false := decide_eq_false (by omega)
      have nA : decide (4096 < a) = true := decide_eq_true (by omega)
      have nA' : decide ((4096 : Int) < (a : Int)) = true := decide_eq_true (by omega)
      obtain rfl : r = true := HT.out (by have := HI.out.2.2 (by omega); have := szsI_le ps j; omega)
      clear HI
      by_cases hj : j < p.qs.length
      · have hs3 : decide ((j : Int) < (p.qs.length : Int)) = true := by simp; omega
        go_wp2
        go_ret
        exact ⟨rfl, HB.out.b⟩
      · have hs3 : decide ((j : Int) < (p.qs.length : Int)) = false := by simp; omega
        go_wp2
        go_ret
        exact ⟨rfl, HB.out.b⟩
end Go.Proofs.YtjallmncajhamaaDoor
