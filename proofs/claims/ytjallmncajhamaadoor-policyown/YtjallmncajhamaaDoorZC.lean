/-
  Proved here: size of the statements tells a term's size, at most 8193. Condition: what is counted so far is at most 8192.
-/
import Derived.Test.YtjallmncajhamaaDoorGX
namespace Go.Proofs.YtjallmncajhamaaDoor
open Go.RowKit
set_option maxRecDepth 100000

theorem size9_any : ∀ (N : Nat) (t : Ti) (cs : Array Value) (d : Nat) (w : World), szI t ≤ N → d ≤ 8192 → GiV (fun b => b < w.heap.size) w t cs → Calls Tryd.prog 48 #[.agg cs, .int .i64 ((d : Nat) : Int)] w fun e w' => e = .returned (.int .i64 ((min (d + szI t) 8193 : Nat) : Int)) ∧ Below w.heap.size w w'
  | 0, t, cs, d, w, hN, _, _ => by have := szI_pos t; omega
  | N + 1, .mk op fd n ks, cs, d, w, hN, hd, ht => by
    have HIH := hid (size9_any N)
    obtain ⟨v, xs, rfl, h2, h3⟩ := ht.get
    obtain ⟨ao, cap, rfl⟩ := h2.form
    have HSz := hid (szI_mk op fd n ks)
    rw [szI] at hN
    obtain ⟨W1, hW1⟩ : ∃ W1, W1 = w.alloc (.cells (tic op fd n (.slice ao ks.length cap)) 26) := ⟨_, rfl⟩
    have HE : Hid (w.alloc (.cells (tic op fd n (.slice ao ks.length cap)) 26) = W1) := hW1.symm
    have HB1 : Hid (Below w.heap.size w W1) := by show Below _ _ _; rw [hW1]; exact (Below.refl _ _).alloc (Nat.le_refl _) _
    have HN1 : Hid (W1.heap[w.heap.size]? = some (.cells (tic op fd n (.slice ao ks.length cap)) 26 (0, 0))) := by show _ = _; rw [hW1]; exact heap_alloc_new _ _
    have HZ1 : Hid (w.heap.size < W1.heap.size) := (Array.getElem?_eq_some_iff.1 HN1.out).1
    have H2 := hid h2
    have H3 := hid h3
    have HN := hid hN
    clear hW1 h2 h3 ht hN
    have hw1 : IntKind.i64.wrap ((d : Int) + 1) = (d : Int) + 1 := by rw [IntKind.wrap_i64]; omega
    have HSt : Hid ((d : Int) + 1 = ((min (d + 1 + szsI (ks.take 0)) 8193 : Nat) : Int)) := by show _ = _; rw [List.take_zero, szsI]; omega
    go_enter Tryd.func48, Tryd.ntmps48
    go_upto_region 1 with fail
    rw [show w.alloc (.cells (tic op fd n (.slice ao ks.length cap)) 26) = W1 from HE.out]
    clear HE
    go_upto_region 3 with fail
    go_loopw [1, 5] (fun nv iv wr => ∃ j : Nat, nv = .int .i64 ((min (d + 1 + szsI (ks.take j)) 8193 : Nat) : Int) ∧ iv = .int .i64 ((j : Nat) : Int) ∧ j ≤ ks.length ∧ j ≤ szsI (ks.take j) ∧ Hid (Below W1.heap.size W1 wr)) (fun _ iv _ => ks.length - (intOf iv).toNat)
    case atStart => exact ⟨0, by rw [← HSt.out], rfl, Nat.zero_le _, Nat.zero_le _, Below.refl _ _⟩
    case round =>
      obtain ⟨j, rfl, rfl, hj1, hj2, HB⟩ := hrel
      clear HSt hw1
      have hNr : wr.heap[w.heap.size]? = some (.cells (tic op fd n (.slice ao ks.length cap)) 26 (0, 0)) := (HB.out.block _ HZ1.out).trans HN1.out
      have c3 := (four_cells hNr).2.2.2
      clear hNr
      by_cases hj : j < ks.length
      · have hsl := szsI_take hj
        have hks := szsI_mem (List.getElem_mem hj)
        have hkp := szI_pos ks[j]
        have hs3 : decide ((j : Int) < (ks.length : Int)) = true := by simp; omega
        by_cases hm : d + 1 + szsI (ks.take j) ≤ 8192
        · obtain ⟨m, hm1⟩ : ∃ m, m = d + 1 + szsI (ks.take j) := ⟨_, rfl⟩
          rw [Nat.min_eq_left (by omega)]
          rw [← hm1] at hm ⊢
          have HM2 : Hid (min (d + 1 + szsI (ks.take (j + 1))) 8193 = min (m + szI ks[j]) 8193) := by show _ = _; rw [hsl, hm1, Nat.add_assoc (d + 1)]
          have HJ2 : Hid (j + 1 ≤ szsI (ks.take (j + 1))) := by show _ ≤ _; omega
          obtain ⟨kcs, hkv, hka⟩ := GiL.at ks xs j hj H3.out
          obtain ⟨g, o, rfl, hcap, hgS, hgl, hra⟩ := H2.out.at hj
          have hlow : Below w.heap.size w wr := HB1.out.trans (HB.out.mono HB1.out.size)
          have hk4 := hkv.size
          obtain ⟨x0, x1, x2, x3, rfl⟩ := arr4 hk4
          have hra2 := hra (#[x0, x1, x2, x3] : Array Value).toList (fun i hi => by
            have hi4 : i < 4 := by simpa using hi
            rw [hka i hi4]; simp)
          have HRA : Hid (wr.rangeAt g (o + j * 4) (#[x0, x1, x2, x3] : Array Value).toList) := fun i v hi => (cell_same (hlow.block g hgl)).trans (hra2 i v hi)
          have HC := hid (HIH.out ks[j] #[x0, x1, x2, x3] m wr (by have := HN.out; omega) hm (gi_on hkv fun b hb hS => ⟨by have := hlow.size; omega, hlow.block b hb⟩))
          have hs4 : decide ((m : Int) ≤ 8192) = true := by simp; omega
          have hjc : j < cap := by omega
          have hw3 : IntKind.i64.wrap ((j : Int) + 1) = (j : Int) + 1 := by rw [IntKind.wrap_i64]; omega
          clear hkv hka hra hra2 hlow hsl hks hkp hm1 hgS hgl hm
          generalize min (m + szI ks[j]) 8193 = m2 at HM2 HC
          go_wp2_with (first
            | (refine ldMid 26 (.tmp 22) rfl rfl g (o + j * 4) rfl #[x0, x1, x2, x3] _ Tryd.underlying26 rfl sizeTM HRA.out ?_)
            | (go_at_call 48; refine (HC.out).mono ?_; rintro e w4 ⟨rfl, hw⟩; have HB4 := hid (HB.out.trans (hw.mono HB.out.size)); clear hw HC))
          refine ⟨⟨j + 1, by rw [HM2.out], rfl, hj, HJ2.out, HB4⟩, ?_⟩
          simp [intOf]; omega
        · have hle := szsI_le ks j
          have HRt : Hid (min (d + szI (.mk op fd n ks)) 8193 = 8193) := by show _ = _; rw [HSz.out]; omega
          rw [Nat.min_eq_right (by omega)]
          clear hsl hks hkp hm hle
          go_wp2
          go_ret
          exact ⟨by rw [HRt.out]; rfl, HB1.out.trans (HB.out.mono HB1.out.size)⟩
      · have hs3 : decide ((j : Int) < (ks.length : Int)) = false := by simp; omega
        obtain rfl : j = ks.length := by omega
        rw [List.take_length]
        have HRt : Hid (min (d + 1 + szsI ks) 8193 = min (d + szI (.mk op fd n ks)) 8193) := by show _ = _; rw [HSz.out]; omega
        generalize min (d + 1 + szsI ks) 8193 = m at HRt ⊢
        go_wp2
        go_ret
        exact ⟨by rw [← HRt.out]; rfl, HB1.out.trans (HB.out.mono HB1.out.size)⟩
end Go.Proofs.YtjallmncajhamaaDoor
