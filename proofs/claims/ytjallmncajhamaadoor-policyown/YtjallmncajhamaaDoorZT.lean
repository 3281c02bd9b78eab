/-
  Proved here: spoil at any term: it ends, and rows of the set's blocks alone are changed. Condition: the set has no new block.
-/
import Derived.Test.YtjallmncajhamaaDoorZS
namespace Go.Proofs.YtjallmncajhamaaDoor
open Go.RowKit
set_option maxRecDepth 100000

theorem r77_one : (tic 77 0 0 nilS).all (·.oneCell') = true := by simp [Value.oneCell']
theorem run_bt77 (W : World) : (Instr.build 26 #[(0, .int .i8 77)]).run Tryd.prog W = .ok (.agg (tic 77 0 0 nilS)) W := by kernel_rfl
set_option maxHeartbeats 12800000 in
theorem spoil_any (S : Nat → Prop) : ∀ (N : Nat) (t : Ti) (cs : Array Value) (w : World), szI t ≤ N → N ≤ 100000 → SpV S w t cs → (∀ b, S b → b < w.heap.size) → Calls Tryd.prog 22 #[.agg cs] w fun e w' => e = .returned (.tuple #[]) ∧ Spo S w w'
  | 0, t, cs, w, hN, _, _, _ => by have := szI_pos t; omega
  | N + 1, t, cs, w, hN, hsm, ht, hS => by
    have HIH := hid (spoil_any S N)
    obtain ⟨op, fd, n, ao, L, cap, rfl, hLc, hLN, hk⟩ := ht.kids hN
    have HK := hid hk
    have hB0 : Spo S w (w.alloc (.cells (tic op fd n (.slice ao L cap)) 26)) := Spo.alloc _
    have HB0 := hid hB0
    have HN0 : Hid ((w.alloc (.cells (tic op fd n (.slice ao L cap)) 26)).heap[w.heap.size]? = some (.cells (tic op fd n (.slice ao L cap)) 26 (0, 0))) := heap_alloc_new _ _
    have HNS : Hid (¬ S w.heap.size) := fun h => Nat.lt_irrefl _ (hS _ h)
    have HSS := hid hS
    have hbt := fun W => run_bt77 W
    clear hk ht hB0 hN hS
    go_enter Tryd.func22, Tryd.ntmps22
    go_upto_region 1 with fail
    generalize w.alloc (.cells (tic op fd n (.slice ao L cap)) 26) = W1 at HN0 HB0 ⊢
    go_upto_region 2 with fail
    go_loopw [2] (fun v wr => ∃ j : Nat, v = .int .i64 ((j : Nat) : Int) ∧ j ≤ L ∧ Hid (Spo S w wr ∧ wr.heap[w.heap.size]? = some (.cells (tic op fd n (.slice ao L cap)) 26 (0, 0)))) (fun v _ => L - (intOf v).toNat)
    case atStart => exact ⟨0, rfl, Nat.zero_le _, HB0.out, HN0.out⟩
    case round =>
      clear HB0 HN0
      obtain ⟨j, rfl, hj1, HR⟩ := hrel
      have c3 : wr.cell? ⟨w.heap.size, 3, none⟩ = some (.slice ao L cap) := (cell_of_row _ _ _ _ _ _ HR.out.2).trans rfl
      by_cases hj : j < L
      · have hs3 : decide ((j : Int) < (L : Int)) = true := by simp; omega
        have hw3 : IntKind.i64.wrap ((j : Int) + 1) = (j : Int) + 1 := by rw [IntKind.wrap_i64]; omega
        obtain ⟨g, cur, u, rfl, hgS, hgc, hgz, hu, huv⟩ := (HK.out j hj).on HR.out.1
        have hjc : j < cap := by omega
        have HW := hid (And.intro hgS (And.intro hgc hgz))
        have HC := hid (HIH.out u _ wr hu (by omega) huv (fun b hb => by have := HSS.out b hb; have := HR.out.1.size; omega))
        have HRG : Hid (wr.rangeAt g (j * 4) (fr cur j).toList) := fun i v hi => by
          have hil : i < 4 := by
            have := (List.getElem?_eq_some_iff.1 hi).1
            simpa [fr] using this
          rw [cell_of_row _ _ _ _ _ _ hgc]
          have hlt : j * 4 + i < cur.size := by omega
          rw [← hi]
          unfold fr
          rcases i with _ | _ | _ | _ | i
          · simp [Array.getD_eq_getD_getElem?, Array.getElem?_eq_getElem (show j * 4 < cur.size by omega)]
          · simp [Array.getD_eq_getD_getElem?, Array.getElem?_eq_getElem (show j * 4 + 1 < cur.size by omega)]
          · simp [Array.getD_eq_getD_getElem?, Array.getElem?_eq_getElem (show j * 4 + 2 < cur.size by omega)]
          · simp [Array.getD_eq_getD_getElem?, Array.getElem?_eq_getElem (show j * 4 + 3 < cur.size by omega)]
          · omega
        have HF4 : Hid ((fr cur j).size = 4) := rfl
        clear huv hgc hgz hgS hu
        obtain ⟨F, hF⟩ : ∃ F, F = fr cur j := ⟨_, rfl⟩
        rw [← hF] at HC HRG HF4
        clear hF
        go_upto_region 5 with (first
          | (refine ldMid 26 (.tmp 13) rfl rfl g (j * 4) rfl F _ Tryd.underlying26 rfl (by rw [HF4.out]; exact sizeTM) HRG.out ?_)
          | (go_at_call 22; refine (HC.out).mono ?_; rintro e w5 ⟨rfl, hw⟩; have HW5 := hid hw; clear hw HC))
        have HR5 : Hid (w5.heap[w.heap.size]? = some (.cells (tic op fd n (.slice (some ⟨g, 0, none⟩) L cap)) 26 (0, 0))) := HW5.out.low _ _ HR.out.2 (Or.inl HNS.out)
        clear c3
        have c3 : w5.cell? ⟨w.heap.size, 3, none⟩ = some (.slice (some ⟨g, 0, none⟩) L cap) := (cell_of_row _ _ _ _ _ _ HR5.out).trans rfl
        obtain ⟨c5, k1, k2, -⟩ := HW5.out.row g cur HW.out.1 HW.out.2.1
        have hz5 : j * 4 + 4 ≤ c5.size := by have := HW.out.2.2; omega
        have hst : Spo S w5 (w5.setCells g (j * 4) r77.toList) := Spo.wr HW.out.1 k1 hz5
        have HTh : Hid (w5.there g (j * 4) 4) := fun i hi => ⟨by rw [cell_of_row _ _ _ _ _ _ k1, Array.getElem?_eq_getElem (by omega)]; rfl, by simp [World.frozen?, k1]⟩
        have HR6 : Hid (Spo S w (w5.setCells g (j * 4) r77.toList) ∧ (w5.setCells g (j * 4) r77.toList).heap[w.heap.size]? = some (.cells (tic op fd n (.slice (some ⟨g, 0, none⟩) L cap)) 26 (0, 0))) := ⟨(HR.out.1.trans HW5.out).trans hst, hst.low _ _ HR5.out (Or.inl HNS.out)⟩
        clear k1 k2 hz5 hst HW HW5 HRG HF4 HR HR5
        go_upto_region 3 with (first
          | (refine stMid 26 (.tmp 20) (.tmp 19) rfl rfl g (j * 4) (tic 77 0 0 nilS) rfl rfl HTh.out sizeTM r77_one ?_))
        generalize w5.setCells g (j * 4) (tic 77 0 0 nilS).toList = w6 at HR6 ⊢
        go_wp2
        exact ⟨⟨j + 1, by rw [show (((j + 1 : Nat) : Nat) : Int) = (j : Int) + 1 by omega], hj, HR6⟩, by simp [intOf]; omega⟩
      · have hs3 : decide ((j : Int) < (L : Int)) = false := by simp; omega
        go_wp2
        go_end0
        exact ⟨rfl, HR.out.1⟩
end Go.Proofs.YtjallmncajhamaaDoor
