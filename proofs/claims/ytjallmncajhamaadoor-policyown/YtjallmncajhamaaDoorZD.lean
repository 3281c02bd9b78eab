/-
  Proved here: Great of the statements tells whether a policy has more than 8192 terms. Condition: the policy lies in old memory.
-/
import Derived.Test.YtjallmncajhamaaDoorZC
import Derived.Test.YtjallmncajhamaaDoorGT
namespace Go.Proofs.YtjallmncajhamaaDoor
open Go.RowKit
set_option maxRecDepth 100000

def qszI (qs : List Qi) : Nat := (qs.map fun q => szI q.pd).sum
theorem qszI_cons (q : Qi) (qs : List Qi) : qszI (q :: qs) = szI q.pd + qszI qs := by simp [qszI]
theorem qszI_take : ∀ (qs : List Qi) (j : Nat) (hj : j < qs.length), qszI (qs.take (j + 1)) = qszI (qs.take j) + szI (qs[j]).pd
  | a :: ks, 0, _ => by rw [List.take_succ_cons, List.take_zero, List.take_zero, qszI_cons, List.getElem_cons_zero]; exact Nat.add_comm _ _
  | a :: ks, j + 1, h => by
    have := qszI_take ks j (by simpa using h)
    rw [List.take_succ_cons, List.take_succ_cons, qszI_cons, qszI_cons, this, List.getElem_cons_succ]; omega
theorem qszI_le : ∀ (qs : List Qi) (j : Nat), qszI (qs.take j) ≤ qszI qs
  | [], j => by rw [List.take_nil]; exact Nat.le_refl _
  | a :: ks, 0 => by rw [List.take_zero]; exact Nat.zero_le _
  | a :: ks, j + 1 => by
    have := qszI_le ks j
    rw [List.take_succ_cons, qszI_cons, qszI_cons]; omega
theorem qszI_mem : ∀ {qs : List Qi} {q : Qi}, q ∈ qs → szI q.pd ≤ qszI qs
  | a :: ks, q, h => by
    rw [qszI_cons]
    rcases List.mem_cons.1 h with rfl | h
    · omega
    · have := qszI_mem h; omega
theorem len_qszI : ∀ (qs : List Qi), qs.length ≤ qszI qs
  | [] => Nat.zero_le _
  | a :: ks => by
    have := len_qszI ks
    have := szI_pos a.pd
    rw [qszI_cons, List.length_cons]; omega
theorem GpV.five {S : Nat → Prop} {w : World} {p : Pi} {cs : Array Value} (h : GpV S w p cs) : ∃ x0 x1 x2 x3 ao cap xs, cs = #[x0, x1, x2, x3, .slice ao p.qs.length cap] ∧ GiV S w p.main #[x0, x1, x2, x3] ∧ Gx S 5 w (.slice ao p.qs.length cap) p.qs.length xs ∧ GqL S w p.qs xs := by
  obtain ⟨ms, qv, xs, rfl, h2, h3, h4⟩ := h
  obtain ⟨x0, x1, x2, x3, rfl⟩ := arr4 h2.size
  obtain ⟨ao, cap, rfl⟩ := h3.form
  exact ⟨x0, x1, x2, x3, ao, cap, xs, rfl, h2, h3, h4⟩
set_option maxHeartbeats 12800000 in
theorem great9_any (p : Pi) (cs : Array Value) (w : World) (hp : GpV (fun b => b < w.heap.size) w p cs) : Calls Tryd.prog 20 #[.agg cs] w fun e w' => e = .returned (.bool (decide (8192 < szI p.main + qszI p.qs))) ∧ Below w.heap.size w w' := by
  obtain ⟨x0, x1, x2, x3, ao, cap, xs, rfl, h2, h3, h4⟩ := hp.five
  have hB1 : Below w.heap.size w (w.alloc (.cells #[x0, x1, x2, x3, .slice ao p.qs.length cap] 29)) := (Below.refl _ _).alloc (Nat.le_refl _) _
  have HN1 : Hid ((w.alloc (.cells #[x0, x1, x2, x3, .slice ao p.qs.length cap] 29)).heap[w.heap.size]? = some (.cells #[x0, x1, x2, x3, .slice ao p.qs.length cap] 29 (0, 0))) := heap_alloc_new _ _
  have hlo : ∀ b, b < w.heap.size → b < w.heap.size → b < (w.alloc (.cells #[x0, x1, x2, x3, .slice ao p.qs.length cap] 29)).heap.size ∧ (w.alloc (.cells #[x0, x1, x2, x3, .slice ao p.qs.length cap] 29)).heap[b]? = w.heap[b]? := fun b hb _ => ⟨by simp; omega, heap_alloc_old _ _ hb⟩
  have HC0 := hid (size9_any (szI p.main) p.main #[x0, x1, x2, x3] 0 _ (Nat.le_refl _) (by omega) (gi_on h2 hlo))
  have HB1 := hid hB1
  have HRg := hid (five_rng HN1.out)
  have HQ := hid (And.intro h3 h4)
  clear hB1 h2 h3 h4 hp hlo
  have HT0 : Hid (min (0 + szI p.main) 8193 = min (szI p.main + qszI (p.qs.take 0)) 8193) := by show _ = _; rw [List.take_zero]; simp [qszI]
  go_enter Tryd.func20, Tryd.ntmps20
  go_upto_region 1 with fail
  generalize w.alloc (.cells #[x0, x1, x2, x3, .slice ao p.qs.length cap] 29) = W1 at HN1 HB1 HC0 HRg ⊢
  rw [HT0.out] at HC0
  clear HT0
  generalize hm0 : min (szI p.main + qszI (p.qs.take 0)) 8193 = m0 at HC0
  go_upto_region 3 with (first
    | (refine ldMid 26 (.tmp 5) rfl rfl w.heap.size 0 rfl #[x0, x1, x2, x3] _ Tryd.underlying26 rfl sizeTM HRg.out ?_)
    | (go_at_call 48; refine (HC0.out).mono ?_; rintro e w2 ⟨rfl, hw⟩; have HB2 := hid (HB1.out.trans (hw.mono HB1.out.size)); have HN2 := hid ((hw.block _ (Array.getElem?_eq_some_iff.1 HN1.out).1).trans HN1.out); clear hw HC0))
  clear HRg HN1 HB1
  go_loopw [3, 4] (fun nv iv wr => ∃ j : Nat, nv = .int .i64 ((min (szI p.main + qszI (p.qs.take j)) 8193 : Nat) : Int) ∧ iv = .int .i64 ((j : Nat) : Int) ∧ j ≤ p.qs.length ∧ j ≤ qszI (p.qs.take j) ∧ Hid (Below w.heap.size w wr ∧ wr.heap[w.heap.size]? = some (.cells #[x0, x1, x2, x3, .slice ao p.qs.length cap] 29 (0, 0)))) (fun _ iv _ => p.qs.length - (intOf iv).toNat)
  case atStart => exact ⟨0, by rw [hm0], rfl, Nat.zero_le _, Nat.zero_le _, HB2.out, HN2.out⟩
  case round =>
    obtain ⟨j, rfl, rfl, hj1, hj2, HR⟩ := hrel
    clear HB2 HN2 hm0
    have c4 : wr.cell? ⟨w.heap.size, 4, none⟩ = some (.slice ao p.qs.length cap) := (cell_of_row _ _ _ _ _ _ HR.out.2).trans rfl
    by_cases hj : j < p.qs.length
    · have hsl := qszI_take p.qs j hj
      have hkp := szI_pos (p.qs[j]).pd
      have hs3 : decide ((j : Int) < (p.qs.length : Int)) = true := by simp; omega
      by_cases hm : szI p.main + qszI (p.qs.take j) ≤ 8192
      · obtain ⟨m, hm1⟩ : ∃ m, m = szI p.main + qszI (p.qs.take j) := ⟨_, rfl⟩
        rw [Nat.min_eq_left (by omega)]
        rw [← hm1] at hm ⊢
        have HM2 : Hid (min (szI p.main + qszI (p.qs.take (j + 1))) 8193 = min (m + szI (p.qs[j]).pd) 8193) := by show _ = _; rw [hsl, hm1, Nat.add_assoc]
        have HJ2 : Hid (j + 1 ≤ qszI (p.qs.take (j + 1))) := by show _ ≤ _; omega
        obtain ⟨g, o, c9, e1, hcap, hgl, ds, hkv, -, hra⟩ := GqL.rng HQ.out.1 HQ.out.2 hj
        cases e1
        have hlow := HR.out.1
        obtain ⟨y0, y1, y2, y3, rfl⟩ := arr4 hkv.size
        have HRA : Hid (wr.rangeAt g (o + j * 5 + 1) (#[y0, y1, y2, y3] : Array Value).toList) := fun i v hi => (cell_same (hlow.block g hgl)).trans (hra i v hi)
        have HC := hid (size9_any (szI (p.qs[j]).pd) (p.qs[j]).pd #[y0, y1, y2, y3] m wr (Nat.le_refl _) hm (gi_on hkv fun b hb hS => ⟨by have := hlow.size; omega, hlow.block b hb⟩))
        have hs4 : decide ((m : Int) ≤ 8192) = true := by simp; omega
        have hjc : j < cap := by omega
        have hw3 : IntKind.i64.wrap ((j : Int) + 1) = (j : Int) + 1 := by rw [IntKind.wrap_i64]; omega
        clear hkv hra hlow hsl hkp hm1 hgl hm
        generalize min (m + szI (p.qs[j]).pd) 8193 = m2 at HM2 HC
        go_wp2_with (first
          | (refine ldMid 26 (.tmp 23) rfl rfl g (o + j * 5 + 1) rfl #[y0, y1, y2, y3] _ Tryd.underlying26 rfl sizeTM HRA.out ?_)
          | (go_at_call 48; refine (HC.out).mono ?_; rintro e w4 ⟨rfl, hw⟩; have HR4 := hid (And.intro (HR.out.1.trans (hw.mono HR.out.1.size)) ((hw.block _ (Array.getElem?_eq_some_iff.1 HR.out.2).1).trans HR.out.2)); clear hw HC))
        refine ⟨⟨j + 1, by rw [HM2.out], rfl, hj, HJ2.out, HR4⟩, ?_⟩
        simp [intOf]; omega
      · have hle := qszI_le p.qs j
        have HRt : Hid (decide (8192 < szI p.main + qszI p.qs) = true) := by show _ = _; simp; omega
        rw [Nat.min_eq_right (by omega)]
        clear hsl hkp hm hle
        go_wp2
        go_ret
        exact ⟨by rw [HRt.out]; rfl, HR.out.1⟩
    · have hs3 : decide ((j : Int) < (p.qs.length : Int)) = false := by simp; omega
      obtain rfl : j = p.qs.length := by omega
      rw [List.take_length]
      obtain ⟨m, hm⟩ : ∃ m, m = min (szI p.main + qszI p.qs) 8193 := ⟨_, rfl⟩
      have HRt : Hid (decide (8192 < szI p.main + qszI p.qs) = decide ((8192 : Int) < (m : Int))) := by
        show _ = _
        rw [decide_eq_decide]
        omega
      rw [← hm]
      clear hm
      go_wp2
      go_ret
      exact ⟨by rw [HRt.out]; rfl, HR.out.1⟩
end Go.Proofs.YtjallmncajhamaaDoor
