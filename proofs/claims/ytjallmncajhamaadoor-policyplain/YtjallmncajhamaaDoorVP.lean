/-
  Proved here: the body of PolicyPlain says true. Conditions: the tables; the policy lies in old memory, its Ops are of eight bits.
-/
import Derived.Test.YtjallmncajhamaaDoorVO
namespace Go.Proofs.YtjallmncajhamaaDoor
open Go.RowKit
set_option maxRecDepth 100000

/-- what the two tell: the same policy, in memory -/
structure Told9 (w : World) (q : Pi) (c : Nat) (W : World) (e : Ending) (w' : World) : Prop where
  e : ∃ ds, e = .returned (.tuple #[.agg ds, .int .i64 ((c : Nat) : Int)]) ∧ PiV (fun b => b < w'.heap.size) w' q ds
  b : Below W.heap.size W w'
theorem pz_piv (w : World) : PiV (fun b => b < w.heap.size) w ⟨.mk 0 0 0 [], []⟩ pz :=
  ⟨tic 0 0 0 nilS, nilS, [], rfl, TiV.leaf _ _ _ _ _, ⟨rfl, none, 0, rfl, Nat.le_refl _, fun h => absurd rfl h⟩, rfl⟩
set_option maxHeartbeats 12800000 in
theorem plains_any (p q : Pi) (c : Nat) (cs : Array Value) (w : World) (hp : PiV (fun b => b < w.heap.size) w p cs) (hT : TabP w) (hz : 3 ≤ w.heap.size)
    (hs : szI q.main ≤ 100000 ∧ (∀ x ∈ q.qs, szI x.pd ≤ 100000) ∧ q.qs.length ≤ 100000)
    (h1 : ∀ W, Below w.heap.size w W → Calls Tryd.prog 17 #[.agg cs] W (Told9 w q c W)) (h2 : ∀ W, Below w.heap.size w W → Calls Tryd.prog 18 #[.agg cs] W (Told9 w q c W)) :
    Calls Tryd.prog 4 #[.agg cs] w fun e w' => e = .returned (.bool true) ∧ Below w.heap.size w w' := by
  have hB1 : Below w.heap.size w (w.alloc (.cells cs 29)) := (Below.refl _ _).alloc (Nat.le_refl _) _
  have HN1 : Hid ((w.alloc (.cells cs 29)).heap[w.heap.size]? = some (.cells cs 29 (0, 0))) := heap_alloc_new _ _
  have HC1 := hid (h1 _ hB1)
  have HB1 := hid hB1
  have HH2 := hid h2
  have HIn := hid hp.info
  have HSs := hid hs
  have HWk : Hid (∀ W, Below w.heap.size w W → Calls Tryd.prog 16 #[] W fun e w' => e = .returned (.bool true) ∧ Below W.heap.size W w') := fun W hb => wakes8_any W (hT.on hb hz) (by have := hb.size; omega)
  clear hp hB1 hT h1 h2 hs
  go_enter Tryd.func4, Tryd.ntmps4
  go_upto_region 1 with fail
  generalize w.alloc (.cells cs 29) = W1 at HN1 HB1 HC1 ⊢
  go_upto_region 2 with (first
    | (refine ldRow 29 (.tmp 1) rfl rfl w.heap.size rfl 29 cs _ Tryd.underlying29 rfl HIn.out HN1.out ?_)
    | (go_at_call 17; refine (HC1.out).mono ?_; rintro e w2 ht; obtain ⟨aa, rfl, hv⟩ := ht.e; have HB2 := hid (HB1.out.trans (ht.b.mono HB1.out.size)); have HN2 := hid ((ht.b.block _ (Array.getElem?_eq_some_iff.1 HN1.out).1).trans HN1.out); have HV2 := hid hv; clear ht hv HC1)
    | (refine stNew 29 (.tmp 3) (.tmp 10) rfl rfl w2 29 pz aa rfl rfl rfl HV2.out.info (by rw [HV2.out.size]; rfl) HV2.out.one ?_))
  have hb3 : Below w2.heap.size w2 (w2.alloc (.cells aa 29)) := (Below.refl _ _).alloc (Nat.le_refl _) _
  have HB3 := hid (HB2.out.trans (hb3.mono HB2.out.size))
  have HN3 := hid ((hb3.block _ (Array.getElem?_eq_some_iff.1 HN2.out).1).trans HN2.out)
  have HA3 : Hid ((w2.alloc (.cells aa 29)).heap[w2.heap.size]? = some (.cells aa 29 (0, 0))) := heap_alloc_new _ _
  have HV3 : Hid (PiV (fun b => b < (w2.alloc (.cells aa 29)).heap.size) (w2.alloc (.cells aa 29)) q aa) := HV2.out.carry fun b hb _ => ⟨by simp; omega, heap_alloc_old _ _ hb⟩
  have HIa := hid HV2.out.info
  have HC3 := hid (HH2.out _ HB3.out)
  clear hb3 HV2 HB2 HN2 HB1 HN1 HH2
  generalize w2.alloc (.cells aa 29) = W3 at HB3 HN3 HA3 HV3 HC3 ⊢
  generalize w2.heap.size = K2 at HA3 ⊢
  go_upto_region 3 with (first
    | (refine ldRow 29 (.tmp 1) rfl rfl w.heap.size rfl 29 cs _ Tryd.underlying29 rfl HIn.out HN3.out ?_)
    | (go_at_call 18; refine (HC3.out).mono ?_; rintro e w4 ht; obtain ⟨bs, rfl, hv⟩ := ht.e; have HB4 := hid (HB3.out.trans (ht.b.mono HB3.out.size)); have HA4 := hid ((ht.b.block _ (Array.getElem?_eq_some_iff.1 HA3.out).1).trans HA3.out); have HW4 := hid ht.b; have HV4 := hid hv; clear ht hv HC3)
    | (refine stNew 29 (.tmp 5) (.tmp 15) rfl rfl w4 29 pz bs rfl rfl rfl HV4.out.info (by rw [HV4.out.size]; rfl) HV4.out.one ?_))
  have hb5 : Below w4.heap.size w4 (w4.alloc (.cells bs 29)) := (Below.refl _ _).alloc (Nat.le_refl _) _
  have HB5 := hid (HB4.out.trans (hb5.mono HB4.out.size))
  have HA5 := hid ((hb5.block _ (Array.getElem?_eq_some_iff.1 HA4.out).1).trans HA4.out)
  have HD5 : Hid ((w4.alloc (.cells bs 29)).heap[w4.heap.size]? = some (.cells bs 29 (0, 0))) := heap_alloc_new _ _
  have HVa : Hid (PiV (fun _ => True) (w4.alloc (.cells bs 29)) q aa) := HV3.out.carry fun b hb _ => ⟨trivial, (hb5.block b (by have := HW4.out.size; omega)).trans (HW4.out.block b hb)⟩
  have HVb : Hid (PiV (fun _ => True) (w4.alloc (.cells bs 29)) q bs) := HV4.out.carry fun b hb _ => ⟨trivial, heap_alloc_old _ _ hb⟩
  have HIb := hid HV4.out.info
  clear hb5 HV3 HV4 HB4 HA4 HB3 HN3 HA3 HW4
  generalize w4.alloc (.cells bs 29) = W5 at HB5 HA5 HD5 HVa HVb ⊢
  generalize w4.heap.size = K4 at HD5 ⊢
  have HSm := hid (policies_same q aa bs W5 HSs.out.1 HSs.out.2.1 HSs.out.2.2 HVa.out HVb.out)
  clear HVa HVb HSs
  go_wp2_with (first
    | (refine ldRow 29 (.tmp 3) rfl rfl K2 rfl 29 aa _ Tryd.underlying29 rfl HIa.out HA5.out ?_)
    | (refine ldRow 29 (.tmp 5) rfl rfl K4 rfl 29 bs _ Tryd.underlying29 rfl HIb.out HD5.out ?_)
    | (go_at_call 19; refine (HSm.out).mono ?_; rintro e w6 ⟨rfl, hw⟩; have HB6 := hid (HB5.out.trans (hw.mono HB5.out.size)); have HW6 := hid (HWk.out w6 HB6.out); clear hw HSm)
    | (go_at_call 16; refine (HW6.out).mono ?_; rintro e w7 ⟨rfl, hw⟩; have HB7 := hid (HB6.out.trans (hw.mono HB6.out.size)); clear hw))
  go_ret
  exact ⟨rfl, HB7.out⟩
theorem plain_any9 (p : Pi) (cs : Array Value) (w : World) (hp : PiV (fun b => b < w.heap.size) w p cs) (hwp : Wp p) (hT : TabP w) (hz : 3 ≤ w.heap.size) :
    Calls Tryd.prog 4 #[.agg cs] w fun e w' => e = .returned (.bool true) ∧ Below w.heap.size w w' := by
  have hcar : ∀ W, Below w.heap.size w W → PiV (fun b => b < W.heap.size) W p cs := fun W hb => hp.carry fun b hl _ => ⟨by have := hb.size; omega, hb.block b hl⟩
  by_cases hc : chk p = 0
  · obtain ⟨P, rfl, hok⟩ := chk_ok hc
    have hk := hok.pl
    refine plains_any (pi P) (pi (plPo P)) 0 cs w hp hT hz ⟨?_, fun x hx => ?_, ?_⟩ (fun W hb => ?_) (fun W hb => ?_)
    · show szI (ti (plPo P).main) ≤ _
      rw [sz_ti]
      have := hk.s
      omega
    · obtain ⟨y, hy, rfl⟩ := List.mem_map.1 hx
      show szI (ti y.pd) ≤ _
      rw [sz_ti]
      have := hk.s
      have := qsz_mem hy
      omega
    · rw [pi_len]; have := hk.l; omega
    · refine (plain8_ok P cs W (hcar W hb) hok (hT.on hb hz) (by have := hb.size; omega)).mono ?_
      rintro e w' ⟨ds, rfl, h1, h2⟩
      exact ⟨⟨ds, rfl, h2.carry fun b hl _ => ⟨hl, rfl⟩⟩, h1⟩
    · refine (rplain8_ok P cs W (hcar W hb) hok).mono ?_
      rintro e w' ⟨ds, rfl, h1, h2⟩
      exact ⟨⟨ds, rfl, h2⟩, h1⟩
  · refine plains_any p ⟨.mk 0 0 0 [], []⟩ (chk p) cs w hp hT hz ⟨by show szI (.mk 0 0 0 []) ≤ _; rw [szI, szsI]; omega, fun x hx => (by cases hx), by simp⟩ (fun W hb => ?_) (fun W hb => ?_)
    · refine (plain8_no p cs W (hcar W hb) hwp hc (hT.on hb hz) (by have := hb.size; omega)).mono ?_
      rintro e w' ⟨rfl, h1⟩
      exact ⟨⟨pz, rfl, pz_piv w'⟩, h1⟩
    · refine (rplain8_no p cs W (hcar W hb) hc).mono ?_
      rintro e w' ⟨rfl, h1⟩
      exact ⟨⟨pz, rfl, pz_piv w'⟩, h1⟩
end Go.Proofs.YtjallmncajhamaaDoor
