/-
  Proved here: isOne of package policy tells whether a term is a predicate (or a policy), all the way down. Conditions: the tables; the term lies in old memory, its Ops are of eight bits.
-/
import Derived.Test.YtjallmncajhamaaDoorT5
namespace Go.Proofs.YtjallmncajhamaaDoor
open Go.RowKit
set_option maxRecDepth 100000

/-- Ops of eight bits -/
inductive Wi : Ti → Prop
  | mk (op fd : Int) (n : Nat) (ks : List Ti) (h1 : -128 ≤ op) (h2 : op ≤ 127) (hk : ∀ k ∈ ks, Wi k) : Wi (.mk op fd n ks)
theorem Wi.get {op fd : Int} {n : Nat} {ks : List Ti} (h : Wi (.mk op fd n ks)) : -128 ≤ op ∧ op ≤ 127 ∧ ∀ k ∈ ks, Wi k := by cases h; exact ⟨by assumption, by assumption, by assumption⟩
mutual
def oneI (b : Bool) : Ti → Bool
  | .mk op fd n ks => kndB b op && decide (lst1 op.toNat ≤ ks.length) && decide (ks.length ≤ mst op.toNat) && nwF (wfl op.toNat) op fd n && oneIs (decide (op ≤ 7)) ks
def oneIs (b : Bool) : List Ti → Bool
  | [] => true
  | t :: ts => oneI b t && oneIs b ts
end
theorem oneIs_iff {b : Bool} : ∀ {ks : List Ti}, oneIs b ks = true ↔ ∀ t ∈ ks, oneI b t = true
  | [] => by rw [oneIs]; simp
  | a :: ks => by rw [oneIs, Bool.and_eq_true, oneIs_iff (ks := ks)]; simp
theorem oneI_iff {b : Bool} {op fd : Int} {n : Nat} {ks : List Ti} : oneI b (.mk op fd n ks) = true ↔ kndB b op = true ∧ lst1 op.toNat ≤ ks.length ∧ ks.length ≤ mst op.toNat ∧ nwF (wfl op.toNat) op fd n = true ∧ ∀ k ∈ ks, oneI (decide (op ≤ 7)) k = true := by
  rw [oneI]
  simp only [Bool.and_eq_true, decide_eq_true_eq, oneIs_iff, and_assoc]
def sdv (b : Bool) : Int := if b = true then 0 else 1
/-- where its loop is -/
structure OnS (w : World) (op fd : Int) (n : Nat) (o : Nat) (ks : List Ti) (v : Value) (wr : World) : Prop where
  low : Below w.heap.size w wr
  bx : wr.heap[w.heap.size]? = some (.cells (tic op fd n v) 26 (0, 0))
  wt : wr.heap[w.heap.size + 1]? = some (.cells (wtc o) 89 (0, 0))
  ks : ∃ xs, Rx (fun b => b < w.heap.size) 4 wr v ks.length xs ∧ TiL (fun b => b < w.heap.size) wr ks xs
theorem OnS.on {w : World} {op fd : Int} {n o : Nat} {ks : List Ti} {v : Value} {wr w' : World} (h : OnS w op fd n o ks v wr) (hb : Below wr.heap.size wr w') : OnS w op fd n o ks v w' := by
  obtain ⟨xs, g1, g2⟩ := h.ks
  have hz := h.low.size
  have hc : ∀ b, b < wr.heap.size → b < w.heap.size → b < w.heap.size ∧ w'.heap[b]? = wr.heap[b]? := fun b hl hS => ⟨hS, hb.block b hl⟩
  exact ⟨h.low.trans (hb.mono hz), (hb.block _ (Array.getElem?_eq_some_iff.1 h.bx).1).trans h.bx, (hb.block _ (Array.getElem?_eq_some_iff.1 h.wt).1).trans h.wt, xs, g1.carry hc, TiL.carry hc _ _ g2⟩
theorem OnS.kid {w : World} {op fd : Int} {n o : Nat} {ks : List Ti} {ao : Option Addr} {cap : Nat} {wr : World} (h : OnS w op fd n o ks (.slice ao ks.length cap) wr) {j : Nat} (hj : j < ks.length) :
    ∃ g o, ao = some ⟨g, o, none⟩ ∧ ks.length ≤ cap ∧ ∃ ds, TiV (fun b => b < w.heap.size) wr ks[j] ds ∧ wr.rangeAt g (o + j * 4) ds.toList := by
  obtain ⟨xs, g1, g2⟩ := h.ks
  obtain ⟨g, o, e, hc, -, -, hr⟩ := g1.at hj
  obtain ⟨ds, h4, h5⟩ := TiL.at ks xs j hj g2
  refine ⟨g, o, e, hc, ds, h4, hr _ fun i hi => ?_⟩
  have hi4 : i < 4 := by have := h4.size; simp at hi; omega
  rw [h5 i hi4]
  simp
theorem infoWT : (Tryd.prog.info? 89).map (·.size) = some 5 := by kernel_rfl
theorem kndB_no {b : Bool} {op : Int} (h : op < 0 ∨ 11 ≤ op) : kndB b op = false := by
  unfold kndB; cases b <;> simp <;> omega
theorem kndB_side {b : Bool} {o : Nat} (h : o < 11) : kndB b (o : Int) = decide ((wsd o : Int) = sdv b) := by
  have h : o = 0 ∨ o = 1 ∨ o = 2 ∨ o = 3 ∨ o = 4 ∨ o = 5 ∨ o = 6 ∨ o = 7 ∨ o = 8 ∨ o = 9 ∨ o = 10 := by omega
  rcases h with rfl | rfl | rfl | rfl | rfl | rfl | rfl | rfl | rfl | rfl | rfl <;> cases b <;> exact (show _ = _ from by decide)
theorem wkd_sdv {o : Nat} : ((wkd o : Nat) : Int) = sdv (decide ((o : Int) ≤ 7)) := by
  unfold wkd sdv
  by_cases h : o ≤ 7
  · rw [if_pos h, if_pos (decide_eq_true (by omega))]; rfl
  · rw [if_neg h, if_neg (by simp; omega)]; rfl
set_option maxHeartbeats 12800000 in
theorem isOne8_any : ∀ (N : Nat) (t : Ti) (cs : Array Value) (b : Bool) (w : World), szI t ≤ N → Wi t → TiV (fun b => b < w.heap.size) w t cs → TabP w → 3 ≤ w.heap.size →
    Calls Tryd.prog 38 #[.agg cs, .int .i8 (sdv b)] w fun e w' => e = .returned (.bool (oneI b t)) ∧ Below w.heap.size w w'
  | 0, t, cs, b, w, hN, _, _, _, _ => by have := szI_pos t; omega
  | N + 1, .mk op fd n ks, cs, b, w, hN, hwi, ht, hT, hz => by
    have HIH := hid (isOne8_any N)
    obtain ⟨v, xs, rfl, h2, h3⟩ := ht.get
    obtain ⟨ao, cap, rfl⟩ := h2.form
    obtain ⟨wi1, wi2, wik⟩ := hwi.get
    have HWK := hid wik
    rw [szI] at hN
    obtain ⟨r, hr⟩ : ∃ r, r = oneI b (.mk op fd n ks) := ⟨_, rfl⟩
    rw [← hr]
    have HR : Hid (r = true ↔ kndB b op = true ∧ lst1 op.toNat ≤ ks.length ∧ ks.length ≤ mst op.toNat ∧ nwF (wfl op.toNat) op fd n = true ∧ ∀ k ∈ ks, oneI (decide (op ≤ 7)) k = true) := by show _ ↔ _; rw [hr]; exact oneI_iff
    clear hr ht hwi wik
    obtain ⟨W1, hW1⟩ : ∃ W1, W1 = w.alloc (.cells (tic op fd n (.slice ao ks.length cap)) 26) := ⟨_, rfl⟩
    have HE : Hid (w.alloc (.cells #[.int .i8 op, .int .i8 fd, .int .u64 ((n : Nat) : Int), .slice ao ks.length cap] 26) = W1) := hW1.symm
    have hb1 : Below w.heap.size w W1 := by rw [hW1]; exact (Below.refl _ _).alloc (Nat.le_refl _) _
    have hz1 : W1.heap.size = w.heap.size + 1 := by rw [hW1]; simp
    have hN1 : W1.heap[w.heap.size]? = some (.cells (tic op fd n (.slice ao ks.length cap)) 26 (0, 0)) := by rw [hW1]; exact heap_alloc_new _ _
    have HB1 := hid hb1
    have c0 := (four_cells hN1).1
    have hwr : IntKind.i64.wrap op = op := by rw [IntKind.wrap_i64]; omega
    by_cases hlo : op < 0
    · have g1 : decide (op < 0) = true := decide_eq_true hlo
      obtain rfl : r = false := by
        rw [Bool.eq_false_iff]; intro e
        have := (HR.out.1 e).1
        rw [kndB_no (Or.inl hlo)] at this; cases this
      clear HR HIH h2 h3 hT hwr hN1 hW1 hb1 hlo
      go_enter Tryd.func38, Tryd.ntmps38
      go_upto_region 1 with fail
      rw [show w.alloc (.cells #[.int .i8 op, .int .i8 fd, .int .u64 ((n : Nat) : Int), .slice ao ks.length cap] 26) = W1 from HE.out]
      go_wp2
      go_ret
      exact ⟨rfl, HB1.out⟩
    have g1 : decide (op < 0) = false := decide_eq_false hlo
    by_cases hhi : 11 ≤ op
    · have g2 : decide ((11 : Int) ≤ op) = true := decide_eq_true hhi
      obtain rfl : r = false := by
        rw [Bool.eq_false_iff]; intro e
        have := (HR.out.1 e).1
        rw [kndB_no (Or.inr hhi)] at this; cases this
      clear HR HIH h2 h3 hT hN1 hW1 hb1 hlo hhi
      go_enter Tryd.func38, Tryd.ntmps38
      go_upto_region 1 with fail
      rw [show w.alloc (.cells #[.int .i8 op, .int .i8 fd, .int .u64 ((n : Nat) : Int), .slice ao ks.length cap] 26) = W1 from HE.out]
      go_wp2
      go_ret
      exact ⟨rfl, HB1.out⟩
    have g2 : decide ((11 : Int) ≤ op) = false := decide_eq_false hhi
    obtain ⟨o, rfl⟩ : ∃ o : Nat, op = (o : Int) := ⟨op.toNat, by omega⟩
    have ho : o < 11 := by omega
    rw [show ((o : Nat) : Int).toNat = o from rfl] at HR
    have HTw := hid hT
    have hS1 := (hT.on hb1 hz).wt o ho
    have hb2 : Below w.heap.size w (W1.alloc (.cells (wtc o) 89)) := hb1.alloc hb1.size _
    have hN2 : (W1.alloc (.cells (wtc o) 89)).heap[w.heap.size]? = some (.cells (tic o fd n (.slice ao ks.length cap)) 26 (0, 0)) := (heap_alloc_old _ _ (Array.getElem?_eq_some_iff.1 hN1).1).trans hN1
    have hM2 : (W1.alloc (.cells (wtc o) 89)).heap[w.heap.size + 1]? = some (.cells (wtc o) 89 (0, 0)) := by rw [← hz1]; exact heap_alloc_new _ _
    have hT2 := hT.on hb2 hz
    have HS2 : Hid (OnS w o fd n o ks (.slice ao ks.length cap) (W1.alloc (.cells (wtc o) 89))) := ⟨hb2, hN2, hM2, xs, h2.carry fun b hb hS => ⟨hS, hb2.block b hb⟩, TiL.carry (fun b hb hS => ⟨hS, hb2.block b hb⟩) _ _ h3⟩
    have HNw := hid (names8_any (wfl o) (by unfold wfl; split <;> (try split) <;> simp) o fd n ao ks.length cap _ hT2 (by have := hb2.size; omega))
    have HS1 := hid hS1
    have HT2 := hid hT2
    have hz2 : (W1.alloc (.cells (wtc o) 89)).heap.size = w.heap.size + 1 + 1 := by simp [hz1]
    have HZ1 := hid hz1
    have HZ2 := hid hz2
    clear h2 h3 hT hN1 hW1 hb1 hb2 hN2 hM2 hT2 hS1 hlo hhi HB1 hz1 hz2
    go_enter Tryd.func38, Tryd.ntmps38
    go_upto_region 1 with fail
    rw [show w.alloc (.cells #[.int .i8 ((o : Nat) : Int), .int .i8 fd, .int .u64 ((n : Nat) : Int), .slice ao ks.length cap] 26) = W1 from HE.out]
    clear HE
    go_upto_region 4 with (first
      | (refine ldMid 89 (.tmp 19) rfl rfl 0 (o * 5) rfl (wtc o) _ Tryd.underlying89 rfl infoWT HS1.out ?_)
      | (refine stNew 89 (.tmp 5) (.tmp 20) rfl rfl W1 89 #[.int .i8 0, .int .i8 0, .int .i64 0, .int .i64 0, .int .i64 0] (wtc o) rfl rfl rfl infoWT rfl rfl ?_))
    clear c0 HS1
    generalize W1.alloc (.cells (wtc o) 89) = W2 at HS2 HNw HT2 HZ2 ⊢
    have hk1 : Hid (kndB b (o : Int) = decide ((wsd o : Int) = sdv b)) := kndB_side ho
    have HKV := hid (wkd_sdv (o := o))
    obtain ⟨a0, a1, a2, a3⟩ := four_cells HS2.out.bx
    have hbx := HS2.out.bx
    have m0 : W2.cell? ⟨W1.heap.size, 0, none⟩ = some (.int .i8 ((wsd o : Nat) : Int)) := by rw [HZ1.out]; exact (cell_of_row _ _ _ _ _ _ HS2.out.wt).trans rfl
    have m2 : W2.cell? ⟨W1.heap.size, 2, none⟩ = some (.int .i64 ((lst1 o : Nat) : Int)) := by rw [HZ1.out]; exact (cell_of_row _ _ _ _ _ _ HS2.out.wt).trans rfl
    have m3 : W2.cell? ⟨W1.heap.size, 3, none⟩ = some (.int .i64 ((mst o : Nat) : Int)) := by rw [HZ1.out]; exact (cell_of_row _ _ _ _ _ _ HS2.out.wt).trans rfl
    have m4 : W2.cell? ⟨W1.heap.size, 4, none⟩ = some (.int .i64 ((wfl o : Nat) : Int)) := by rw [HZ1.out]; exact (cell_of_row _ _ _ _ _ _ HS2.out.wt).trans rfl
    have HBX := hid hbx
    clear hbx
    have hinf : (Tryd.prog.info? 26).map (·.size) = some (tic (o : Int) fd n (.slice ao ks.length cap)).size := sizeTM
    have hml : mst o ≤ 4096 := by unfold mst; split <;> decide
    generalize lst1 o = lo at m2 HR
    generalize mst o = hi at m3 HR hml
    generalize wfl o = wf at m4 HR HNw
    generalize ((wsd o : Nat) : Int) = sd at m0 hk1
    generalize sdv b = sb at hk1 ⊢
    by_cases e1 : sd = sb
    case neg =>
      have g3 : (sd != sb) = true := by simp; exact e1
      obtain rfl : r = false := by
        rw [Bool.eq_false_iff]; intro e
        have := (HR.out.1 e).1
        rw [hk1.out, decide_eq_false e1] at this; cases this
      clear HR HIH hk1 e1 HNw
      go_wp2
      go_ret
      exact ⟨rfl, HS2.out.low⟩
    case pos =>
    have g3 : (sd != sb) = false := by rw [e1]; simp
    have hk2 : Hid (kndB b (o : Int) = true) := by show _ = _; rw [hk1.out, decide_eq_true e1]
    clear e1 hk1
    by_cases h1 : ks.length < lo
    · have g4 : decide ((ks.length : Int) < (lo : Int)) = true := decide_eq_true (by omega)
      have g4n : decide (ks.length < lo) = true := decide_eq_true h1
      obtain rfl : r = false := by
        rw [Bool.eq_false_iff]; intro e
        have := (HR.out.1 e).2.1
        omega
      clear HR HIH hk2 h1 HNw
      go_wp2
      go_ret
      exact ⟨rfl, HS2.out.low⟩
    have g4 : decide ((ks.length : Int) < (lo : Int)) = false := decide_eq_false (by omega)
    have g4n : decide (ks.length < lo) = false := decide_eq_false h1
    by_cases h2 : hi < ks.length
    · have g5 : decide ((hi : Int) < (ks.length : Int)) = true := decide_eq_true (by omega)
      have g5n : decide (hi < ks.length) = true := decide_eq_true h2
      obtain rfl : r = false := by
        rw [Bool.eq_false_iff]; intro e
        have := (HR.out.1 e).2.2.1
        omega
      clear HR HIH hk2 h1 h2 HNw
      go_wp2
      go_ret
      exact ⟨rfl, HS2.out.low⟩
    have g5 : decide ((hi : Int) < (ks.length : Int)) = false := decide_eq_false (by omega)
    have g5n : decide (hi < ks.length) = false := decide_eq_false h2
    cases hnw : nwF wf (o : Int) fd n with
    | false =>
      obtain rfl : r = false := by
        rw [Bool.eq_false_iff]; intro e
        have := (HR.out.1 e).2.2.2.1
        rw [hnw] at this; cases this
      rw [hnw] at HNw
      clear HR HIH hk2 h1 h2 hnw
      go_wp2_with (first
        | (refine ldRow 26 (.tmp 2) rfl rfl w.heap.size rfl 26 (tic (o : Int) fd n (.slice ao ks.length cap)) _ Tryd.underlying26 rfl hinf HBX.out ?_)
        | (go_at_call 60; refine (HNw.out).mono ?_; rintro e w4 ⟨rfl, hw⟩; have HX := hid (HS2.out.on hw); clear hw))
      go_ret
      exact ⟨rfl, HX.out.low⟩
    | true =>
    have HR2 : Hid (r = true ↔ ∀ k ∈ ks, oneI (decide ((o : Int) ≤ 7)) k = true) := by
      show _ ↔ _
      rw [HR.out, hk2.out, hnw]
      constructor
      · exact fun h => h.2.2.2.2
      · exact fun h => ⟨rfl, by omega, by omega, rfl, h⟩
    rw [hnw] at HNw
    clear HR hk2 h1 hnw
    have hkl : ks.length ≤ 4096 := by omega
    clear h2 hml
    go_upto_region 6 with (first
      | (refine ldRow 26 (.tmp 2) rfl rfl w.heap.size rfl 26 (tic (o : Int) fd n (.slice ao ks.length cap)) _ Tryd.underlying26 rfl hinf HBX.out ?_)
      | (go_at_call 60; refine (HNw.out).mono ?_; rintro e w4 ⟨rfl, hw⟩; have HS4 := hid (HS2.out.on hw); clear hw))
    clear a0 a1 a2 a3 m0 m2 m3 m4 HBX HNw HS2 g3 g4 g4n g5 g5n hinf
    have d3 := (four_cells HS4.out.bx).2.2.2
    go_upto_region 7 with fail
    clear d3
    go_loopw [51] (fun v wr => ∃ j : Nat, v = .int .i64 ((j : Nat) : Int) ∧ j ≤ ks.length ∧ Hid (∀ i (hi : i < ks.length), i < j → oneI (decide ((o : Int) ≤ 7)) ks[i] = true) ∧ Hid (OnS w o fd n o ks (.slice ao ks.length cap) wr)) (fun v _ => ks.length - (intOf v).toNat)
    case atStart => exact ⟨0, rfl, Nat.zero_le _, fun i hi h => by omega, HS4.out⟩
    case round =>
      clear HS4
      obtain ⟨j, rfl, hj1, HD, HS⟩ := hrel
      by_cases hj : j < ks.length
      · obtain ⟨g, p, rfl, hcap, ds, ht, hra⟩ := HS.out.kid hj
        have hs3 : decide ((j : Int) < (ks.length : Int)) = true := by simp; omega
        have hjc : j < cap := by omega
        have hw3 : IntKind.i64.wrap ((j : Int) + 1) = (j : Int) + 1 := by rw [IntKind.wrap_i64]; omega
        have hb3 : Below wr.heap.size wr (wr.alloc (.cells ds 26)) := (Below.refl _ _).alloc (Nat.le_refl _) _
        have HN3 : Hid ((wr.alloc (.cells ds 26)).heap[wr.heap.size]? = some (.cells ds 26 (0, 0))) := heap_alloc_new _ _
        have HS3 := hid (HS.out.on hb3)
        have hzr := HS.out.low.size
        have hzA : (wr.alloc (.cells ds 26)).heap.size = wr.heap.size + 1 := by simp
        have hbW : Below W2.heap.size W2 W2 := Below.refl _ _
        have HC := hid (HIH.out ks[j] ds (decide ((o : Int) ≤ 7)) (wr.alloc (.cells ds 26)) (by have := szsI_mem (List.getElem_mem hj); omega) (HWK.out _ (List.getElem_mem hj)) (ti_on ht fun b hb hS => ⟨by omega, hb3.block b hb⟩) (HTw.out.on HS3.out.low hz) (by have := HS3.out.low.size; omega))
        rw [← HKV.out] at HC
        have m1 : (wr.alloc (.cells ds 26)).cell? ⟨W1.heap.size, 1, none⟩ = some (.int .i8 ((wkd o : Nat) : Int)) := by rw [HZ1.out]; exact (cell_of_row _ _ _ _ _ _ HS3.out.wt).trans rfl
        have HT := hid ht
        have HRA := hid hra
        clear ht hra hb3 HS hbW
        go_upto_region 9 with (first
          | (refine ldMid 26 (.tmp 53) rfl rfl g (p + j * 4) rfl ds _ Tryd.underlying26 rfl HT.out.info HRA.out ?_)
          | (refine stNew 26 (.tmp 7) (.tmp 54) rfl rfl wr 26 (tmc 0 0 0 nilS) ds rfl rfl rfl HT.out.info (by rw [HT.out.size]; rfl) HT.out.one ?_))
        generalize wr.alloc (.cells ds 26) = w3 at HN3 HS3 HC hzA m1 ⊢
        have HT1 := hid HT.out.info
        cases hok : oneI (decide ((o : Int) ≤ 7)) ks[j] with
        | true =>
          rw [hok] at HC
          have HD2 : Hid (∀ i (hi : i < ks.length), i < j + 1 → oneI (decide ((o : Int) ≤ 7)) ks[i] = true) := fun i hi hij => by
            by_cases e : i = j
            · subst e; exact hok
            · exact HD.out i hi (by omega)
          clear hok HD
          go_wp2_with (first
            | (refine ldRow 26 (.tmp 7) rfl rfl wr.heap.size rfl 26 ds _ Tryd.underlying26 rfl HT1.out HN3.out ?_)
            | (go_at_call 38; refine (HC.out).mono ?_; rintro e w4 ⟨rfl, hw⟩; have HS4 := hid (HS3.out.on hw); clear hw))
          have hX : ∃ k : Nat, Value.int .i64 ((j : Int) + 1) = .int .i64 ((k : Nat) : Int) ∧ k ≤ ks.length ∧ Hid (∀ i (hi : i < ks.length), i < k → oneI (decide ((o : Int) ≤ 7)) ks[i] = true) ∧ Hid (OnS w o fd n o ks (.slice (some ⟨g, p, none⟩) ks.length cap) w4) :=
            ⟨j + 1, by rw [show (((j + 1 : Nat) : Nat) : Int) = (j : Int) + 1 by omega], hj, HD2, HS4⟩
          refine ⟨?_, ?_⟩
          · first
              | exact hX
              | ((repeat apply Exists.intro); refine ⟨?_, rfl⟩; exact hX)
          · simp [intOf]; omega
        | false =>
          rw [hok] at HC
          obtain rfl : r = false := by
            rw [Bool.eq_false_iff]; intro e
            have := HR2.out.1 e _ (List.getElem_mem hj)
            rw [hok] at this; cases this
          clear hok HD HR2
          go_wp2_with (first
            | (refine ldRow 26 (.tmp 7) rfl rfl wr.heap.size rfl 26 ds _ Tryd.underlying26 rfl HT1.out HN3.out ?_)
            | (go_at_call 38; refine (HC.out).mono ?_; rintro e w4 ⟨rfl, hw⟩; have HS4 := hid (HS3.out.on hw); clear hw))
          go_ret
          exact ⟨rfl, HS4.out.low⟩
      · have hs3 : decide ((j : Int) < (ks.length : Int)) = false := by simp; omega
        obtain rfl : j = ks.length := by omega
        obtain rfl : r = true := HR2.out.2 fun k hk => by
          obtain ⟨i, hi, rfl⟩ := List.getElem_of_mem hk
          exact HD.out i hi hi
        go_wp2
        go_ret
        exact ⟨rfl, HS.out.low⟩
end Go.Proofs.YtjallmncajhamaaDoor
