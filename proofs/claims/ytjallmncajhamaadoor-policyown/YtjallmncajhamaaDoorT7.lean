/-
  Proved here: areQueries of package policy tells whether queries have names of their own and predicates. Conditions: the tables; the queries lie in old memory and are at most 32; Ops are of eight bits.
-/
import Derived.Test.YtjallmncajhamaaDoorT6
namespace Go.Proofs.YtjallmncajhamaaDoor
open Go.RowKit
set_option maxRecDepth 100000

/-- a query's cells -/
theorem arr5 {c : Array Value} {nm : ByteArray} {ds : Array Value} (hc : c = #[Value.string nm] ++ ds) (h : ds.size = 4) : ∃ x0 x1 x2 x3, ds = #[x0, x1, x2, x3] ∧ c = #[.string nm, x0, x1, x2, x3] := by
  obtain ⟨x0, x1, x2, x3, rfl⟩ := arr4 h
  exact ⟨x0, x1, x2, x3, rfl, by rw [hc]; rfl⟩
theorem infoQ5 : (Tryd.prog.info? 40).map (·.size) = some 5 := by kernel_rfl
/-- queries in old memory -/
structure AqS (w : World) (qs : List Qi) (v : Value) (wr : World) : Prop where
  low : Below w.heap.size w wr
  ks : ∃ xs, Rx (fun b => b < w.heap.size) 5 wr v qs.length xs ∧ QiL (fun b => b < w.heap.size) wr qs xs
theorem AqS.on {w : World} {qs : List Qi} {v : Value} {wr w' : World} (h : AqS w qs v wr) (hb : Below wr.heap.size wr w') : AqS w qs v w' := by
  obtain ⟨xs, g1, g2⟩ := h.ks
  have hz := h.low.size
  have hc : ∀ b, b < wr.heap.size → b < w.heap.size → b < w.heap.size ∧ w'.heap[b]? = wr.heap[b]? := fun b hl hS => ⟨hS, hb.block b hl⟩
  exact ⟨h.low.trans (hb.mono hz), xs, g1.carry hc, QiL.carry hc _ _ g2⟩
theorem AqS.here {w : World} {qs : List Qi} {v : Value} {wr : World} (h : AqS w qs v wr) : AqS wr qs v wr := by
  obtain ⟨xs, g1, g2⟩ := h.ks
  have hz := h.low.size
  exact ⟨Below.refl _ _, xs, g1.carry fun b _ hS => ⟨by omega, rfl⟩, QiL.carry (fun b _ hS => ⟨by omega, rfl⟩) _ _ g2⟩
theorem AqS.qry {w : World} {qs : List Qi} {ao : Option Addr} {cap : Nat} {wr : World} (h : AqS w qs (.slice ao qs.length cap) wr) {j : Nat} (hj : j < qs.length) :
    ∃ g o, ao = some ⟨g, o, none⟩ ∧ qs.length ≤ cap ∧ ∃ x0 x1 x2 x3, TiV (fun b => b < w.heap.size) wr (qs[j]).pd #[x0, x1, x2, x3] ∧ wr.rangeAt g (o + j * 5) (#[.string (qs[j]).nm, x0, x1, x2, x3] : Array Value).toList ∧ (#[x0, x1, x2, x3] : Array Value).all (·.oneCell') = true := by
  obtain ⟨xs, g1, g2⟩ := h.ks
  obtain ⟨g, o, e, hc, -, -, hr⟩ := g1.at hj
  obtain ⟨ds, h4, h5⟩ := QiL.at qs xs j hj g2
  obtain ⟨x0, x1, x2, x3, rfl⟩ := arr4 h4.size
  exact ⟨g, o, e, hc, x0, x1, x2, x3, h4, hr _ fun i hi => (h5 i (by simpa using hi)).trans (by simp), h4.one⟩
theorem alike8_any (nm nm' : ByteArray) (x0 x1 x2 x3 y0 y1 y2 y3 : Value) (q : Nat) (w : World) (hq : w.heap[q]? = some (.cells #[.string nm', y0, y1, y2, y3] 40 (0, 0))) (r : Bool) (hr : r = decide (nm = nm')) : Calls Tryd.prog 61 #[.agg #[.string nm, x0, x1, x2, x3], ptr q] w fun e w' => e = .returned (.bool r) ∧ Below w.heap.size w w' := by
  have hB : Below w.heap.size w (w.alloc (.cells #[.string nm, x0, x1, x2, x3] 40)) := (Below.refl _ _).alloc (Nat.le_refl _) _
  have c1 : (w.alloc (.cells #[.string nm, x0, x1, x2, x3] 40)).cell? ⟨q, 0, none⟩ = some (.string nm') := (cell_of_row _ _ _ _ _ _ ((hB.block q (Array.getElem?_eq_some_iff.1 hq).1).trans hq)).trans rfl
  have g : (nm.toList == nm'.toList) = r := str_b hr.symm
  have HB := hid hB
  clear hB hr hq
  go_enter Tryd.func61, Tryd.ntmps61
  go_wp2
  go_ret
  exact ⟨rfl, HB.out⟩
def IxP (r : Bool) (w : World) (e : Ending) (w' : World) : Prop := ∃ k : Int, e = .returned (.int .i64 k) ∧ decide (0 ≤ k) = r ∧ Below w.heap.size w w'
set_option maxHeartbeats 6400000 in
theorem ixQ_any (qs : List Qi) (i : Nat) (hi : i ≤ qs.length) (hl : qs.length ≤ 1000) (ao : Option Addr) (cap : Nat) (w : World) (hS : AqS w qs (.slice ao qs.length cap) w) (nm' : ByteArray) (y0 y1 y2 y3 : Value) (q : Nat) (hq : w.heap[q]? = some (.cells #[.string nm', y0, y1, y2, y3] 40 (0, 0)))
    (r : Bool) (hr : r = true ↔ ∃ m, ∃ h : m < qs.length, m < i ∧ (qs[m]).nm = nm') : Calls Tryd.prog 96 #[.slice ao i cap, .func (.func 61) #[] #[ptr q]] w (IxP r w) := by
  have HR := hid hr
  have HQ := hid hq
  have HS0 := hid hS
  clear hr hq hS
  go_enter Tryd.func96, Tryd.ntmps96
  go_upto_region 2 with fail
  go_loopw [8] (fun v wr => ∃ j : Nat, v = .int .i64 ((j : Nat) : Int) ∧ j ≤ i ∧ Hid (∀ m (hm : m < qs.length), m < j → (qs[m]).nm ≠ nm') ∧ Hid (AqS w qs (.slice ao qs.length cap) wr)) (fun v _ => i - (intOf v).toNat)
  case atStart => exact ⟨0, rfl, Nat.zero_le _, fun m hm h => by omega, HS0.out⟩
  case round =>
    clear HS0
    obtain ⟨j, rfl, hj1, HD, HS⟩ := hrel
    by_cases hj : j < i
    · obtain ⟨g, o, rfl, hcap, x0, x1, x2, x3, ht, hra, hone⟩ := HS.out.qry (show j < qs.length by omega)
      have hs3 : decide ((j : Int) < (i : Int)) = true := by simp; omega
      have hjc : j < cap := by omega
      have hw3 : IntKind.i64.wrap ((j : Int) + 1) = (j : Int) + 1 := by rw [IntKind.wrap_i64]; omega
      have hqr := (HS.out.low.block q (Array.getElem?_eq_some_iff.1 HQ.out).1).trans HQ.out
      by_cases he : (qs[j]'(by omega)).nm = nm'
      · obtain rfl : r = true := HR.out.2 ⟨j, by omega, hj, he⟩
        have HC := hid (alike8_any (qs[j]'(by omega)).nm nm' x0 x1 x2 x3 y0 y1 y2 y3 q wr hqr true (decide_eq_true he).symm)
        clear hqr ht hone HR HD he
        go_wp2_with (first
          | (refine ldMid 40 (.tmp 14) rfl rfl g (o + j * 5) rfl #[.string (qs[j]'(by omega)).nm, x0, x1, x2, x3] _ Tryd.underlying40 rfl infoQ5 hra ?_)
          | (go_at_call 61; refine (HC.out).mono ?_; rintro e w4 ⟨rfl, hw⟩; have HS4 := hid (HS.out.on hw); clear hw))
        go_ret
        exact ⟨(j : Int), rfl, decide_eq_true (by omega), HS4.out.low⟩
      · have HD2 : Hid (∀ m (hm : m < qs.length), m < j + 1 → (qs[m]).nm ≠ nm') := fun m hm hmj => by
          by_cases e : m = j
          · subst e; exact he
          · exact HD.out m hm (by omega)
        have HC := hid (alike8_any (qs[j]'(by omega)).nm nm' x0 x1 x2 x3 y0 y1 y2 y3 q wr hqr false (decide_eq_false he).symm)
        clear hqr ht hone HD he
        go_wp2_with (first
          | (refine ldMid 40 (.tmp 14) rfl rfl g (o + j * 5) rfl #[.string (qs[j]'(by omega)).nm, x0, x1, x2, x3] _ Tryd.underlying40 rfl infoQ5 hra ?_)
          | (go_at_call 61; refine (HC.out).mono ?_; rintro e w4 ⟨rfl, hw⟩; have HS4 := hid (HS.out.on hw); clear hw))
        go_roundw
        case rel => exact ⟨j + 1, by go_num, by omega, HD2, HS4⟩
        case measure => simp [intOf]; omega
    · have hs3 : decide ((j : Int) < (i : Int)) = false := by simp; omega
      obtain rfl : r = false := by
        rw [Bool.eq_false_iff]; intro e
        obtain ⟨m, hm, h1, h2⟩ := HR.out.1 e
        exact HD.out m hm (by omega) h2
      go_wp2
      go_ret
      exact ⟨-1, rfl, rfl, HS.out.low⟩
theorem cfQ_any (qs : List Qi) (i : Nat) (hi : i ≤ qs.length) (hl : qs.length ≤ 1000) (ao : Option Addr) (cap : Nat) (w : World) (hS : AqS w qs (.slice ao qs.length cap) w) (nm' : ByteArray) (y0 y1 y2 y3 : Value) (q : Nat) (hq : w.heap[q]? = some (.cells #[.string nm', y0, y1, y2, y3] 40 (0, 0)))
    (r : Bool) (hr : r = true ↔ ∃ m, ∃ h : m < qs.length, m < i ∧ (qs[m]).nm = nm') : Calls Tryd.prog 63 #[.slice ao i cap, .func (.func 61) #[] #[ptr q]] w fun e w' => e = .returned (.bool r) ∧ Below w.heap.size w w' := by
  have HI := hid (ixQ_any qs i hi hl ao cap w hS nm' y0 y1 y2 y3 q hq r hr)
  clear hS hq hr
  go_enter Tryd.func63, Tryd.ntmps63
  go_wp2_with (go_at_call 96; refine (HI.out).mono ?_; rintro e w4 ⟨k, rfl, hk, hw⟩; have HX := hid hw; clear hw)
  go_ret
  exact ⟨rfl, HX.out⟩
/-- queries that are some -/
def AQ (qs : List Qi) : Prop := ∀ i (hi : i < qs.length), nmB (qs[i]).nm = true ∧ oneI true (qs[i]).pd = true ∧ ∀ m (hm : m < i), (qs[m]).nm ≠ (qs[i]).nm
set_option maxHeartbeats 12800000 in
theorem areQ8_any (qs : List Qi) (v : Value) (xs : List Value) (w : World) (hl : qs.length ≤ 32) (h1 : Rx (fun b => b < w.heap.size) 5 w v qs.length xs) (h2 : QiL (fun b => b < w.heap.size) w qs xs) (hT : TabP w) (hz : 3 ≤ w.heap.size) (hwi : ∀ q ∈ qs, Wi q.pd) (r : Bool) (hr : r = true ↔ AQ qs) :
    Calls Tryd.prog 39 #[v] w fun e w' => e = .returned (.bool r) ∧ Below w.heap.size w w' := by
  obtain ⟨ao, cap, rfl⟩ := h1.form
  have HS0 : Hid (AqS w qs (.slice ao qs.length cap) w) := ⟨Below.refl _ _, xs, h1, h2⟩
  have HR := hid hr
  have HT := hid hT
  have HWi := hid hwi
  have hmf : ∀ (fn : Fn) (first cap : Array Value) (w : World), (Instr.makeFunc fn first cap).run Tryd.prog w = .ok (.func fn first cap) w := fun _ _ _ _ => rfl
  clear hr hT hwi h1 h2
  go_enter Tryd.func39, Tryd.ntmps39
  go_upto_region 2 with fail
  go_loopw [8] (fun v wr => ∃ j : Nat, v = .int .i64 ((j : Nat) : Int) ∧ j ≤ qs.length ∧ Hid (∀ i (hi : i < qs.length), i < j → nmB (qs[i]).nm = true ∧ oneI true (qs[i]).pd = true ∧ ∀ m (hm : m < i), (qs[m]).nm ≠ (qs[i]).nm) ∧ Hid (AqS w qs (.slice ao qs.length cap) wr)) (fun v _ => qs.length - (intOf v).toNat)
  case atStart => exact ⟨0, rfl, Nat.zero_le _, fun m hm h => by omega, HS0.out⟩
  case round =>
    clear HS0
    obtain ⟨j, rfl, hj1, HD, HS⟩ := hrel
    by_cases hj : j < qs.length
    · obtain ⟨g, o, rfl, hcap, x0, x1, x2, x3, ht, hra, hone⟩ := HS.out.qry hj
      have hs3 : decide ((j : Int) < (qs.length : Int)) = true := by simp; omega
      have hjc : j < cap := by omega
      have hjc' : ¬ cap < j := by omega
      have hw3 : IntKind.i64.wrap ((j : Int) + 1) = (j : Int) + 1 := by rw [IntKind.wrap_i64]; omega
      have hbr := HS.out.low
      obtain ⟨nm, hnm⟩ : ∃ nm, nm = (qs[j]).nm := ⟨_, rfl⟩
      rw [← hnm] at hra
      have hb3 : Below wr.heap.size wr (wr.alloc (.cells #[.string nm, x0, x1, x2, x3] 40)) := (Below.refl _ _).alloc (Nat.le_refl _) _
      have hN3 : (wr.alloc (.cells #[.string nm, x0, x1, x2, x3] 40)).heap[wr.heap.size]? = some (.cells #[.string nm, x0, x1, x2, x3] 40 (0, 0)) := heap_alloc_new _ _
      have HS3 := hid (HS.out.on hb3)
      have HN3 := hid hN3
      have c0 : (wr.alloc (.cells #[.string nm, x0, x1, x2, x3] 40)).cell? ⟨wr.heap.size, 0, none⟩ = some (.string nm) := (cell_of_row _ _ _ _ _ _ hN3).trans rfl
      have hra1 : (wr.alloc (.cells #[.string nm, x0, x1, x2, x3] 40)).rangeAt wr.heap.size 1 (#[x0, x1, x2, x3] : Array Value).toList := fun i v hi => by
        rw [cell_of_row _ _ _ _ _ _ hN3, Nat.add_comm]
        rw [← hi]
        have hi4 : i < 4 := by simpa using (List.getElem?_eq_some_iff.1 hi).1
        have : i = 0 ∨ i = 1 ∨ i = 2 ∨ i = 3 := by omega
        rcases this with rfl | rfl | rfl | rfl <;> rfl
      have HR1 := hid hra1
      have HTi : Hid (TiV (fun b => b < w.heap.size) (wr.alloc (.cells #[.string nm, x0, x1, x2, x3] 40)) (qs[j]).pd #[x0, x1, x2, x3]) := ti_on ht fun b hb hS => ⟨hS, hb3.block b hb⟩
      have hone5 : (#[.string nm, x0, x1, x2, x3] : Array Value).all (·.oneCell') = true := by
        have := hone
        simp only [List.all_toArray, List.all_cons, List.all_nil, Bool.and_true] at this ⊢
        simpa [Value.oneCell'] using this
      have HO5 := hid hone5
      have HNM := hid hnm
      have HRA := hid hra
      clear hb3 hN3 hra1 ht hone hone5 hnm hra hbr HS
      go_upto_region 4 with (first
        | (refine ldMid 40 (.tmp 11) rfl rfl g (o + j * 5) rfl #[.string nm, x0, x1, x2, x3] _ Tryd.underlying40 rfl infoQ5 HRA.out ?_)
        | (refine stNew 40 (.tmp 4) (.tmp 12) rfl rfl wr 40 #[.string ⟨#[]⟩, .int .i8 0, .int .i8 0, .int .u64 0, nilS] #[.string nm, x0, x1, x2, x3] rfl rfl rfl infoQ5 rfl HO5.out ?_))
      generalize wr.alloc (.cells #[.string nm, x0, x1, x2, x3] 40) = w3 at HS3 HN3 c0 HR1 HTi ⊢
      have HNa := hid (name8_any nm w3)
      have HFi : Hid (¬ (nmB nm = true ∧ oneI true (qs[j]).pd = true ∧ ∀ m (hm : m < j), (qs[m]).nm ≠ nm) → r = false) := fun h => by
        rw [Bool.eq_false_iff]; intro e
        exact h (by have := HR.out.1 e j hj; rw [← HNM.out] at this; exact this)
      cases hn : nmB nm with
      | false =>
        rw [hn] at HNa
        obtain rfl : r = false := HFi.out fun h => by rw [hn] at h; cases h.1
        clear HFi hn HR HD
        go_wp2_with (go_at_call 62; refine (HNa.out).mono ?_; rintro e w4 ⟨rfl, hw⟩; rw [hw]; clear hw w4)
        go_ret
        exact ⟨rfl, HS3.out.low⟩
      | true =>
      rw [hn] at HNa
      obtain ⟨c, hc⟩ : ∃ c : Bool, c = true ↔ ∃ m, ∃ h : m < qs.length, m < j ∧ (qs[m]).nm = nm := by
        by_cases h : ∃ m, ∃ h : m < qs.length, m < j ∧ (qs[m]).nm = nm
        · exact ⟨true, fun _ => h, fun _ => rfl⟩
        · exact ⟨false, fun e => (by cases e), fun e => absurd e h⟩
      have HCf := hid (cfQ_any qs j (by omega) (by omega) (some ⟨g, o, none⟩) cap w3 HS3.out.here nm x0 x1 x2 x3 wr.heap.size HN3.out c hc)
      have HC := hid hc
      clear hc
      cases c with
      | true =>
        obtain rfl : r = false := HFi.out fun h => by
          obtain ⟨m, h1, h2, h3⟩ := HC.out.1 rfl
          exact h.2.2 m h2 h3
        clear HFi hn HR HD HC
        go_wp2_with (first
          | (go_at_call 62; refine (HNa.out).mono ?_; rintro e w4 ⟨rfl, hw⟩; rw [hw]; clear hw w4 HNa)
          | (go_at_call 63; refine (HCf.out).mono ?_; rintro e w4 ⟨rfl, hw⟩; have HS4 := hid (HS3.out.on hw); clear hw))
        go_ret
        exact ⟨rfl, HS4.out.low⟩
      | false =>
      have HCn : Hid (∀ m (hm : m < j), (qs[m]).nm ≠ nm) := fun m hm e => by
        have := HC.out.2 ⟨m, by omega, hm, e⟩
        cases this
      clear HC
      have HOn : Hid (∀ W, Below w3.heap.size w3 W → Calls Tryd.prog 38 #[.agg #[x0, x1, x2, x3], .int .i8 0] W fun e w' => e = .returned (.bool (oneI true (qs[j]).pd)) ∧ Below W.heap.size W w') := fun W hb =>
        isOne8_any _ (qs[j]).pd #[x0, x1, x2, x3] true W (Nat.le_refl _) (HWi.out _ (List.getElem_mem hj)) (ti_on HTi.out fun b hb2 hS => ⟨by have := hb.size; omega, hb.block b hb2⟩) (HT.out.on (HS3.out.low.trans (hb.mono HS3.out.low.size)) hz) (by have := hb.size; have := HS3.out.low.size; omega)
      cases ho : oneI true (qs[j]).pd with
      | false =>
        obtain rfl : r = false := HFi.out fun h => by rw [ho] at h; cases h.2.1
        rw [ho] at HOn
        clear HFi hn HR HD ho HCn
        go_wp2_with (first
          | (refine ldMid 26 (.tmp 26) rfl rfl wr.heap.size 1 rfl #[x0, x1, x2, x3] _ Tryd.underlying26 rfl sizeTM HR4.out ?_)
          | (go_at_call 38; refine (HOn4.out).mono ?_; rintro e w5 ⟨rfl, hw⟩; have HS5 := hid (HS4.out.on hw); clear hw)
          | (go_at_call 62; refine (HNa.out).mono ?_; rintro e w4 ⟨rfl, hw⟩; rw [hw]; clear hw w4 HNa)
          | (go_at_call 63; refine (HCf.out).mono ?_; rintro e w4 ⟨rfl, hw⟩; have HS4 := hid (HS3.out.on hw); have HOn4 := hid (HOn.out w4 hw); have HR4 : Hid (w4.rangeAt wr.heap.size 1 (#[x0, x1, x2, x3] : Array Value).toList) := (fun i v hi => (cell_same (hw.block _ (Array.getElem?_eq_some_iff.1 HN3.out).1)).trans (HR1.out i v hi)); clear hw HCf))
        go_ret
        exact ⟨rfl, HS5.out.low⟩
      | true =>
        rw [ho] at HOn
        have HD2 : Hid (∀ i (hi : i < qs.length), i < j + 1 → nmB (qs[i]).nm = true ∧ oneI true (qs[i]).pd = true ∧ ∀ m (hm : m < i), (qs[m]).nm ≠ (qs[i]).nm) := fun i hi hij => by
          by_cases e : i = j
          · subst e
            rw [← HNM.out]
            exact ⟨hn, ho, HCn.out⟩
          · exact HD.out i hi (by omega)
        clear HFi hn HR HD ho HCn
        go_wp2_with (first
          | (refine ldMid 26 (.tmp 26) rfl rfl wr.heap.size 1 rfl #[x0, x1, x2, x3] _ Tryd.underlying26 rfl sizeTM HR4.out ?_)
          | (go_at_call 38; refine (HOn4.out).mono ?_; rintro e w5 ⟨rfl, hw⟩; have HS5 := hid (HS4.out.on hw); clear hw)
          | (go_at_call 62; refine (HNa.out).mono ?_; rintro e w4 ⟨rfl, hw⟩; rw [hw]; clear hw w4 HNa)
          | (go_at_call 63; refine (HCf.out).mono ?_; rintro e w4 ⟨rfl, hw⟩; have HS4 := hid (HS3.out.on hw); have HOn4 := hid (HOn.out w4 hw); have HR4 : Hid (w4.rangeAt wr.heap.size 1 (#[x0, x1, x2, x3] : Array Value).toList) := (fun i v hi => (cell_same (hw.block _ (Array.getElem?_eq_some_iff.1 HN3.out).1)).trans (HR1.out i v hi)); clear hw HCf))
        have hX : ∃ k : Nat, Value.int .i64 ((j : Int) + 1) = .int .i64 ((k : Nat) : Int) ∧ k ≤ qs.length ∧ Hid (∀ i (hi : i < qs.length), i < k → nmB (qs[i]).nm = true ∧ oneI true (qs[i]).pd = true ∧ ∀ m (hm : m < i), (qs[m]).nm ≠ (qs[i]).nm) ∧ Hid (AqS w qs (.slice (some ⟨g, o, none⟩) qs.length cap) w5) :=
          ⟨j + 1, by rw [show (((j + 1 : Nat) : Nat) : Int) = (j : Int) + 1 by omega], hj, HD2, HS5⟩
        refine ⟨?_, ?_⟩
        · first
            | exact hX
            | ((repeat apply Exists.intro); refine ⟨?_, rfl⟩; exact hX)
        · simp [intOf]; omega
    · have hs3 : decide ((j : Int) < (qs.length : Int)) = false := by simp; omega
      obtain rfl : j = qs.length := by omega
      obtain rfl : r = true := HR.out.2 fun i hi => HD.out i hi hi
      go_wp2
      go_ret
      exact ⟨rfl, HS.out.low⟩
end Go.Proofs.YtjallmncajhamaaDoor
