/-
  Proved here: whether some kid says that all the others mean nothing (slices.ContainsFunc with joined's closure). Conditions: the kids lie in old memory; a Filter has its kid.
-/
import Derived.Test.YtjallmncajhamaaDoorTC
namespace Go.Proofs.YtjallmncajhamaaDoor
open Go.RowKit
set_option maxRecDepth 100000

/-- terms in memory S that is old -/
structure LqS (S : Nat → Prop) (w : World) (ks : List Tm) (v : Value) (wr : World) : Prop where
  low : Below w.heap.size w wr
  ks : ∃ xs, Rx (fun b => S b ∧ b < w.heap.size) 4 wr v ks.length xs ∧ UmL (fun b => S b ∧ b < w.heap.size) wr ks xs
theorem LqS.keep {S : Nat → Prop} {w : World} {ks : List Tm} {v : Value} {wr w' : World} (h : LqS S w ks v wr) (hb : Below w.heap.size w w') : LqS S w ks v w' := by
  obtain ⟨xs, g1, g2⟩ := h.ks
  have hc : ∀ b, b < wr.heap.size → (S b ∧ b < w.heap.size) → (S b ∧ b < w.heap.size) ∧ w'.heap[b]? = wr.heap[b]? := fun b _ hS => ⟨hS, (hb.block b hS.2).trans (h.low.block b hS.2).symm⟩
  exact ⟨hb, xs, g1.carry hc, UmL.carry hc _ _ g2⟩
theorem LqS.on {S : Nat → Prop} {w : World} {ks : List Tm} {v : Value} {wr w' : World} (h : LqS S w ks v wr) (hb : Below wr.heap.size wr w') : LqS S w ks v w' := h.keep (h.low.trans (hb.mono h.low.size))
theorem LqS.kid {S : Nat → Prop} {w : World} {ks : List Tm} {ao : Option Addr} {cap : Nat} {wr : World} (h : LqS S w ks (.slice ao ks.length cap) wr) {j : Nat} (hj : j < ks.length) : ∃ g o, ao = some ⟨g, o, none⟩ ∧ ks.length ≤ cap ∧ (S g ∧ g < w.heap.size) ∧ ∃ x0 x1 x2 x3, UmV (fun b => S b ∧ b < w.heap.size) wr ks[j] #[x0, x1, x2, x3] ∧ wr.rangeAt g (o + j * 4) (#[x0, x1, x2, x3] : Array Value).toList := by
  obtain ⟨xs, g1, g2⟩ := h.ks
  obtain ⟨g, o, e, hc, hS, hg, x0, x1, x2, x3, q1, q2⟩ := UmL.kid g1 g2 hj
  exact ⟨g, o, e, hc, hS, x0, x1, x2, x3, q1, q2⟩
theorem infoJT : (Tryd.prog.info? 121).map (·.size) = some 2 := by kernel_rfl
theorem jo8_any (t : Tm) (cs : Array Value) (J : Nat) (i e : Int) (w : World) (h : UmV (fun b => b < w.heap.size) w t cs) (hk : t.op = 6 → t.ks ≠ []) (hJ : w.heap[J]? = some (.cells #[.int .i8 i, .int .i8 e] 121 (0, 0))) : Calls Tryd.prog 100 #[.agg cs, ptr J] w fun r w' => r = .returned (.bool (decide ((hd t : Int) = e))) ∧ Below w.heap.size w w' := by
  have h4 := h.size
  have hinf := h.info
  have hB1 : Below w.heap.size w (w.alloc (.cells cs 26)) := (Below.refl _ _).alloc (Nat.le_refl _) _
  have HN1 : Hid ((w.alloc (.cells cs 26)).heap[w.heap.size]? = some (.cells cs 26 (0, 0))) := heap_alloc_new _ _
  have c1 : (w.alloc (.cells cs 26)).cell? ⟨J, 1, none⟩ = some (.int .i8 e) := (cell_of_row _ _ _ _ _ _ ((hB1.block J (Array.getElem?_eq_some_iff.1 hJ).1).trans hJ)).trans rfl
  have HS := hid (says8_any t cs e (w.alloc (.cells cs 26)) (um_on h fun b hb hS => ⟨by have := hB1.size; omega, hB1.block b hb⟩) hk)
  have HB1 := hid hB1
  have HI := hid hinf
  clear h hJ hB1 h4 hinf hk
  go_enter Tryd.func100, Tryd.ntmps100
  go_wp2_with (first
    | (refine ldRow 26 (.tmp 2) rfl rfl w.heap.size rfl 26 cs _ Tryd.underlying26 rfl HI.out HN1.out ?_)
    | (go_at_call 101; refine (HS.out).mono ?_; rintro e w3 ⟨rfl, hw⟩; have HB3 := hid (HB1.out.trans (hw.mono HB1.out.size)); clear hw HS))
  go_ret
  exact ⟨rfl, HB3.out⟩
set_option maxHeartbeats 6400000 in
theorem ixT_any (S : Nat → Prop) (ks : List Tm) (hl : ks.length ≤ 4096) (ao : Option Addr) (cap : Nat) (w : World) (hS : LqS S w ks (.slice ao ks.length cap) w) (hk : ∀ k ∈ ks, k.op = 6 → k.ks ≠ []) (J : Nat) (i e : Int) (hJ : w.heap[J]? = some (.cells #[.int .i8 i, .int .i8 e] 121 (0, 0)))
    (r : Bool) (hr : r = ks.any fun k => decide ((hd k : Int) = e)) : Calls Tryd.prog 120 #[.slice ao ks.length cap, .func (.func 100) #[] #[ptr J]] w (IxP r w) := by
  have HR : Hid (r = true ↔ ∃ k ∈ ks, (hd k : Int) = e) := by show _ ↔ _; rw [hr]; simp
  have HQ := hid hJ
  have HS0 := hid hS
  have HK := hid hk
  clear hr hJ hS hk
  go_enter Tryd.func120, Tryd.ntmps120
  go_upto_region 2 with fail
  go_loopw [8] (fun v wr => ∃ j : Nat, v = .int .i64 ((j : Nat) : Int) ∧ j ≤ ks.length ∧ Hid (∀ m (hm : m < ks.length), m < j → (hd ks[m] : Int) ≠ e) ∧ Hid (LqS S w ks (.slice ao ks.length cap) wr)) (fun v _ => ks.length - (intOf v).toNat)
  case atStart => exact ⟨0, rfl, Nat.zero_le _, fun m hm h => by omega, HS0.out⟩
  case round =>
    clear HS0
    obtain ⟨j, rfl, hj1, HD, HS⟩ := hrel
    by_cases hj : j < ks.length
    · obtain ⟨g, o, rfl, hcap, hgS, x0, x1, x2, x3, ht, hra⟩ := HS.out.kid hj
      have hs3 : decide ((j : Int) < (ks.length : Int)) = true := by simp; omega
      have hjc : j < cap := by omega
      have hw3 : IntKind.i64.wrap ((j : Int) + 1) = (j : Int) + 1 := by rw [IntKind.wrap_i64]; omega
      have hqr := (HS.out.low.block J (Array.getElem?_eq_some_iff.1 HQ.out).1).trans HQ.out
      have hwz := HS.out.low.size
      have HC := hid (jo8_any ks[j] #[x0, x1, x2, x3] J i e wr (um_on ht fun b hb hS => ⟨hb, rfl⟩) (HK.out _ (List.getElem_mem hj)) hqr)
      have HRA := hid hra
      clear hqr ht hgS hra hwz
      by_cases he : (hd ks[j] : Int) = e
      · obtain rfl : r = true := HR.out.2 ⟨ks[j], List.getElem_mem hj, he⟩
        rw [decide_eq_true he] at HC
        clear HR HD he
        go_wp2_with (first
          | (refine ldMid 26 (.tmp 14) rfl rfl g (o + j * 4) rfl #[x0, x1, x2, x3] _ Tryd.underlying26 rfl sizeTM HRA.out ?_)
          | (go_at_call 100; refine (HC.out).mono ?_; rintro e w4 ⟨rfl, hw⟩; have HS4 := hid (HS.out.on hw); clear hw))
        go_ret
        exact ⟨(j : Int), rfl, decide_eq_true (by omega), HS4.out.low⟩
      · have HD2 : Hid (∀ m (hm : m < ks.length), m < j + 1 → (hd ks[m] : Int) ≠ e) := fun m hm hmj => by
          by_cases e : m = j
          · subst e; exact he
          · exact HD.out m hm (by omega)
        rw [decide_eq_false he] at HC
        clear HD he
        go_wp2_with (first
          | (refine ldMid 26 (.tmp 14) rfl rfl g (o + j * 4) rfl #[x0, x1, x2, x3] _ Tryd.underlying26 rfl sizeTM HRA.out ?_)
          | (go_at_call 100; refine (HC.out).mono ?_; rintro e w4 ⟨rfl, hw⟩; have HS4 := hid (HS.out.on hw); clear hw))
        go_roundw
        case rel => exact ⟨j + 1, by go_num, by omega, HD2, HS4⟩
        case measure => simp [intOf]; omega
    · have hs3 : decide ((j : Int) < (ks.length : Int)) = false := by simp; omega
      obtain rfl : j = ks.length := by omega
      obtain rfl : r = false := by
        rw [Bool.eq_false_iff]; intro e
        obtain ⟨k, hk1, hk2⟩ := HR.out.1 e
        obtain ⟨m, hm, rfl⟩ := List.getElem_of_mem hk1
        exact HD.out m hm hm hk2
      go_wp2
      go_ret
      exact ⟨-1, rfl, rfl, HS.out.low⟩
theorem cfT_any (S : Nat → Prop) (ks : List Tm) (hl : ks.length ≤ 4096) (ao : Option Addr) (cap : Nat) (w : World) (hS : LqS S w ks (.slice ao ks.length cap) w) (hk : ∀ k ∈ ks, k.op = 6 → k.ks ≠ []) (J : Nat) (i e : Int) (hJ : w.heap[J]? = some (.cells #[.int .i8 i, .int .i8 e] 121 (0, 0)))
    (r : Bool) (hr : r = ks.any fun k => decide ((hd k : Int) = e)) : Calls Tryd.prog 99 #[.slice ao ks.length cap, .func (.func 100) #[] #[ptr J]] w fun e w' => e = .returned (.bool r) ∧ Below w.heap.size w w' := by
  have HI := hid (ixT_any S ks hl ao cap w hS hk J i e hJ r hr)
  clear hS hJ hr hk
  go_enter Tryd.func99, Tryd.ntmps99
  go_wp2_with (go_at_call 120; refine (HI.out).mono ?_; rintro e w4 ⟨k, rfl, hk, hw⟩; have HX := hid hw; clear hw)
  go_ret
  exact ⟨rfl, HX.out⟩
end Go.Proofs.YtjallmncajhamaaDoor
