/-
  Proved here: right of the document's layer 18 at terms of some Ops. Conditions: at most 4096 terms; the term lies in old memory.
-/
import Derived.Test.YtjallmncajhamaaDoorVF
namespace Go.Proofs.YtjallmncajhamaaDoor
open Go.RowKit
set_option maxRecDepth 100000

set_option maxHeartbeats 25600000 in
theorem rright_0 (N : Nat) (HIH : Hid (∀ (t : Ti) (cs : Array Value) (b : Bool) (w : World), szI t ≤ N → N ≤ 4096 → TiV (fun b => b < w.heap.size) w t cs → Calls Tryd.prog 41 #[.agg cs, .bool b] w fun e w' => e = .returned (.bool (oneI b t)) ∧ Below w.heap.size w w')) (fd : Int) (n : Nat) (ks : List Ti) (cs : Array Value) (b : Bool) (w : World) (hN : szI (.mk 0 fd n ks) ≤ N + 1) (hsm : N + 1 ≤ 4096) (ht : TiV (fun b => b < w.heap.size) w (.mk 0 fd n ks) cs) : Calls Tryd.prog 41 #[.agg cs, .bool b] w fun e w' => e = .returned (.bool (oneI b (.mk 0 fd n ks))) ∧ Below w.heap.size w w' := by
  obtain ⟨v, xs, rfl, h2, h3⟩ := ht.get
  obtain ⟨ao, cap, rfl⟩ := h2.form
  rw [szI] at hN
  have hkl : ks.length ≤ 4096 := by have := len_szsI ks ks.length (Nat.le_refl _); rw [List.take_length] at this; omega
  have hX : Bx1 w 0 fd n (.slice ao ks.length cap) (w.alloc (.cells (tic 0 fd n (.slice ao ks.length cap)) 26)) := Bx1.new _ _ _ _ _
  have HAll : Hid (∀ c, Calls Tryd.prog 67 #[.slice ao ks.length cap, .bool c] (w.alloc (.cells (tic 0 fd n (.slice ao ks.length cap)) 26)) fun e w' => e = .returned (.bool (oneIs c ks)) ∧ Below (w.alloc (.cells (tic 0 fd n (.slice ao ks.length cap)) 26)).heap.size (w.alloc (.cells (tic 0 fd n (.slice ao ks.length cap)) 26)) w') := fun c => by
    have hc : ∀ b, b < w.heap.size → b < w.heap.size → b < (w.alloc (.cells (tic 0 fd n (.slice ao ks.length cap)) 26)).heap.size ∧ (w.alloc (.cells (tic 0 fd n (.slice ao ks.length cap)) 26)).heap[b]? = w.heap[b]? := fun b hb _ => ⟨by simp; omega, heap_alloc_old _ _ hb⟩
    exact rall_any c ks ao cap xs _ hkl (h2.carry hc) (TiL.carry hc _ _ h3) fun j hj cs W hv => HIH.out ks[j] cs c W (by have := szsI_mem (List.getElem_mem hj); omega) (by omega) hv
  have HX := hid hX
  obtain ⟨r, hr⟩ : ∃ r, r = oneI b (.mk 0 fd n ks) := ⟨_, rfl⟩
  rw [← hr]
  have HR := hid hr
  have HFt := fun W => rfits_any 0 fd n (.slice ao ks.length cap) W
  obtain ⟨u, hu⟩ : ∃ u, u = fitB fd n := ⟨_, rfl⟩
  have HFt2 : Hid (∀ W, Calls Tryd.prog 66 #[.agg (tic 0 fd n (.slice ao ks.length cap))] W fun e w' => e = .returned (.bool u) ∧ Below W.heap.size W w') := fun W => by rw [hu]; exact HFt W
  have HU := hid hu
  clear h2 h3 ht hN hX hr hu HFt
  obtain ⟨L, hL⟩ : ∃ L, L = ks.length := ⟨_, rfl⟩
  rw [← hL] at HAll HX HFt2 hkl ⊢
  have HL := hid hL
  clear hL
  go_enter Tryd.func41, Tryd.ntmps41
  go_upto_region 1 with fail
  generalize w.alloc (.cells (tic 0 fd n (.slice ao L cap)) 26) = W1 at HX HAll ⊢
  have c0 := (four_cells HX.out.n).1
  have c1 := (four_cells HX.out.n).2.1
  have c2 := (four_cells HX.out.n).2.2.1
  have c3 := (four_cells HX.out.n).2.2.2
  obtain ⟨q, hq⟩ : ∃ q, q = bareB fd n := ⟨_, rfl⟩
  have HQ := hid hq
  clear hq
  go_cut [5] from 9 (fun s5 wc => s5 = .bool q ∧ wc = W1)
  case first =>
    by_cases e0 : fd = 0
    · subst e0
      by_cases en : n = 0
      · subst en
        go_wp2_with fail
        go_meet
        case rel => exact ⟨by rw [HQ.out]; rfl, rfl⟩
      · have dn : (((n : Nat) : Int) == 0) = false := beq_eq_false_iff_ne.2 (by omega)
        have dn' : decide (n = 0) = false := decide_eq_false en
        have dn'' : decide (((n : Nat) : Int) = 0) = false := decide_eq_false (by omega)
        go_wp2_with fail
        go_meet
        case rel => exact ⟨by rw [HQ.out]; unfold bareB; rw [dn']; simp, rfl⟩
    · have d0 : (fd == 0) = false := beq_eq_false_iff_ne.2 e0
      have d0' : decide (fd = 0) = false := decide_eq_false e0
      go_wp2_with fail
      go_meet
      case rel => exact ⟨by rw [HQ.out]; unfold bareB; rw [d0']; simp, rfl⟩
  case rest =>
  obtain ⟨rfl, hwc⟩ := hcut
  rw [hwc]
  clear hwc wc
  go_upto_region 3 with fail
  · have HR2 := HR.out.trans (rt0 b _ fd n ks  (by omega))
    rw [← HL.out, ← HQ.out] at HR2
    cases b with
    | false =>
      obtain rfl : r = false := by rw [HR2]; simp
      clear HR2 HR HU HQ HL HAll HFt2
      go_wp2_with fail
      go_ret
      exact ⟨rfl, HX.out.b⟩
    | true =>
      cases q with
      | false =>
        obtain rfl : r = false := by rw [HR2]; simp
        clear HR2 HR HU HQ HL HAll HFt2
        go_wp2_with fail
        go_ret
        exact ⟨rfl, HX.out.b⟩
      | true =>
        by_cases hlen : L = 0
        · have dl : (((L : Nat) : Int) == 0) = true := beq_iff_eq.2 (by omega)
          have dl' : decide (((L : Nat) : Int) = 0) = true := decide_eq_true (by omega)
          have dl'' : decide (L = 0) = true := decide_eq_true (by omega)
          clear hlen
          obtain rfl : r = true := by rw [HR2, dl'']; rfl
          clear HR2 HR HU HQ HL HAll HFt2
          go_wp2_with fail
          go_ret
          exact ⟨rfl, HX.out.b⟩
        · have dl : (((L : Nat) : Int) == 0) = false := beq_eq_false_iff_ne.2 (by omega)
          have dl' : decide (((L : Nat) : Int) = 0) = false := decide_eq_false (by omega)
          have dl'' : decide (L = 0) = false := decide_eq_false (by omega)
          clear hlen
          obtain rfl : r = false := by rw [HR2, dl'']; simp
          clear HR2 HR HU HQ HL HAll HFt2
          go_wp2_with fail
          go_ret
          exact ⟨rfl, HX.out.b⟩
set_option maxHeartbeats 25600000 in
theorem rright_1 (N : Nat) (HIH : Hid (∀ (t : Ti) (cs : Array Value) (b : Bool) (w : World), szI t ≤ N → N ≤ 4096 → TiV (fun b => b < w.heap.size) w t cs → Calls Tryd.prog 41 #[.agg cs, .bool b] w fun e w' => e = .returned (.bool (oneI b t)) ∧ Below w.heap.size w w')) (fd : Int) (n : Nat) (ks : List Ti) (cs : Array Value) (b : Bool) (w : World) (hN : szI (.mk 1 fd n ks) ≤ N + 1) (hsm : N + 1 ≤ 4096) (ht : TiV (fun b => b < w.heap.size) w (.mk 1 fd n ks) cs) : Calls Tryd.prog 41 #[.agg cs, .bool b] w fun e w' => e = .returned (.bool (oneI b (.mk 1 fd n ks))) ∧ Below w.heap.size w w' := by
  obtain ⟨v, xs, rfl, h2, h3⟩ := ht.get
  obtain ⟨ao, cap, rfl⟩ := h2.form
  rw [szI] at hN
  have hkl : ks.length ≤ 4096 := by have := len_szsI ks ks.length (Nat.le_refl _); rw [List.take_length] at this; omega
  have hX : Bx1 w 1 fd n (.slice ao ks.length cap) (w.alloc (.cells (tic 1 fd n (.slice ao ks.length cap)) 26)) := Bx1.new _ _ _ _ _
  have HAll : Hid (∀ c, Calls Tryd.prog 67 #[.slice ao ks.length cap, .bool c] (w.alloc (.cells (tic 1 fd n (.slice ao ks.length cap)) 26)) fun e w' => e = .returned (.bool (oneIs c ks)) ∧ Below (w.alloc (.cells (tic 1 fd n (.slice ao ks.length cap)) 26)).heap.size (w.alloc (.cells (tic 1 fd n (.slice ao ks.length cap)) 26)) w') := fun c => by
    have hc : ∀ b, b < w.heap.size → b < w.heap.size → b < (w.alloc (.cells (tic 1 fd n (.slice ao ks.length cap)) 26)).heap.size ∧ (w.alloc (.cells (tic 1 fd n (.slice ao ks.length cap)) 26)).heap[b]? = w.heap[b]? := fun b hb _ => ⟨by simp; omega, heap_alloc_old _ _ hb⟩
    exact rall_any c ks ao cap xs _ hkl (h2.carry hc) (TiL.carry hc _ _ h3) fun j hj cs W hv => HIH.out ks[j] cs c W (by have := szsI_mem (List.getElem_mem hj); omega) (by omega) hv
  have HX := hid hX
  obtain ⟨r, hr⟩ : ∃ r, r = oneI b (.mk 1 fd n ks) := ⟨_, rfl⟩
  rw [← hr]
  have HR := hid hr
  have HFt := fun W => rfits_any 1 fd n (.slice ao ks.length cap) W
  obtain ⟨u, hu⟩ : ∃ u, u = fitB fd n := ⟨_, rfl⟩
  have HFt2 : Hid (∀ W, Calls Tryd.prog 66 #[.agg (tic 1 fd n (.slice ao ks.length cap))] W fun e w' => e = .returned (.bool u) ∧ Below W.heap.size W w') := fun W => by rw [hu]; exact HFt W
  have HU := hid hu
  clear h2 h3 ht hN hX hr hu HFt
  obtain ⟨L, hL⟩ : ∃ L, L = ks.length := ⟨_, rfl⟩
  rw [← hL] at HAll HX HFt2 hkl ⊢
  have HL := hid hL
  clear hL
  go_enter Tryd.func41, Tryd.ntmps41
  go_upto_region 1 with fail
  generalize w.alloc (.cells (tic 1 fd n (.slice ao L cap)) 26) = W1 at HX HAll ⊢
  have c0 := (four_cells HX.out.n).1
  have c1 := (four_cells HX.out.n).2.1
  have c2 := (four_cells HX.out.n).2.2.1
  have c3 := (four_cells HX.out.n).2.2.2
  obtain ⟨q, hq⟩ : ∃ q, q = bareB fd n := ⟨_, rfl⟩
  have HQ := hid hq
  clear hq
  go_cut [5] from 9 (fun s5 wc => s5 = .bool q ∧ wc = W1)
  case first =>
    by_cases e0 : fd = 0
    · subst e0
      by_cases en : n = 0
      · subst en
        go_wp2_with fail
        go_meet
        case rel => exact ⟨by rw [HQ.out]; rfl, rfl⟩
      · have dn : (((n : Nat) : Int) == 0) = false := beq_eq_false_iff_ne.2 (by omega)
        have dn' : decide (n = 0) = false := decide_eq_false en
        have dn'' : decide (((n : Nat) : Int) = 0) = false := decide_eq_false (by omega)
        go_wp2_with fail
        go_meet
        case rel => exact ⟨by rw [HQ.out]; unfold bareB; rw [dn']; simp, rfl⟩
    · have d0 : (fd == 0) = false := beq_eq_false_iff_ne.2 e0
      have d0' : decide (fd = 0) = false := decide_eq_false e0
      go_wp2_with fail
      go_meet
      case rel => exact ⟨by rw [HQ.out]; unfold bareB; rw [d0']; simp, rfl⟩
  case rest =>
  obtain ⟨rfl, hwc⟩ := hcut
  rw [hwc]
  clear hwc wc
  go_upto_region 3 with fail
  · have HR2 := HR.out.trans (rt0 b _ fd n ks  (by omega))
    rw [← HL.out, ← HQ.out] at HR2
    cases b with
    | false =>
      obtain rfl : r = false := by rw [HR2]; simp
      clear HR2 HR HU HQ HL HAll HFt2
      go_wp2_with fail
      go_ret
      exact ⟨rfl, HX.out.b⟩
    | true =>
      cases q with
      | false =>
        obtain rfl : r = false := by rw [HR2]; simp
        clear HR2 HR HU HQ HL HAll HFt2
        go_wp2_with fail
        go_ret
        exact ⟨rfl, HX.out.b⟩
      | true =>
        by_cases hlen : L = 0
        · have dl : (((L : Nat) : Int) == 0) = true := beq_iff_eq.2 (by omega)
          have dl' : decide (((L : Nat) : Int) = 0) = true := decide_eq_true (by omega)
          have dl'' : decide (L = 0) = true := decide_eq_true (by omega)
          clear hlen
          obtain rfl : r = true := by rw [HR2, dl'']; rfl
          clear HR2 HR HU HQ HL HAll HFt2
          go_wp2_with fail
          go_ret
          exact ⟨rfl, HX.out.b⟩
        · have dl : (((L : Nat) : Int) == 0) = false := beq_eq_false_iff_ne.2 (by omega)
          have dl' : decide (((L : Nat) : Int) = 0) = false := decide_eq_false (by omega)
          have dl'' : decide (L = 0) = false := decide_eq_false (by omega)
          clear hlen
          obtain rfl : r = false := by rw [HR2, dl'']; simp
          clear HR2 HR HU HQ HL HAll HFt2
          go_wp2_with fail
          go_ret
          exact ⟨rfl, HX.out.b⟩
end Go.Proofs.YtjallmncajhamaaDoor
namespace Go.Proofs.YtjallmncajhamaaDoor
open Go.RowKit
set_option maxRecDepth 100000

set_option maxHeartbeats 25600000 in
theorem rright_2 (N : Nat) (HIH : Hid (∀ (t : Ti) (cs : Array Value) (b : Bool) (w : World), szI t ≤ N → N ≤ 4096 → TiV (fun b => b < w.heap.size) w t cs → Calls Tryd.prog 41 #[.agg cs, .bool b] w fun e w' => e = .returned (.bool (oneI b t)) ∧ Below w.heap.size w w')) (fd : Int) (n : Nat) (ks : List Ti) (cs : Array Value) (b : Bool) (w : World) (hN : szI (.mk 2 fd n ks) ≤ N + 1) (hsm : N + 1 ≤ 4096) (ht : TiV (fun b => b < w.heap.size) w (.mk 2 fd n ks) cs) : Calls Tryd.prog 41 #[.agg cs, .bool b] w fun e w' => e = .returned (.bool (oneI b (.mk 2 fd n ks))) ∧ Below w.heap.size w w' := by
  obtain ⟨v, xs, rfl, h2, h3⟩ := ht.get
  obtain ⟨ao, cap, rfl⟩ := h2.form
  rw [szI] at hN
  have hkl : ks.length ≤ 4096 := by have := len_szsI ks ks.length (Nat.le_refl _); rw [List.take_length] at this; omega
  have hX : Bx1 w 2 fd n (.slice ao ks.length cap) (w.alloc (.cells (tic 2 fd n (.slice ao ks.length cap)) 26)) := Bx1.new _ _ _ _ _
  have HAll : Hid (∀ c, Calls Tryd.prog 67 #[.slice ao ks.length cap, .bool c] (w.alloc (.cells (tic 2 fd n (.slice ao ks.length cap)) 26)) fun e w' => e = .returned (.bool (oneIs c ks)) ∧ Below (w.alloc (.cells (tic 2 fd n (.slice ao ks.length cap)) 26)).heap.size (w.alloc (.cells (tic 2 fd n (.slice ao ks.length cap)) 26)) w') := fun c => by
    have hc : ∀ b, b < w.heap.size → b < w.heap.size → b < (w.alloc (.cells (tic 2 fd n (.slice ao ks.length cap)) 26)).heap.size ∧ (w.alloc (.cells (tic 2 fd n (.slice ao ks.length cap)) 26)).heap[b]? = w.heap[b]? := fun b hb _ => ⟨by simp; omega, heap_alloc_old _ _ hb⟩
    exact rall_any c ks ao cap xs _ hkl (h2.carry hc) (TiL.carry hc _ _ h3) fun j hj cs W hv => HIH.out ks[j] cs c W (by have := szsI_mem (List.getElem_mem hj); omega) (by omega) hv
  have HX := hid hX
  obtain ⟨r, hr⟩ : ∃ r, r = oneI b (.mk 2 fd n ks) := ⟨_, rfl⟩
  rw [← hr]
  have HR := hid hr
  have HFt := fun W => rfits_any 2 fd n (.slice ao ks.length cap) W
  obtain ⟨u, hu⟩ : ∃ u, u = fitB fd n := ⟨_, rfl⟩
  have HFt2 : Hid (∀ W, Calls Tryd.prog 66 #[.agg (tic 2 fd n (.slice ao ks.length cap))] W fun e w' => e = .returned (.bool u) ∧ Below W.heap.size W w') := fun W => by rw [hu]; exact HFt W
  have HU := hid hu
  clear h2 h3 ht hN hX hr hu HFt
  obtain ⟨L, hL⟩ : ∃ L, L = ks.length := ⟨_, rfl⟩
  rw [← hL] at HAll HX HFt2 hkl ⊢
  have HL := hid hL
  clear hL
  go_enter Tryd.func41, Tryd.ntmps41
  go_upto_region 1 with fail
  generalize w.alloc (.cells (tic 2 fd n (.slice ao L cap)) 26) = W1 at HX HAll ⊢
  have c0 := (four_cells HX.out.n).1
  have c1 := (four_cells HX.out.n).2.1
  have c2 := (four_cells HX.out.n).2.2.1
  have c3 := (four_cells HX.out.n).2.2.2
  obtain ⟨q, hq⟩ : ∃ q, q = bareB fd n := ⟨_, rfl⟩
  have HQ := hid hq
  clear hq
  go_cut [5] from 9 (fun s5 wc => s5 = .bool q ∧ wc = W1)
  case first =>
    by_cases e0 : fd = 0
    · subst e0
      by_cases en : n = 0
      · subst en
        go_wp2_with fail
        go_meet
        case rel => exact ⟨by rw [HQ.out]; rfl, rfl⟩
      · have dn : (((n : Nat) : Int) == 0) = false := beq_eq_false_iff_ne.2 (by omega)
        have dn' : decide (n = 0) = false := decide_eq_false en
        have dn'' : decide (((n : Nat) : Int) = 0) = false := decide_eq_false (by omega)
        go_wp2_with fail
        go_meet
        case rel => exact ⟨by rw [HQ.out]; unfold bareB; rw [dn']; simp, rfl⟩
    · have d0 : (fd == 0) = false := beq_eq_false_iff_ne.2 e0
      have d0' : decide (fd = 0) = false := decide_eq_false e0
      go_wp2_with fail
      go_meet
      case rel => exact ⟨by rw [HQ.out]; unfold bareB; rw [d0']; simp, rfl⟩
  case rest =>
  obtain ⟨rfl, hwc⟩ := hcut
  rw [hwc]
  clear hwc wc
  go_upto_region 3 with fail
  · have HR2 := HR.out.trans (rt6 b _ fd n ks (by omega))
    rw [← HL.out, ← HU.out] at HR2
    cases b with
    | false =>
      obtain rfl : r = false := by rw [HR2]; simp
      clear HR2 HR HU HQ HL HAll HFt2
      go_wp2_with fail
      go_ret
      exact ⟨rfl, HX.out.b⟩
    | true =>
      by_cases hlen : L = 0
      · have dl : (((L : Nat) : Int) == 0) = true := beq_iff_eq.2 (by omega)
        have dl' : decide (((L : Nat) : Int) = 0) = true := decide_eq_true (by omega)
        have dl'' : decide (L = 0) = true := decide_eq_true (by omega)
        clear hlen
        have HC := hid (HFt2.out W1)
        rw [dl''] at HR2
        simp only [Bool.true_and] at HR2
        cases u with
        | false =>
          obtain rfl : r = false := by rw [HR2]; simp
          clear HR2 HR HU HQ HL HAll HFt2
          go_wp2_with (first
          | (refine ldRow 26 (.tmp 2) rfl rfl w.heap.size rfl 26 (tic 2 fd n (.slice ao L cap)) _ Tryd.underlying26 rfl sizeTM HX.out.n ?_)
          | (go_at_call 66; refine (HC.out).mono ?_; rintro e w4 ⟨rfl, hw⟩; have HX4 := hid (HX.out.on hw); have d1 := (four_cells HX4.out.n).2.1; clear hw HC))
          go_ret
          exact ⟨rfl, HX4.out.b⟩
        | true =>
          by_cases e3 : fd = 3
          · subst e3
            obtain rfl : r = false := by rw [HR2]; simp
            clear HR2 HR HU HQ HL HAll HFt2
            go_wp2_with (first
          | (refine ldRow 26 (.tmp 2) rfl rfl w.heap.size rfl 26 (tic 2 3 n (.slice ao L cap)) _ Tryd.underlying26 rfl sizeTM HX.out.n ?_)
          | (go_at_call 66; refine (HC.out).mono ?_; rintro e w4 ⟨rfl, hw⟩; have HX4 := hid (HX.out.on hw); have d1 := (four_cells HX4.out.n).2.1; clear hw HC))
            go_ret
            exact ⟨rfl, HX4.out.b⟩
          · have d3 : (fd != 3) = true := bne_iff_ne.2 e3
            have d3' : decide (fd = 3) = false := decide_eq_false e3
            have d3'' : (fd == 3) = false := beq_eq_false_iff_ne.2 e3
            obtain rfl : r = true := by rw [HR2]; simp [e3]
            clear HR2 HR HU HQ HL HAll HFt2
            go_wp2_with (first
          | (refine ldRow 26 (.tmp 2) rfl rfl w.heap.size rfl 26 (tic 2 fd n (.slice ao L cap)) _ Tryd.underlying26 rfl sizeTM HX.out.n ?_)
          | (go_at_call 66; refine (HC.out).mono ?_; rintro e w4 ⟨rfl, hw⟩; have HX4 := hid (HX.out.on hw); have d1 := (four_cells HX4.out.n).2.1; clear hw HC))
            go_ret
            exact ⟨rfl, HX4.out.b⟩
      · have dl : (((L : Nat) : Int) == 0) = false := beq_eq_false_iff_ne.2 (by omega)
        have dl' : decide (((L : Nat) : Int) = 0) = false := decide_eq_false (by omega)
        have dl'' : decide (L = 0) = false := decide_eq_false (by omega)
        clear hlen
        obtain rfl : r = false := by rw [HR2, dl'']; simp
        clear HR2 HR HU HQ HL HAll HFt2
        go_wp2_with fail
        go_ret
        exact ⟨rfl, HX.out.b⟩
end Go.Proofs.YtjallmncajhamaaDoor
namespace Go.Proofs.YtjallmncajhamaaDoor
open Go.RowKit
set_option maxRecDepth 100000

set_option maxHeartbeats 25600000 in
theorem rright_3 (N : Nat) (HIH : Hid (∀ (t : Ti) (cs : Array Value) (b : Bool) (w : World), szI t ≤ N → N ≤ 4096 → TiV (fun b => b < w.heap.size) w t cs → Calls Tryd.prog 41 #[.agg cs, .bool b] w fun e w' => e = .returned (.bool (oneI b t)) ∧ Below w.heap.size w w')) (fd : Int) (n : Nat) (ks : List Ti) (cs : Array Value) (b : Bool) (w : World) (hN : szI (.mk 3 fd n ks) ≤ N + 1) (hsm : N + 1 ≤ 4096) (ht : TiV (fun b => b < w.heap.size) w (.mk 3 fd n ks) cs) : Calls Tryd.prog 41 #[.agg cs, .bool b] w fun e w' => e = .returned (.bool (oneI b (.mk 3 fd n ks))) ∧ Below w.heap.size w w' := by
  obtain ⟨v, xs, rfl, h2, h3⟩ := ht.get
  obtain ⟨ao, cap, rfl⟩ := h2.form
  rw [szI] at hN
  have hkl : ks.length ≤ 4096 := by have := len_szsI ks ks.length (Nat.le_refl _); rw [List.take_length] at this; omega
  have hX : Bx1 w 3 fd n (.slice ao ks.length cap) (w.alloc (.cells (tic 3 fd n (.slice ao ks.length cap)) 26)) := Bx1.new _ _ _ _ _
  have HAll : Hid (∀ c, Calls Tryd.prog 67 #[.slice ao ks.length cap, .bool c] (w.alloc (.cells (tic 3 fd n (.slice ao ks.length cap)) 26)) fun e w' => e = .returned (.bool (oneIs c ks)) ∧ Below (w.alloc (.cells (tic 3 fd n (.slice ao ks.length cap)) 26)).heap.size (w.alloc (.cells (tic 3 fd n (.slice ao ks.length cap)) 26)) w') := fun c => by
    have hc : ∀ b, b < w.heap.size → b < w.heap.size → b < (w.alloc (.cells (tic 3 fd n (.slice ao ks.length cap)) 26)).heap.size ∧ (w.alloc (.cells (tic 3 fd n (.slice ao ks.length cap)) 26)).heap[b]? = w.heap[b]? := fun b hb _ => ⟨by simp; omega, heap_alloc_old _ _ hb⟩
    exact rall_any c ks ao cap xs _ hkl (h2.carry hc) (TiL.carry hc _ _ h3) fun j hj cs W hv => HIH.out ks[j] cs c W (by have := szsI_mem (List.getElem_mem hj); omega) (by omega) hv
  have HX := hid hX
  obtain ⟨r, hr⟩ : ∃ r, r = oneI b (.mk 3 fd n ks) := ⟨_, rfl⟩
  rw [← hr]
  have HR := hid hr
  have HFt := fun W => rfits_any 3 fd n (.slice ao ks.length cap) W
  obtain ⟨u, hu⟩ : ∃ u, u = fitB fd n := ⟨_, rfl⟩
  have HFt2 : Hid (∀ W, Calls Tryd.prog 66 #[.agg (tic 3 fd n (.slice ao ks.length cap))] W fun e w' => e = .returned (.bool u) ∧ Below W.heap.size W w') := fun W => by rw [hu]; exact HFt W
  have HU := hid hu
  clear h2 h3 ht hN hX hr hu HFt
  obtain ⟨L, hL⟩ : ∃ L, L = ks.length := ⟨_, rfl⟩
  rw [← hL] at HAll HX HFt2 hkl ⊢
  have HL := hid hL
  clear hL
  go_enter Tryd.func41, Tryd.ntmps41
  go_upto_region 1 with fail
  generalize w.alloc (.cells (tic 3 fd n (.slice ao L cap)) 26) = W1 at HX HAll ⊢
  have c0 := (four_cells HX.out.n).1
  have c1 := (four_cells HX.out.n).2.1
  have c2 := (four_cells HX.out.n).2.2.1
  have c3 := (four_cells HX.out.n).2.2.2
  obtain ⟨q, hq⟩ : ∃ q, q = bareB fd n := ⟨_, rfl⟩
  have HQ := hid hq
  clear hq
  go_cut [5] from 9 (fun s5 wc => s5 = .bool q ∧ wc = W1)
  case first =>
    by_cases e0 : fd = 0
    · subst e0
      by_cases en : n = 0
      · subst en
        go_wp2_with fail
        go_meet
        case rel => exact ⟨by rw [HQ.out]; rfl, rfl⟩
      · have dn : (((n : Nat) : Int) == 0) = false := beq_eq_false_iff_ne.2 (by omega)
        have dn' : decide (n = 0) = false := decide_eq_false en
        have dn'' : decide (((n : Nat) : Int) = 0) = false := decide_eq_false (by omega)
        go_wp2_with fail
        go_meet
        case rel => exact ⟨by rw [HQ.out]; unfold bareB; rw [dn']; simp, rfl⟩
    · have d0 : (fd == 0) = false := beq_eq_false_iff_ne.2 e0
      have d0' : decide (fd = 0) = false := decide_eq_false e0
      go_wp2_with fail
      go_meet
      case rel => exact ⟨by rw [HQ.out]; unfold bareB; rw [d0']; simp, rfl⟩
  case rest =>
  obtain ⟨rfl, hwc⟩ := hcut
  rw [hwc]
  clear hwc wc
  go_upto_region 3 with fail
  · have HR2 := HR.out.trans (rt1 b _ fd n ks  (by omega))
    rw [← HL.out, ← HQ.out] at HR2
    cases b with
    | false =>
      obtain rfl : r = false := by rw [HR2]; simp
      clear HR2 HR HU HQ HL HAll HFt2
      go_wp2_with fail
      go_ret
      exact ⟨rfl, HX.out.b⟩
    | true =>
      cases q with
      | false =>
        obtain rfl : r = false := by rw [HR2]; simp
        clear HR2 HR HU HQ HL HAll HFt2
        go_wp2_with fail
        go_ret
        exact ⟨rfl, HX.out.b⟩
      | true =>
        by_cases hlen : L = 1
        · have dl : (((L : Nat) : Int) == 1) = true := beq_iff_eq.2 (by omega)
          have dl' : decide (((L : Nat) : Int) = 1) = true := decide_eq_true (by omega)
          have dl'' : decide (L = 1) = true := decide_eq_true (by omega)
          clear hlen
          have HC := hid (HAll.out true)
          rw [dl''] at HR2
          simp only [Bool.true_and] at HR2
          rw [← HR2] at HC
          clear HR2 HR HU HQ HL HAll HFt2
          go_wp2_with (go_at_call 67; refine (HC.out).mono ?_; rintro e w4 ⟨rfl, hw⟩; have HX4 := hid (HX.out.on hw); clear hw HC)
          go_ret
          exact ⟨rfl, HX4.out.b⟩
        · have dl : (((L : Nat) : Int) == 1) = false := beq_eq_false_iff_ne.2 (by omega)
          have dl' : decide (((L : Nat) : Int) = 1) = false := decide_eq_false (by omega)
          have dl'' : decide (L = 1) = false := decide_eq_false (by omega)
          clear hlen
          obtain rfl : r = false := by rw [HR2, dl'']; simp
          clear HR2 HR HU HQ HL HAll HFt2
          go_wp2_with fail
          go_ret
          exact ⟨rfl, HX.out.b⟩
end Go.Proofs.YtjallmncajhamaaDoor
namespace Go.Proofs.YtjallmncajhamaaDoor
open Go.RowKit
set_option maxRecDepth 100000

set_option maxHeartbeats 25600000 in
theorem rright_4 (N : Nat) (HIH : Hid (∀ (t : Ti) (cs : Array Value) (b : Bool) (w : World), szI t ≤ N → N ≤ 4096 → TiV (fun b => b < w.heap.size) w t cs → Calls Tryd.prog 41 #[.agg cs, .bool b] w fun e w' => e = .returned (.bool (oneI b t)) ∧ Below w.heap.size w w')) (fd : Int) (n : Nat) (ks : List Ti) (cs : Array Value) (b : Bool) (w : World) (hN : szI (.mk 4 fd n ks) ≤ N + 1) (hsm : N + 1 ≤ 4096) (ht : TiV (fun b => b < w.heap.size) w (.mk 4 fd n ks) cs) : Calls Tryd.prog 41 #[.agg cs, .bool b] w fun e w' => e = .returned (.bool (oneI b (.mk 4 fd n ks))) ∧ Below w.heap.size w w' := by
  obtain ⟨v, xs, rfl, h2, h3⟩ := ht.get
  obtain ⟨ao, cap, rfl⟩ := h2.form
  rw [szI] at hN
  have hkl : ks.length ≤ 4096 := by have := len_szsI ks ks.length (Nat.le_refl _); rw [List.take_length] at this; omega
  have hX : Bx1 w 4 fd n (.slice ao ks.length cap) (w.alloc (.cells (tic 4 fd n (.slice ao ks.length cap)) 26)) := Bx1.new _ _ _ _ _
  have HAll : Hid (∀ c, Calls Tryd.prog 67 #[.slice ao ks.length cap, .bool c] (w.alloc (.cells (tic 4 fd n (.slice ao ks.length cap)) 26)) fun e w' => e = .returned (.bool (oneIs c ks)) ∧ Below (w.alloc (.cells (tic 4 fd n (.slice ao ks.length cap)) 26)).heap.size (w.alloc (.cells (tic 4 fd n (.slice ao ks.length cap)) 26)) w') := fun c => by
    have hc : ∀ b, b < w.heap.size → b < w.heap.size → b < (w.alloc (.cells (tic 4 fd n (.slice ao ks.length cap)) 26)).heap.size ∧ (w.alloc (.cells (tic 4 fd n (.slice ao ks.length cap)) 26)).heap[b]? = w.heap[b]? := fun b hb _ => ⟨by simp; omega, heap_alloc_old _ _ hb⟩
    exact rall_any c ks ao cap xs _ hkl (h2.carry hc) (TiL.carry hc _ _ h3) fun j hj cs W hv => HIH.out ks[j] cs c W (by have := szsI_mem (List.getElem_mem hj); omega) (by omega) hv
  have HX := hid hX
  obtain ⟨r, hr⟩ : ∃ r, r = oneI b (.mk 4 fd n ks) := ⟨_, rfl⟩
  rw [← hr]
  have HR := hid hr
  have HFt := fun W => rfits_any 4 fd n (.slice ao ks.length cap) W
  obtain ⟨u, hu⟩ : ∃ u, u = fitB fd n := ⟨_, rfl⟩
  have HFt2 : Hid (∀ W, Calls Tryd.prog 66 #[.agg (tic 4 fd n (.slice ao ks.length cap))] W fun e w' => e = .returned (.bool u) ∧ Below W.heap.size W w') := fun W => by rw [hu]; exact HFt W
  have HU := hid hu
  clear h2 h3 ht hN hX hr hu HFt
  obtain ⟨L, hL⟩ : ∃ L, L = ks.length := ⟨_, rfl⟩
  rw [← hL] at HAll HX HFt2 hkl ⊢
  have HL := hid hL
  clear hL
  go_enter Tryd.func41, Tryd.ntmps41
  go_upto_region 1 with fail
  generalize w.alloc (.cells (tic 4 fd n (.slice ao L cap)) 26) = W1 at HX HAll ⊢
  have c0 := (four_cells HX.out.n).1
  have c1 := (four_cells HX.out.n).2.1
  have c2 := (four_cells HX.out.n).2.2.1
  have c3 := (four_cells HX.out.n).2.2.2
  obtain ⟨q, hq⟩ : ∃ q, q = bareB fd n := ⟨_, rfl⟩
  have HQ := hid hq
  clear hq
  go_cut [5] from 9 (fun s5 wc => s5 = .bool q ∧ wc = W1)
  case first =>
    by_cases e0 : fd = 0
    · subst e0
      by_cases en : n = 0
      · subst en
        go_wp2_with fail
        go_meet
        case rel => exact ⟨by rw [HQ.out]; rfl, rfl⟩
      · have dn : (((n : Nat) : Int) == 0) = false := beq_eq_false_iff_ne.2 (by omega)
        have dn' : decide (n = 0) = false := decide_eq_false en
        have dn'' : decide (((n : Nat) : Int) = 0) = false := decide_eq_false (by omega)
        go_wp2_with fail
        go_meet
        case rel => exact ⟨by rw [HQ.out]; unfold bareB; rw [dn']; simp, rfl⟩
    · have d0 : (fd == 0) = false := beq_eq_false_iff_ne.2 e0
      have d0' : decide (fd = 0) = false := decide_eq_false e0
      go_wp2_with fail
      go_meet
      case rel => exact ⟨by rw [HQ.out]; unfold bareB; rw [d0']; simp, rfl⟩
  case rest =>
  obtain ⟨rfl, hwc⟩ := hcut
  rw [hwc]
  clear hwc wc
  go_upto_region 3 with fail
  · have HR2 := HR.out.trans (rt2 b _ fd n ks (by rw [← HL.out]; exact hkl) (by omega))
    rw [← HL.out, ← HQ.out] at HR2
    cases b with
    | false =>
      obtain rfl : r = false := by rw [HR2]; simp
      clear HR2 HR HU HQ HL HAll HFt2
      go_wp2_with fail
      go_ret
      exact ⟨rfl, HX.out.b⟩
    | true =>
      cases q with
      | false =>
        obtain rfl : r = false := by rw [HR2]; simp
        clear HR2 HR HU HQ HL HAll HFt2
        go_wp2_with fail
        go_ret
        exact ⟨rfl, HX.out.b⟩
      | true =>
        by_cases hlen : 0 < L
        · have dl : decide ((0 : Int) < ((L : Nat) : Int)) = true := decide_eq_true (by omega)
          have dl'' : decide (0 < L) = true := decide_eq_true (by omega)
          clear hlen
          have HC := hid (HAll.out true)
          rw [dl''] at HR2
          simp only [Bool.true_and] at HR2
          rw [← HR2] at HC
          clear HR2 HR HU HQ HL HAll HFt2
          go_wp2_with (go_at_call 67; refine (HC.out).mono ?_; rintro e w4 ⟨rfl, hw⟩; have HX4 := hid (HX.out.on hw); clear hw HC)
          go_ret
          exact ⟨rfl, HX4.out.b⟩
        · have dl : decide ((0 : Int) < ((L : Nat) : Int)) = false := decide_eq_false (by omega)
          have dl'' : decide (0 < L) = false := decide_eq_false (by omega)
          clear hlen
          obtain rfl : r = false := by rw [HR2, dl'']; simp
          clear HR2 HR HU HQ HL HAll HFt2
          go_wp2_with fail
          go_ret
          exact ⟨rfl, HX.out.b⟩
end Go.Proofs.YtjallmncajhamaaDoor
namespace Go.Proofs.YtjallmncajhamaaDoor
open Go.RowKit
set_option maxRecDepth 100000

set_option maxHeartbeats 25600000 in
theorem rright_5 (N : Nat) (HIH : Hid (∀ (t : Ti) (cs : Array Value) (b : Bool) (w : World), szI t ≤ N → N ≤ 4096 → TiV (fun b => b < w.heap.size) w t cs → Calls Tryd.prog 41 #[.agg cs, .bool b] w fun e w' => e = .returned (.bool (oneI b t)) ∧ Below w.heap.size w w')) (fd : Int) (n : Nat) (ks : List Ti) (cs : Array Value) (b : Bool) (w : World) (hN : szI (.mk 5 fd n ks) ≤ N + 1) (hsm : N + 1 ≤ 4096) (ht : TiV (fun b => b < w.heap.size) w (.mk 5 fd n ks) cs) : Calls Tryd.prog 41 #[.agg cs, .bool b] w fun e w' => e = .returned (.bool (oneI b (.mk 5 fd n ks))) ∧ Below w.heap.size w w' := by
  obtain ⟨v, xs, rfl, h2, h3⟩ := ht.get
  obtain ⟨ao, cap, rfl⟩ := h2.form
  rw [szI] at hN
  have hkl : ks.length ≤ 4096 := by have := len_szsI ks ks.length (Nat.le_refl _); rw [List.take_length] at this; omega
  have hX : Bx1 w 5 fd n (.slice ao ks.length cap) (w.alloc (.cells (tic 5 fd n (.slice ao ks.length cap)) 26)) := Bx1.new _ _ _ _ _
  have HAll : Hid (∀ c, Calls Tryd.prog 67 #[.slice ao ks.length cap, .bool c] (w.alloc (.cells (tic 5 fd n (.slice ao ks.length cap)) 26)) fun e w' => e = .returned (.bool (oneIs c ks)) ∧ Below (w.alloc (.cells (tic 5 fd n (.slice ao ks.length cap)) 26)).heap.size (w.alloc (.cells (tic 5 fd n (.slice ao ks.length cap)) 26)) w') := fun c => by
    have hc : ∀ b, b < w.heap.size → b < w.heap.size → b < (w.alloc (.cells (tic 5 fd n (.slice ao ks.length cap)) 26)).heap.size ∧ (w.alloc (.cells (tic 5 fd n (.slice ao ks.length cap)) 26)).heap[b]? = w.heap[b]? := fun b hb _ => ⟨by simp; omega, heap_alloc_old _ _ hb⟩
    exact rall_any c ks ao cap xs _ hkl (h2.carry hc) (TiL.carry hc _ _ h3) fun j hj cs W hv => HIH.out ks[j] cs c W (by have := szsI_mem (List.getElem_mem hj); omega) (by omega) hv
  have HX := hid hX
  obtain ⟨r, hr⟩ : ∃ r, r = oneI b (.mk 5 fd n ks) := ⟨_, rfl⟩
  rw [← hr]
  have HR := hid hr
  have HFt := fun W => rfits_any 5 fd n (.slice ao ks.length cap) W
  obtain ⟨u, hu⟩ : ∃ u, u = fitB fd n := ⟨_, rfl⟩
  have HFt2 : Hid (∀ W, Calls Tryd.prog 66 #[.agg (tic 5 fd n (.slice ao ks.length cap))] W fun e w' => e = .returned (.bool u) ∧ Below W.heap.size W w') := fun W => by rw [hu]; exact HFt W
  have HU := hid hu
  clear h2 h3 ht hN hX hr hu HFt
  obtain ⟨L, hL⟩ : ∃ L, L = ks.length := ⟨_, rfl⟩
  rw [← hL] at HAll HX HFt2 hkl ⊢
  have HL := hid hL
  clear hL
  go_enter Tryd.func41, Tryd.ntmps41
  go_upto_region 1 with fail
  generalize w.alloc (.cells (tic 5 fd n (.slice ao L cap)) 26) = W1 at HX HAll ⊢
  have c0 := (four_cells HX.out.n).1
  have c1 := (four_cells HX.out.n).2.1
  have c2 := (four_cells HX.out.n).2.2.1
  have c3 := (four_cells HX.out.n).2.2.2
  obtain ⟨q, hq⟩ : ∃ q, q = bareB fd n := ⟨_, rfl⟩
  have HQ := hid hq
  clear hq
  go_cut [5] from 9 (fun s5 wc => s5 = .bool q ∧ wc = W1)
  case first =>
    by_cases e0 : fd = 0
    · subst e0
      by_cases en : n = 0
      · subst en
        go_wp2_with fail
        go_meet
        case rel => exact ⟨by rw [HQ.out]; rfl, rfl⟩
      · have dn : (((n : Nat) : Int) == 0) = false := beq_eq_false_iff_ne.2 (by omega)
        have dn' : decide (n = 0) = false := decide_eq_false en
        have dn'' : decide (((n : Nat) : Int) = 0) = false := decide_eq_false (by omega)
        go_wp2_with fail
        go_meet
        case rel => exact ⟨by rw [HQ.out]; unfold bareB; rw [dn']; simp, rfl⟩
    · have d0 : (fd == 0) = false := beq_eq_false_iff_ne.2 e0
      have d0' : decide (fd = 0) = false := decide_eq_false e0
      go_wp2_with fail
      go_meet
      case rel => exact ⟨by rw [HQ.out]; unfold bareB; rw [d0']; simp, rfl⟩
  case rest =>
  obtain ⟨rfl, hwc⟩ := hcut
  rw [hwc]
  clear hwc wc
  go_upto_region 3 with fail
  · have HR2 := HR.out.trans (rt2 b _ fd n ks (by rw [← HL.out]; exact hkl) (by omega))
    rw [← HL.out, ← HQ.out] at HR2
    cases b with
    | false =>
      obtain rfl : r = false := by rw [HR2]; simp
      clear HR2 HR HU HQ HL HAll HFt2
      go_wp2_with fail
      go_ret
      exact ⟨rfl, HX.out.b⟩
    | true =>
      cases q with
      | false =>
        obtain rfl : r = false := by rw [HR2]; simp
        clear HR2 HR HU HQ HL HAll HFt2
        go_wp2_with fail
        go_ret
        exact ⟨rfl, HX.out.b⟩
      | true =>
        by_cases hlen : 0 < L
        · have dl : decide ((0 : Int) < ((L : Nat) : Int)) = true := decide_eq_true (by omega)
          have dl'' : decide (0 < L) = true := decide_eq_true (by omega)
          clear hlen
          have HC := hid (HAll.out true)
          rw [dl''] at HR2
          simp only [Bool.true_and] at HR2
          rw [← HR2] at HC
          clear HR2 HR HU HQ HL HAll HFt2
          go_wp2_with (go_at_call 67; refine (HC.out).mono ?_; rintro e w4 ⟨rfl, hw⟩; have HX4 := hid (HX.out.on hw); clear hw HC)
          go_ret
          exact ⟨rfl, HX4.out.b⟩
        · have dl : decide ((0 : Int) < ((L : Nat) : Int)) = false := decide_eq_false (by omega)
          have dl'' : decide (0 < L) = false := decide_eq_false (by omega)
          clear hlen
          obtain rfl : r = false := by rw [HR2, dl'']; simp
          clear HR2 HR HU HQ HL HAll HFt2
          go_wp2_with fail
          go_ret
          exact ⟨rfl, HX.out.b⟩
end Go.Proofs.YtjallmncajhamaaDoor
