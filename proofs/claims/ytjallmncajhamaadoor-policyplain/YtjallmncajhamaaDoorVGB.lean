/-
  Proved here: right of the document's layer 18 at any term. Conditions: at most 4096 terms; the term lies in old memory.
-/
import Derived.Test.YtjallmncajhamaaDoorVGX
import Derived.Test.YtjallmncajhamaaDoorVGY
namespace Go.Proofs.YtjallmncajhamaaDoor
open Go.RowKit
set_option maxRecDepth 100000

set_option maxHeartbeats 25600000 in
theorem rright_no (N : Nat) (HIH : Hid (∀ (t : Ti) (cs : Array Value) (b : Bool) (w : World), szI t ≤ N → N ≤ 4096 → TiV (fun b => b < w.heap.size) w t cs → Calls Tryd.prog 41 #[.agg cs, .bool b] w fun e w' => e = .returned (.bool (oneI b t)) ∧ Below w.heap.size w w')) (op fd : Int) (n : Nat) (ks : List Ti) (cs : Array Value) (b : Bool) (w : World) (hop : op < 0 ∨ 10 < op) (hN : szI (.mk op fd n ks) ≤ N + 1) (hsm : N + 1 ≤ 4096) (ht : TiV (fun b => b < w.heap.size) w (.mk op fd n ks) cs) : Calls Tryd.prog 41 #[.agg cs, .bool b] w fun e w' => e = .returned (.bool (oneI b (.mk op fd n ks))) ∧ Below w.heap.size w w' := by
  obtain ⟨v, xs, rfl, h2, h3⟩ := ht.get
  obtain ⟨ao, cap, rfl⟩ := h2.form
  rw [szI] at hN
  have hkl : ks.length ≤ 4096 := by have := len_szsI ks ks.length (Nat.le_refl _); rw [List.take_length] at this; omega
  have hX : Bx1 w op fd n (.slice ao ks.length cap) (w.alloc (.cells (tic op fd n (.slice ao ks.length cap)) 26)) := Bx1.new _ _ _ _ _
  have HAll : Hid (∀ c, Calls Tryd.prog 67 #[.slice ao ks.length cap, .bool c] (w.alloc (.cells (tic op fd n (.slice ao ks.length cap)) 26)) fun e w' => e = .returned (.bool (oneIs c ks)) ∧ Below (w.alloc (.cells (tic op fd n (.slice ao ks.length cap)) 26)).heap.size (w.alloc (.cells (tic op fd n (.slice ao ks.length cap)) 26)) w') := fun c => by
    have hc : ∀ b, b < w.heap.size → b < w.heap.size → b < (w.alloc (.cells (tic op fd n (.slice ao ks.length cap)) 26)).heap.size ∧ (w.alloc (.cells (tic op fd n (.slice ao ks.length cap)) 26)).heap[b]? = w.heap[b]? := fun b hb _ => ⟨by simp; omega, heap_alloc_old _ _ hb⟩
    exact rall_any c ks ao cap xs _ hkl (h2.carry hc) (TiL.carry hc _ _ h3) fun j hj cs W hv => HIH.out ks[j] cs c W (by have := szsI_mem (List.getElem_mem hj); omega) (by omega) hv
  have HX := hid hX
  obtain ⟨r, hr⟩ : ∃ r, r = oneI b (.mk op fd n ks) := ⟨_, rfl⟩
  rw [← hr]
  have HR := hid hr
  have HFt := fun W => rfits_any op fd n (.slice ao ks.length cap) W
  obtain ⟨u, hu⟩ : ∃ u, u = fitB fd n := ⟨_, rfl⟩
  have HFt2 : Hid (∀ W, Calls Tryd.prog 66 #[.agg (tic op fd n (.slice ao ks.length cap))] W fun e w' => e = .returned (.bool u) ∧ Below W.heap.size W w') := fun W => by rw [hu]; exact HFt W
  have HU := hid hu
  clear h2 h3 ht hN hX hr hu HFt
  obtain ⟨L, hL⟩ : ∃ L, L = ks.length := ⟨_, rfl⟩
  rw [← hL] at HAll HX HFt2 hkl ⊢
  have HL := hid hL
  clear hL
  go_enter Tryd.func41, Tryd.ntmps41
  go_upto_region 1 with fail
  generalize w.alloc (.cells (tic op fd n (.slice ao L cap)) 26) = W1 at HX HAll ⊢
  have c0 := (four_cells HX.out.n).1
  have c1 := (four_cells HX.out.n).2.1
  have c2 := (four_cells HX.out.n).2.2.1
  have c3 := (four_cells HX.out.n).2.2.2
  obtain ⟨q, hq⟩ : ∃ q, q = bareB fd n := ⟨_, rfl⟩
  have HQ := hid hq
  clear hq
  go_cut [5] from 9 (fun s5 wc => s5 = .bool q ∧ wc = W1)
  case first =>
    by_cases e0 : fd = 0
    · subst e0
      by_cases en : n = 0
      · subst en
        go_wp2_with fail
        go_meet
        case rel => exact ⟨by rw [HQ.out]; rfl, rfl⟩
      · have dn : (((n : Nat) : Int) == 0) = false := beq_eq_false_iff_ne.2 (by omega)
        have dn' : decide (n = 0) = false := decide_eq_false en
        have dn'' : decide (((n : Nat) : Int) = 0) = false := decide_eq_false (by omega)
        go_wp2_with fail
        go_meet
        case rel => exact ⟨by rw [HQ.out]; unfold bareB; rw [dn']; simp, rfl⟩
    · have d0 : (fd == 0) = false := beq_eq_false_iff_ne.2 e0
      have d0' : decide (fd = 0) = false := decide_eq_false e0
      go_wp2_with fail
      go_meet
      case rel => exact ⟨by rw [HQ.out]; unfold bareB; rw [d0']; simp, rfl⟩
  case rest =>
  obtain ⟨rfl, hwc⟩ := hcut
  rw [hwc]
  clear hwc wc
  go_upto_region 3 with fail
  obtain rfl : r = false := HR.out.trans (rt8 b op fd n ks hop)
  have t0 : (op == 0) = false := beq_eq_false_iff_ne.2 (by omega)
  have s0 : decide (op = 0) = false := decide_eq_false (by omega)
  have t1 : (op == 1) = false := beq_eq_false_iff_ne.2 (by omega)
  have s1 : decide (op = 1) = false := decide_eq_false (by omega)
  have t2 : (op == 2) = false := beq_eq_false_iff_ne.2 (by omega)
  have s2 : decide (op = 2) = false := decide_eq_false (by omega)
  have t3 : (op == 3) = false := beq_eq_false_iff_ne.2 (by omega)
  have s3 : decide (op = 3) = false := decide_eq_false (by omega)
  have t4 : (op == 4) = false := beq_eq_false_iff_ne.2 (by omega)
  have s4 : decide (op = 4) = false := decide_eq_false (by omega)
  have t5 : (op == 5) = false := beq_eq_false_iff_ne.2 (by omega)
  have s5 : decide (op = 5) = false := decide_eq_false (by omega)
  have t6 : (op == 6) = false := beq_eq_false_iff_ne.2 (by omega)
  have s6 : decide (op = 6) = false := decide_eq_false (by omega)
  have t7 : (op == 7) = false := beq_eq_false_iff_ne.2 (by omega)
  have s7 : decide (op = 7) = false := decide_eq_false (by omega)
  have t8 : (op == 8) = false := beq_eq_false_iff_ne.2 (by omega)
  have s8 : decide (op = 8) = false := decide_eq_false (by omega)
  have t9 : (op == 9) = false := beq_eq_false_iff_ne.2 (by omega)
  have s9 : decide (op = 9) = false := decide_eq_false (by omega)
  have t10 : (op == 10) = false := beq_eq_false_iff_ne.2 (by omega)
  have s10 : decide (op = 10) = false := decide_eq_false (by omega)
  clear hop HR HU HQ HL HAll HFt2
  go_wp2_with fail
  go_ret
  exact ⟨rfl, HX.out.b⟩
theorem rright_any : ∀ (N : Nat) (t : Ti) (cs : Array Value) (b : Bool) (w : World), szI t ≤ N → N ≤ 4096 → TiV (fun b => b < w.heap.size) w t cs → Calls Tryd.prog 41 #[.agg cs, .bool b] w fun e w' => e = .returned (.bool (oneI b t)) ∧ Below w.heap.size w w' := by
  intro N
  induction N with
  | zero => intro t cs b w hN; have := szI_pos t; omega
  | succ N ih =>
    rintro ⟨op, fd, n, ks⟩ cs b w hN hsm ht
    by_cases hop : op < 0 ∨ 10 < op
    · exact rright_no N ih op fd n ks cs b w hop hN hsm ht
    have hops : op = 0 ∨ op = 1 ∨ op = 2 ∨ op = 3 ∨ op = 4 ∨ op = 5 ∨ op = 6 ∨ op = 7 ∨ op = 8 ∨ op = 9 ∨ op = 10 := by omega
    rcases hops with rfl | rfl | rfl | rfl | rfl | rfl | rfl | rfl | rfl | rfl | rfl
    · exact rright_0 N ih fd n ks cs b w hN hsm ht
    · exact rright_1 N ih fd n ks cs b w hN hsm ht
    · exact rright_2 N ih fd n ks cs b w hN hsm ht
    · exact rright_3 N ih fd n ks cs b w hN hsm ht
    · exact rright_4 N ih fd n ks cs b w hN hsm ht
    · exact rright_5 N ih fd n ks cs b w hN hsm ht
    · exact rright_6 N ih fd n ks cs b w hN hsm ht
    · exact rright_7 N ih fd n ks cs b w hN hsm ht
    · exact rright_8 N ih fd n ks cs b w hN hsm ht
    · exact rright_9 N ih fd n ks cs b w hN hsm ht
    · exact rright_10 N ih fd n ks cs b w hN hsm ht
end Go.Proofs.YtjallmncajhamaaDoor
