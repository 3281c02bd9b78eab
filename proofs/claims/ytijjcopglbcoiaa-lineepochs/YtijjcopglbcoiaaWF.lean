/-
  Proved here: fits of the statements' package; plain facts: all messages go into one datagram, and come. Condition: at most 60 messages of at most 4096 bytes.
-/
import Derived.Test.YtijjcopglbcoiaaWO
namespace Go.Proofs.Ytijjcopglbcoiaa
open Go.RowKit Seal

theorem wd_all : ∀ (l : List (List Int)) (k s : Nat), l.length ≤ k → s + (flat l).length ≤ 16384 → wd k s l = l
  | [], k, s, _, _ => wd_nil k s
  | m :: r, 0, s, h, _ => by simp at h
  | m :: r, k + 1, s, h, h2 => by
    rw [flat_len_cons] at h2
    unfold wd
    rw [if_pos (by omega), wd_all r k _ (by simp at h; omega) (by omega)]
theorem ad_all : ∀ (l : List (List Int)) (e : E), ad e e.come l = { e with new := e.new ++ l, come := e.come + l.length }
  | [], e => by simp [ad]
  | m :: r, e => by
    have h := ad_all r { e with new := e.new ++ [m], come := e.come + 1 }
    show ad (if e.come = e.come then _ else _) (e.come + 1) r = _
    rw [if_pos rfl]
    exact h.trans (by simp [Nat.add_comm, Nat.add_left_comm])
def ftL (l : List (List Int)) : Bool := decide (l.length ≤ 30 ∧ sz l l.length ≤ 16384)
/-- What the three ends make. -/
theorem epochs {low high : Nat} {P Q : List (List Int)} (hp : AllB P) (hq : AllB Q) (sp : smL P = true) (sq : smL Q = true) (fp : ftL P = true) (fq : ftL Q = true) (h : low < high) (hh : high < 4294967296) (m : List (List Int)) :
    taE (tkL ⟨high, Q, 0, 0, []⟩) = 0 ∧ taS ⟨low, m, 0, 0, []⟩ (tkL ⟨high, Q, 0, 0, []⟩) = ⟨high, [], 0, Q.length, Q⟩ ∧ taE (tkL ⟨low, P, 0, 0, []⟩) = 0 ∧ taS ⟨high, [], 0, Q.length, []⟩ (tkL ⟨low, P, 0, 0, []⟩) = ⟨high, [], 0, Q.length, []⟩ := by
  have ap := of_decide_eq_true sp; have aq := of_decide_eq_true sq
  have bp := of_decide_eq_true fp; have bq := of_decide_eq_true fq
  unfold sz at bp bq
  rw [List.take_length] at bp bq
  have wq : win ⟨high, Q, 0, 0, []⟩ = Q := wd_all Q 32 14 (by omega) bq.2
  have wp : win ⟨low, P, 0, 0, []⟩ = P := wd_all P 32 14 (by omega) bp.2
  have eq : tkL ⟨high, Q, 0, 0, []⟩ = dat (bodyOf high 0 0 Q) := by unfold tkL body; rw [wq]
  have ep : tkL ⟨low, P, 0, 0, []⟩ = dat (bodyOf low 0 0 P) := by unfold tkL body; rw [wp]
  have t1 := take_dat (p := high) (c := 0) (g := 0) hq (by omega) (fun x hx => by have := aq.2 x hx; omega) hh (by omega) (by omega) ⟨low, m, 0, 0, []⟩
  have t2 := take_dat (p := low) (c := 0) (g := 0) hp (by omega) (fun x hx => by have := ap.2 x hx; omega) (by omega) (by omega) (by omega) ⟨high, [], 0, Q.length, []⟩
  rw [eq, ep]
  refine ⟨t1.1, t1.2.trans ?_, t2.1, t2.2.trans ?_⟩
  · unfold hear
    rw [if_neg (by show ¬ high < low; omega), show rs ⟨low, m, 0, 0, []⟩ high = E.mk0 high from if_pos h, show gt (E.mk0 high) 0 = E.mk0 high from if_neg (by simp [E.mk0])]
    have := ad_all Q (E.mk0 high)
    exact this.trans (by simp [E.mk0])
  · unfold hear
    rw [if_pos (by show low < high; exact h)]

set_option maxHeartbeats 800000 in
theorem fits_any (S : Nat → Prop) (u : Value) (xs : List (List Int)) (w : World) (h : Ls S w u xs) (hsm : smL xs = true) :
    Calls Try.prog 26 #[u] w fun r w' => r = .returned (.bool (ftL xs)) ∧ w' = w := by
  have hm := of_decide_eq_true hsm
  have l1 := hm.1
  have HM : Hid (∀ m ∈ xs, m.length ≤ 4096) := hm.2
  obtain ⟨a1, c1, rfl, -, -, -, q1⟩ := h
  have H1 : Hid (xs ≠ [] → ∃ b o, S b ∧ a1 = some ⟨b, o, none⟩ ∧ ∀ j, j < xs.length → ∃ u, w.cell? ⟨b, o + j, none⟩ = some u ∧ SlC S w u (xs.getD j [])) := q1
  obtain ⟨n, hn⟩ : ∃ n, n = xs.length := ⟨_, rfl⟩
  have HN : Hid (n = xs.length) := hn
  rw [← hn] at l1 ⊢
  clear q1 hn hm
  go_enter Try.func26, Try.ntmps26
  go_wp2
  go_loop [3, 4] (fun s i => ∃ k : Nat, k ≤ n ∧ i = .int .i64 k ∧ s = .int .i64 (sz xs k : Nat) ∧ sz xs k ≤ 14 + k * 4098) (fun _ i => n - (intOf i).toNat)
  case atStart => exact ⟨0, by omega, rfl, by simp [sz, flat], by simp [sz, flat]⟩
  case round =>
    obtain ⟨k, hk, rfl, rfl, hsz⟩ := hrel
    by_cases hlt : k < n
    · have hkx : k < xs.length := by have := HN.out; omega
      obtain ⟨b1, o1, -, rfl, e1⟩ := H1.out (fun e => by rw [e] at hkx; simp at hkx)
      obtain ⟨p1, f1, s1⟩ := e1 k hkx
      obtain ⟨pa, pc, rfl, -⟩ := s1
      have HX : Hid (sz xs (k + 1) = sz xs k + 2 + (xs.getD k []).length) := sz_next hkx
      have hm4 := HM.out _ (getD_mem hkx)
      obtain ⟨m, hm⟩ : ∃ m, m = (xs.getD k []).length := ⟨_, rfl⟩
      rw [← hm] at f1 HX hm4
      generalize hs : sz xs k = s at *
      have HS : Hid (sz xs k = s) := hs
      clear e1 hm hs
      have hs60 : s ≤ 250000 := by omega
      go_wp2
      go_round
      case rel => exact ⟨k + 1, by omega, by go_num, by rw [HX.out]; go_num, by rw [HX.out]; omega⟩
      case measure => simp [intOf]; omega
    · obtain rfl : k = n := by omega
      have HY : Hid (ftL xs = decide (k ≤ 30 ∧ sz xs k ≤ 16384)) := by
        show _ = _
        unfold ftL; rw [HN.out]
      generalize sz xs k = s at *
      by_cases h30 : k ≤ 30
      · by_cases h16 : s ≤ 16384
        · have HV : Hid (ftL xs = true) := HY.out.trans (decide_eq_true ⟨h30, h16⟩)
          have hd : decide ((s : Int) ≤ 16384) = true := by simp; omega
          go_wp2
          go_ret
          exact ⟨by rw [HV.out]; rfl, rfl⟩
        · have HV : Hid (ftL xs = false) := HY.out.trans (decide_eq_false fun h => h16 h.2)
          have hd : decide ((s : Int) ≤ 16384) = false := by simp; omega
          go_wp2
          go_ret
          exact ⟨by rw [HV.out]; rfl, rfl⟩
      · have HV : Hid (ftL xs = false) := HY.out.trans (decide_eq_false fun h => h30 h.1)
        have hd : decide ((k : Int) ≤ 30) = false := by simp; omega
        go_wp2
        go_ret
        exact ⟨by rw [HV.out]; rfl, rfl⟩
end Go.Proofs.Ytijjcopglbcoiaa
