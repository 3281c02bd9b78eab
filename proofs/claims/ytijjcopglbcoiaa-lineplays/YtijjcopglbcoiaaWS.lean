/-
  Proved here: small and sent of the statements' package. Conditions: the seven functions of package line serve ends; at most 60 messages.
-/
import Derived.Test.YtijjcopglbcoiaaW3
import Derived.Test.YtijjcopglbcoiaaM3
import Derived.Test.YtijjcopglbcoiaaL2
namespace Go.Proofs.Ytijjcopglbcoiaa
open Go.RowKit Seal

/-- At most 60 messages, of at most 2^12 bytes. -/
def smL (l : List (List Int)) : Bool := decide (l.length ≤ 60 ∧ ∀ m ∈ l, m.length ≤ 4096)

set_option maxHeartbeats 800000 in
theorem small_any (S : Nat → Prop) (u : Value) (xs : List (List Int)) (w : World) (h : Ls S w u xs) :
    Calls Try.prog 23 #[u] w fun r w' => r = .returned (.bool (smL xs)) ∧ w' = w := by
  have l1 := h.len
  obtain ⟨a1, c1, rfl, -, -, -, q1⟩ := h
  have H1 : Hid (xs ≠ [] → ∃ b o, S b ∧ a1 = some ⟨b, o, none⟩ ∧ ∀ j, j < xs.length → ∃ u, w.cell? ⟨b, o + j, none⟩ = some u ∧ SlC S w u (xs.getD j [])) := q1
  obtain ⟨n, hn⟩ : ∃ n, n = xs.length := ⟨_, rfl⟩
  have HN : Hid (n = xs.length) := hn
  rw [← hn] at l1 ⊢
  clear q1 hn
  go_enter Try.func23, Try.ntmps23
  go_wp2
  go_loop [3] (fun i => ∃ k : Nat, k ≤ n ∧ k ≤ 61 ∧ i = .int .i64 k ∧ ∀ j, j < k → (xs.getD j []).length ≤ 4096) (fun i => n - (intOf i).toNat)
  case atStart => exact ⟨0, by omega, by omega, rfl, fun j hj => by omega⟩
  case round =>
    obtain ⟨k, hk, hk61, rfl, hall⟩ := hrel
    have HA : Hid (∀ j, j < k → (xs.getD j []).length ≤ 4096) := hall
    clear hall
    by_cases hlt : k < n
    · by_cases h60 : k ≤ 60
      · have hkx : k < xs.length := by have := HN.out; omega
        obtain ⟨b1, o1, -, rfl, e1⟩ := H1.out (fun e => by rw [e] at hkx; simp at hkx)
        obtain ⟨p1, f1, s1⟩ := e1 k hkx
        obtain ⟨pa, pc, rfl, -⟩ := s1
        have HM : Hid (xs.getD k [] ∈ xs) := getD_mem hkx
        obtain ⟨m, hm⟩ : ∃ m, m = (xs.getD k []).length := ⟨_, rfl⟩
        rw [← hm] at f1
        have HMm : Hid (m = (xs.getD k []).length) := hm
        clear e1 hm
        by_cases hbig : 4096 < m
        · have HNo : Hid (smL xs = false) := by
            show _ = _
            unfold smL
            rw [decide_eq_false_iff_not]
            rintro ⟨_, h⟩
            have := h _ HM.out
            have := HMm.out
            omega
          go_wp2
          go_ret
          exact ⟨by rw [HNo.out]; rfl, rfl⟩
        · go_wp2
          go_round
          case rel => exact ⟨k + 1, by omega, by omega, by go_num, fun j hj => by
            by_cases h : j = k
            · subst h; have := HMm.out; omega
            · exact HA.out j (by omega)⟩
          case measure => simp [intOf]; omega
      · have HNo : Hid (smL xs = false) := by
          show _ = _
          unfold smL
          rw [decide_eq_false_iff_not]
          rintro ⟨h, _⟩
          have := HN.out
          omega
        have hd : decide ((n : Int) ≤ 60) = false := by simp; omega
        go_wp2
        go_ret
        exact ⟨by rw [HNo.out]; rfl, rfl⟩
    · obtain rfl : k = n := by omega
      have HY : Hid (smL xs = decide (k ≤ 60)) := by
        show _ = _
        unfold smL
        rw [decide_eq_decide, ← HN.out]
        refine ⟨fun h => h.1, fun h => ⟨h, fun m hm => ?_⟩⟩
        obtain ⟨j, hj, rfl⟩ := List.getElem_of_mem hm
        have := HA.out j (by have := HN.out; omega)
        rw [List.getD_eq_getElem?_getD, List.getElem?_eq_getElem hj] at this
        exact this
      by_cases h60 : k ≤ 60
      · have hd : decide ((k : Int) ≤ 60) = true := by simp; omega
        go_wp2
        go_ret
        exact ⟨by rw [HY.out, decide_eq_true h60]; rfl, rfl⟩
      · have hd : decide ((k : Int) ≤ 60) = false := by simp; omega
        go_wp2
        go_ret
        exact ⟨by rw [HY.out, decide_eq_false h60]; rfl, rfl⟩

theorem fit_sent {p : Nat} {P : List (List Int)} {k : Nat} (hp : p < 4294967296) (hP : smL P = true) : Fit ⟨p, P.take k, 0, 0, []⟩ := by
  have h := of_decide_eq_true hP
  refine ⟨hp, ?_, by simp, by simp, fun m hm => ?_⟩
  · show 0 + (P.take k).length < _
    rw [List.length_take]; omega
  · have := h.2 m (List.mem_of_mem_take hm); omega

set_option maxHeartbeats 800000 in
theorem sent_any (A : PApi) (c : Nat → Nat) (i p : Nat) (v u : Value) (P : List (List Int)) (w : World) (h : A.PE (Col c i) w v (E.mk0 p)) (hi : i ≠ 0) (hu : Ls (Col c 0) w u P) (hp : p < 4294967296) (hP : smL P = true) :
    Calls Try.prog 24 #[v, u] w fun r w' => ∃ c', r = .returned (.bool true) ∧ Keep c c' i w w' ∧ A.PE (Col c' i) w' v ⟨p, P, 0, 0, []⟩ := by
  have l1 := hu.len
  have HU : Hid (Ls (Col c 0) w u P) := hu
  have HE : Hid (A.PE (Col c i) w v (E.mk0 p)) := h
  have HP : Hid (smL P = true) := hP
  obtain ⟨a1, c1, rfl, -, -, -, -⟩ := hu
  obtain ⟨n, hn⟩ : ∃ n, n = P.length := ⟨_, rfl⟩
  have HN : Hid (n = P.length) := hn
  rw [← hn] at l1 ⊢
  rw [← hn] at HU
  clear hn h hP
  go_enter Try.func24, Try.ntmps24
  go_wp2
  go_loopw [5] (fun x wr => ∃ (k : Nat) (c' : Nat → Nat), k ≤ n ∧ x = .int .i64 k ∧ Keep c c' i w wr ∧ A.PE (Col c' i) wr v ⟨p, P.take k, 0, 0, []⟩) (fun x _ => n - (intOf x).toNat)
  case atStart => exact ⟨0, c, by omega, rfl, Keep.refl _ _ _, HE.out⟩
  case round =>
    obtain ⟨k, c', hk, rfl, hkeep, hpe⟩ := hrel
    have HK : Hid (Keep c c' i w wr) := hkeep
    have HPE : Hid (A.PE (Col c' i) wr v ⟨p, P.take k, 0, 0, []⟩) := hpe
    clear hpe
    by_cases hlt : k < n
    · have hkx : k < P.length := by have := HN.out; omega
      obtain ⟨_, _, e9, -, -, -, h9⟩ := hkeep.ls (j := 0) (by omega) HU.out
      obtain ⟨b, o, -, e8, h7⟩ := h9 (fun e => by rw [e] at hkx; simp at hkx)
      obtain ⟨um, hum, hus⟩ := h7 k hkx
      simp only [Value.slice.injEq] at e9
      have e7 : a1 = some ⟨b, o, none⟩ := e9.1.trans e8
      clear e9 h9 e8 h7 hkeep
      subst e7
      have HUS : Hid (SlC (Col c' 0) wr um (P.getD k [])) := hus
      have HSD : Hid (sdE ⟨p, P.take k, 0, 0, []⟩ (P.getD k []) = 0 ∧ sdS ⟨p, P.take k, 0, 0, []⟩ (P.getD k []) = ⟨p, P.take (k + 1), 0, 0, []⟩) := by
        have hs := of_decide_eq_true HP.out
        have h1 := hs.2 _ (getD_mem hkx)
        have e0 : sdE ⟨p, P.take k, 0, 0, []⟩ (P.getD k []) = 0 := by
          unfold sdE
          rw [if_neg (by omega), if_neg (by show ¬ 4096 ≤ (P.take k).length; rw [List.length_take]; omega)]
        refine ⟨e0, ?_⟩
        unfold sdS
        rw [if_pos e0, take_snoc hkx]
      generalize P.getD k [] = m at *
      obtain ⟨pa, pc, rfl, -⟩ := hus
      go_wp2_with fail
      go_fit (A.sendC c' i v _ ⟨p, P.take k, 0, 0, []⟩ m wr HPE.out (fit_sent hp HP.out) (HUS.out.ne (by omega)))
      rintro r w5 ⟨c5, rfl, hk5, hp5⟩
      rw [HSD.out.1]
      rw [HSD.out.2] at hp5
      have HK5 : Hid (Keep c c5 i w w5) := HK.out.trans hk5
      have HP5 : Hid (A.PE (Col c5 i) w5 v ⟨p, P.take (k + 1), 0, 0, []⟩) := hp5
      clear hk5 hp5
      go_wp2
      go_roundw
      case rel => exact ⟨k + 1, c5, by omega, by go_num, HK5.out, HP5.out⟩
      case measure => simp [intOf]; omega
    · obtain rfl : k = n := by omega
      rw [HN.out, List.take_length] at HPE
      go_wp2
      go_ret
      exact ⟨c', rfl, HK.out, HPE.out⟩
end Go.Proofs.Ytijjcopglbcoiaa
