/-
  Proved here: what the cursor's methods messages and datagram do: they read what 'spl' says, or panic with ErrMessage. Conditions: at least 14 bytes, which lie in blocks of T, older than n; the cursor's block is none of them.
-/
import Derived.Test.YtijjcopglbcoiaaD1
namespace Go.Proofs.Ytijjcopglbcoiaa
open Go.RowKit Seal

/-- n messages off the front. -/
def rdm : Nat → List Int → Option (List (List Int) × List Int)
  | 0, r => some ([], r)
  | n + 1, r => (ms1 r).bind fun p => (rdm n p.2).map fun q => (p.1 :: q.1, q.2)
theorem sp_rdm : ∀ (n : Nat) (r : List Int), sp n r = (rdm n r).bind fun q => if q.2 = [] then some q.1 else none
  | 0, r => rfl
  | n + 1, r => by
    unfold sp rdm ms1
    rw [show num (r.take 2) = fld r 0 2 from num_fld r 2]
    by_cases h1 : r.length < 2
    · rw [if_pos h1, if_pos h1]; rfl
    · rw [if_neg h1, if_neg h1]
      by_cases h2 : 8192 < fld r 0 2 ∨ (r.length : Int) < 2 + fld r 0 2
      · rw [if_pos h2, if_pos h2]; rfl
      · rw [if_neg h2, if_neg h2, sp_rdm n]
        simp only [Option.bind_some]
        cases rdm n (r.drop (2 + (fld r 0 2).toNat)) with
        | none => rfl
        | some q =>
          obtain ⟨q1, q2⟩ := q
          by_cases hq : q2 = [] <;> simp [hq]
/-- messages, in plain words: how many, then these. -/
def rdms (bs : List Int) : Option (List (List Int) × List Int) := if bs.length < 2 then none else if 32 < fld bs 0 2 then none else rdm (fld bs 0 2).toNat (bs.drop 2)
theorem spl_rdms {bs : List Int} (h : 14 ≤ bs.length) : spl bs = (rdms (bs.drop 12)).bind fun q => if q.2 = [] then some q.1 else none := by
  unfold spl rdms
  have e : fld (bs.drop 12) 0 2 = fld bs 12 2 := by simp [fld]
  rw [e, if_neg (show ¬ (bs.drop 12).length < 2 by rw [List.length_drop]; omega), List.drop_drop]
  by_cases h2 : 32 < fld bs 12 2
  · rw [if_pos h2, if_pos h2]; rfl
  · rw [if_neg h2, if_neg h2, sp_rdm]

/-- The cursor's block, and blocks from n on. -/
abbrev OC (c n : Nat) : Nat → Prop := fun k => k = c ∨ n ≤ k
theorem Only.oc {c n : Nat} {w w' : World} (h : Only (fun x => x = c) w w') : Only (OC c n) w w' := h.mono fun _ h => Or.inl h
theorem Cur.oc {T : Nat → Prop} {c n : Nat} {w w' : World} {bs : List Int} (h : Cur T w c bs) (hT : ∀ k, T k → k < n ∧ k ≠ c) (ho : Only (fun k => n ≤ k) w w') (hc : c < n) : Cur T w' c bs :=
  h.carry (ho.block c (by omega)) fun k _ hk => ⟨hk, ho.block k (by have := hT k hk; omega)⟩

theorem map_app2 {o : Option (List (List Int) × List Int)} {ms : List (List Int)} {x : List Int} : (o.map fun q => (x :: q.1, q.2)).map (fun q => (ms ++ q.1, q.2)) = o.map fun q => ((ms ++ [x]) ++ q.1, q.2) := by
  cases o <;> simp

theorem msg_mid {T : Nat → Prop} {c n : Nat} {w wr w2 : World} {u4 v2 : Value} {ms : List (List Int)} {x r' : List Int} (hT : ∀ k, T k → k < n ∧ k ≠ c) (hcn : c < n) (hn : n ≤ w.heap.size) (HO : Only (OC c n) w wr) (HP : Sp (fun k => n ≤ k) T wr u4 ms) (ho2 : Only (fun x => x = c) wr w2) (hs2 : SlC T w2 v2 x) (hc2 : Cur T w2 c r') :
    Hid (Only (OC c n) w (w2.alloc (.cells #[v2] 31))) ∧ Hid (Sp (fun k => n ≤ k) T (w2.alloc (.cells #[v2] 31)) u4 ms) ∧ Hid (SlC T (w2.alloc (.cells #[v2] 31)) v2 x) ∧ Hid (Cur T (w2.alloc (.cells #[v2] 31)) c r') := by
  have ho : Only (OC c n) w w2 := HO.trans ho2.oc
  refine ⟨ho.alloc (fun k hk => Or.inr (Nat.le_trans hn (Nat.le_trans ho.size hk))) _, ?_, hs2.carry (fun k hk h => ⟨h, heap_alloc_old _ _ hk⟩), hc2.carry (heap_alloc_old _ _ hc2.lt) (fun k hk h => ⟨h, heap_alloc_old _ _ hk⟩)⟩
  refine (HP.carry (S' := fun k => n ≤ k) (T' := T) (w' := w2) (fun k hk h => ⟨h, ho2.block k (by omega)⟩) (fun k hk h => ⟨h, ho2.block k (hT k h).2⟩)).carry (fun k hk h => ⟨h, heap_alloc_old _ _ hk⟩) (fun k hk h => ⟨h, heap_alloc_old _ _ hk⟩)

set_option maxRecDepth 100000 in
set_option maxHeartbeats 1600000 in
theorem messages_any {T : Nat → Prop} (c n : Nat) (bs : List Int) (w : World) (hc : Cur T w c bs) (hT : ∀ k, T k → k < n ∧ k ≠ c) (hcn : c < n) (hn : n ≤ w.heap.size) :
    Calls Try.prog 54 #[.pointer (some ⟨c, 0, none⟩)] w fun e w' => Only (OC c n) w w' ∧ ((rdms bs = none ∧ e = .panicked PC) ∨ ∃ l r v, rdms bs = some (l, r) ∧ l.length ≤ 32 ∧ e = .returned v ∧ Sp (fun k => n ≤ k) T w' v l ∧ Cur T w' c r) := by
  have hTc : ¬ T c := fun h => (hT c h).2 rfl
  by_cases h2 : bs.length < 2
  · have HN : Hid (Calls Try.prog 53 #[.pointer (some ⟨c, 0, none⟩), .int .i64 2] w fun e w' => e = .panicked PC ∧ w' = w) := number_no c 2 bs w hc h2
    have HM : Hid (rdms bs = none) := by show _ = _; unfold rdms; rw [if_pos h2]
    clear hc h2
    go_enter Try.func54, Try.ntmps54
    go_wp2_with (go_at_call 53; refine (HN.out).mono ?_; rintro e w' ⟨rfl, hw⟩; rw [hw]; clear hw w')
    exact ⟨rfl, Only.refl _ _, Or.inl ⟨HM.out, rfl⟩⟩
  · have hb := fld_bd hc.isB 0 2
    obtain ⟨m, hm⟩ : ∃ m : Nat, fld bs 0 2 = m := ⟨(fld bs 0 2).toNat, by have := hb.1; omega⟩
    have HN : Hid (Calls Try.prog 53 #[.pointer (some ⟨c, 0, none⟩), .int .i64 2] w fun e w' => e = .returned (.int .u64 (m : Nat)) ∧ Only (fun x => x = c) w w' ∧ Cur T w' c (bs.drop 2)) := by
      have := number_yes c 2 bs w hc hTc (by omega) (by omega) (by omega)
      rw [hm] at this
      exact this
    by_cases h3 : m ≤ 32
    · have hd : decide ((m : Int) ≤ 32) = true := by simp; omega
      have HM : Hid (rdms bs = rdm m (bs.drop 2)) := by
        show _ = _
        unfold rdms; rw [if_neg h2, hm, if_neg (by omega), Int.toNat_natCast]
      have HX : Hid (∀ wx r, Cur T wx c r → Calls Try.prog 60 #[.pointer (some ⟨c, 0, none⟩)] wx fun e w' => Only (fun x => x = c) wx w' ∧ ((ms1 r = none ∧ e = .panicked PC) ∨ ∃ m r' v, ms1 r = some (m, r') ∧ e = .returned v ∧ SlC T w' v m ∧ Cur T w' c r')) := fun wx r h => message_any c r wx h hTc
      clear hc hb hm h2
      go_enter Try.func54, Try.ntmps54
      go_wp2_with (first
          | (go_at_call 53; refine (HN.out).mono ?_; rintro e w1 ⟨rfl, ho1, hc1⟩; have hC1 : Hid (Only (fun x => x = c) w w1 ∧ Cur T w1 c (bs.drop 2)) := ⟨ho1, hc1⟩; clear ho1 hc1)
          | (go_at_call 55; refine (must_true _).mono ?_; rintro e w' ⟨rfl, hw⟩; rw [hw]; clear hw w'))
      go_loopw [4, 11] (fun l i wr => ∃ (j : Nat) (ms : List (List Int)) (r : List Int), j ≤ m ∧ i = .int .u64 j ∧ ms.length = j ∧ Only (OC c n) w wr ∧ Sp (fun k => n ≤ k) T wr l ms ∧ Cur T wr c r ∧ rdm m (bs.drop 2) = (rdm (m - j) r).map fun q => (ms ++ q.1, q.2)) (fun _ i _ => m - (intOf i).toNat)
      case atStart => exact ⟨0, [], bs.drop 2, by omega, rfl, rfl, hC1.out.1.oc, Sp.nil _ _ _, hC1.out.2, by simp⟩
      case round =>
        obtain ⟨j, ms, r, hj, rfl, hml, ho, hsp, hcr, hrel⟩ := hrel
        have HO : Hid (Only (OC c n) w wr) := ho
        have HP : Hid (Sp (fun k => n ≤ k) T wr u4 ms) := hsp
        have HC : Hid (Cur T wr c r) := hcr
        have HR : Hid (rdm m (bs.drop 2) = (rdm (m - j) r).map fun q => (ms ++ q.1, q.2)) := hrel
        have HML : Hid (ms.length = j) := hml
        clear ho hsp hcr hrel hml hC1 HN
        by_cases hlt : j < m
        · obtain ⟨q, hq⟩ : ∃ q, m - j = q + 1 := ⟨m - j - 1, by omega⟩
          have HQ : Hid (m - j = q + 1) := hq
          clear hq
          have HMg := HX.out wr r HC.out
          cases hms : ms1 r with
          | none =>
            have HNo : Hid (rdms bs = none) := by
              show _ = _
              rw [HM.out, HR.out, HQ.out]; unfold rdm; rw [hms]; rfl
            have HMg' : Hid (Calls Try.prog 60 #[.pointer (some ⟨c, 0, none⟩)] wr fun e w' => Only (fun x => x = c) wr w' ∧ e = .panicked PC) := by
              refine HMg.mono ?_
              rintro e w' ⟨h, ⟨_, rfl⟩ | ⟨_, _, _, h9, _⟩⟩
              · exact ⟨h, rfl⟩
              · rw [hms] at h9; cases h9
            clear HMg hms HR HM HQ HX
            go_wp2_with (go_at_call 60; refine (HMg'.out).mono ?_; rintro e w2 ⟨ho2, rfl⟩)
            exact ⟨rfl, HO.out.trans ho2.oc, Or.inl ⟨HNo.out, rfl⟩⟩
          | some p =>
            obtain ⟨x, r'⟩ := p
            have HNx : Hid (rdm m (bs.drop 2) = (rdm (m - (j + 1)) r').map fun q => ((ms ++ [x]) ++ q.1, q.2)) := by
              show _ = _
              rw [HR.out, HQ.out, show m - (j + 1) = q by have := HQ.out; omega]
              conv => lhs; unfold rdm
              rw [hms]
              simp only [Option.bind_some]
              exact map_app2
            have HMg' : Hid (Calls Try.prog 60 #[.pointer (some ⟨c, 0, none⟩)] wr fun e w' => ∃ v, e = .returned v ∧ Only (fun x => x = c) wr w' ∧ SlC T w' v x ∧ Cur T w' c r') := by
              refine HMg.mono ?_
              rintro e w' ⟨h, ⟨h9, rfl⟩ | ⟨m', r9, v, h9, rfl, h7, h8⟩⟩
              · rw [hms] at h9; cases h9
              · rw [hms] at h9; cases h9
                exact ⟨v, rfl, h, h7, h8⟩
            clear HMg hms HR HQ HX
            go_wp2_with (first
              | (at_builtin; (refine appSp (.tmp 13) (.tmp 16) rfl rfl rfl rfl HP2.out HS2.out (fun k hk ht => by have h1 : n ≤ k := HP2.out.own k hk; have h2 := (hT k ht).1; omega) (by have := HML.out; omega) (by rw [cell_of_row _ _ 0 _ _ _ (heap_alloc_new _ _)]; rfl) ?_; intro v' w' A' P'))
              | (go_at_call 60; refine (HMg'.out).mono ?_; rintro e w2 ⟨v2, rfl, ho2, hs2, hc2⟩
                 obtain ⟨HO2, HP2, HS2, HC2⟩ := msg_mid hT hcn hn HO.out HP.out ho2 hs2 hc2
                 obtain ⟨a2, k2, rfl, -⟩ := hs2
                 clear hc2 ho2))
            have hA := A'.only (S := fun k => n ≤ k) (fun k hk => Nat.le_trans (Nat.le_trans hn HO2.out.size) hk) (fun k hk => HP2.out.own k hk)
            have HO3 : Hid (Only (OC c n) w w') := HO2.out.trans (hA.mono fun k hk => Or.inr hk)
            have HP3 : Hid (Sp (fun k => n ≤ k) T w' v' (ms ++ [x])) := P'.carry (fun k _ h => ⟨by rcases h with h | h; exact h; exact Nat.le_trans (Nat.le_trans hn HO2.out.size) h, rfl⟩) (fun k _ h => ⟨h, rfl⟩)
            have HC3 : Hid (Cur T w' c r') := HC2.out.oc hT hA hcn
            clear hA A' P'
            go_wp2
            go_roundw
            case rel => exact ⟨j + 1, ms ++ [x], r', by omega, by go_num, by simp [HML.out], HO3.out, HP3.out, HC3.out, HNx.out⟩
            case measure => simp [intOf]; omega
        · obtain rfl : j = m := by omega
          have HY : Hid (rdms bs = some (ms, r)) := by
            show _ = _
            rw [HM.out, HR.out, Nat.sub_self]; simp [rdm]
          clear HR HX
          go_wp2
          go_ret
          exact ⟨HO.out, Or.inr ⟨ms, r, u4, HY.out, by have := HML.out; omega, rfl, HP.out, HC.out⟩⟩
    · have hd : decide ((m : Int) ≤ 32) = false := by simp; omega
      have HM : Hid (rdms bs = none) := by
        show _ = _
        unfold rdms; rw [if_neg h2, hm, if_pos (by omega)]
      clear hc hb hm h2
      go_enter Try.func54, Try.ntmps54
      go_wp2_with (first
        | (go_at_call 53; refine (HN.out).mono ?_; rintro e w1 ⟨rfl, ho1, hc1⟩; have hC1 : Hid (Only (fun x => x = c) w w1 ∧ Cur T w1 c (bs.drop 2)) := ⟨ho1, hc1⟩; clear ho1 hc1)
        | (go_at_call 55; refine (must_false _).mono ?_; rintro e w' ⟨rfl, hw⟩; rw [hw]; clear hw w'))
      exact ⟨rfl, hC1.out.1.oc, Or.inl ⟨HM.out, rfl⟩⟩
end Go.Proofs.Ytijjcopglbcoiaa
