/-
  Proved here: lists are written by writeList, at uint16, Action, []Action; shorts, actions. Conditions: what is written lies in blocks that the writer does not turn.
-/
import Derived.Test.YtllbbbfkdgjffaaGreatDoorW4
namespace Go.Proofs.YtllbbbfkdgjffaaGreatDoor
open Go.RowKit

def okSh (_ : Int) : Bool := true
section
variable {S : Nat → Prop} {c m : Nat}
theorem Wt.alloc {w : World} {xs : List Int} (h : Wt S w c m xs) (o : Obj) : Wt S (w.alloc o) c m xs := by
  have hb : Below w.heap.size w (w.alloc o) := (Below.refl _ _).alloc (Nat.le_refl _) _
  exact (h.hide hb).back h.gd hb.size

set_option maxHeartbeats 800000 in
theorem wlU_any {T : Nat → Prop} {w : World} {xs : List Int} (hW : Wt S w c m xs) (v : Value) (l : List Int) (hl : Shs T w v l) (hT : ∀ k, T k → ¬ S k ∧ k ≠ c) :
    Calls Tryz.prog 93 #[.pointer (some ⟨c, 0, none⟩), v, .func (.func 55) #[] #[]] w (WrP S c m xs (dg l.length 2 ++ l.flatMap (fun x => dg x 2)) (l.all okSh) w) := by
  have hlen := hl.len
  have HN := hid (wcount_any hW l.length hlen)
  have HT : Hid (∀ w', Only (OS c S) w w' → Shs T w' v l) := fun w' ho => Shs.carry (fun k _ hk => ⟨hk, ho.block k (by rintro (e | e); exact (hT k hk).2 e; exact (hT k hk).1 e)⟩) hl
  obtain ⟨ao, cap, rfl, hcap, -, -, -⟩ := hl
  clear hW
  go_enter Tryz.func93, Tryz.ntmps93
  go_wp2_with (go_at_call 111; refine (HN.out).mono ?_; rintro e w1 ⟨rfl, hq⟩; have HQ := hid hq; clear hq)
  go_loopw [14] (fun i wr => ∃ j : Nat, j ≤ l.length ∧ i = .int .i64 j ∧ Only (OS c S) w wr ∧ Wt S wr c m (xs ++ (dg l.length 2 ++ (l.take j).flatMap (fun x => dg x 2))) ∧ (l.take j).all okSh = true) (fun i _ => l.length - (intOf i).toNat)
  case atStart => exact ⟨0, by omega, rfl, HQ.out.1, by simpa using HQ.out.2, by simp⟩
  case round =>
    obtain ⟨j, hj, rfl, ho, hW, hall⟩ := hrel
    have HO := hid ho
    have HW := hid hW
    have HALL := hid hall
    clear ho hW hall HQ HN
    by_cases hlt : j < l.length
    · have hne : l ≠ [] := fun e => by rw [e] at hlt; simp at hlt
      obtain ⟨ao', cap', he, -, -, -, h5⟩ := HT.out wr HO.out
      obtain ⟨b, o, hTb, hao, hcl⟩ := h5 hne
      simp only [Value.slice.injEq] at he
      obtain ⟨rfl, -, -⟩ := he
      subst hao
      have hR := hcl j hlt
      have HSt : Hid (l.take (j + 1) = l.take j ++ [l[j]]) := by show _ = _; rw [List.take_succ_eq_append_getElem hlt]
      have HMem : Hid (l[j] ∈ l) := List.getElem_mem hlt
      generalize l[j] = x at hR HSt HMem
      clear h5 hcl hne
      obtain ⟨hc0, hx16⟩ := hR
      simp only [Nat.mul_one, Nat.add_zero] at hc0
      have HX := hid hx16
      obtain ⟨hx0, hx1⟩ := hx16
      have HE : Hid (Calls Tryz.prog 55 #[.pointer (some ⟨c, 0, none⟩), .int .u16 x] wr (WrP S c m (xs ++ (dg l.length 2 ++ (l.take j).flatMap (fun x => dg x 2))) ((fun x => dg x 2) x) (okSh x) wr)) := wshort_any HW.out x HX.out
      have HTk : Hid ((l.take (j + 1)).flatMap (fun x => dg x 2) = (l.take j).flatMap (fun x => dg x 2) ++ (fun x => dg x 2) x ∧ (l.take (j + 1)).all okSh = okSh x) := by
        refine And.intro ?_ ?_
        · rw [HSt.out, List.flatMap_append]; simp
        · rw [HSt.out, List.all_append, HALL.out]; simp
      have HNo : Hid (okSh x = false → l.all okSh = false) := fun hx => by
        cases h : l.all okSh with
        | false => rfl
        | true => exact absurd (List.all_eq_true.1 h x HMem.out) (by rw [hx]; simp)
      clear HSt HMem HALL HT
      cases hok : okSh x with
      | false =>
        have hfin := HNo.out hok
        have HE' : Hid (Calls Tryz.prog 55 #[.pointer (some ⟨c, 0, none⟩), .int .u16 x] wr fun e w' => e = .panicked PC ∧ Only (OS c S) w w') := by
          refine HE.out.mono ?_
          rintro e w' ⟨h1, ⟨h2, _⟩ | ⟨_, h3⟩⟩
          · rw [hok] at h2; cases h2
          · exact ⟨h3, HO.out.trans h1⟩
        have HF := hid hfin
        clear HE hok HNo HTk hfin HW
        go_wp2_with (first
          | (go_at_call 55; refine (HE'.out).mono ?_; rintro e w' ⟨rfl, hq⟩; have HQ2 := hid hq; clear hq))
        refine ⟨rfl, ?_⟩
        rw [HF.out]
        exact WrP.no HQ2.out
      | true =>
        have HE' : Hid (Calls Tryz.prog 55 #[.pointer (some ⟨c, 0, none⟩), .int .u16 x] wr fun e w' => e = .returned (.tuple #[]) ∧ Only (OS c S) w w' ∧ Wt S w' c m (xs ++ (dg l.length 2 ++ (l.take (j + 1)).flatMap (fun x => dg x 2))) ∧ (l.take (j + 1)).all okSh = true) := by
          refine HE.out.mono ?_
          rintro e w' ⟨h1, ⟨_, h2, h3⟩ | ⟨h2, _⟩⟩
          · refine ⟨h2, HO.out.trans h1, ?_, by rw [HTk.out.2, hok]⟩
            rw [HTk.out.1]
            simpa only [List.append_assoc] using h3
          · rw [hok] at h2; cases h2
        clear HE hok HNo HTk HW
        go_wp2_with (first
          | (go_at_call 55; refine (HE'.out).mono ?_; rintro e w' ⟨rfl, hq⟩; have HQ2 := hid hq; clear hq))
        go_roundw
        case rel => exact ⟨j + 1, by omega, by go_num, HQ2.out⟩
        case measure => simp [intOf]; omega
    · obtain rfl : j = l.length := by omega
      have hW := HW.out
      have hall := HALL.out
      rw [List.take_length] at hW hall
      have HW2 := hid hW
      have HA2 := hid hall
      clear hW hall HW HALL HT
      go_wp2
      first | go_end0 | refine bodyPost_ret (results_none rfl _ _ _) rfl ?_
      rw [HA2.out]
      exact WrP.yes HO.out HW2.out

set_option maxHeartbeats 800000 in
theorem wlA_any {T : Nat → Prop} {w : World} {xs : List Int} (hW : Wt S w c m xs) (v : Value) (l : List Ac) (hl : Acs T w v l) (hT : ∀ k, T k → ¬ S k ∧ k ≠ c) :
    Calls Tryz.prog 123 #[.pointer (some ⟨c, 0, none⟩), v, .func (.func 124) #[] #[]] w (WrP S c m xs (dg l.length 2 ++ l.flatMap encAc) (l.all okAc) w) := by
  have hlen := hl.len
  have HN := hid (wcount_any hW l.length hlen)
  have HT : Hid (∀ w', Only (OS c S) w w' → Acs T w' v l) := fun w' ho => Acs.carry (fun k _ hk => ⟨hk, ho.block k (by rintro (e | e); exact (hT k hk).2 e; exact (hT k hk).1 e)⟩) hl
  obtain ⟨ao, cap, rfl, hcap, -, -, -⟩ := hl
  clear hW
  go_enter Tryz.func123, Tryz.ntmps123
  go_wp2_with (go_at_call 111; refine (HN.out).mono ?_; rintro e w1 ⟨rfl, hq⟩; have HQ := hid hq; clear hq)
  go_loopw [14] (fun i wr => ∃ j : Nat, j ≤ l.length ∧ i = .int .i64 j ∧ Only (OS c S) w wr ∧ Wt S wr c m (xs ++ (dg l.length 2 ++ (l.take j).flatMap encAc)) ∧ (l.take j).all okAc = true) (fun i _ => l.length - (intOf i).toNat)
  case atStart => exact ⟨0, by omega, rfl, HQ.out.1, by simpa using HQ.out.2, by simp⟩
  case round =>
    obtain ⟨j, hj, rfl, ho, hW, hall⟩ := hrel
    have HO := hid ho
    have HW := hid hW
    have HALL := hid hall
    clear ho hW hall HQ HN
    by_cases hlt : j < l.length
    · have hne : l ≠ [] := fun e => by rw [e] at hlt; simp at hlt
      obtain ⟨ao', cap', he, -, -, -, h5⟩ := HT.out wr HO.out
      obtain ⟨b, o, hTb, hao, hcl⟩ := h5 hne
      simp only [Value.slice.injEq] at he
      obtain ⟨rfl, -, -⟩ := he
      subst hao
      have hR := hcl j hlt
      have HSt : Hid (l.take (j + 1) = l.take j ++ [l[j]]) := by show _ = _; rw [List.take_succ_eq_append_getElem hlt]
      have HMem : Hid (l[j] ∈ l) := List.getElem_mem hlt
      generalize l[j] = x at hR HSt HMem
      clear h5 hcl hne
      obtain ⟨hc0, hc1, hc2, hfit⟩ := hR
      simp only [Nat.add_zero] at hc0
      have HX := hid hfit
      clear hfit
      have HE : Hid (Calls Tryz.prog 124 #[.pointer (some ⟨c, 0, none⟩), av x] (wr.alloc (.cells #[.int .i8 x.dw, .int .i8 x.fd, .int .u64 x.n] 93)) (WrP S c m (xs ++ (dg l.length 2 ++ (l.take j).flatMap encAc)) (encAc x) (okAc x) (wr.alloc (.cells #[.int .i8 x.dw, .int .i8 x.fd, .int .u64 x.n] 93)))) := waction_any (HW.out.alloc _) x HX.out
      have HTk : Hid ((l.take (j + 1)).flatMap encAc = (l.take j).flatMap encAc ++ encAc x ∧ (l.take (j + 1)).all okAc = okAc x) := by
        refine And.intro ?_ ?_
        · rw [HSt.out, List.flatMap_append]; simp
        · rw [HSt.out, List.all_append, HALL.out]; simp
      have HNo : Hid (okAc x = false → l.all okAc = false) := fun hx => by
        cases h : l.all okAc with
        | false => rfl
        | true => exact absurd (List.all_eq_true.1 h x HMem.out) (by rw [hx]; simp)
      clear HSt HMem HALL HT
      cases hok : okAc x with
      | false =>
        have hfin := HNo.out hok
        have HE' : Hid (Calls Tryz.prog 124 #[.pointer (some ⟨c, 0, none⟩), av x] (wr.alloc (.cells #[.int .i8 x.dw, .int .i8 x.fd, .int .u64 x.n] 93)) fun e w' => e = .panicked PC ∧ Only (OS c S) w w') := by
          refine HE.out.mono ?_
          rintro e w' ⟨h1, ⟨h2, _⟩ | ⟨_, h3⟩⟩
          · rw [hok] at h2; cases h2
          · exact ⟨h3, (HO.out.trans ((Only.refl (OS c S) wr).alloc (fun k hk => Or.inr (HW.out.gd.fresh k hk)) _)).trans h1⟩
        have HF := hid hfin
        clear HE hok HNo HTk hfin HW
        go_wp2_with (first
          | (go_at_call 124; refine (HE'.out).mono ?_; rintro e w' ⟨rfl, hq⟩; have HQ2 := hid hq; clear hq))
        refine ⟨rfl, ?_⟩
        rw [HF.out]
        exact WrP.no HQ2.out
      | true =>
        have HE' : Hid (Calls Tryz.prog 124 #[.pointer (some ⟨c, 0, none⟩), av x] (wr.alloc (.cells #[.int .i8 x.dw, .int .i8 x.fd, .int .u64 x.n] 93)) fun e w' => e = .returned (.tuple #[]) ∧ Only (OS c S) w w' ∧ Wt S w' c m (xs ++ (dg l.length 2 ++ (l.take (j + 1)).flatMap encAc)) ∧ (l.take (j + 1)).all okAc = true) := by
          refine HE.out.mono ?_
          rintro e w' ⟨h1, ⟨_, h2, h3⟩ | ⟨h2, _⟩⟩
          · refine ⟨h2, (HO.out.trans ((Only.refl (OS c S) wr).alloc (fun k hk => Or.inr (HW.out.gd.fresh k hk)) _)).trans h1, ?_, by rw [HTk.out.2, hok]⟩
            rw [HTk.out.1]
            simpa only [List.append_assoc] using h3
          · rw [hok] at h2; cases h2
        clear HE hok HNo HTk HW
        go_wp2_with (first
          | (go_at_call 124; refine (HE'.out).mono ?_; rintro e w' ⟨rfl, hq⟩; have HQ2 := hid hq; clear hq))
        go_roundw
        case rel => exact ⟨j + 1, by omega, by go_num, HQ2.out⟩
        case measure => simp [intOf]; omega
    · obtain rfl : j = l.length := by omega
      have hW := HW.out
      have hall := HALL.out
      rw [List.take_length] at hW hall
      have HW2 := hid hW
      have HA2 := hid hall
      clear hW hall HW HALL HT
      go_wp2
      first | go_end0 | refine bodyPost_ret (results_none rfl _ _ _) rfl ?_
      rw [HA2.out]
      exact WrP.yes HO.out HW2.out

theorem wshorts_any {T : Nat → Prop} {w : World} {xs : List Int} (hW : Wt S w c m xs) (v : Value) (l : List Int) (hl : Shs T w v l) (hT : ∀ k, T k → ¬ S k ∧ k ≠ c) :
    Calls Tryz.prog 59 #[.pointer (some ⟨c, 0, none⟩), v] w (WrP S c m xs (dg l.length 2 ++ l.flatMap (fun x => dg x 2)) (l.all okSh) w) := by
  have HE := hid (wlU_any hW v l hl hT)
  obtain ⟨ao, cap, rfl, -⟩ := hl.form
  clear hW hl hT
  cases hok : l.all okSh with
  | false =>
    have HE' : Hid (Calls Tryz.prog 93 #[.pointer (some ⟨c, 0, none⟩), .slice ao l.length cap, .func (.func 55) #[] #[]] w fun e w' => e = .panicked PC ∧ Only (OS c S) w w') := by
      refine HE.out.mono ?_
      rintro e w' ⟨h1, ⟨h2, _⟩ | ⟨_, h3⟩⟩
      · rw [hok] at h2; cases h2
      · exact ⟨h3, h1⟩
    clear HE hok
    go_enter Tryz.func59, Tryz.ntmps59
    go_wp2_with (go_at_call 93; refine (HE'.out).mono ?_; rintro e w' ⟨rfl, hq⟩; have HQ := hid hq; clear hq)
    exact ⟨rfl, WrP.no HQ.out⟩
  | true =>
    have HE' : Hid (Calls Tryz.prog 93 #[.pointer (some ⟨c, 0, none⟩), .slice ao l.length cap, .func (.func 55) #[] #[]] w fun e w' => e = .returned (.tuple #[]) ∧ Only (OS c S) w w' ∧ Wt S w' c m (xs ++ (dg l.length 2 ++ l.flatMap (fun x => dg x 2)))) := by
      refine HE.out.mono ?_
      rintro e w' ⟨h1, ⟨_, h2, h3⟩ | ⟨h2, _⟩⟩
      · exact ⟨h2, h1, h3⟩
      · rw [hok] at h2; cases h2
    clear HE hok
    go_enter Tryz.func59, Tryz.ntmps59
    go_wp2_with (go_at_call 93; refine (HE'.out).mono ?_; rintro e w' ⟨rfl, hq⟩; have HQ := hid hq; clear hq)
    first | go_end0 | refine bodyPost_ret (results_none rfl _ _ _) rfl ?_
    exact WrP.yes HQ.out.1 HQ.out.2

theorem wactions_any {T : Nat → Prop} {w : World} {xs : List Int} (hW : Wt S w c m xs) (v : Value) (l : List Ac) (hl : Acs T w v l) (hT : ∀ k, T k → ¬ S k ∧ k ≠ c) :
    Calls Tryz.prog 104 #[.pointer (some ⟨c, 0, none⟩), v] w (WrP S c m xs (dg l.length 2 ++ l.flatMap encAc) (l.all okAc) w) := by
  have HE := hid (wlA_any hW v l hl hT)
  obtain ⟨ao, cap, rfl, -⟩ := hl.form
  clear hW hl hT
  cases hok : l.all okAc with
  | false =>
    have HE' : Hid (Calls Tryz.prog 123 #[.pointer (some ⟨c, 0, none⟩), .slice ao l.length cap, .func (.func 124) #[] #[]] w fun e w' => e = .panicked PC ∧ Only (OS c S) w w') := by
      refine HE.out.mono ?_
      rintro e w' ⟨h1, ⟨h2, _⟩ | ⟨_, h3⟩⟩
      · rw [hok] at h2; cases h2
      · exact ⟨h3, h1⟩
    clear HE hok
    go_enter Tryz.func104, Tryz.ntmps104
    go_wp2_with (go_at_call 123; refine (HE'.out).mono ?_; rintro e w' ⟨rfl, hq⟩; have HQ := hid hq; clear hq)
    exact ⟨rfl, WrP.no HQ.out⟩
  | true =>
    have HE' : Hid (Calls Tryz.prog 123 #[.pointer (some ⟨c, 0, none⟩), .slice ao l.length cap, .func (.func 124) #[] #[]] w fun e w' => e = .returned (.tuple #[]) ∧ Only (OS c S) w w' ∧ Wt S w' c m (xs ++ (dg l.length 2 ++ l.flatMap encAc))) := by
      refine HE.out.mono ?_
      rintro e w' ⟨h1, ⟨_, h2, h3⟩ | ⟨h2, _⟩⟩
      · exact ⟨h2, h1, h3⟩
      · rw [hok] at h2; cases h2
    clear HE hok
    go_enter Tryz.func104, Tryz.ntmps104
    go_wp2_with (go_at_call 123; refine (HE'.out).mono ?_; rintro e w' ⟨rfl, hq⟩; have HQ := hid hq; clear hq)
    first | go_end0 | refine bodyPost_ret (results_none rfl _ _ _) rfl ?_
    exact WrP.yes HQ.out.1 HQ.out.2

set_option maxHeartbeats 800000 in
theorem wlAA_any {T : Nat → Prop} {w : World} {xs : List Int} (hW : Wt S w c m xs) (v : Value) (l : List (List Ac)) (hl : Cps T w v l) (hT : ∀ k, T k → ¬ S k ∧ k ≠ c) :
    Calls Tryz.prog 103 #[.pointer (some ⟨c, 0, none⟩), v, .func (.func 104) #[] #[]] w (WrP S c m xs (dg l.length 2 ++ l.flatMap encCp) (l.all okCp) w) := by
  have hlen := hl.len
  have HN := hid (wcount_any hW l.length hlen)
  have HT : Hid (∀ w', Only (OS c S) w w' → Cps T w' v l) := fun w' ho => Cps.carry (fun k _ hk => ⟨hk, ho.block k (by rintro (e | e); exact (hT k hk).2 e; exact (hT k hk).1 e)⟩) hl
  obtain ⟨ao, cap, rfl, hcap, -, -, -⟩ := hl
  clear hW
  go_enter Tryz.func103, Tryz.ntmps103
  go_wp2_with (go_at_call 111; refine (HN.out).mono ?_; rintro e w1 ⟨rfl, hq⟩; have HQ := hid hq; clear hq)
  go_loopw [14] (fun i wr => ∃ j : Nat, j ≤ l.length ∧ i = .int .i64 j ∧ Only (OS c S) w wr ∧ Wt S wr c m (xs ++ (dg l.length 2 ++ (l.take j).flatMap encCp)) ∧ (l.take j).all okCp = true) (fun i _ => l.length - (intOf i).toNat)
  case atStart => exact ⟨0, by omega, rfl, HQ.out.1, by simpa using HQ.out.2, by simp⟩
  case round =>
    obtain ⟨j, hj, rfl, ho, hW, hall⟩ := hrel
    have HO := hid ho
    have HW := hid hW
    have HALL := hid hall
    clear ho hW hall HQ HN
    by_cases hlt : j < l.length
    · have hne : l ≠ [] := fun e => by rw [e] at hlt; simp at hlt
      obtain ⟨ao', cap', he, -, -, -, h5⟩ := HT.out wr HO.out
      obtain ⟨b, o, hTb, hao, hcl⟩ := h5 hne
      simp only [Value.slice.injEq] at he
      obtain ⟨rfl, -, -⟩ := he
      subst hao
      have hR := hcl j hlt
      have HSt : Hid (l.take (j + 1) = l.take j ++ [l[j]]) := by show _ = _; rw [List.take_succ_eq_append_getElem hlt]
      have HMem : Hid (l[j] ∈ l) := List.getElem_mem hlt
      generalize l[j] = x at hR HSt HMem
      clear h5 hcl hne
      obtain ⟨u, hc0, hAc⟩ := hR
      simp only [Nat.mul_one, Nat.add_zero] at hc0
      have HX := hid hAc
      obtain ⟨ua, uc, rfl, -⟩ := hAc.form
      clear hAc
      have HE : Hid (Calls Tryz.prog 104 #[.pointer (some ⟨c, 0, none⟩), .slice ua x.length uc] wr (WrP S c m (xs ++ (dg l.length 2 ++ (l.take j).flatMap encCp)) (encCp x) (okCp x) wr)) := wactions_any HW.out _ x HX.out hT
      have HTk : Hid ((l.take (j + 1)).flatMap encCp = (l.take j).flatMap encCp ++ encCp x ∧ (l.take (j + 1)).all okCp = okCp x) := by
        refine And.intro ?_ ?_
        · rw [HSt.out, List.flatMap_append]; simp
        · rw [HSt.out, List.all_append, HALL.out]; simp
      have HNo : Hid (okCp x = false → l.all okCp = false) := fun hx => by
        cases h : l.all okCp with
        | false => rfl
        | true => exact absurd (List.all_eq_true.1 h x HMem.out) (by rw [hx]; simp)
      clear HSt HMem HALL HT
      cases hok : okCp x with
      | false =>
        have hfin := HNo.out hok
        have HE' : Hid (Calls Tryz.prog 104 #[.pointer (some ⟨c, 0, none⟩), .slice ua x.length uc] wr fun e w' => e = .panicked PC ∧ Only (OS c S) w w') := by
          refine HE.out.mono ?_
          rintro e w' ⟨h1, ⟨h2, _⟩ | ⟨_, h3⟩⟩
          · rw [hok] at h2; cases h2
          · exact ⟨h3, HO.out.trans h1⟩
        have HF := hid hfin
        clear HE hok HNo HTk hfin HW
        go_wp2_with (first
          | (go_at_call 104; refine (HE'.out).mono ?_; rintro e w' ⟨rfl, hq⟩; have HQ2 := hid hq; clear hq))
        refine ⟨rfl, ?_⟩
        rw [HF.out]
        exact WrP.no HQ2.out
      | true =>
        have HE' : Hid (Calls Tryz.prog 104 #[.pointer (some ⟨c, 0, none⟩), .slice ua x.length uc] wr fun e w' => e = .returned (.tuple #[]) ∧ Only (OS c S) w w' ∧ Wt S w' c m (xs ++ (dg l.length 2 ++ (l.take (j + 1)).flatMap encCp)) ∧ (l.take (j + 1)).all okCp = true) := by
          refine HE.out.mono ?_
          rintro e w' ⟨h1, ⟨_, h2, h3⟩ | ⟨h2, _⟩⟩
          · refine ⟨h2, HO.out.trans h1, ?_, by rw [HTk.out.2, hok]⟩
            rw [HTk.out.1]
            simpa only [List.append_assoc] using h3
          · rw [hok] at h2; cases h2
        clear HE hok HNo HTk HW
        go_wp2_with (first
          | (go_at_call 104; refine (HE'.out).mono ?_; rintro e w' ⟨rfl, hq⟩; have HQ2 := hid hq; clear hq))
        go_roundw
        case rel => exact ⟨j + 1, by omega, by go_num, HQ2.out⟩
        case measure => simp [intOf]; omega
    · obtain rfl : j = l.length := by omega
      have hW := HW.out
      have hall := HALL.out
      rw [List.take_length] at hW hall
      have HW2 := hid hW
      have HA2 := hid hall
      clear hW hall HW HALL HT
      go_wp2
      first | go_end0 | refine bodyPost_ret (results_none rfl _ _ _) rfl ?_
      rw [HA2.out]
      exact WrP.yes HO.out HW2.out
end
end Go.Proofs.YtllbbbfkdgjffaaGreatDoor
