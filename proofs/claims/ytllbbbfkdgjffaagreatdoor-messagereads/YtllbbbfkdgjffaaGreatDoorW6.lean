/-
  Proved here: lists are written by writeList, at uint16, Action, []Action; shorts, actions. Conditions: what is written lies in blocks that the writer does not turn.
-/
/-
  Laws of our own: a whole struct is loaded out of a block, from its head or from within; a whole struct is stored into a block. Conditions: the cells are there.
-/
/-
  Proved here: the writer's method match writes which fields have a Mask, then these, or panics where the match is none. Condition: the numbers are of 64 bits.
-/
import Derived.Test.YtllbbbfkdgjffaaGreatDoorW4
import Derived.Test.YtllbbbfkdgjffaaGreatDoorV1
namespace Go.Proofs.YtllbbbfkdgjffaaGreatDoor
open Go.RowKit

def okSh (_ : Int) : Bool := true
section
variable {S : Nat → Prop} {c m : Nat}
theorem Wt.alloc {w : World} {xs : List Int} (h : Wt S w c m xs) (o : Obj) : Wt S (w.alloc o) c m xs := by
  have hb : Below w.heap.size w (w.alloc o) := (Below.refl _ _).alloc (Nat.le_refl _) _
  exact (h.hide hb).back h.gd hb.size

set_option maxHeartbeats 800000 in
theorem wlU_any {T : Nat → Prop} {w : World} {xs : List Int} (hW : Wt S w c m xs) (v : Value) (l : List Int) (hl : Shs T w v l) (hT : ∀ k, T k → ¬ S k ∧ k ≠ c) :
    Calls Tryz.prog 93 #[.pointer (some ⟨c, 0, none⟩), v, .func (.func 55) #[] #[]] w (WrP S c m xs (dg l.length 2 ++ l.flatMap (fun x => dg x 2)) (l.all okSh) w) := by
  have hlen := hl.len
  have HN := hid (wcount_any hW l.length hlen)
  have HT : Hid (∀ w', Only (OS c S) w w' → Shs T w' v l) := fun w' ho => Shs.carry (fun k _ hk => ⟨hk, ho.block k (by rintro (e | e); exact (hT k hk).2 e; exact (hT k hk).1 e)⟩) hl
  obtain ⟨ao, cap, rfl, hcap, -, -, -⟩ := hl
  clear hW
  go_enter Tryz.func93, Tryz.ntmps93
  go_wp2_with (go_at_call 111; refine (HN.out).mono ?_; rintro e w1 ⟨rfl, hq⟩; have HQ := hid hq; clear hq)
  go_loopw [14] (fun i wr => ∃ j : Nat, j ≤ l.length ∧ i = .int .i64 j ∧ Only (OS c S) w wr ∧ Wt S wr c m (xs ++ (dg l.length 2 ++ (l.take j).flatMap (fun x => dg x 2))) ∧ (l.take j).all okSh = true) (fun i _ => l.length - (intOf i).toNat)
  case atStart => exact ⟨0, by omega, rfl, HQ.out.1, by simpa using HQ.out.2, by simp⟩
  case round =>
    obtain ⟨j, hj, rfl, ho, hW, hall⟩ := hrel
    have HO := hid ho
    have HW := hid hW
    have HALL := hid hall
    clear ho hW hall HQ HN
    by_cases hlt : j < l.length
    · have hne : l ≠ [] := fun e => by rw [e] at hlt; simp at hlt
      obtain ⟨ao', cap', he, -, -, -, h5⟩ := HT.out wr HO.out
      obtain ⟨b, o, hTb, hao, hcl⟩ := h5 hne
      simp only [Value.slice.injEq] at he
      obtain ⟨rfl, -, -⟩ := he
      subst hao
      have hR := hcl j hlt
      have HSt : Hid (l.take (j + 1) = l.take j ++ [l[j]]) := by show _ = _; rw [List.take_succ_eq_append_getElem hlt]
      have HMem : Hid (l[j] ∈ l) := List.getElem_mem hlt
      generalize l[j] = x at hR HSt HMem
      clear h5 hcl hne
      obtain ⟨hc0, hx16⟩ := hR
      simp only [Nat.mul_one, Nat.add_zero] at hc0
      have HX := hid hx16
      obtain ⟨hx0, hx1⟩ := hx16
      have HE : Hid (Calls Tryz.prog 55 #[.pointer (some ⟨c, 0, none⟩), .int .u16 x] wr (WrP S c m (xs ++ (dg l.length 2 ++ (l.take j).flatMap (fun x => dg x 2))) ((fun x => dg x 2) x) (okSh x) wr)) := wshort_any HW.out x HX.out
      have HTk : Hid ((l.take (j + 1)).flatMap (fun x => dg x 2) = (l.take j).flatMap (fun x => dg x 2) ++ (fun x => dg x 2) x ∧ (l.take (j + 1)).all okSh = okSh x) := by
        refine And.intro ?_ ?_
        · rw [HSt.out, List.flatMap_append]; simp
        · rw [HSt.out, List.all_append, HALL.out]; simp
      have HNo : Hid (okSh x = false → l.all okSh = false) := fun hx => by
        cases h : l.all okSh with
        | false => rfl
        | true => exact absurd (List.all_eq_true.1 h x HMem.out) (by rw [hx]; simp)
      clear HSt HMem HALL HT
      cases hok : okSh x with
      | false =>
        have hfin := HNo.out hok
        have HE' : Hid (Calls Tryz.prog 55 #[.pointer (some ⟨c, 0, none⟩), .int .u16 x] wr fun e w' => e = .panicked PC ∧ Only (OS c S) w w') := by
          refine HE.out.mono ?_
          rintro e w' ⟨h1, ⟨h2, _⟩ | ⟨_, h3⟩⟩
          · rw [hok] at h2; cases h2
          · exact ⟨h3, HO.out.trans h1⟩
        have HF := hid hfin
        clear HE hok HNo HTk hfin HW
        go_wp2_with (first
          | (go_at_call 55; refine (HE'.out).mono ?_; rintro e w' ⟨rfl, hq⟩; have HQ2 := hid hq; clear hq))
        refine ⟨rfl, ?_⟩
        rw [HF.out]
        exact WrP.no HQ2.out
      | true =>
        have HE' : Hid (Calls Tryz.prog 55 #[.pointer (some ⟨c, 0, none⟩), .int .u16 x] wr fun e w' => e = .returned (.tuple #[]) ∧ Only (OS c S) w w' ∧ Wt S w' c m (xs ++ (dg l.length 2 ++ (l.take (j + 1)).flatMap (fun x => dg x 2))) ∧ (l.take (j + 1)).all okSh = true) := by
          refine HE.out.mono ?_
          rintro e w' ⟨h1, ⟨_, h2, h3⟩ | ⟨h2, _⟩⟩
          · refine ⟨h2, HO.out.trans h1, ?_, by rw [HTk.out.2, hok]⟩
            rw [HTk.out.1]
            simpa only [List.append_assoc] using h3
          · rw [hok] at h2; cases h2
        clear HE hok HNo HTk HW
        go_wp2_with (first
          | (go_at_call 55; refine (HE'.out).mono ?_; rintro e w' ⟨rfl, hq⟩; have HQ2 := hid hq; clear hq))
        go_roundw
        case rel => exact ⟨j + 1, by omega, by go_num, HQ2.out⟩
        case measure => simp [intOf]; omega
    · obtain rfl : j = l.length := by omega
      have hW := HW.out
      have hall := HALL.out
      rw [List.take_length] at hW hall
      have HW2 := hid hW
      have HA2 := hid hall
      clear hW hall HW HALL HT
      go_wp2
      first | go_end0 | refine bodyPost_ret (results_none rfl _ _ _) rfl ?_
      rw [HA2.out]
      exact WrP.yes HO.out HW2.out

set_option maxHeartbeats 800000 in
theorem wlA_any {T : Nat → Prop} {w : World} {xs : List Int} (hW : Wt S w c m xs) (v : Value) (l : List Ac) (hl : Acs T w v l) (hT : ∀ k, T k → ¬ S k ∧ k ≠ c) :
    Calls Tryz.prog 123 #[.pointer (some ⟨c, 0, none⟩), v, .func (.func 124) #[] #[]] w (WrP S c m xs (dg l.length 2 ++ l.flatMap encAc) (l.all okAc) w) := by
  have hlen := hl.len
  have HN := hid (wcount_any hW l.length hlen)
  have HT : Hid (∀ w', Only (OS c S) w w' → Acs T w' v l) := fun w' ho => Acs.carry (fun k _ hk => ⟨hk, ho.block k (by rintro (e | e); exact (hT k hk).2 e; exact (hT k hk).1 e)⟩) hl
  obtain ⟨ao, cap, rfl, hcap, -, -, -⟩ := hl
  clear hW
  go_enter Tryz.func123, Tryz.ntmps123
  go_wp2_with (go_at_call 111; refine (HN.out).mono ?_; rintro e w1 ⟨rfl, hq⟩; have HQ := hid hq; clear hq)
  go_loopw [14] (fun i wr => ∃ j : Nat, j ≤ l.length ∧ i = .int .i64 j ∧ Only (OS c S) w wr ∧ Wt S wr c m (xs ++ (dg l.length 2 ++ (l.take j).flatMap encAc)) ∧ (l.take j).all okAc = true) (fun i _ => l.length - (intOf i).toNat)
  case atStart => exact ⟨0, by omega, rfl, HQ.out.1, by simpa using HQ.out.2, by simp⟩
  case round =>
    obtain ⟨j, hj, rfl, ho, hW, hall⟩ := hrel
    have HO := hid ho
    have HW := hid hW
    have HALL := hid hall
    clear ho hW hall HQ HN
    by_cases hlt : j < l.length
    · have hne : l ≠ [] := fun e => by rw [e] at hlt; simp at hlt
      obtain ⟨ao', cap', he, -, -, -, h5⟩ := HT.out wr HO.out
      obtain ⟨b, o, hTb, hao, hcl⟩ := h5 hne
      simp only [Value.slice.injEq] at he
      obtain ⟨rfl, -, -⟩ := he
      subst hao
      have hR := hcl j hlt
      have HSt : Hid (l.take (j + 1) = l.take j ++ [l[j]]) := by show _ = _; rw [List.take_succ_eq_append_getElem hlt]
      have HMem : Hid (l[j] ∈ l) := List.getElem_mem hlt
      generalize l[j] = x at hR HSt HMem
      clear h5 hcl hne
      obtain ⟨hc0, hc1, hc2, hfit⟩ := hR
      simp only [Nat.add_zero] at hc0
      have HX := hid hfit
      clear hfit
      have HE : Hid (Calls Tryz.prog 124 #[.pointer (some ⟨c, 0, none⟩), av x] (wr.alloc (.cells #[.int .i8 x.dw, .int .i8 x.fd, .int .u64 x.n] 93)) (WrP S c m (xs ++ (dg l.length 2 ++ (l.take j).flatMap encAc)) (encAc x) (okAc x) (wr.alloc (.cells #[.int .i8 x.dw, .int .i8 x.fd, .int .u64 x.n] 93)))) := waction_any (HW.out.alloc _) x HX.out
      have HTk : Hid ((l.take (j + 1)).flatMap encAc = (l.take j).flatMap encAc ++ encAc x ∧ (l.take (j + 1)).all okAc = okAc x) := by
        refine And.intro ?_ ?_
        · rw [HSt.out, List.flatMap_append]; simp
        · rw [HSt.out, List.all_append, HALL.out]; simp
      have HNo : Hid (okAc x = false → l.all okAc = false) := fun hx => by
        cases h : l.all okAc with
        | false => rfl
        | true => exact absurd (List.all_eq_true.1 h x HMem.out) (by rw [hx]; simp)
      clear HSt HMem HALL HT
      cases hok : okAc x with
      | false =>
        have hfin := HNo.out hok
        have HE' : Hid (Calls Tryz.prog 124 #[.pointer (some ⟨c, 0, none⟩), av x] (wr.alloc (.cells #[.int .i8 x.dw, .int .i8 x.fd, .int .u64 x.n] 93)) fun e w' => e = .panicked PC ∧ Only (OS c S) w w') := by
          refine HE.out.mono ?_
          rintro e w' ⟨h1, ⟨h2, _⟩ | ⟨_, h3⟩⟩
          · rw [hok] at h2; cases h2
          · exact ⟨h3, (HO.out.trans ((Only.refl (OS c S) wr).alloc (fun k hk => Or.inr (HW.out.gd.fresh k hk)) _)).trans h1⟩
        have HF := hid hfin
        clear HE hok HNo HTk hfin HW
        go_wp2_with (first
          | (go_at_call 124; refine (HE'.out).mono ?_; rintro e w' ⟨rfl, hq⟩; have HQ2 := hid hq; clear hq))
        refine ⟨rfl, ?_⟩
        rw [HF.out]
        exact WrP.no HQ2.out
      | true =>
        have HE' : Hid (Calls Tryz.prog 124 #[.pointer (some ⟨c, 0, none⟩), av x] (wr.alloc (.cells #[.int .i8 x.dw, .int .i8 x.fd, .int .u64 x.n] 93)) fun e w' => e = .returned (.tuple #[]) ∧ Only (OS c S) w w' ∧ Wt S w' c m (xs ++ (dg l.length 2 ++ (l.take (j + 1)).flatMap encAc)) ∧ (l.take (j + 1)).all okAc = true) := by
          refine HE.out.mono ?_
          rintro e w' ⟨h1, ⟨_, h2, h3⟩ | ⟨h2, _⟩⟩
          · refine ⟨h2, (HO.out.trans ((Only.refl (OS c S) wr).alloc (fun k hk => Or.inr (HW.out.gd.fresh k hk)) _)).trans h1, ?_, by rw [HTk.out.2, hok]⟩
            rw [HTk.out.1]
            simpa only [List.append_assoc] using h3
          · rw [hok] at h2; cases h2
        clear HE hok HNo HTk HW
        go_wp2_with (first
          | (go_at_call 124; refine (HE'.out).mono ?_; rintro e w' ⟨rfl, hq⟩; have HQ2 := hid hq; clear hq))
        go_roundw
        case rel => exact ⟨j + 1, by omega, by go_num, HQ2.out⟩
        case measure => simp [intOf]; omega
    · obtain rfl : j = l.length := by omega
      have hW := HW.out
      have hall := HALL.out
      rw [List.take_length] at hW hall
      have HW2 := hid hW
      have HA2 := hid hall
      clear hW hall HW HALL HT
      go_wp2
      first | go_end0 | refine bodyPost_ret (results_none rfl _ _ _) rfl ?_
      rw [HA2.out]
      exact WrP.yes HO.out HW2.out

theorem wshorts_any {T : Nat → Prop} {w : World} {xs : List Int} (hW : Wt S w c m xs) (v : Value) (l : List Int) (hl : Shs T w v l) (hT : ∀ k, T k → ¬ S k ∧ k ≠ c) :
    Calls Tryz.prog 59 #[.pointer (some ⟨c, 0, none⟩), v] w (WrP S c m xs (dg l.length 2 ++ l.flatMap (fun x => dg x 2)) (l.all okSh) w) := by
  have HE := hid (wlU_any hW v l hl hT)
  obtain ⟨ao, cap, rfl, -⟩ := hl.form
  clear hW hl hT
  cases hok : l.all okSh with
  | false =>
    have HE' : Hid (Calls Tryz.prog 93 #[.pointer (some ⟨c, 0, none⟩), .slice ao l.length cap, .func (.func 55) #[] #[]] w fun e w' => e = .panicked PC ∧ Only (OS c S) w w') := by
      refine HE.out.mono ?_
      rintro e w' ⟨h1, ⟨h2, _⟩ | ⟨_, h3⟩⟩
      · rw [hok] at h2; cases h2
      · exact ⟨h3, h1⟩
    clear HE hok
    go_enter Tryz.func59, Tryz.ntmps59
    go_wp2_with (go_at_call 93; refine (HE'.out).mono ?_; rintro e w' ⟨rfl, hq⟩; have HQ := hid hq; clear hq)
    exact ⟨rfl, WrP.no HQ.out⟩
  | true =>
    have HE' : Hid (Calls Tryz.prog 93 #[.pointer (some ⟨c, 0, none⟩), .slice ao l.length cap, .func (.func 55) #[] #[]] w fun e w' => e = .returned (.tuple #[]) ∧ Only (OS c S) w w' ∧ Wt S w' c m (xs ++ (dg l.length 2 ++ l.flatMap (fun x => dg x 2)))) := by
      refine HE.out.mono ?_
      rintro e w' ⟨h1, ⟨_, h2, h3⟩ | ⟨h2, _⟩⟩
      · exact ⟨h2, h1, h3⟩
      · rw [hok] at h2; cases h2
    clear HE hok
    go_enter Tryz.func59, Tryz.ntmps59
    go_wp2_with (go_at_call 93; refine (HE'.out).mono ?_; rintro e w' ⟨rfl, hq⟩; have HQ := hid hq; clear hq)
    first | go_end0 | refine bodyPost_ret (results_none rfl _ _ _) rfl ?_
    exact WrP.yes HQ.out.1 HQ.out.2

theorem wactions_any {T : Nat → Prop} {w : World} {xs : List Int} (hW : Wt S w c m xs) (v : Value) (l : List Ac) (hl : Acs T w v l) (hT : ∀ k, T k → ¬ S k ∧ k ≠ c) :
    Calls Tryz.prog 104 #[.pointer (some ⟨c, 0, none⟩), v] w (WrP S c m xs (dg l.length 2 ++ l.flatMap encAc) (l.all okAc) w) := by
  have HE := hid (wlA_any hW v l hl hT)
  obtain ⟨ao, cap, rfl, -⟩ := hl.form
  clear hW hl hT
  cases hok : l.all okAc with
  | false =>
    have HE' : Hid (Calls Tryz.prog 123 #[.pointer (some ⟨c, 0, none⟩), .slice ao l.length cap, .func (.func 124) #[] #[]] w fun e w' => e = .panicked PC ∧ Only (OS c S) w w') := by
      refine HE.out.mono ?_
      rintro e w' ⟨h1, ⟨h2, _⟩ | ⟨_, h3⟩⟩
      · rw [hok] at h2; cases h2
      · exact ⟨h3, h1⟩
    clear HE hok
    go_enter Tryz.func104, Tryz.ntmps104
    go_wp2_with (go_at_call 123; refine (HE'.out).mono ?_; rintro e w' ⟨rfl, hq⟩; have HQ := hid hq; clear hq)
    exact ⟨rfl, WrP.no HQ.out⟩
  | true =>
    have HE' : Hid (Calls Tryz.prog 123 #[.pointer (some ⟨c, 0, none⟩), .slice ao l.length cap, .func (.func 124) #[] #[]] w fun e w' => e = .returned (.tuple #[]) ∧ Only (OS c S) w w' ∧ Wt S w' c m (xs ++ (dg l.length 2 ++ l.flatMap encAc))) := by
      refine HE.out.mono ?_
      rintro e w' ⟨h1, ⟨_, h2, h3⟩ | ⟨h2, _⟩⟩
      · exact ⟨h2, h1, h3⟩
      · rw [hok] at h2; cases h2
    clear HE hok
    go_enter Tryz.func104, Tryz.ntmps104
    go_wp2_with (go_at_call 123; refine (HE'.out).mono ?_; rintro e w' ⟨rfl, hq⟩; have HQ := hid hq; clear hq)
    first | go_end0 | refine bodyPost_ret (results_none rfl _ _ _) rfl ?_
    exact WrP.yes HQ.out.1 HQ.out.2

set_option maxHeartbeats 800000 in
theorem wlAA_any {T : Nat → Prop} {w : World} {xs : List Int} (hW : Wt S w c m xs) (v : Value) (l : List (List Ac)) (hl : Cps T w v l) (hT : ∀ k, T k → ¬ S k ∧ k ≠ c) :
    Calls Tryz.prog 103 #[.pointer (some ⟨c, 0, none⟩), v, .func (.func 104) #[] #[]] w (WrP S c m xs (dg l.length 2 ++ l.flatMap encCp) (l.all okCp) w) := by
  have hlen := hl.len
  have HN := hid (wcount_any hW l.length hlen)
  have HT : Hid (∀ w', Only (OS c S) w w' → Cps T w' v l) := fun w' ho => Cps.carry (fun k _ hk => ⟨hk, ho.block k (by rintro (e | e); exact (hT k hk).2 e; exact (hT k hk).1 e)⟩) hl
  obtain ⟨ao, cap, rfl, hcap, -, -, -⟩ := hl
  clear hW
  go_enter Tryz.func103, Tryz.ntmps103
  go_wp2_with (go_at_call 111; refine (HN.out).mono ?_; rintro e w1 ⟨rfl, hq⟩; have HQ := hid hq; clear hq)
  go_loopw [14] (fun i wr => ∃ j : Nat, j ≤ l.length ∧ i = .int .i64 j ∧ Only (OS c S) w wr ∧ Wt S wr c m (xs ++ (dg l.length 2 ++ (l.take j).flatMap encCp)) ∧ (l.take j).all okCp = true) (fun i _ => l.length - (intOf i).toNat)
  case atStart => exact ⟨0, by omega, rfl, HQ.out.1, by simpa using HQ.out.2, by simp⟩
  case round =>
    obtain ⟨j, hj, rfl, ho, hW, hall⟩ := hrel
    have HO := hid ho
    have HW := hid hW
    have HALL := hid hall
    clear ho hW hall HQ HN
    by_cases hlt : j < l.length
    · have hne : l ≠ [] := fun e => by rw [e] at hlt; simp at hlt
      obtain ⟨ao', cap', he, -, -, -, h5⟩ := HT.out wr HO.out
      obtain ⟨b, o, hTb, hao, hcl⟩ := h5 hne
      simp only [Value.slice.injEq] at he
      obtain ⟨rfl, -, -⟩ := he
      subst hao
      have hR := hcl j hlt
      have HSt : Hid (l.take (j + 1) = l.take j ++ [l[j]]) := by show _ = _; rw [List.take_succ_eq_append_getElem hlt]
      have HMem : Hid (l[j] ∈ l) := List.getElem_mem hlt
      generalize l[j] = x at hR HSt HMem
      clear h5 hcl hne
      obtain ⟨u, hc0, hAc⟩ := hR
      simp only [Nat.mul_one, Nat.add_zero] at hc0
      have HX := hid hAc
      obtain ⟨ua, uc, rfl, -⟩ := hAc.form
      clear hAc
      have HE : Hid (Calls Tryz.prog 104 #[.pointer (some ⟨c, 0, none⟩), .slice ua x.length uc] wr (WrP S c m (xs ++ (dg l.length 2 ++ (l.take j).flatMap encCp)) (encCp x) (okCp x) wr)) := wactions_any HW.out _ x HX.out hT
      have HTk : Hid ((l.take (j + 1)).flatMap encCp = (l.take j).flatMap encCp ++ encCp x ∧ (l.take (j + 1)).all okCp = okCp x) := by
        refine And.intro ?_ ?_
        · rw [HSt.out, List.flatMap_append]; simp
        · rw [HSt.out, List.all_append, HALL.out]; simp
      have HNo : Hid (okCp x = false → l.all okCp = false) := fun hx => by
        cases h : l.all okCp with
        | false => rfl
        | true => exact absurd (List.all_eq_true.1 h x HMem.out) (by rw [hx]; simp)
      clear HSt HMem HALL HT
      cases hok : okCp x with
      | false =>
        have hfin := HNo.out hok
        have HE' : Hid (Calls Tryz.prog 104 #[.pointer (some ⟨c, 0, none⟩), .slice ua x.length uc] wr fun e w' => e = .panicked PC ∧ Only (OS c S) w w') := by
          refine HE.out.mono ?_
          rintro e w' ⟨h1, ⟨h2, _⟩ | ⟨_, h3⟩⟩
          · rw [hok] at h2; cases h2
          · exact ⟨h3, HO.out.trans h1⟩
        have HF := hid hfin
        clear HE hok HNo HTk hfin HW
        go_wp2_with (first
          | (go_at_call 104; refine (HE'.out).mono ?_; rintro e w' ⟨rfl, hq⟩; have HQ2 := hid hq; clear hq))
        refine ⟨rfl, ?_⟩
        rw [HF.out]
        exact WrP.no HQ2.out
      | true =>
        have HE' : Hid (Calls Tryz.prog 104 #[.pointer (some ⟨c, 0, none⟩), .slice ua x.length uc] wr fun e w' => e = .returned (.tuple #[]) ∧ Only (OS c S) w w' ∧ Wt S w' c m (xs ++ (dg l.length 2 ++ (l.take (j + 1)).flatMap encCp)) ∧ (l.take (j + 1)).all okCp = true) := by
          refine HE.out.mono ?_
          rintro e w' ⟨h1, ⟨_, h2, h3⟩ | ⟨h2, _⟩⟩
          · refine ⟨h2, HO.out.trans h1, ?_, by rw [HTk.out.2, hok]⟩
            rw [HTk.out.1]
            simpa only [List.append_assoc] using h3
          · rw [hok] at h2; cases h2
        clear HE hok HNo HTk HW
        go_wp2_with (first
          | (go_at_call 104; refine (HE'.out).mono ?_; rintro e w' ⟨rfl, hq⟩; have HQ2 := hid hq; clear hq))
        go_roundw
        case rel => exact ⟨j + 1, by omega, by go_num, HQ2.out⟩
        case measure => simp [intOf]; omega
    · obtain rfl : j = l.length := by omega
      have hW := HW.out
      have hall := HALL.out
      rw [List.take_length] at hW hall
      have HW2 := hid hW
      have HA2 := hid hall
      clear hW hall HW HALL HT
      go_wp2
      first | go_end0 | refine bodyPost_ret (results_none rfl _ _ _) rfl ?_
      rw [HA2.out]
      exact WrP.yes HO.out HW2.out
end
end Go.Proofs.YtllbbbfkdgjffaaGreatDoor
namespace Go.Proofs.YtllbbbfkdgjffaaGreatDoor
open Go.RowKit

section
variable {ops : Array Oper} {rest : List Oper} {o : Oper} {a : Act} {w : World} {Q : Exit → Act → World → Prop}
theorem ldRow (ty : TypeId) (x : Operand) (ho : o.op = .load ty x) (hw : Region.wanted o (yielded ops a.tmps) = true) (g : Nat) (hx : a.eval x = .pointer (some ⟨g, 0, none⟩)) (t : TypeId) (cs : Array Value) (d : TypeDesc) (hu : Tryz.prog.underlying ty = some d) (hd : d.isRow = true) (hi : (Tryz.prog.info? ty).map (·.size) = some cs.size) (hg : w.heap[g]? = some (.cells cs t (0, 0)))
    (h : wpList Tryz.prog ops Q rest (a.put o.dst (.agg cs)) w) : wpList Tryz.prog ops Q (o :: rest) a w := by
  unfold wpList
  rw [if_pos hw]
  refine Or.inl (wp_load_mid ty x ho g 0 hx cs.toList d (fun j v hj => ?_) hu hd (by rw [hi]; simp) (by simpa using h))
  rw [Nat.zero_add, cell_of_row w g j cs t _ hg]
  simpa using hj
theorem ldMid (ty : TypeId) (x : Operand) (ho : o.op = .load ty x) (hw : Region.wanted o (yielded ops a.tmps) = true) (g p : Nat) (hx : a.eval x = .pointer (some ⟨g, p, none⟩)) (cs : Array Value) (d : TypeDesc) (hu : Tryz.prog.underlying ty = some d) (hd : d.isRow = true) (hi : (Tryz.prog.info? ty).map (·.size) = some cs.size) (hg : w.rangeAt g p cs.toList)
    (h : wpList Tryz.prog ops Q rest (a.put o.dst (.agg cs)) w) : wpList Tryz.prog ops Q (o :: rest) a w := by
  unfold wpList
  rw [if_pos hw]
  refine Or.inl (wp_load_mid ty x ho g p hx cs.toList d hg hu hd (by rw [hi]; simp) ?_)
  simpa using h
theorem stNew (ty : TypeId) (x y : Operand) (ho : o.op = .store ty x y) (hw : Region.wanted o (yielded ops a.tmps) = true) (w0 : World) (t : TypeId) (zs cs : Array Value) (hW : w = w0.alloc (.cells zs t)) (hx : a.eval x = .pointer (some ⟨w0.heap.size, 0, none⟩)) (hy : a.eval y = .agg cs) (hi : (Tryz.prog.info? ty).map (·.size) = some cs.size) (hz : zs.size = cs.size) (h1 : cs.all (·.oneCell') = true)
    (h : wpList Tryz.prog ops Q rest (a.put o.dst undef) (w0.alloc (.cells cs t))) : wpList Tryz.prog ops Q (o :: rest) a w := by
  subst hW
  unfold wpList
  rw [if_pos hw]
  refine Or.inl (wp_store_row ty x y ho _ cs hx hy t zs (heap_alloc_new _ _) hi hz h1 ?_)
  rw [World.setRow_alloc_new]
  exact h
theorem stRow (ty : TypeId) (x y : Operand) (ho : o.op = .store ty x y) (hw : Region.wanted o (yielded ops a.tmps) = true) (g : Nat) (cs : Array Value) (hx : a.eval x = .pointer (some ⟨g, 0, none⟩)) (hy : a.eval y = .agg cs) (t : TypeId) (zs : Array Value) (hg : w.heap[g]? = some (.cells zs t (0, 0))) (hi : (Tryz.prog.info? ty).map (·.size) = some cs.size) (hz : zs.size = cs.size) (h1 : cs.all (·.oneCell') = true)
    (h : wpList Tryz.prog ops Q rest (a.put o.dst undef) (w.setRow g cs)) : wpList Tryz.prog ops Q (o :: rest) a w := by
  unfold wpList
  rw [if_pos hw]
  exact Or.inl (wp_store_row ty x y ho g cs hx hy t zs hg hi hz h1 h)
theorem stMid (ty : TypeId) (x y : Operand) (ho : o.op = .store ty x y) (hw : Region.wanted o (yielded ops a.tmps) = true) (g p : Nat) (cs : Array Value) (hx : a.eval x = .pointer (some ⟨g, p, none⟩)) (hy : a.eval y = .agg cs) (ht : w.there g p cs.size) (hi : (Tryz.prog.info? ty).map (·.size) = some cs.size) (h1 : cs.all (·.oneCell') = true)
    (h : wpList Tryz.prog ops Q rest (a.put o.dst undef) (w.setCells g p cs.toList)) : wpList Tryz.prog ops Q (o :: rest) a w := by
  unfold wpList
  rw [if_pos hw]
  exact Or.inl (wp_store_mid ty x y ho g p cs hx hy ht hi h1 h)
end
theorem sizeRl (r : Rl) (u : Value) : (Tryz.prog.info? 31).map (·.size) = some (rlc r u).size := by rw [rlc_size]; kernel_rfl
theorem sizeHd (h : Hd) (u : Value) : (Tryz.prog.info? 57).map (·.size) = some (hdc h u).size := by rw [hdc_size]; kernel_rfl
theorem sizeMs (m : Ms) (s : Sls) : (Tryz.prog.info? 37).map (·.size) = some (msc m s).size := by rw [msc_size]; kernel_rfl
theorem sizeMt (f : Nat → Int) : (Tryz.prog.info? 28).map (·.size) = some (row 22 f).size := by rw [row_size]; kernel_rfl
theorem oneI (k : IntKind) (x : Int) : (Value.int k x).oneCell' = true := rfl
theorem oneB (x : Bool) : (Value.bool x).oneCell' = true := rfl
theorem rlc_one (r : Rl) (u : Value) (hu : u.oneCell' = true) : (rlc r u).all (·.oneCell') = true := by
  have := row_one 22 r.mt
  unfold rlc
  simp only [Array.all_append, this, Bool.and_true]
  simp [oneI, hu]
theorem hdc_one (h : Hd) (u : Value) (hu : u.oneCell' = true) : (hdc h u).all (·.oneCell') = true := by
  have := rlc_one h.r u hu
  unfold hdc
  simp only [Array.all_append, this, Bool.true_and]
  simp [oneI]
theorem msc_one (m : Ms) (s : Sls) (h : s.cp.oneCell' = true) (h1 : s.ps.oneCell' = true) (h2 : s.ed.oneCell' = true) (h3 : s.fr.oneCell' = true) (h4 : s.hs.oneCell' = true) : (msc m s).all (·.oneCell') = true := by
  have := rlc_one m.r s.cp h
  unfold msc
  simp only [Array.all_append, this, Bool.and_true]
  simp [oneI, oneB, h1, h2, h3, h4]
/-- Cells of a block, as a range. -/
theorem range_of {w : World} {g p : Nat} {cs : Array Value} (h : ∀ i, i < cs.size → w.cell? ⟨g, p + i, none⟩ = cs[i]?) : w.rangeAt g p cs.toList := fun j v hj => by
  have hj' : cs[j]? = some v := by simpa using hj
  have hlt : j < cs.size := (Array.getElem?_eq_some_iff.1 hj').1
  rw [h j hlt, hj']
theorem Lst.one {α : Type} {T : Nat → Prop} {k : Nat} {R : World → (Nat → Option Value) → α → Prop} {w : World} {v : Value} {l : List α} (h : Lst T k R w v l) : v.oneCell' = true := by
  obtain ⟨ao, cap, rfl, _⟩ := h
  rfl
theorem setCells_all (b : Nat) : ∀ (vs : List Value) (o : Nat) (w : World) (cur : Array Value) (t : TypeId), w.heap[b]? = some (.cells cur t (0, 0)) → ∃ cur', (w.setCells b o vs).heap[b]? = some (.cells cur' t (0, 0)) ∧ cur'.size = cur.size ∧ (∀ i, i < o ∨ o + vs.length ≤ i → cur'[i]? = cur[i]?) ∧ (∀ i, i < vs.length → o + vs.length ≤ cur.size → cur'[o + i]? = vs[i]?)
  | [], o, w, cur, t, h => ⟨cur, h, rfl, fun _ _ => rfl, fun i hi => by simp at hi⟩
  | v :: r, o, w, cur, t, h => by
    have h1 := heap_setCell_same w b o cur t v h
    obtain ⟨cur', h2, h3, h4, h5⟩ := setCells_all b r (o + 1) (w.setCell ⟨b, o, none⟩ v) _ t h1
    refine ⟨cur', h2, by rw [h3]; simp, fun i hi => ?_, fun i hi hs => ?_⟩
    · rw [List.length_cons] at hi
      rw [h4 i (by omega), Array.getElem?_setIfInBounds, if_neg (by omega)]
    · rw [List.length_cons] at hi hs
      cases i with
      | zero =>
        rw [Nat.add_zero, h4 o (by omega), Array.getElem?_setIfInBounds, if_pos rfl, if_pos (by omega)]; rfl
      | succ i =>
        rw [show o + (i + 1) = o + 1 + i by omega, h5 i (by omega) (by simp; omega)]; rfl
theorem setCells_below (b : Nat) : ∀ (vs : List Value) (o : Nat) (w : World), (w.setCells b o vs).os = w.os ∧ (w.setCells b o vs).tape = w.tape ∧ (w.setCells b o vs).output = w.output ∧ w.heap.size ≤ (w.setCells b o vs).heap.size ∧ ∀ k, k ≠ b → (w.setCells b o vs).heap[k]? = w.heap[k]?
  | [], _, _ => ⟨rfl, rfl, rfl, Nat.le_refl _, fun _ _ => rfl⟩
  | v :: r, o, w => by
    have h := setCells_below b r (o + 1) (w.setCell ⟨b, o, none⟩ v)
    have hb : Below 0 w (w.setCell ⟨b, o, none⟩ v) := (Below.refl 0 w).setCell (p := ⟨b, o, none⟩) (Nat.zero_le _) v
    exact ⟨h.1.trans hb.os, h.2.1.trans hb.tape, h.2.2.1.trans hb.output, Nat.le_trans hb.size h.2.2.2.1, fun k hk => (h.2.2.2.2 k hk).trans (heap_setCell_other w ⟨b, o, none⟩ k v hk)⟩
end Go.Proofs.YtllbbbfkdgjffaaGreatDoor
namespace Go.Proofs.YtllbbbfkdgjffaaGreatDoor
open Go.RowKit

section
variable {ops : Array Oper} {o : Oper} {a : Act} {w : World} {K : Act → World → Prop} {Q : Exit → Act → World → Prop} {E : Prop}
/-- A call of a function, or of a function value without captured ones, as a step of a region that draws. -/
theorem stepFn (f : FuncId) (y : Operand) (xs : List Operand) (ts : Array TypeId) (args : List Value) (hop : o.op = .call { callee := .value y, args := xs.toArray, argTypes := ts }) (hg : o.guard = none) (hy : a.eval y = .func (.func f) #[] #[]) (hx : xs.map a.eval = args) (hE : ∀ w, (callFunc f args.toArray).run Tryz.prog w = .ok (.enter f args.toArray) w)
    (Φ : Ending → World → Prop) (hC : Calls Tryz.prog f args.toArray w Φ) (hK : ∀ e w', Φ e w' → (∃ v, e = .returned v ∧ K (a.put o.dst v) w') ∨ ∃ ch, e = .panicked ch ∧ Q (.panic ch) a w') : if Region.wanted o (yielded ops a.tmps) = true then Oper.wp Tryz.prog o a w K Q else E := by
  have hw : Region.wanted o (yielded ops a.tmps) = true := by simp [Region.wanted, hg]
  rw [if_pos hw]
  have hrun : (execOp a.eval o).run Tryz.prog w = .ok (.enter f args.toArray) w := by
    unfold execOp
    simp only [hop, resolve, invoke, Deferred.ofValue, hy, Sem.run_bind, Sem.run_pure, Result.andThen_ok, List.map_toArray, hx, Array.append_empty, Array.empty_append, hE]
  show Oper.upon Tryz.prog o a K Q ((execOp a.eval o).run Tryz.prog w)
  rw [hrun, Oper.upon_enter]
  refine hC.mono ?_
  intro e w' h
  rcases hK e w' h with ⟨v, rfl, hk⟩ | ⟨ch, rfl, hk⟩
  · exact hk
  · exact hk
end

theorem or_bit {x : Int} {k : Nat} (h0 : 0 ≤ x) (h1 : x < 2 ^ k) (hk : k < 64) : bits .or .u64 x (IntKind.u64.wrap (2 ^ k)) = x + 2 ^ k := by
  obtain ⟨a, rfl⟩ := Int.eq_ofNat_of_zero_le h0
  have e0 : ((2 ^ k : Nat) : Int) = (2 : Int) ^ k := by rw [Int.natCast_pow]; rfl
  have hp : (2 : Int) ^ k < 18446744073709551616 := by
    have : (2 : Nat) ^ k < 2 ^ 64 := Nat.pow_lt_pow_right (by omega) hk
    have e2 : (2 : Nat) ^ 64 = 18446744073709551616 := by decide
    omega
  have hp0 : (0 : Int) < 2 ^ k := Int.pow_pos (by omega)
  have e1 : IntKind.u64.wrap (2 ^ k : Int) = ((2 ^ k : Nat) : Int) := by
    rw [IntKind.wrap_u64, Int.emod_eq_of_lt (by omega) hp, e0]
  have h1' : a < 2 ^ k := by exact_mod_cast h1
  have hp' : (2 : Nat) ^ k < 18446744073709551616 := by rw [← e0] at hp; omega
  rw [e1, u64_or_nat a (2 ^ k) (by omega) hp', Nat.or_comm]
  have := Nat.two_pow_add_eq_or_of_lt h1' 1
  rw [Nat.mul_one] at this
  rw [← this]
  rw [Int.natCast_add, e0]
  exact Int.add_comm _ _
theorem mb_step (f : Nat → Int) (k : Nat) (h : f (11 + k) ≠ 0) : mb f (k + 1) = mb f k + 2 ^ k := by
  show mb f k + _ = _
  rw [if_neg h]
theorem mb_skip (f : Nat → Int) (k : Nat) (h : f (11 + k) = 0) : mb f (k + 1) = mb f k := by
  show mb f k + _ = _
  rw [if_pos h]; omega
theorem fs_step (f : Nat → Int) (k : Nat) (h : f (11 + k) ≠ 0) : fs f (k + 1) = fs f k ++ (dg (f k) (sz k) ++ dg (f (11 + k)) (sz k)) := by
  show fs f k ++ ent f k = _
  unfold ent; rw [if_neg h]
theorem fs_skip (f : Nat → Int) (k : Nat) (h : f (11 + k) = 0) : fs f (k + 1) = fs f k := by
  show fs f k ++ ent f k = _
  unfold ent; rw [if_pos h, List.append_nil]

section
variable {S : Nat → Prop} {c m : Nat}
theorem Wt.drew {w : World} {xs : List Int} (h : Wt S w c m xs) : Wt S w.drew c m xs := by
  have hb : Below w.heap.size w w.drew := (Below.refl _ _).drew
  exact (h.hide hb).back h.gd hb.size
set_option maxHeartbeats 1600000 in
set_option maxRecDepth 100000 in
theorem wmatch_any {w : World} {xs : List Int} (hW : Wt S w c m xs) (f : Nat → Int) (_hf : ∀ k, k < 22 → InB (f k)) :
    Calls Tryz.prog 102 #[.pointer (some ⟨c, 0, none⟩), mv f] w (WrP S c m xs (encMt f) (mOk f) w) := by
  have hb1 : Below w.heap.size w (w.alloc (.cells (row 22 f) 28)) := (Below.refl _ _).alloc (Nat.le_refl _) _
  have hB : Blk (w.alloc (.cells (row 22 f) 28)) w.heap.size 22 28 f := Blk.new w 22 28 f
  have hs1 : (w.alloc (.cells (row 22 f) 28)).heap.size = w.heap.size + 1 := by simp
  have HI := hid (isMatch_any f (w.alloc (.cells (row 22 f) 28)) (hW.gd.tab.on hb1))
  have HG := hid hW.gd
  have HM : Hid (∀ w2, Below (w.alloc (.cells (row 22 f) 28)).heap.size (w.alloc (.cells (row 22 f) 28)) w2 → Below w.heap.size w w2 ∧ Wt (Sx S w.heap.size w2.heap.size) w2 c m xs ∧ ∀ w3, Only (OS c (Sx S w.heap.size w2.heap.size)) w2 w3 → Blk w3 w.heap.size 22 28 f ∧ Tab w3) := by
    show ∀ _, _
    intro w2 h2
    have hb := hb1.trans (h2.mono (by rw [hs1]; omega))
    have hWh := hW.hide hb
    refine ⟨hb, hWh, fun w3 ho => ⟨?_, (hWh.gd.on ho).tab⟩⟩
    have hsz := h2.size
    show w3.heap[w.heap.size]? = _
    rw [only_mid hW.gd ho _ (Nat.le_refl _) (by omega), h2.block _ (by omega)]
    exact hB
  clear hb1 hs1 hW
  cases ho : mOk f with
  | false =>
    rw [ho] at HI
    clear ho
    go_enter Tryz.func102, Tryz.ntmps102
    go_wp2_with (first
      | (refine ld26 (.tmp 3) rfl _ rfl rfl f hB ?_)
      | (go_at_call 122; refine (HI.out).mono ?_; rintro e w2 ⟨rfl, hb⟩; have HQ := hid (HM.out w2 hb).1; clear hb)
      | (go_at_call 30; refine (must_false _).mono ?_; rintro e w' ⟨rfl, hw⟩; rw [hw]; clear hw w'))
    exact ⟨rfl, WrP.no (Only.of HQ.out fun k hk => Or.inr (HG.out.fresh k hk))⟩
  | true =>
    rw [ho] at HI
    clear ho
    go_enter Tryz.func102, Tryz.ntmps102
    go_wp2_with (first
      | (refine ld26 (.tmp 3) rfl _ rfl rfl f hB ?_)
      | (go_at_call 122; refine (HI.out).mono ?_; rintro e w2 ⟨rfl, hb⟩; have HQ := hid (HM.out w2 hb); have HB2 := hid (HQ.out.2.2 w2 (Only.refl _ _)); clear hb)
      | (go_at_call 30; refine (must_true _).mono ?_; rintro e w' ⟨rfl, hw⟩; rw [hw]; clear hw w')
      | (refine ldMask (.tmp 12) rfl _ rfl rfl f HB2.out.1 ?_))
    clear HI HM hB
    go_loop [4, 14] (fun x i => ∃ k : Nat, k ≤ 11 ∧ i = .int .i64 k ∧ x = .int .u64 (mb f k)) (fun _ i => 11 - (intOf i).toNat)
    case atStart => exact ⟨0, by omega, rfl, rfl⟩
    case round =>
      obtain ⟨k, hk, rfl, rfl⟩ := hrel
      by_cases hlt : k < 11
      · have hidx : ∀ W, (Instr.index 26 (hv fun k => f (11 + k)) (.int .i64 (k : Int))).run Tryz.prog W = .ok (.int .u64 (f (11 + k))) W := fun W => idx_hv (fun k => f (11 + k)) k hlt W
        have hb := mb_bd f k
        by_cases hz : f (11 + k) = 0
        · have t : (f (11 + k) != 0) = false := by simp [hz]
          have HS := hid (mb_skip f k hz)
          clear hz hb
          go_wp2
          go_round
          case rel => exact ⟨k + 1, by omega, by go_num, by rw [HS.out]⟩
          case measure => simp [intOf]; omega
        · have t : (f (11 + k) != 0) = true := by simp [hz]
          have HS := hid (mb_step f k hz)
          have HB := hid (or_bit hb.1 hb.2 (show k < 64 by omega))
          clear hz hb
          generalize mb f k = y at HB HS ⊢
          go_wp2
          go_round
          case rel => exact ⟨k + 1, by omega, by go_num, by rw [HS.out, ← HB.out]⟩
          case measure => simp [intOf]; omega
      · obtain rfl : k = 11 := by omega
        have hb := mb_bd f 11
        have HN := hid (wnumber_on (Only.refl _ _) HQ.out.2.1 2 (mb f 11) (by omega) (by omega))
        have hy0 := hb.1
        have hy1 : mb f 11 < 2048 := hb.2
        obtain ⟨y, HY⟩ : ∃ y, Hid (mb f 11 = y) := ⟨_, rfl⟩
        rw [HY.out] at HN hy0 hy1
        simp only [HY.out]
        clear hb
        go_wp2_with (first
          | (refine ldMask (.tmp 28) rfl _ rfl rfl f HB3.out.1 ?_)
          | (go_at_call 32; refine (HN.out).mono ?_; rintro e w3 ⟨rfl, hq⟩; have H1 := hid hq; have HB3 := hid (HQ.out.2.2 w3 hq.1); clear hq))
        clear HN
        go_loopw [30] (fun i wr => ∃ k : Nat, k ≤ 11 ∧ i = .int .i64 k ∧ Only (OS c (Sx S w.heap.size w2.heap.size)) w2 wr ∧ Wt (Sx S w.heap.size w2.heap.size) wr c m (xs ++ (dg y 2 ++ fs f k))) (fun i _ => 11 - (intOf i).toNat)
        case atStart => exact ⟨0, by omega, rfl, H1.out.1, by simpa [fs] using H1.out.2⟩
        case round =>
          obtain ⟨k, hk, rfl, ho, hW⟩ := hrel
          have HO := hid ho
          have HW := hid hW
          clear ho hW H1 HB3
          by_cases hlt : k < 11
          · have hidx : ∀ W, (Instr.index 26 (hv fun k => f (11 + k)) (.int .i64 (k : Int))).run Tryz.prog W = .ok (.int .u64 (f (11 + k))) W := fun W => idx_hv (fun k => f (11 + k)) k hlt W
            by_cases hz : f (11 + k) = 0
            · have t : (f (11 + k) != 0) = false := by simp [hz]
              have HS := hid (fs_skip f k hz)
              clear hz
              go_wp2
              go_roundw
              case rel => exact ⟨k + 1, by omega, by go_num, HO.out, by rw [HS.out]; exact HW.out⟩
              case measure => simp [intOf]; omega
            · have t : (f (11 + k) != 0) = true := by simp [hz]
              have HS := hid (fs_step f k hz)
              have hq := HQ.out.2.2 wr HO.out
              have c1 := hq.2.1 k hlt
              have c2 := hq.1.cell k (by omega)
              have hsz := sz_pos k hlt
              have hsz2 := sz_le k
              have HN := hid (wnumber_on (HO.out.drew) (HW.out.drew) (sz k) (f k) (by omega) hsz)
              have HTab := hid (fun w3 (h : Only (OS c (Sx S w.heap.size w2.heap.size)) w2 w3) => (HQ.out.2.2 w3 h).2.1 k hlt)
              clear hz hq
              go_wp2
              go_region_law (refine stepFn 32 (.func 32) _ _ [.pointer (some ⟨c, 0, none⟩), .int .i64 (sz k), .int .u64 (f k)] rfl rfl rfl rfl (fun _ => rfl) _ (HN.out) ?_; rintro e w4 ⟨rfl, hq⟩; refine Or.inl ⟨_, rfl, ?_⟩; have H4 := hid hq; have c4 := HTab.out w4 hq.1; clear hq)
              all_goals
                go_wp2_with (go_at_call 32; refine (wnumber_on H4.out.1 H4.out.2 (sz k) (f (11 + k)) (by omega) hsz).mono ?_; rintro e w5 ⟨rfl, hq⟩; have H5 := hid hq; clear hq)
                go_roundw
                case rel => exact ⟨k + 1, by omega, by go_num, H5.out.1, by rw [HS.out]; simpa only [List.append_assoc] using H5.out.2⟩
                case measure => simp [intOf]; omega
          · obtain rfl : k = 11 := by omega
            go_wp2
            first | go_end0 | refine bodyPost_ret (results_none rfl _ _ _) rfl ?_
            have ho2 := only_back HG.out HQ.out.1 HO.out
            have hfin := HW.out.back HG.out ho2.size
            rw [← HY.out] at hfin
            exact WrP.yes ho2 hfin
end
end Go.Proofs.YtllbbbfkdgjffaaGreatDoor
