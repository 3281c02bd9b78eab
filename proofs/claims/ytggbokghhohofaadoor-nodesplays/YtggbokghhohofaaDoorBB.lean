/-
  Proved here: leafRows of package nodes: rows in order, each once, in new memory; or that some are none. Conditions: the rows lie where they are said to; fewer than a million rows, of fewer than 2 to 31 settings each.
-/
import Derived.Test.YtggbokghhohofaaDoorBA
import Derived.Laws.MakeOwn
namespace Go.Proofs.YtggbokghhohofaaDoor
open Go.RowKit
set_option maxRecDepth 100000

theorem madeR (n : Nat) (hn : n ≤ 1000000) : ∃ zs : Array Value, zs.size = n ∧ ∀ w, (Instr.makeSlice 31 (.int .i64 0) (.int .i64 ((n : Nat) : Int))).run Tryd.prog w = .ok (.slice (some ⟨w.heap.size, 0, none⟩) 0 n) (w.alloc (.cells zs 52)) := by
  obtain ⟨i, hi, hz0, hz1, hz2⟩ := info_parts infACTS
  refine ⟨madeCells (Value.slice none 0 0).cells (n * 1), by simp [size_madeCells], fun w => ?_⟩
  have := run_make (P := Tryd.prog) w 31 52 i (.slice none 0 0) Tryd.underlying31 hi hz0 .i64 .i64 0 n (Int.le_refl _) (by omega) (by rw [hz2]; omega) (by omega)
  rw [hz1] at this
  simpa using this
/-- where the loop is: the rows so far -/
structure LrS (w : World) (d : List Rv) (v : Value) (wr : World) : Prop where
  low : Below w.heap.size w wr
  rw : Rw (fun b => w.heap.size ≤ b) 1 52 wr v d.length (d.map (·.1))
  ac : ∀ x ∈ d, Acs (fun b => w.heap.size ≤ b ∧ v.ownBlock ≠ some b) wr x.1 x.2
theorem LrS.more {w : World} {d : List Rv} {v : Value} {wr w' : World} (h : LrS w d v wr) (hb : Below wr.heap.size wr w') : LrS w d v w' :=
  ⟨h.low.trans (hb.mono h.low.size), h.rw.carry fun b hb' hS => ⟨hS, hb.block b hb'⟩, fun x hx => (h.ac x hx).on hb⟩
theorem LrS.app {w : World} {d : List Rv} {v v' : Value} {wr w' : World} (h : LrS w d v wr) (u : Value) (r : List Ac) (hu : Acs (fun b => w.heap.size ≤ b ∧ v.ownBlock ≠ some b) wr u r) (hA : Apd wr v w') (hR : ∀ S : Nat → Prop, Rw S 1 52 wr v d.length (d.map (·.1)) → Rw (fun b => S b ∨ wr.heap.size ≤ b) 1 52 w' v' (d.length + 1) (d.map (·.1) ++ [u])) : LrS w (d ++ [(u, r)]) v' w' := by
  have h1 := hR _ h.rw
  have h2 := hR _ h.rw.self
  have hz := h.low.size
  have hc : ∀ b, b < wr.heap.size → (w.heap.size ≤ b ∧ v.ownBlock ≠ some b) → (w.heap.size ≤ b ∧ v'.ownBlock ≠ some b) ∧ w'.heap[b]? = wr.heap[b]? := fun b hb hT => ⟨⟨hT.1, fun e => by
    rcases h2.own b e with ⟨_, q⟩ | q
    · exact hT.2 q
    · omega⟩, hA.block b hb hT.2⟩
  refine ⟨h.low.trans ⟨hA.os, hA.tape, hA.output, hA.size, fun k hk => hA.block k (by omega) fun e => by have := h.rw.own k e; omega⟩, ?_, fun x hx => ?_⟩
  · rw [List.length_append, List.map_append]
    exact h1.carry fun b _ hS => ⟨by omega, rfl⟩
  · rcases List.mem_append.1 hx with hx | hx
    · exact Acs.carry hc (h.ac x hx)
    · obtain rfl := List.mem_singleton.1 hx
      exact Acs.carry hc hu
/-- Rows of one's own as rows. -/
theorem cps_rv {S : Nat → Prop} {w : World} {v : Value} {d : List Rv} (h : Rw S 1 52 w v d.length (d.map (·.1))) (ha : ∀ x ∈ d, Acs S w x.1 x.2) (hl : d.length ≤ 2147483648) : Cps S w v (d.map (·.2)) := by
  refine cps_of (S := S) (us := d.map (·.1)) (by rw [List.length_map]; exact h) (fun j hj => ?_) (by simpa using hl) (fun _ h => h)
  have hj' : j < d.length := by simpa using hj
  exact ⟨d[j].1, by simp [hj'], by rw [List.getElem_map]; exact ha _ (List.getElem_mem _)⟩
theorem cpt_mapR (d : List Rv) : (cpt qR d).map (·.2) = cpt (fun a b => decide (cmpR a b = 0)) (d.map (·.2)) := by
  have key : ∀ (p : Rv) (l : List Rv), (cptA qR p l).map (·.2) = cptA (fun a b => decide (cmpR a b = 0)) p.2 (l.map (·.2)) := by
    intro p l
    induction l generalizing p with
    | nil => rfl
    | cons b l ih =>
      rw [List.map_cons, cptA, cptA]
      by_cases h : cmpR b.2 p.2 = 0
      · simp [qR, h]; exact ih b
      · simp [qR, h]; exact ih b
  cases d with
  | nil => rfl
  | cons a l => rw [cpt, List.map_cons, List.map_cons, cpt, key]
theorem Cps.cell1 {T : Nat → Prop} {w : World} {ao : Option Addr} {n cap : Nat} {L : List (List Ac)} (h : Cps T w (.slice ao n cap) L) (j : Nat) (hj : j < L.length) : ∃ b o u, ao = some ⟨b, o, none⟩ ∧ T b ∧ w.cell? ⟨b, o + j, none⟩ = some u ∧ Acs T w u L[j] := by
  obtain ⟨b, o, e, hT, u, h1, h2⟩ := h.cell j hj
  simp only [Nat.mul_one, Nat.add_zero] at h1
  exact ⟨b, o, u, e, hT, h1, h2⟩
set_option maxHeartbeats 6400000 in
theorem leafRows_any {T : Nat → Prop} (w : World) (v : Value) (L : List (List Ac)) (h : Cps T w v L) (hT : Tab w) (hTl : ∀ b, T b → b < w.heap.size) (hn : L.length ≤ 1000000) (hr : ∀ r ∈ L, r.length < 2147483648) :
    Calls Tryd.prog 21 #[v] w fun e w' => Below w.heap.size w w' ∧ ((nrows L = none ∧ e = .returned (.tuple #[nilS, .bool false])) ∨ ∃ v' K, nrows L = some K ∧ e = .returned (.tuple #[v', .bool true]) ∧ Cps (fun b => w.heap.size ≤ b) w' v' K) := by
  obtain ⟨ao, cap, rfl, hcap⟩ := h.form
  have hlen := h.len
  obtain ⟨zs, hz1, hz2⟩ := madeR L.length hn
  have HA := hid h
  have HT := hid hT
  have HR := hid hr
  have HS0 : Hid (LrS w [] (.slice (some ⟨w.heap.size, 0, none⟩) 0 L.length) (w.alloc (.cells zs 52))) := ⟨(Below.refl _ _).alloc (Nat.le_refl _) _, ⟨by simp, Or.inr ⟨w.heap.size, 0, L.length, zs, rfl, Nat.le_refl _, heap_alloc_new _ _, Nat.zero_le _, by omega, by simp⟩⟩, fun x hx => by cases hx⟩
  clear h hT hr
  go_enter Tryd.func21, Tryd.ntmps21
  go_upto_region 3 with fail
  generalize w.alloc (.cells zs 52) = w0 at HS0 ⊢
  clear hz1 hz2
  go_loopw [4, 13] (fun vv i wr => ∃ (j : Nat) (d : List Rv) (v4 : Value), v4 = vv ∧ i = .int .i64 ((j : Nat) : Int) ∧ j ≤ L.length ∧ d.length = j ∧ Hid ((L.take j).all rowOk = true) ∧ Hid (d.map (·.2) = (L.take j).map srt) ∧ Hid (LrS w d v4 wr)) (fun _ i _ => L.length - (intOf i).toNat)
  case atStart => exact ⟨0, [], _, rfl, rfl, Nat.zero_le _, rfl, by show _ = _; simp, by show _ = _; simp, HS0.out⟩
  case round =>
    clear HS0
    obtain ⟨j, d, v4, rfl, rfl, hj1, hdj, HO, HD, HS⟩ := hrel
    by_cases hj : j < L.length
    · obtain ⟨b, o, u, rfl, hTb, hu, hAc⟩ := HA.out.cell1 j hj
      have hd : decide ((j : Int) < (L.length : Int)) = true := by simp; omega
      have hjc : j < cap := by omega
      have hw3 : IntKind.i64.wrap ((j : Int) + 1) = (j : Int) + 1 := by rw [IntKind.wrap_i64]; omega
      have hu1 : wr.cell? ⟨b, o + j, none⟩ = some u := (cell_same (HS.out.low.block _ (hTl b hTb))).trans hu
      have hAc1 : Acs T wr u L[j] := hAc.carry fun b hb hTb => ⟨hTb, HS.out.low.block b hb⟩
      have hrl := HR.out _ (List.getElem_mem hj)
      have hfit := hAc1.fit
      have HAc := hid hAc1
      have HTk : Hid (L.take (j + 1) = L.take j ++ [L[j]]) := by show _ = _; simp
      have HM : Hid (L[j] ∈ L) := List.getElem_mem hj
      generalize L[j] = r at HAc HTk HM hrl hfit
      have hsz := HS.out.low.size
      have HCF := hid (conF_any wr u r HAc.out (HT.out.on HS.out.low) (fun b hb => Nat.lt_of_lt_of_le (hTl b hb) hsz))
      have HFit := hid hfit
      obtain ⟨au, cu, hux, hcu⟩ := HAc.out.form
      subst hux
      clear hu hAc hAc1 hfit
      cases hok : r.all okS
      · have HN : Hid (nrows L = none) := by
          show _ = _
          unfold nrows
          rw [if_neg]
          intro hh
          have := List.all_eq_true.1 hh r HM.out
          simp [rowOk, hok] at this
        rw [hok] at HCF
        go_wp2_with (go_at_call 32; refine (HCF.out).mono ?_; rintro e w2 ⟨rfl, hb⟩; have HB := hid (HS.out.more hb); clear hb HCF)
        refine bodyPost_ret (results_tmp2 rfl _ _ _) rfl ?_
        exact ⟨HB.out.low, Or.inl ⟨HN.out, rfl⟩⟩
      · rw [hok] at HCF
        go_upto_region 7 with (go_at_call 32; refine (HCF.out).mono ?_; rintro e w2 ⟨rfl, hb⟩; have HB := hid hb; clear hb HCF)
        have HS2 := hid (HS.out.more HB.out)
        have HAc2 := hid (HAc.out.on HB.out)
        have HIA := hid (inA_any w2 (.slice au r.length cu) r HAc2.out hrl)
        clear HS HB HAc HAc2 hu1
        go_upto_region 8 with (go_at_call 34; refine (HIA.out).mono ?_; rintro e w3 ⟨v3, ds, rfl, q1, q2, q3, q4⟩; have HQ := hid (And.intro q1 (And.intro q2 (And.intro q3 q4))); clear q1 q2 q3 q4 HIA)
        have HCP : Hid (if (r.map (·.fd)).Nodup then cpt qF ds = srt r else (cpt qF ds).length < r.length) := cpt_row HQ.out.2.1 HQ.out.2.2.1
        have HS3 := hid (HS2.out.more HQ.out.1)
        obtain ⟨a3, c3, rfl, -⟩ := HQ.out.2.2.2.room
        by_cases hnd : (r.map (·.fd)).Nodup
        · have hcp : cpt qF ds = srt r := by have := HCP.out; rwa [if_pos hnd] at this
          have hl3 : (cpt qF ds).length = r.length := by rw [hcp]; exact (srt_perm r).length_eq
          have hu3 : Acs (fun b => w.heap.size ≤ b ∧ v4.ownBlock ≠ some b) w3 (.slice a3 (cpt qF ds).length c3) (srt r) := by
            have := HQ.out.2.2.2
            rw [hcp] at this ⊢
            refine (acs_of this (fun a ha => HFit.out a ((srt_perm r).mem_iff.1 ha)) (by rw [(srt_perm r).length_eq]; omega)).carry fun b hb hS => ⟨⟨by have := HS2.out.low.size; omega, fun e => ?_⟩, rfl⟩
            have := HS2.out.rw.ownLt b e
            omega
          have HU3 := hid hu3
          rw [hl3] at HU3 ⊢
          have hlt : decide ((r.length : Int) < (r.length : Int)) = false := by simp
          have HO2 : Hid ((L.take (j + 1)).all rowOk = true) := by show _ = _; rw [HTk.out, List.all_append, HO.out]; simp [rowOk, hok, hnd]
          have HD2 : Hid ((d ++ [((Value.slice a3 r.length c3, srt r) : Rv)]).map (·.2) = (L.take (j + 1)).map srt) := by show _ = _; rw [HTk.out, List.map_append, List.map_append, HD.out]; rfl
          clear hu3 HQ HCP HD hcp hl3 HS2
          have hal : Below w3.heap.size w3 (w3.alloc (.cells #[.slice a3 r.length c3] 52)) := (Below.refl _ _).alloc (Nat.le_refl _) _
          have HS4 := hid (HS3.out.more hal)
          have HU4 := hid (HU3.out.on hal)
          have HC4 : Hid (∀ (i : Nat) (x : Value), ([Value.slice a3 r.length c3] : List Value)[i]? = some x → (w3.alloc (.cells #[.slice a3 r.length c3] 52)).cell? (Addr.add ⟨w3.heap.size, 0, none⟩ i) = some x) := fun i x hx => by
            rw [Addr.add_lit, Nat.zero_add, cell_of_row _ _ _ _ _ _ (heap_alloc_new _ _), ← hx]; simp
          have hdl : d.length < 2147483647 := by omega
          clear hal HS3 HU3
          go_wp2_with (refine appRw (v := v4) (S := fun b => w.heap.size ≤ b) (k := 1) (t := 52) (n := d.length) (m := 1) (c := 1) (xs := d.map (·.1)) (us := [.slice a3 r.length c3]) (ad := ⟨w3.heap.size, 0, none⟩) (.tmp 26) (.tmp 28) 31 rfl rfl rfl rfl Tryd.underlying31 infACTS rfl (by omega) (by omega) HS4.out.rw (by simp) HC4.out (by intro x hx; obtain rfl := List.mem_singleton.1 hx; rfl) (by omega) (Or.inl (by omega)) ?_; intro v6 w6 hap hrw; have HS6 := hid (HS4.out.app _ _ HU4.out hap hrw); clear hap hrw HS4 HU4 HC4)
          go_roundw
          case rel => exact ⟨j + 1, d ++ [(.slice a3 r.length c3, srt r)], v6, rfl, by rw [show (((j + 1 : Nat) : Nat) : Int) = (j : Int) + 1 by omega], hj, by simp [hdj], HO2, HD2, HS6⟩
          case measure => simp [intOf]; omega
        · have hcp : (cpt qF ds).length < r.length := by have := HCP.out; rwa [if_neg hnd] at this
          obtain ⟨m, hm⟩ : ∃ m, (cpt qF ds).length = m := ⟨_, rfl⟩
          rw [hm] at hcp ⊢
          have hlt : decide ((m : Int) < (r.length : Int)) = true := by simp; omega
          have HN : Hid (nrows L = none) := by
            show _ = _
            unfold nrows
            rw [if_neg]
            intro hh
            have := List.all_eq_true.1 hh r HM.out
            simp [rowOk, hok, hnd] at this
          clear hcp HCP hm HQ
          have hlt2 : (m : Int) < (r.length : Int) := by simpa using hlt
          go_wp2
          refine bodyPost_ret (results_tmp2 rfl _ _ _) rfl ?_
          exact ⟨HS3.out.low, Or.inl ⟨HN.out, rfl⟩⟩
    · have hd : decide ((j : Int) < (L.length : Int)) = false := by simp; omega
      obtain rfl : j = L.length := by omega
      have hall : L.all rowOk = true := by have := HO.out; rwa [List.take_length] at this
      have hdm : d.map (·.2) = L.map srt := by have := HD.out; rwa [List.take_length] at this
      have HN : Hid (nrows L = some (canon (L.map srt))) := by show _ = _; unfold nrows; rw [if_pos hall]
      have hk : Kd (L.map srt) := fun r hr a ha => by
        obtain ⟨r0, hr0, rfl⟩ := List.mem_map.1 hr
        have h1 := List.all_eq_true.1 hall r0 hr0
        simp only [rowOk, Bool.and_eq_true] at h1
        have := List.all_eq_true.1 h1.1 a ((srt_perm r0).mem_iff.1 ha)
        simp only [okS, Bool.and_eq_true, decide_eq_true_eq] at this
        exact this.1
      have HK := hid hk
      have HDM := hid hdm
      have HIR := hid (inR_any (T := fun b => w.heap.size ≤ b ∧ b < wr.heap.size) wr v4 d HS.out.rw (fun x hx => (HS.out.ac x hx).carry fun b hb hS => ⟨⟨hS.1, hb⟩, rfl⟩) (fun b hb => hb.2) (by omega))
      clear hk hdm hall
      go_wp2_with (go_at_call 36; refine (HIR.out).mono ?_; rintro e w3 ⟨v3, ds, rfl, q1, q2, q3, q4, q5⟩; have HQ := hid (And.intro q1 (And.intro q2 (And.intro q3 (And.intro q4 q5)))); clear q1 q2 q3 q4 q5 HIR)
      refine bodyPost_ret (results_tmp2 rfl _ _ _) rfl ?_
      obtain ⟨q1, q2, q3, q4, q5⟩ := HQ.out
      refine ⟨HS.out.low.trans (q1.mono HS.out.low.size), Or.inr ⟨v3, _, HN.out, rfl, ?_⟩⟩
      have e1 : canon (L.map srt) = (cpt qR ds).map (·.2) := by
        rw [cpt_mapR]
        exact (cpt_rows HK.out (by rw [← HDM.out]; exact q2.map _) (List.pairwise_map.2 q3)).symm
      rw [e1]
      have hsz := HS.out.low.size
      exact cps_rv (q4.carry fun b _ hS => ⟨by omega, rfl⟩) (fun x hx => (q5 x hx).carry fun b _ hS => ⟨hS.1, rfl⟩) (by have := cpt_le qR ds; have := q2.length_eq; omega)
end Go.Proofs.YtggbokghhohofaaDoor
