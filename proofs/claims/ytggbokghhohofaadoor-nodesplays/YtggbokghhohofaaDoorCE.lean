/-
  Proved here: Test of package nodes, over a store in memory. Conditions: the arguments fit their kinds.
-/
import Derived.Test.YtggbokghhohofaaDoorCD
namespace Go.Proofs.YtggbokghhohofaaDoor
open Go.RowKit Go.Maps
set_option maxRecDepth 100000

theorem runLk {o : Oper} {a : Act} {w' : World} {t : TypeId} (m x : Operand) (ho : o.op = .lookup t m x true) {b : Nat} {k v : Value} (hm : a.eval m = .map (some b)) (hx : a.eval x = k) (h : (Instr.lookup t (.map (some b)) k true).run Tryd.prog w' = .ok v w') : (execOp a.eval o).run Tryd.prog w' = .ok (.value v) w' := by
  unfold execOp
  simp [ho, hm, hx, h, Result.andThen]
theorem inL_iff {all : List Nd} {i : Int} (h : inL all i = true) : ∃ k : Nat, i = (k : Int) ∧ k < all.length := by
  simp only [inL, Bool.and_eq_true, decide_eq_true_eq] at h
  exact ⟨i.toNat, by omega, by omega⟩
theorem nd_at {all : List Nd} (k : Nat) (h : k < all.length) : nd all ((k : Nat) : Int) = all[k] := by
  unfold nd
  rw [Int.toNat_natCast, List.getD_eq_getElem?_getD, List.getElem?_eq_getElem h]; rfl
theorem infoTEST (fd n hi lo : Int) : (Tryd.prog.info? 70).map (·.size) = some (tkc fd n hi lo).size := by show _ = some 4; kernel_rfl
theorem run_bN (fd n hi lo : Int) (w : World) : (Instr.build 41 #[(0, .int .i8 fd), (1, .int .u64 n), (2, .int .i64 hi), (3, .int .i64 lo)]).run Tryd.prog w = .ok (.agg (ndc (nilS, tsN fd n hi lo))) w := by kernel_rfl
/-- What the look-up reads. -/
structure Hlk (p tb bt nt : Nat) (Gt : Lit → Option Value) (fd n hi lo : Int) (w : World) : Prop where
  c1 : w.cell? ⟨p, 1, none⟩ = some (.map (some bt))
  tb : w.rangeAt tb 0 (tkc fd n hi lo).toList
  mp : Mp w 70 bt nt Gt
theorem z64 (w : World) : (zeroValue 3).run Tryd.prog w = .ok (.int .i64 0) w := Tryd.zeroValue3 w
/-- What the store into the map reads. -/
structure Hup (p tb bt : Nat) (fd n hi lo : Int) (w : World) : Prop where
  c1 : w.cell? ⟨p, 1, none⟩ = some (.map (some bt))
  tb : w.rangeAt tb 0 (tkc fd n hi lo).toList
theorem Hup.of {p tb bt : Nat} {fd n hi lo : Int} {w : World} (h : w.cell? ⟨p, 1, none⟩ = some (.map (some bt))) (ht : w.heap[tb]? = some (.cells (tkc fd n hi lo) 70 (0, 0))) : Hup p tb bt fd n hi lo w :=
  ⟨h, range_of fun i hi => by rw [Nat.zero_add, cell_of_row _ _ _ _ _ _ ht]⟩
theorem updL_iff {G : Lit → Option Value} {k0 : Lit} {val : Value} (hn : G k0 = none) (k : Lit) (v : Value) : updL G k0 (some val) k = some v ↔ G k = some v ∨ (k = k0 ∧ v = val) := by
  by_cases e : k = k0
  · subst e
    rw [updL_same, hn]
    simp only [Option.some.injEq, reduceCtorEq, false_or, true_and]
    exact ⟨fun h => h.symm, fun h => h.symm⟩
  · rw [updL_other _ _ e]; simp [e]
set_option maxHeartbeats 12800000 in
theorem test_any {B p : Nat} {w : World} {all : List Nd} (h : St B p w all) (fd n hi lo : Int) (hf : Tf fd n hi lo) (hT : Tab w) : Calls Tryd.prog 13 #[ptr p, .int .i8 fd, .int .u64 n, .int .i64 hi, .int .i64 lo] w fun e w' => ∃ id er all', e = .returned (.tuple #[.int .i64 id, .int .i64 er]) ∧ TestR all fd n hi lo id er all' ∧ St B p w' all' ∧ StFr B w w' := by
  have HH0 := hid h
  have hlen : all.length ≤ 65536 := by obtain ⟨va, bt, bl, nt, nl, Gt, Gl, d, hs⟩ := h; exact hs.len
  have HT := hid hT
  have HTf := hid hf
  clear hT h hf
  go_enter Tryd.func13, Tryd.ntmps13
  go_upto_region 3 with fail
  go_cut [19] from 20 (fun s19 wc => s19 = .bool (!okT all fd n hi lo) ∧ Hid (Below w.heap.size w wc))
  case first =>
    have HF := hid (fits_any fd n HTf.out.n w HT.out)
    have HX := hid (fun i => has_any HH0.out i)
    cases e1 : fitB fd n
    · have HK : Hid (okT all fd n hi lo = false) := by show _ = _; unfold okT; rw [e1]; rfl
      rw [e1] at HF
      go_wp2_with (go_at_call 27; refine (HF.out).mono ?_; rintro e w' ⟨rfl, rfl⟩)
      go_meet
      case rel => exact ⟨by rw [HK.out]; rfl, Below.refl _ _⟩
    · cases e2 : inL all hi
      · have HK : Hid (okT all fd n hi lo = false) := by show _ = _; unfold okT; rw [e1, e2]; rfl
        rw [e1] at HF
        go_wp2_with (first
          | (go_at_call 27; refine (HF.out).mono ?_; rintro e w' ⟨rfl, rfl⟩)
          | (go_at_call 28; refine (HX.out _).mono ?_; rintro e w' ⟨rfl, rfl⟩))
        go_meet
        case rel => exact ⟨by rw [HK.out]; rfl, Below.refl _ _⟩
      · cases e3 : inL all lo
        · have HK : Hid (okT all fd n hi lo = false) := by show _ = _; unfold okT; rw [e1, e2, e3]; rfl
          rw [e1] at HF
          go_wp2_with (first
            | (go_at_call 27; refine (HF.out).mono ?_; rintro e w' ⟨rfl, rfl⟩)
            | (go_at_call 28; refine (HX.out _).mono ?_; rintro e w' ⟨rfl, rfl⟩))
          go_meet
          case rel => exact ⟨by rw [HK.out]; rfl, Below.refl _ _⟩
        · obtain ⟨i, rfl, hi1⟩ := inL_iff e2
          obtain ⟨j, rfl, hj1⟩ := inL_iff e3
          have HO := hid (ordered_any HH0.out fd n i j hi1 hj1 hlen)
          have HK : Hid (okT all fd n ((i : Nat) : Int) ((j : Nat) : Int) = (ordH all[i] fd && ordL all[j] fd n)) := by show _ = _; unfold okT; rw [e1, e2, e3, nd_at i hi1, nd_at j hj1]; rfl
          generalize (ordH all[i] fd && ordL all[j] fd n) = b at HO HK
          rw [e1] at HF
          clear e1
          go_wp2_with (first
            | (go_at_call 27; refine (HF.out).mono ?_; rintro e w' ⟨rfl, rfl⟩)
            | (go_at_call 28; refine (HX.out _).mono ?_; rintro e w' ⟨rfl, rfl⟩)
            | (go_at_call 29; refine (HO.out).mono ?_; rintro e w' ⟨rfl, hb⟩; have HBo := hid hb; clear hb))
          go_meet
          case rel => exact ⟨by rw [HK.out], HBo⟩
  case rest =>
  obtain ⟨rfl, HB1⟩ := hcut
  rename World => W1
  cases hok : okT all fd n hi lo
  · have HOK := hid hok
    go_wp2
    refine bodyPost_ret (results_tmp2 rfl _ _ _) rfl ?_
    exact ⟨0, 2, all, rfl, Or.inl ⟨HOK.out, rfl, rfl, rfl⟩, HH0.out.on HB1.out, StFr.of HB1.out⟩
  · have HOK := hid hok
    have hfd : 0 ≤ fd := by
      have := hok
      simp only [okT, fitB, Bool.and_eq_true, decide_eq_true_eq] at this
      exact this.1.1.1
    clear hok
    by_cases he : hi = lo
    · have he1 : (hi == lo) = true := beq_iff_eq.2 he
      have HE := hid he
      clear he
      go_wp2
      refine bodyPost_ret (results_tmp2 rfl _ _ _) rfl ?_
      exact ⟨hi, 0, all, rfl, Or.inr (Or.inl ⟨HOK.out, HE.out, rfl, rfl, rfl⟩), HH0.out.on HB1.out, StFr.of HB1.out⟩
    · have he1 : (hi == lo) = false := beq_eq_false_iff_ne.2 he
      have HE := hid he
      clear he
      go_upto_region 8 with (refine stNew 70 (.tmp 12) (.tmp 54) rfl rfl W1 70 (tkc 0 0 0 0) (tkc fd n hi lo) rfl rfl rfl (infoTEST _ _ _ _) rfl rfl ?_)
      obtain ⟨va, bt, bl, nt, nl, Gt, Gl, d, hs0⟩ := HH0.out
      have hB2 : Below W1.heap.size W1 (W1.alloc (.cells (tkc fd n hi lo) 70)) := (Below.refl _ _).alloc (Nat.le_refl _) _
      have hwB2 : Below w.heap.size w (W1.alloc (.cells (tkc fd n hi lo) 70)) := HB1.out.trans (hB2.mono HB1.out.size)
      have hs2 := hs0.keep (w' := W1.alloc (.cells (tkc fd n hi lo) 70)) fun b _ h2 => hwB2.block b h2
      have htb := heap_alloc_new W1 (.cells (tkc fd n hi lo) 70)
      have HP := hid (hs0.own)
      obtain ⟨tb, etb⟩ : ∃ tb, tb = W1.heap.size := ⟨_, rfl⟩
      have htw : w.heap.size ≤ tb := by rw [etb]; exact HB1.out.size
      rw [← etb] at htb ⊢
      have HS2 := hid hs2
      have HTB := hid htb
      have HWB := hid hwB2
      have HTW := hid htw
      clear hB2 hwB2 hs2 htb hs0 htw
      generalize W1.alloc (.cells (tkc fd n hi lo) 70) = W2 at HS2 HTB HWB ⊢
      clear etb
      have HL0 : Hid (Hlk p tb bt nt Gt fd n hi lo W2) := ⟨HS2.out.cells.2.1, (Hup.of HS2.out.cells.2.1 HTB.out).tb, HS2.out.mt⟩
      refine wp_region_held_drew (S := Hlk p tb bt nt Gt fd n hi lo) (by kernel_rfl) ⟨HL0.out.c1, HL0.out.tb, HL0.out.mp⟩ (fun hHeld => ?_)
      refine wpAnyH_take (i := 0) (v := ?_) rfl (by kernel_rfl) (by kernel_rfl) (by kernel_rfl) (fun _ _ _ h => h) (Or.inl ⟨by rfl, ?_⟩) hHeld ?_
      rotate_left
      · intro w' hSw
        clear hSw
        go_simp
        first | done | with_reducible rfl
      simp only [Act.put, List.getElem_toArray, List.getElem_cons_zero, List.setIfInBounds_toArray, List.set_cons_zero, List.set_cons_succ]
      refine wpAnyH_take (i := 1) (v := ?_) rfl (by kernel_rfl) (by kernel_rfl) (by kernel_rfl) (fun _ _ _ h => h) (Or.inl ⟨by rfl, ?_⟩) hHeld ?_
      rotate_left
      · intro w' hSw
        clear hSw
        go_simp
        first | done | with_reducible rfl
      simp only [Act.put, List.getElem_toArray, List.getElem_cons_succ, List.getElem_cons_zero, List.setIfInBounds_toArray, List.set_cons_zero, List.set_cons_succ]
      refine wpAnyH_take (i := 2) (v := ?_) rfl (by kernel_rfl) (by kernel_rfl) (by kernel_rfl) (fun _ _ _ h => h) (Or.inl ⟨by rfl, ?_⟩) hHeld ?_
      rotate_left
      · intro w' hSw
        clear hSw
        go_simp
        first | done | with_reducible rfl
      simp only [Act.put, List.getElem_toArray, List.getElem_cons_succ, List.getElem_cons_zero, List.setIfInBounds_toArray, List.set_cons_zero, List.set_cons_succ]
      refine wpAnyH_take (i := 3) (v := ?_) rfl (by kernel_rfl) (by kernel_rfl) (by kernel_rfl) (fun _ _ _ h => h) (Or.inl ⟨by rfl, ?_⟩) hHeld ?_
      rotate_left
      · intro w' hSw
        have c1 := hSw.c1
        clear hSw
        go_simp
        first | done | with_reducible rfl
      simp only [Act.put, List.getElem_toArray, List.getElem_cons_succ, List.getElem_cons_zero, List.setIfInBounds_toArray, List.set_cons_zero, List.set_cons_succ]
      refine wpAnyH_take (i := 4) (v := .agg (tkc fd n hi lo)) rfl (by kernel_rfl) (by kernel_rfl) (by kernel_rfl) (fun _ _ _ h => h) (Or.inl ⟨by rfl, ?_⟩) hHeld ?_
      · intro w' hSw
        exact runLd 70 (.tmp 12) rfl tb 0 rfl (tkc fd n hi lo) _ hSw.tb Tryd.underlying70 rfl (infoTEST _ _ _ _)
      simp only [Act.put, List.getElem_toArray, List.getElem_cons_succ, List.getElem_cons_zero, List.setIfInBounds_toArray, List.set_cons_zero, List.set_cons_succ]
      refine wpAnyH_take (i := 5) (v := .tuple #[(Gt (kt fd n hi lo)).getD (.int .i64 0), .bool (Gt (kt fd n hi lo)).isSome]) rfl (by kernel_rfl) (by kernel_rfl) (by kernel_rfl) (fun _ _ _ h => h) (Or.inl ⟨by rfl, ?_⟩) hHeld ?_
      · intro w' hSw
        exact runLk (.tmp 59) (.tmp 60) rfl rfl rfl (hSw.mp.look_ok lawT Tryd.underlying56 (z64 _) (key_t HTf.out))
      simp only [Act.put, List.getElem_toArray, List.getElem_cons_succ, List.getElem_cons_zero, List.setIfInBounds_toArray, List.set_cons_zero, List.set_cons_succ]
      refine wpAnyH_take (i := 6) (v := ?_) rfl (by kernel_rfl) (by kernel_rfl) (by kernel_rfl) (fun _ _ _ h => h) (Or.inl ⟨by rfl, ?_⟩) hHeld ?_
      rotate_left
      · intro w' hSw
        clear hSw
        go_simp
        first | done | with_reducible rfl
      simp only [Act.put, List.getElem_toArray, List.getElem_cons_succ, List.getElem_cons_zero, List.setIfInBounds_toArray, List.set_cons_zero, List.set_cons_succ]
      refine wpAnyH_take (i := 7) (v := ?_) rfl (by kernel_rfl) (by kernel_rfl) (by kernel_rfl) (fun _ _ _ h => h) (Or.inl ⟨by rfl, ?_⟩) hHeld ?_
      rotate_left
      · intro w' hSw
        clear hSw
        go_simp
        first | done | with_reducible rfl
      simp only [Act.put, List.getElem_toArray, List.getElem_cons_succ, List.getElem_cons_zero, List.setIfInBounds_toArray, List.set_cons_zero, List.set_cons_succ]
      refine wpAnyH_take (i := 8) (v := ?_) rfl (by kernel_rfl) (by kernel_rfl) (by kernel_rfl) (fun _ _ _ h => h) (Or.inl ⟨by rfl, ?_⟩) hHeld ?_
      rotate_left
      · intro w' hSw
        clear hSw
        go_simp
        first | done | with_reducible rfl
      simp only [Act.put, List.getElem_toArray, List.getElem_cons_succ, List.getElem_cons_zero, List.setIfInBounds_toArray, List.set_cons_zero, List.set_cons_succ]
      refine wpAnyH_take (i := 9) (v := ?_) rfl (by kernel_rfl) (by kernel_rfl) (by kernel_rfl) (fun _ _ _ h => h) (Or.inl ⟨by rfl, ?_⟩) hHeld ?_
      rotate_left
      · intro w' hSw
        clear hSw
        go_simp
        first | done | with_reducible rfl
      simp only [Act.put, List.getElem_toArray, List.getElem_cons_succ, List.getElem_cons_zero, List.setIfInBounds_toArray, List.set_cons_zero, List.set_cons_succ]
      refine wpAnyH_take (i := 10) (v := ?_) rfl (by kernel_rfl) (by kernel_rfl) (by kernel_rfl) (fun _ _ _ h => h) (Or.inl ⟨by rfl, ?_⟩) hHeld ?_
      rotate_left
      · intro w' hSw
        clear hSw
        go_simp
        first | done | with_reducible rfl
      simp only [Act.put, List.getElem_toArray, List.getElem_cons_succ, List.getElem_cons_zero, List.setIfInBounds_toArray, List.set_cons_zero, List.set_cons_succ]
      refine wpAnyH_done (by kernel_rfl) ?_ _
      clear hHeld HL0
      have hbd : Below w.heap.size w W2.drew := ⟨HWB.out.os, HWB.out.tape, HWB.out.output, HWB.out.size, HWB.out.block⟩
      have hs3 := HS2.out.keep (w' := W2.drew) fun b _ _ => rfl
      have htb3 : W2.drew.heap[tb]? = some (.cells (tkc fd n hi lo) 70 (0, 0)) := HTB.out
      have HS3 := hid hs3
      have HTB3 := hid htb3
      have HB3 := hid hbd
      clear hbd hs3 htb3 HS2 HTB HWB
      generalize W2.drew = W3 at HS3 HTB3 HB3 ⊢
      cases hG : Gt (kt fd n hi lo) with
      | some v =>
        obtain ⟨i, hi1, fd', n', h', l', e1, e2, e3, rfl⟩ := (HS3.out.gt _ _).1 hG
        have hok1 := (HS3.out.ok _ (List.getElem_mem hi1)).fit
        rw [e1] at hok1
        obtain ⟨rfl, rfl, rfl, rfl⟩ := kt_inj HTf.out hok1 e3
        have E1 := hid e1
        clear hG e1 e2 e3 hok1
        go_wp2
        refine bodyPost_ret (results_tmp2 rfl _ _ _) rfl ?_
        exact ⟨i, 0, all, rfl, Or.inr (Or.inr ⟨HOK.out, HE.out, Or.inl ⟨i, hi1, E1.out, rfl, rfl, rfl⟩⟩), ⟨_, _, _, _, _, _, _, _, HS3.out⟩, StFr.of HB3.out⟩
      | none =>
        have HGN := hid hG
        have HNM : Hid (tsN fd n hi lo ∉ all) := fun hm => by
          obtain ⟨i, hi1, e⟩ := List.getElem_of_mem hm
          have := (HS3.out.gt (kt fd n hi lo) (.int .i64 ((i : Nat) : Int))).2 ⟨i, hi1, fd, n, hi, lo, e, hfd, rfl, rfl⟩
          rw [HGN.out] at this; cases this
        clear hG
        have HFu := hid (full_any (⟨_, _, _, _, _, _, _, _, HS3.out⟩ : St B p W3 all))
        by_cases hfl : 65536 ≤ all.length
        · rw [decide_eq_true hfl] at HFu
          go_wp2_with (go_at_call 23; refine (HFu.out).mono ?_; rintro e w' ⟨rfl, rfl⟩)
          refine bodyPost_ret (results_tmp2 rfl _ _ _) rfl ?_
          exact ⟨0, 200, all, rfl, Or.inr (Or.inr ⟨HOK.out, HE.out, Or.inr (Or.inl ⟨HNM.out, hfl, rfl, rfl, rfl⟩)⟩), ⟨_, _, _, _, _, _, _, _, HS3.out⟩, StFr.of HB3.out⟩
        · rw [decide_eq_false hfl] at HFu
          have hbN := fun W => run_bN fd n hi lo W
          have HAd := hid (add_any nilS (tsN fd n hi lo) HS3.out rfl (by omega))
          go_upto_region 14 with (first
            | (go_at_call 23; refine (HFu.out).mono ?_; rintro e W3 ⟨rfl, rfl⟩)
            | (go_at_call 24; refine (HAd.out).mono ?_; rintro e W4 ⟨rfl, va', hA⟩; have HA := hid hA; clear hA HFu))
          have hpo := HP.out
          have htb4 : W4.heap[tb]? = some (.cells (tkc fd n hi lo) 70 (0, 0)) := by
            have htl := (Array.getElem?_eq_some_iff.1 HTB3.out).1
            rw [HA.out.only.block tb fun hS => by
              have h1 := (hpo p (Or.inl rfl)).2
              have h3 := HTW.out
              rcases hS with e | e | e
              · omega
              · have := (hpo tb (Or.inr (Or.inr (Or.inr e)))).2; omega
              · omega]
            exact HTB3.out
          have hbt4 : W4.heap[bt]? = W3.heap[bt]? := by
            obtain ⟨m1, m2, m3, m4⟩ := HS3.out.map_lt
            exact HA.out.only.block bt fun hS => by
              rcases hS with e | e | e
              · exact m1 e
              · exact m3 e
              · have := HS3.out.mt.lt; omega
          have hbl4 : W4.heap[bl]? = W3.heap[bl]? := by
            obtain ⟨m1, m2, m3, m4⟩ := HS3.out.map_lt
            exact HA.out.only.block bl fun hS => by
              rcases hS with e | e | e
              · exact m2 e
              · exact m4 e
              · have := HS3.out.ml.lt; omega
          have HU : Hid (Hup p tb bt fd n hi lo W4) := Hup.of ((cell_of_row _ _ _ _ _ _ HA.out.hp).trans rfl) htb4
          have HM4 : Hid (Mp W4.drew 70 bt nt Gt) := (HS3.out.mt.carry hbt4).carry rfl
          have HL4 : Hid (Mp W4 9 bl nl Gl) := HS3.out.ml.carry hbl4
          have HTB4 := hid htb4
          have HPT : Hid (p ≠ bt ∧ tb ≠ bt ∧ bl ≠ bt) := ⟨HS3.out.map_lt.1.symm, fun e => by
            subst e
            have h1 := (hpo tb (Or.inr (Or.inl rfl))).2
            have h3 := HTW.out
            omega, HS3.out.hB.2.2.2.symm⟩
          have hnt : nt < 2147483648 := by have := HS3.out.ntl; omega
          clear hpo htb4 hbt4 hbl4 hbN HAd
          refine wp_region_held_drew (S := Hup p tb bt fd n hi lo) (by kernel_rfl) ⟨HU.out.c1, HU.out.tb⟩ (fun hHeld => ?_)
          refine wpAnyH_take (i := 0) (v := ?_) rfl (by kernel_rfl) (by kernel_rfl) (by kernel_rfl) (fun _ _ _ h => h) (Or.inl ⟨by rfl, ?_⟩) hHeld ?_
          rotate_left
          · intro w' hSw
            clear hSw
            go_simp
            first | done | with_reducible rfl
          simp only [Act.put, List.getElem_toArray, List.getElem_cons_zero, List.setIfInBounds_toArray, List.set_cons_zero, List.set_cons_succ]
          refine wpAnyH_take (i := 1) (v := ?_) rfl (by kernel_rfl) (by kernel_rfl) (by kernel_rfl) (fun _ _ _ h => h) (Or.inl ⟨by rfl, ?_⟩) hHeld ?_
          rotate_left
          · intro w' hSw
            clear hSw
            go_simp
            first | done | with_reducible rfl
          simp only [Act.put, List.getElem_toArray, List.getElem_cons_succ, List.getElem_cons_zero, List.setIfInBounds_toArray, List.set_cons_zero, List.set_cons_succ]
          refine wpAnyH_take (i := 2) (v := ?_) rfl (by kernel_rfl) (by kernel_rfl) (by kernel_rfl) (fun _ _ _ h => h) (Or.inl ⟨by rfl, ?_⟩) hHeld ?_
          rotate_left
          · intro w' hSw
            clear hSw
            go_simp
            first | done | with_reducible rfl
          simp only [Act.put, List.getElem_toArray, List.getElem_cons_succ, List.getElem_cons_zero, List.setIfInBounds_toArray, List.set_cons_zero, List.set_cons_succ]
          refine wpAnyH_take (i := 3) (v := ?_) rfl (by kernel_rfl) (by kernel_rfl) (by kernel_rfl) (fun _ _ _ h => h) (Or.inl ⟨by rfl, ?_⟩) hHeld ?_
          rotate_left
          · intro w' hSw
            have c1 := hSw.c1
            clear hSw
            go_simp
            first | done | with_reducible rfl
          simp only [Act.put, List.getElem_toArray, List.getElem_cons_succ, List.getElem_cons_zero, List.setIfInBounds_toArray, List.set_cons_zero, List.set_cons_succ]
          refine wpAnyH_take (i := 4) (v := .agg (tkc fd n hi lo)) rfl (by kernel_rfl) (by kernel_rfl) (by kernel_rfl) (fun _ _ _ h => h) (Or.inl ⟨by rfl, ?_⟩) hHeld ?_
          · intro w' hSw
            exact runLd 70 (.tmp 12) rfl tb 0 rfl (tkc fd n hi lo) _ hSw.tb Tryd.underlying70 rfl (infoTEST _ _ _ _)
          simp only [Act.put, List.getElem_toArray, List.getElem_cons_succ, List.getElem_cons_zero, List.setIfInBounds_toArray, List.set_cons_zero, List.set_cons_succ]
          refine wpAnyH_take (i := 5) (v := ?_) rfl (by kernel_rfl) (by kernel_rfl) (by kernel_rfl) (fun _ _ _ h => h) (Or.inl ⟨by rfl, ?_⟩) hHeld ?_
          rotate_left
          · intro w' hSw
            clear hSw
            go_simp
            first | done | with_reducible rfl
          simp only [Act.put, List.getElem_toArray, List.getElem_cons_succ, List.getElem_cons_zero, List.setIfInBounds_toArray, List.set_cons_zero, List.set_cons_succ]
          refine an1 6 _ (by kernel_rfl) rfl ?_
          refine Sp.of rfl (stepStore (.tmp 78) (.tmp 79) (.tmp 80) 56 rfl rfl rfl rfl rfl HM4.out lawT Tryd.underlying56 hnt (key_t HTf.out) ?_)
          intro w5 hM5 hT5
          rw [HGN.out] at hM5
          have HM5 := hid hM5
          have HT5 := hid hT5
          clear hM5 hT5
          refine ⟨Hup.of ((cell_same (HT5.out.block p HPT.out.1)).trans HU.out.c1) ((HT5.out.block tb HPT.out.2.1).trans HTB4.out), ?_⟩
          simp only [Act.put, List.getElem_toArray, List.getElem_cons_succ, List.getElem_cons_zero]
          refine wpAnyH_done (by kernel_rfl) ?_ _
          have HGr := hid (HS3.out.grow (w2 := w5) (bm := bt) (nt' := nt + 1) (nl' := nl) (Gl' := Gl) HA.out ⟨HT5.out.os, HT5.out.tape, HT5.out.output, HT5.out.size, HT5.out.block⟩ (Or.inl rfl) HM5.out (HL4.out.carry (HT5.out.block bl HPT.out.2.2)) (by have := HS3.out.ntl; omega) (by have := HS3.out.nll; omega) (Lst.nil _ _ _ _) ⟨HTf.out, (fun r hr => by cases hr), by show 0 ≤ 40000; omega⟩
            (fun k v => by rw [updL_iff HGN.out]; exact ⟨fun hh => hh.imp id fun ⟨a1, a2⟩ => ⟨hfd, rfl, a1, a2⟩, fun hh => hh.imp id fun ⟨_, _, a1, a2⟩ => ⟨a1, a2⟩⟩)
            (fun k v => ⟨fun hh => Or.inl hh, fun hh => by
              rcases hh with hh | ⟨e, _⟩
              · exact hh
              · have := congrArg Nd.fd e
                simp only at this
                omega⟩) (by omega))
          clear hHeld
          go_wp2
          refine bodyPost_ret (results_tmp2 rfl _ _ _) rfl ?_
          exact ⟨all.length, 0, all ++ [tsN fd n hi lo], rfl, Or.inr (Or.inr ⟨HOK.out, HE.out, Or.inr (Or.inr ⟨HNM.out, by omega, rfl, rfl, rfl⟩)⟩), ⟨_, _, _, _, _, _, _, _, HGr.out.1⟩, (StFr.of HB3.out).trans HGr.out.2⟩
end Go.Proofs.YtggbokghhohofaaDoor
