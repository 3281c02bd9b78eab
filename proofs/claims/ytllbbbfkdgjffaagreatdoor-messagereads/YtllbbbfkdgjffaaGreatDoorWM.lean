/-
  Proved here: lists are read by readList, at Held; helds: as the plain reading tells, or the panic with ErrMessage. Conditions: the bytes lie in blocks of T, the cursor's is none of them.
-/
/-
  Proved here: how a closure is called in a walk; small facts for the writer's method message. No condition.
-/
import Derived.Test.YtllbbbfkdgjffaaGreatDoorR7
import Derived.Test.YtllbbbfkdgjffaaGreatDoorR1
namespace Go.Proofs.YtllbbbfkdgjffaaGreatDoor
open Go.RowKit

/-- What a held rule's reading leaves, ahead of its being appended. -/
structure HOk (T : Nat → Prop) (wr w2 : World) (c n : Nat) (v : Value) (m : Nat) (vs : List Value) (r : List Int) (x : Hd) (u : Value) : Prop where
  ho : Only (fun x => x = c ∨ wr.heap.size ≤ x) wr w2
  cur : Cur T w2 c r
  cp : Cps (fun k => wr.heap.size ≤ k ∧ k < w2.heap.size) w2 u x.r.cp
  fit : x.Fit
  own : (w2.alloc (.cells (hdc x u) 57)).ownsRow n 57 27 v m vs
  one : ∀ y ∈ (hdc x u).toList, y.oneCell' = true
  base : n ≤ (w2.alloc (.cells (hdc x u) 57)).heap.size
theorem HOk.len (x : Hd) (u : Value) : (hdc x u).toList.length = 27 := by rw [Array.length_toList, hdc_size]
section
variable {T : Nat → Prop} {c : Nat} {bs : List Int} {w : World}

theorem infoH : (Tryz.prog.info? 57).map (fun i => (i.zero, i.size, i.bytes)) = some (some (.agg (hdc ⟨zRl, 0, 0⟩ nilS)), 27, 232) := by kernel_rfl
set_option maxHeartbeats 1600000 in
set_option maxRecDepth 100000 in
theorem rlH_any (h : Rc T w c bs) : Calls Tryz.prog 117 #[ptr c, fnV 118] w (RdP T c (rdL (rdHd true) bs) VHs w) := by
  have HN := hid (ccount_any c bs w h.cur h.out)
  have hB := h.cur.isB
  have hcw := h.cur.lt
  have hpos : 2 ≤ w.heap.size := by have := h.tab.pos; omega
  have HTo := hid h.old
  have HR := hid h
  have HE := hid (fun (wr : World) (r : List Int) (hr : Rc T wr c r) => cheld_el hr)
  obtain ⟨sp, HSp⟩ : ∃ o, Hid (rdL (rdHd true) bs = o) := ⟨_, rfl⟩
  rw [HSp.out]
  rw [show rdL (rdHd true) bs = (tk 2 bs).bind fun c => rdl (rdHd true) c.1.toNat c.2 from rfl] at HSp
  obtain ⟨i, hi, hz0, hz1, hz2⟩ := info_parts infoH
  have HI := hid (And.intro hi (And.intro hz0 (And.intro hz1 hz2)))
  clear hi hz0 hz1 hz2
  cases ht : tk 2 bs with
  | none =>
    rw [ht] at HN HSp
    clear h hB ht
    go_enter Tryz.func117, Tryz.ntmps117
    go_wp2_with (go_at_call 39; refine (HN.out).mono ?_; intro e w1 h9; obtain ⟨rfl, hq⟩ := RdP.bad h9; have H9 := hid hq; clear hq h9)
    exact ⟨rfl, RdP.no H9.out HSp.out.symm⟩
  | some q =>
    obtain ⟨n, r0⟩ := q
    rw [ht] at HN HSp
    obtain ⟨-, n0, n1, -⟩ := tk_inv hB ht
    rw [pw2] at n1
    simp only [Option.bind_some] at HSp
    clear h hB ht
    obtain ⟨N, rfl⟩ := Int.eq_ofNat_of_zero_le n0
    simp only [Int.toNat_natCast] at HSp
    have hN : N < 65536 := by omega
    clear n0 n1
    go_enter Tryz.func117, Tryz.ntmps117
    go_wp2_with (go_at_call 39; refine (HN.out).mono ?_; intro e w1 h9; obtain ⟨v, rfl, h1, h2, rfl⟩ := RdP.get h9; have H9 := hid (And.intro h1 (HR.out.on h1 h2)); clear h1 h2 h9)
    go_loopw [5, 8] (fun l i wr => ∃ (j : Nat) (ms : List Hd) (r : List Int), j ≤ N ∧ i = .int .i64 j ∧ ms.length = j ∧ Only (fun x => x = c ∨ w.heap.size ≤ x) w wr ∧ Rc T wr c r ∧ w.heap.size ≤ wr.heap.size ∧ Apl w.heap.size 57 27 (RHd (TI w.heap.size wr l)) wr l ms ∧ rdl (rdHd true) N r0 = (rdl (rdHd true) (N - j) r).map fun q => (ms ++ q.1, q.2)) (fun _ i _ => N - (intOf i).toNat)
    case atStart => exact ⟨0, [], r0, by omega, rfl, rfl, H9.out.1, H9.out.2, H9.out.1.size, Apl.nil _ _ _ _ _, by simp⟩
    case round =>
      obtain ⟨j, ms, r, hj, rfl, hml, ho, hrc, hn, hap, hrel⟩ := hrel
      have HO := hid ho
      have HC := hid hrc
      have HAp := hid hap
      have HRel := hid hrel
      have HML := hid hml
      clear ho hrc hap hrel hml H9 HN HR
      by_cases hlt : j < N
      · obtain ⟨q, hq⟩ : ∃ q, N - j = q + 1 := ⟨N - j - 1, by omega⟩
        have HQ := hid hq
        clear hq
        have HEr := HE.out wr r HC.out
        cases hms : (rdHd true) r with
        | none =>
          have HNo : Hid (sp = none) := by
            show _ = _
            rw [← HSp.out, HRel.out, HQ.out]; unfold rdl; rw [hms]; rfl
          rw [hms] at HEr
          have HEr' := hid HEr
          clear HEr hms HRel HQ HE
          go_wp2_with (go_at_call 118; refine (HEr'.out).mono ?_; intro e w2 h9; obtain ⟨rfl, hq⟩ := RdP.bad h9; have H2 := hid hq; clear hq h9)
          exact ⟨rfl, RdP.no (HO.out.trans (H2.out.mono fun x hx => by rcases hx with e | e; exact Or.inl e; exact Or.inr (by omega))) HNo.out⟩
        | some pr =>
          obtain ⟨x, r'⟩ := pr
          have HNx : Hid (rdl (rdHd true) N r0 = (rdl (rdHd true) (N - (j + 1)) r').map fun q => ((ms ++ [x]) ++ q.1, q.2)) := by
            show _ = _
            rw [HRel.out, HQ.out, show N - (j + 1) = q by have := HQ.out; omega]
            conv => lhs; unfold rdl
            rw [hms]
            simp only [Option.bind_some]
            exact map_app
          rw [hms] at HEr
          have HEr' := hid HEr
          obtain ⟨vs, hvs, hold⟩ := HAp.out
          have HVs := hid (And.intro hvs hold)
          clear HEr hms HRel HQ HE hvs hold HAp
          have HEn : Hid (Calls Tryz.prog 118 #[ptr c] wr fun e w2 => ∃ u, e = .returned (.agg (hdc x u)) ∧ HOk T wr w2 c w.heap.size u5 ms.length vs r' x u) := by
            refine HEr'.out.mono ?_
            intro e w2 h9
            obtain ⟨v2, rfl, h1, h2, u, rfl, hcp, hfit⟩ := RdP.get h9
            exact ⟨u, rfl, h1, h2, hcp, hfit, own_step (by omega) HVs.out.1 h1 ((Below.refl _ _).alloc (Nat.le_refl _) _), all_mem (hdc_one x u hcp.one), by have := h1.size; simp; omega⟩
          clear HEr'
          go_wp2_with (first
            | (at_builtin; refine appG 35 57 (.tmp 10) (.tmp 14) rfl rfl i (.agg (hdc ⟨zRl, 0, 0⟩ nilS)) 27 232 Tryz.underlying35 HI.out.1 HI.out.2.1 HI.out.2.2.1 HI.out.2.2.2 (hdc_size _ _) (by omega) (news := (hdc x u).toList) rfl rfl HP.out.own (HOk.len x u) (new_cells w2 (hdc x u) 57) HP.out.one HP.out.base (by have := HML.out; omega) (by omega) ?_
               intro v4 w4 g1 g2 g3
               have HY : Hid _ := And.intro g1 (And.intro g2 g3)
               clear g1 g2 g3)
            | (refine bldSl 35 57 (.tmp 13) rfl rfl (hdc x u) rfl Tryz.underlying35 i (.agg (hdc ⟨zRl, 0, 0⟩ nilS)) 27 HI.out.1 HI.out.2.1 HI.out.2.2.1 (hdc_size x u) (by omega) (by omega) ?_)
            | (go_at_call 118; refine (HEn.out).mono ?_; rintro e w2 ⟨u, rfl, hP⟩; have HP := hid hP; clear hP))
          have hb3 : Below w2.heap.size w2 (w2.alloc (.cells (hdc x u) 57)) := (Below.refl _ _).alloc (Nat.le_refl _) _
          have hstep := rc_step (k := 27) HC.out HO.out hn (by omega) hpos HTo.out HVs.out.1 HP.out.ho HP.out.cur hb3 HY.out.2.1
          have hapl := apl_step (R := RHd) (k := 27) caHd cgHd hn (show c < w.heap.size by omega) HVs.out.1 HVs.out.2 HP.out.ho hb3 HY.out.1 HY.out.2.1 HY.out.2.2 (HOk.len x u) ⟨u, fun i _ => by simp, HP.out.cp, HP.out.fit⟩
          have HF := hid (And.intro hstep hapl)
          clear hstep hapl HY HP hb3 HVs
          go_wp2
          go_roundw
          case rel => exact ⟨j + 1, ms ++ [x], r', by omega, by go_num, by simp [HML.out], HF.out.1.2.1, HF.out.1.1, HF.out.1.2.2, HF.out.2, HNx.out⟩
          case measure => simp [intOf]; omega
      · obtain rfl : j = N := by omega
        have HY : Hid (sp = some (ms, r)) := by
          show _ = _
          rw [← HSp.out, HRel.out, Nat.sub_self]; simp [rdl]
        clear HRel HE
        go_wp2
        go_ret
        exact RdP.yes HO.out HY.out HC.out.cur (Apl.lst HAp.out (by have := HML.out; omega) (fun b h1 h2 => ⟨h1, h2⟩) (fun f f' y hf hR => cgHd (fun k => w.heap.size ≤ k ∧ k < wr.heap.size) _ _ _ _ hf (caHd (TI w.heap.size wr u5) (fun k => w.heap.size ≤ k ∧ k < wr.heap.size) _ _ _ _ (fun b hb hT => ⟨hT.1, rfl⟩) hR)))

theorem chelds_el (h : Rc T w c bs) : Calls Tryz.prog 81 #[ptr c] w (RdP T c (rdL (rdHd true) bs) VHs w) := by
  have HE := hid (rlH_any h)
  clear h
  cases ho : rdL (rdHd true) bs with
  | none =>
    rw [ho] at HE
    clear ho
    go_enter Tryz.func81, Tryz.ntmps81
    go_wp2_with (go_at_call 117; refine (HE.out).mono ?_; intro e w1 h9; obtain ⟨rfl, hq⟩ := RdP.bad h9; have H9 := hid hq; clear hq h9)
    exact ⟨rfl, RdP.no H9.out rfl⟩
  | some q =>
    obtain ⟨x, r⟩ := q
    rw [ho] at HE
    clear ho
    go_enter Tryz.func81, Tryz.ntmps81
    go_wp2_with (go_at_call 117; refine (HE.out).mono ?_; intro e w1 h9; obtain ⟨v, rfl, h1, h2, hv⟩ := RdP.get h9; have H9 := hid (And.intro h1 (And.intro h2 hv)); obtain ⟨va, vc, rfl, -⟩ := hv.form; clear h1 h2 hv h9)
    go_ret
    exact RdP.yes H9.out.1 rfl H9.out.2.1 H9.out.2.2
end
end Go.Proofs.YtllbbbfkdgjffaaGreatDoor
namespace Go.Proofs.YtllbbbfkdgjffaaGreatDoor
open Go.RowKit

section
variable {ops : Array Oper} {rest : List Oper} {o : Oper} {a : Act} {w : World} {Q : Exit → Act → World → Prop}
/-- A call of a closure, in a walk. -/
theorem callCl (f : FuncId) (y : Operand) (xs : List Operand) (ts : Array TypeId) (args caps : List Value) (hop : o.op = .call { callee := .value y, args := xs.toArray, argTypes := ts }) (hg : o.guard = none) (hy : a.eval y = .func (.func f) #[] caps.toArray) (hx : xs.map a.eval = args) (hE : Ent f)
    (Φ : Ending → World → Prop) (hC : Calls Tryz.prog f (args ++ caps).toArray w Φ) (hK : ∀ e w', Φ e w' → (∃ v, e = .returned v ∧ wpList Tryz.prog ops Q rest (a.put o.dst v) w') ∨ ∃ ch, e = .panicked ch ∧ Q (.panic ch) a w') : wpList Tryz.prog ops Q (o :: rest) a w := by
  have hw : Region.wanted o (yielded ops a.tmps) = true := by simp [Region.wanted, hg]
  have hrun : (execOp a.eval o).run Tryz.prog w = .ok (.enter f (args ++ caps).toArray) w := by
    unfold execOp
    simp only [hop, resolve, invoke, Deferred.ofValue, hy, Sem.run_bind, Sem.run_pure, Result.andThen_ok, List.map_toArray, hx, List.append_toArray, List.nil_append, hE]
  unfold wpList
  rw [if_pos hw]
  refine Or.inl ?_
  show Oper.upon Tryz.prog o a _ Q ((execOp a.eval o).run Tryz.prog w)
  rw [hrun, Oper.upon_enter]
  refine hC.mono ?_
  intro e w' h
  rcases hK e w' h with ⟨v, rfl, hk⟩ | ⟨ch, rfl, hk⟩
  · exact hk
  · exact hk
end
set_option maxRecDepth 100000 in
theorem ent1 (k : Fk) : Ent (fn1 k) := by cases k <;> exact fun _ _ => rfl
set_option maxRecDepth 100000 in
theorem ent2 (k : Fk) : Ent (fn2 k) := by cases k <;> exact fun _ _ => rfl
set_option maxRecDepth 100000 in
theorem ent3 (k : Fk) : Ent (fn3 k) := by cases k <;> exact fun _ _ => rfl
/-- Slices of a message whose fields were made nothing. -/
theorem Mss.cl {T : Nat → Prop} {w : World} {m : Ms} {s : Sls} (h : Mss T w m s) (k : Fk) : Mss T w (clF m k) (clS s k) := by
  cases k
  · exact ⟨h.cp, h.ps, h.ed, h.fr, h.hs⟩
  · exact ⟨h.cp, Lst.nil _ _ _ _, h.ed, h.fr, h.hs⟩
  · exact ⟨h.cp, h.ps, Lst.nil _ _ _ _, h.fr, h.hs⟩
  · exact ⟨h.cp, h.ps, h.ed, h.fr, h.hs⟩
  · exact ⟨Lst.nil _ _ _ _, h.ps, h.ed, h.fr, h.hs⟩
  · exact ⟨h.cp, h.ps, h.ed, h.fr, h.hs⟩
  · exact ⟨h.cp, h.ps, h.ed, h.fr, h.hs⟩
  · exact ⟨h.cp, h.ps, h.ed, SlC.nil _ _, h.hs⟩
  · exact ⟨h.cp, h.ps, h.ed, h.fr, Lst.nil _ _ _ _⟩
  · exact ⟨h.cp, h.ps, h.ed, h.fr, h.hs⟩
  · exact ⟨h.cp, h.ps, h.ed, h.fr, h.hs⟩
theorem Mss.one {T : Nat → Prop} {w : World} {m : Ms} {s : Sls} (h : Mss T w m s) : (msc m s).all (·.oneCell') = true := msc_one m s h.cp.one h.ps.one h.ed.one h.fr.one h.hs.one
/-- What follows the head of a message's bytes. -/
def hd0 (m : Ms) : List Int := dg 1 1 ++ (dg m.ty 1 ++ (dg 0 2 ++ dg m.id 4))
theorem hd0_len (m : Ms) : (hd0 m).length = 8 := by simp [hd0, dg_len]
/-- The size, laid into the third and fourth byte. -/
theorem size_set (m : Ms) (n : Int) (b : List Int) : ((hd0 m ++ b).set 2 (n / 256 % 256)).set 3 (n % 256) = dg 1 1 ++ (dg m.ty 1 ++ (dg n 2 ++ (dg m.id 4 ++ b))) := by
  simp [hd0, dg]
end Go.Proofs.YtllbbbfkdgjffaaGreatDoor
