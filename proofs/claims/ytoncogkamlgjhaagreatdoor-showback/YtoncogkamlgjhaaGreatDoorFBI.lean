/-
  Proved here: isTooBig of package parse tells whether a policy's terms are too many or too deep. Condition: the policy lies in old memory.
-/
import Derived.Test.YtoncogkamlgjhaaGreatDoorFBH
namespace Go.Proofs.YtoncogkamlgjhaaGreatDoor
set_option maxRecDepth 100000
open Go.RowKit
set_option maxRecDepth 100000

def qsz (qs : List Qy) : Nat := (qs.map fun q => sz q.pd).sum
theorem qsz_snoc (qs : List Qy) (q : Qy) : qsz (qs ++ [q]) = qsz qs + sz q.pd := by simp [qsz]
theorem qsz_take {qs : List Qy} {j : Nat} (hj : j < qs.length) : qsz (qs.take (j + 1)) = qsz (qs.take j) + sz (qs[j]).pd := by
  rw [List.take_add_one, List.getElem?_eq_getElem hj]
  exact qsz_snoc _ _
theorem qsz_cons (q : Qy) (qs : List Qy) : qsz (q :: qs) = sz q.pd + qsz qs := by simp [qsz]
theorem qsz_le : ∀ (qs : List Qy) (j : Nat), qsz (qs.take j) ≤ qsz qs
  | [], j => by simp
  | a :: qs, 0 => by simp [qsz]
  | a :: qs, j + 1 => by rw [List.take_succ_cons, qsz_cons, qsz_cons]; have := qsz_le qs j; omega
theorem len_qsz : ∀ (qs : List Qy) (j : Nat), j ≤ qs.length → j ≤ qsz (qs.take j)
  | qs, 0, _ => Nat.zero_le _
  | [], j + 1, h => by simp at h
  | a :: qs, j + 1, h => by
    rw [List.take_succ_cons, qsz_cons]
    have := len_qsz qs j (by simpa using h)
    have := sz_pos a.pd
    omega
theorem fitsB_iff (p : Po) : fitsB p = true ↔ sz p.main + qsz p.qs ≤ 4096 ∧ dp p.main ≤ 128 ∧ ∀ q ∈ p.qs, dp q.pd ≤ 128 := by
  unfold fitsB qsz; simp [and_assoc]
/-- where its loop is -/
structure TbS (Lb Fb : Nat) (w : World) (qs : List Qy) (v : Value) (L' : Nat) (wr : World) : Prop where
  low : Below w.heap.size w wr
  own : Own2 Lb Fb ((L' : Nat) : Int) wr
  ks : ∃ xs, Rw (fun b => b < w.heap.size) 5 40 wr v qs.length xs ∧ QyL (fun b => b < w.heap.size) wr qs xs
theorem TbS.thn {Lb Fb : Nat} {w : World} {qs : List Qy} {v : Value} {L' L'' : Nat} {wr w' : World} (h : TbS Lb Fb w qs v L' wr) (hL : w.heap.size ≤ Lb) (ho : Only (Ln Lb wr) wr w') (hw : Own2 Lb Fb ((L'' : Nat) : Int) w') : TbS Lb Fb w qs v L'' w' := by
  obtain ⟨xs, g1, g2⟩ := h.ks
  have hz := h.low.size
  have hc : ∀ b, b < wr.heap.size → b < w.heap.size → b < w.heap.size ∧ w'.heap[b]? = wr.heap[b]? := fun b hb hS => ⟨hS, ho.block b (by rintro (e | e) <;> omega)⟩
  exact ⟨h.low.trans (ho.below fun k hk => by rcases hk with e | e <;> omega), hw, ⟨xs, g1.carry hc, QyL.carry hc _ _ g2⟩⟩
theorem TbS.qry {Lb Fb : Nat} {w : World} {qs : List Qy} {ao : Option Addr} {cap : Nat} {L' : Nat} {wr : World} (h : TbS Lb Fb w qs (.slice ao qs.length cap) L' wr) {j : Nat} (hj : j < qs.length) :
    ∃ g o, ao = some ⟨g, o, none⟩ ∧ qs.length ≤ cap ∧ ∃ ds, TmV (fun b => b < w.heap.size) wr (qs[j]).pd ds ∧ wr.rangeAt g (o + j * 5) (#[Value.string (qs[j]).nm] ++ ds).toList := by
  obtain ⟨xs, ⟨hx, ⟨e, h0⟩ | ⟨g, o, cap', cur, e, hS, hg, hc, hs, ht⟩⟩, g2⟩ := h.ks
  · omega
  · cases e
    obtain ⟨ds, h4, h5⟩ := QyL.at qs xs j hj g2
    refine ⟨g, o, rfl, hc, ds, h4, range_of fun i hi => ?_⟩
    have hi5 : i < 5 := by simp [h4.size] at hi; omega
    have hb : j * 5 + i < qs.length * 5 := by omega
    rw [cell_of_row _ _ _ _ _ _ hg, Nat.add_assoc, cells_at ht hb, h5 i hi5, ← Array.getElem?_toList]
    simp
theorem szQ (s : ByteArray) (ds : Array Value) (h : ds.size = 4) : (Tryz.prog.info? 40).map (·.size) = some (#[Value.string s] ++ ds).size := by
  have : (Tryz.prog.info? 40).map (·.size) = some 5 := by kernel_rfl
  rw [this]; simp [h]
/-- A value of one cell is stored into a block of one. -/
theorem stOne {ops : Array Oper} {rest : List Oper} {o : Oper} {a : Act} {w : World} {Q : Exit → Act → World → Prop} (ty : TypeId) (x y : Operand) (ho : o.op = .store ty x y) (hgd : o.guard = none) (g : Nat) (hx : a.eval x = .pointer (some ⟨g, 0, none⟩)) (v : Value) (hy : a.eval y = v) (h1 : v.oneCell' = true)
    (t : TypeId) (old : Value) (hg : w.heap[g]? = some (.cells #[old] t (0, 0))) (hi : (Tryz.prog.info? ty).map (·.size) = some 1) (h : wpList Tryz.prog ops Q rest (a.put o.dst undef) (w.setRow g #[v])) : wpList Tryz.prog ops Q (o :: rest) a w := by
  subst hy
  exact wpList_store_one hgd ty x y ho g hx h1 t old hg hi h
set_option maxHeartbeats 12800000 in
theorem big_any (p : Po) (cs : Array Value) (w : World) (h : PoV (fun b => b < w.heap.size) w p cs) : Calls Tryz.prog 16 #[.agg cs] w fun e w' => e = .returned (.bool (!fitsB p)) ∧ Below w.heap.size w w' := by
  obtain ⟨main, qs⟩ := p
  obtain ⟨ms, qv, xs, rfl, h1, h2, h3⟩ := h
  obtain ⟨x0, x1, x2, x3, rfl⟩ := arr4 h1.size
  obtain ⟨ao, cap, rfl⟩ := h2.form
  simp only at h1 h2 h3
  have HP : Hid (fitsB ⟨main, qs⟩ = true ↔ sz main + qsz qs ≤ 4096 ∧ dp main ≤ 128 ∧ ∀ q ∈ qs, dp q.pd ≤ 128) := fitsB_iff ⟨main, qs⟩
  have hmf : ∀ (fn : Fn) (first cap : Array Value) (w : World), (Instr.makeFunc fn first cap).run Tryz.prog w = .ok (.func fn first cap) w := fun _ _ _ _ => rfl
  show Calls Tryz.prog 16 #[.agg #[x0, x1, x2, x3, .slice ao qs.length cap]] w _
  go_enter Tryz.func16, Tryz.ntmps16
  go_upto_region 3 with fail
  have hbA : Below w.heap.size w (((w.alloc (.cells #[x0, x1, x2, x3, .slice ao qs.length cap] 29)).alloc (.cells #[.int .i64 4096] 3)).alloc (.cells #[Value.nilFunc] 78)) := (((Below.refl _ _).alloc (Nat.le_refl _) _).alloc (by simp) _).alloc (by simp; omega) _
  have hP : (((w.alloc (.cells #[x0, x1, x2, x3, .slice ao qs.length cap] 29)).alloc (.cells #[.int .i64 4096] 3)).alloc (.cells #[Value.nilFunc] 78)).heap[w.heap.size]? = some (.cells #[x0, x1, x2, x3, .slice ao qs.length cap] 29 (0, 0)) := (heap_alloc_old _ _ (by simp; omega)).trans ((heap_alloc_old _ _ (by simp)).trans (heap_alloc_new _ _))
  have hL : (((w.alloc (.cells #[x0, x1, x2, x3, .slice ao qs.length cap] 29)).alloc (.cells #[.int .i64 4096] 3)).alloc (.cells #[Value.nilFunc] 78)).heap[w.heap.size + 1]? = some (.cells #[.int .i64 4096] 3 (0, 0)) := (heap_alloc_old _ _ (by simp)).trans (by have := heap_alloc_new (w.alloc (.cells #[x0, x1, x2, x3, .slice ao qs.length cap] 29)) (.cells #[.int .i64 4096] 3); simpa using this)
  have hF : (((w.alloc (.cells #[x0, x1, x2, x3, .slice ao qs.length cap] 29)).alloc (.cells #[.int .i64 4096] 3)).alloc (.cells #[Value.nilFunc] 78)).heap[w.heap.size + 1 + 1]? = some (.cells #[Value.nilFunc] 78 (0, 0)) := by have := heap_alloc_new ((w.alloc (.cells #[x0, x1, x2, x3, .slice ao qs.length cap] 29)).alloc (.cells #[.int .i64 4096] 3)) (.cells #[Value.nilFunc] 78); simpa using this
  generalize ((w.alloc (.cells #[x0, x1, x2, x3, .slice ao qs.length cap] 29)).alloc (.cells #[.int .i64 4096] 3)).alloc (.cells #[Value.nilFunc] 78) = W3 at hbA hP hL hF ⊢
  obtain ⟨Lb, hLb⟩ : ∃ Lb, Lb = w.heap.size + 1 := ⟨_, rfl⟩
  obtain ⟨Fb, hFb⟩ : ∃ Fb, Fb = w.heap.size + 1 + 1 := ⟨_, rfl⟩
  rw [← hFb] at hF
  rw [← hLb] at hL
  obtain ⟨fv, hfv⟩ : ∃ fv, fv = Value.func (.func 35) #[] #[ptr Lb, ptr Fb] := ⟨_, rfl⟩
  have hko : ∀ b, b ≠ Fb → (W3.setRow Fb #[fv]).heap[b]? = W3.heap[b]? := fun b hb => setRow_other W3 Fb b _ hb
  have hO4 : Own2 Lb Fb ((4096 : Nat) : Int) (W3.setRow Fb #[fv]) := ⟨(hko Lb (by omega)).trans hL, by rw [setRow_heap W3 Fb _ #[fv] _ _ hF, hfv]⟩
  have hP4 := (hko w.heap.size (by omega)).trans hP
  have hb4 : Below w.heap.size w (W3.setRow Fb #[fv]) := bel_row hbA (by omega) _
  have HF3 := hid hF
  go_upto_region 4 with (refine stOne 78 (.tmp 4) (.tmp 7) rfl rfl Fb (by rw [hFb]; rfl) fv (by rw [hfv, hLb, hFb]; rfl) (by rw [hfv]; rfl) 78 _ HF3.out (by kernel_rfl) ?_)
  clear hko hbA hP hL hF HF3
  generalize W3.setRow Fb #[fv] = W4 at hO4 hP4 hb4 ⊢
  have hz4 := (Array.getElem?_eq_some_iff.1 hO4.f).1
  have hcf := hO4.cf
  have hne : Fb ≠ Lb := by omega
  have HO4 := hid hO4
  have HB4 := hid hb4
  have HP4 := hid hP4
  have hT4 : TmV (fun b => b ≠ Lb ∧ b < W4.heap.size) W4 main #[x0, x1, x2, x3] := tm_on h1 fun b hb hS => ⟨⟨by omega, by omega⟩, hb4.block b hb⟩
  have HC := hid (fits_any Lb Fb hne _ main _ 4096 1 W4 (Nat.le_refl _) hT4 hO4 (by omega) (by omega))
  rw [show (((1 : Nat) : Nat) : Int) = 1 from rfl] at HC
  have HI := hid h1.info
  have HRM : Hid (W4.rangeAt w.heap.size 0 (#[x0, x1, x2, x3] : Array Value).toList) := by
    show W4.rangeAt _ _ _
    intro j v hj
    rw [Nat.zero_add, cell_of_row _ _ _ _ _ _ hP4]
    have hj4 : j < 4 := by have := (List.getElem?_eq_some_iff.1 hj).1; simpa using this
    have : j = 0 ∨ j = 1 ∨ j = 2 ∨ j = 3 := by omega
    rcases this with rfl | rfl | rfl | rfl <;> simpa using hj
  have HQ2 := hid h2
  have HQ3 := hid h3
  clear hT4 hO4 hb4 hP4 h1 h2 h3 hmf hfv
  subst hFb
  subst hLb
  by_cases hfit : sz main ≤ 4096 ∧ 1 + dp main ≤ 129
  · have HCt := hid (FtP.yes HC.out hfit)
    go_upto_region 6 with (first
      | (refine ldMid 26 (.tmp 9) rfl rfl w.heap.size 0 rfl #[x0, x1, x2, x3] _ Tryz.underlying26 rfl HI.out HRM.out ?_)
      | (go_at_call 35; refine (HCt.out).mono ?_; rintro e w5 ⟨rfl, a1, a2⟩; have HX := hid (And.intro a1 a2); clear a1 a2))
    have hz5 := HX.out.1.size
    have hbl5 : Below w.heap.size w w5 := HB4.out.trans (HX.out.1.below fun k hk => by rcases hk with e | e <;> omega)
    have HS0 : Hid (TbS (w.heap.size + 1) (w.heap.size + 1 + 1) w qs (.slice ao qs.length cap) (4096 - sz main) w5) := ⟨hbl5, HX.out.2, ⟨xs, HQ2.out.carry fun b hb hS => ⟨hS, hbl5.block b hb⟩, QyL.carry (fun b hb hS => ⟨hS, hbl5.block b hb⟩) _ _ HQ3.out⟩⟩
    have d4 : w5.cell? ⟨w.heap.size, 4, none⟩ = some (.slice ao qs.length cap) := (cell_of_row _ _ _ _ _ _ ((HX.out.1.block _ (by rintro (e | e) <;> omega)).trans HP4.out)).trans rfl
    go_upto_region 7 with fail
    clear d4 HX HCt HC HRM hcf HQ2 HQ3 hbl5
    go_loopw [16] (fun v wr => ∃ j : Nat, v = .int .i64 ((j : Nat) : Int) ∧ j ≤ qs.length ∧ sz main + qsz (qs.take j) ≤ 4096 ∧ Hid (∀ i (hi : i < qs.length), i < j → 1 + dp (qs[i]).pd ≤ 129) ∧ Hid (TbS (w.heap.size + 1) (w.heap.size + 1 + 1) w qs (.slice ao qs.length cap) (4096 - sz main - qsz (qs.take j)) wr)) (fun v _ => qs.length - (intOf v).toNat)
    case atStart => exact ⟨0, rfl, Nat.zero_le _, by simp [qsz]; omega, fun i hi h => by omega, by simpa [qsz] using HS0⟩
    case round =>
      clear HS0
      obtain ⟨j, rfl, hj1, hj2, HD, HS⟩ := hrel
      have hj3 := len_qsz qs j hj1
      by_cases hj : j < qs.length
      · obtain ⟨g, o, rfl, hcap, ds, ht, hra⟩ := HS.out.qry hj
        have hs3 : decide ((j : Int) < (qs.length : Int)) = true := by simp; omega
        have hjc : j < cap := by omega
        have hw3 : IntKind.i64.wrap ((j : Int) + 1) = (j : Int) + 1 := by rw [IntKind.wrap_i64]; omega
        obtain ⟨dq, hdq⟩ : ∃ dq : Array Value, dq = #[Value.string (qs[j]).nm] ++ ds := ⟨_, rfl⟩
        rw [← hdq] at hra
        have HQS : Hid (dq.size = 5) := by show _ = _; rw [hdq]; simp [ht.size]
        have HQI : Hid ((Tryz.prog.info? 40).map (·.size) = some dq.size) := by show _ = _; rw [hdq]; exact szQ _ _ ht.size
        have HQ1 : Hid (dq.all (·.oneCell') = true) := by show _ = _; rw [hdq, Array.all_append, ht.one]; simp [Value.oneCell']
        have hb3 : Below wr.heap.size wr (wr.alloc (.cells dq 40)) := (Below.refl _ _).alloc (Nat.le_refl _) _
        have hN3 : (wr.alloc (.cells dq 40)).heap[wr.heap.size]? = some (.cells dq 40 (0, 0)) := heap_alloc_new _ _
        have HR3 : Hid ((wr.alloc (.cells dq 40)).rangeAt wr.heap.size 1 ds.toList) := by
          show World.rangeAt _ _ _ _
          intro i v hi
          rw [cell_of_row _ _ _ _ _ _ hN3, Nat.add_comm, ← Array.getElem?_toList, hdq]
          simpa using hi
        have hO3 := HS.out.own.bel hb3
        have HS3 := hid (HS.out.thn (by omega) (Only.of hb3 fun _ hk => Or.inr hk) hO3)
        have hcf := hO3.cf
        have hzr := HS.out.low.size
        have hzL := (Array.getElem?_eq_some_iff.1 HS.out.own.l).1
        have hzA : (wr.alloc (.cells dq 40)).heap.size = wr.heap.size + 1 := by simp
        have HC := hid (fits_any (w.heap.size + 1) (w.heap.size + 1 + 1) hne _ (qs[j]).pd ds (4096 - sz main - qsz (qs.take j)) 1 _ (Nat.le_refl _) (tm_on ht fun b hb hS => ⟨⟨by omega, by omega⟩, hb3.block b hb⟩) hO3 (by omega) (by omega))
        rw [show (((1 : Nat) : Nat) : Int) = 1 from rfl] at HC
        have HT := hid ht
        have HRA := hid hra
        have HTk := hid (qsz_take hj)
        clear hO3 ht hra hb3 HS hN3 hdq
        have HCt := hid (fun hfit => FtP.yes HC.out hfit)
        have HCf := hid (fun hfit => FtP.no HC.out hfit)
        clear HC
        go_upto_region 9 with (first
          | (refine ldMid 40 (.tmp 18) rfl rfl g (o + j * 5) rfl dq _ Tryz.underlying40 rfl HQI.out HRA.out ?_)
          | (refine stNew 40 (.tmp 6) (.tmp 19) rfl rfl wr 40 #[.string ⟨#[]⟩, .int .i8 0, .int .i8 0, .int .u64 0, nilS] dq rfl rfl rfl HQI.out (by rw [HQS.out]; rfl) HQ1.out ?_))
        generalize wr.alloc (.cells dq 40) = w3 at HS3 hcf HCt HCf hzA HR3 ⊢
        by_cases hft : sz (qs[j]).pd ≤ 4096 - sz main - qsz (qs.take j) ∧ 1 + dp (qs[j]).pd ≤ 129
        · go_wp2_with (first
            | (refine ldMid 26 (.tmp 21) rfl rfl wr.heap.size 1 rfl ds _ Tryz.underlying26 rfl HT.out.info HR3.out ?_)
            | (go_at_call 35; refine (HCt.out hft).mono ?_; rintro e w4 ⟨rfl, a1, a2⟩; have HS4 := hid (HS3.out.thn (by omega) a1 a2); clear a1 a2))
          have hL5 : 4096 - sz main - qsz (qs.take (j + 1)) = 4096 - sz main - qsz (qs.take j) - sz (qs[j]).pd := by rw [HTk.out]; omega
          have hX : ∃ k : Nat, Value.int .i64 ((j : Int) + 1) = .int .i64 ((k : Nat) : Int) ∧ k ≤ qs.length ∧ sz main + qsz (qs.take k) ≤ 4096 ∧ Hid (∀ i (hi : i < qs.length), i < k → 1 + dp (qs[i]).pd ≤ 129) ∧ Hid (TbS (w.heap.size + 1) (w.heap.size + 1 + 1) w qs (.slice (some ⟨g, o, none⟩) qs.length cap) (4096 - sz main - qsz (qs.take k)) w4) := by
            refine ⟨j + 1, by rw [show (((j + 1 : Nat) : Nat) : Int) = (j : Int) + 1 by omega], hj, by rw [HTk.out]; omega, fun i hi hij => ?_, by rw [hL5]; exact HS4⟩
            by_cases e : i = j
            · subst e; exact hft.2
            · exact HD.out i hi (by omega)
          refine ⟨?_, ?_⟩
          · first
              | exact hX
              | ((repeat apply Exists.intro); refine ⟨?_, rfl⟩; exact hX)
          · simp [intOf]; omega
        · have HF : Hid (fitsB ⟨main, qs⟩ = false) := by
            show _ = _
            rw [Bool.eq_false_iff]
            intro h
            have h := HP.out.1 h
            have h1 := qsz_le qs (j + 1)
            have h2 := h.2.2 _ (List.getElem_mem hj)
            rw [HTk.out] at h1
            exact hft (by omega)
          go_wp2_with (first
            | (refine ldMid 26 (.tmp 21) rfl rfl wr.heap.size 1 rfl ds _ Tryz.underlying26 rfl HT.out.info HR3.out ?_)
            | (go_at_call 35; refine (HCf.out hft).mono ?_; rintro e w4 ⟨rfl, a1⟩; have HO5 := hid (HS3.out.low.trans (a1.below (B := w.heap.size) fun k hk => by rcases hk with e | e <;> omega)); clear a1))
          go_ret
          exact ⟨by rw [HF.out]; rfl, HO5.out⟩
      · have hs3 : decide ((j : Int) < (qs.length : Int)) = false := by simp; omega
        obtain rfl : j = qs.length := by omega
        have HF : Hid (fitsB ⟨main, qs⟩ = true) := by
          rw [List.take_length] at hj2
          refine HP.out.2 ⟨hj2, by omega, fun q hq => ?_⟩
          obtain ⟨i, hi, rfl⟩ := List.getElem_of_mem hq
          have := HD.out i hi hi
          omega
        go_wp2
        go_ret
        exact ⟨by rw [HF.out]; rfl, HS.out.low⟩
  · have HCf := hid (FtP.no HC.out hfit)
    have HF : Hid (fitsB ⟨main, qs⟩ = false) := by
      show _ = _
      rw [Bool.eq_false_iff]
      intro h
      have h := HP.out.1 h
      exact hfit (by omega)
    go_wp2_with (first
      | (refine ldMid 26 (.tmp 9) rfl rfl w.heap.size 0 rfl #[x0, x1, x2, x3] _ Tryz.underlying26 rfl HI.out HRM.out ?_)
      | (go_at_call 35; refine (HCf.out).mono ?_; rintro e w5 ⟨rfl, a1⟩; have HX := hid a1; clear a1))
    go_ret
    exact ⟨by rw [HF.out]; rfl, HB4.out.trans (HX.out.below fun k hk => by rcases hk with e | e <;> omega)⟩
end Go.Proofs.YtoncogkamlgjhaaGreatDoor
