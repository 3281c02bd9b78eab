/-
  Proved here: the document's Check and Pred of layer 18. Condition: the policy (the term) lies in old memory.
-/
import Derived.Test.YtjallmncajhamaaDoorVH
namespace Go.Proofs.YtjallmncajhamaaDoor
open Go.RowKit
set_option maxRecDepth 100000

theorem chk_big {p : Pi} (h : ¬ (p.qs.length ≤ 32 ∧ fitI (tmsI p) = true)) : chk p = 200 := by unfold chk; rw [if_neg h]
theorem chk_no {p : Pi} (h : p.qs.length ≤ 32 ∧ fitI (tmsI p) = true) (h2 : ¬ (oneI false p.main = true ∧ AQ p.qs)) : chk p = 170 := by
  unfold chk
  rw [if_pos h, if_neg fun h3 => h2 ⟨h3.1, AQb_iff.1 h3.2⟩]
theorem chk_yes {p : Pi} (h : p.qs.length ≤ 32 ∧ fitI (tmsI p) = true) (h2 : oneI false p.main = true ∧ AQ p.qs) : chk p = 0 := chk_zero.2 ⟨h.1, h.2, h2.1, h2.2⟩
/-- what Check's inner loop reads -/
structure Ck14 (A K g k : Nat) (v : Value) (nk ni : ByteArray) (W : World) : Prop where
  c4 : W.cell? ⟨A, 4, none⟩ = some v
  ck : W.cell? ⟨g, k, none⟩ = some (.string nk)
  ci : W.cell? ⟨K, 0, none⟩ = some (.string ni)
/-- where Check's loops are -/
structure CkS (w : World) (p : Pi) (x0 x1 x2 x3 : Value) (ao : Option Addr) (cap j : Nat) (W : World) : Prop where
  b : Bxp w x0 x1 x2 x3 ao p.qs.length cap W
  a : ∀ i (hi : i < p.qs.length), i < j → nmB (p.qs[i]).nm = true ∧ oneI true (p.qs[i]).pd = true ∧ ∀ m (hm : m < i), (p.qs[m]).nm ≠ (p.qs[i]).nm
theorem CkS.on {w : World} {p : Pi} {x0 x1 x2 x3 : Value} {ao : Option Addr} {cap j : Nat} {W W2 : World} (h : CkS w p x0 x1 x2 x3 ao cap j W) (hb : Below W.heap.size W W2) : CkS w p x0 x1 x2 x3 ao cap j W2 := ⟨h.b.on hb, h.a⟩
theorem qrow_cells {W : World} {K : Nat} {nm : ByteArray} {x0 x1 x2 x3 : Value} (h : W.heap[K]? = some (.cells #[.string nm, x0, x1, x2, x3] 40 (0, 0))) : W.cell? ⟨K, 0, none⟩ = some (.string nm) ∧ W.rangeAt K 1 (#[x0, x1, x2, x3] : Array Value).toList := ⟨(cell_of_row _ _ _ _ _ _ h).trans rfl, five_rng1 h⟩
set_option maxHeartbeats 25600000 in
theorem rcheck8_any (p : Pi) (cs : Array Value) (w : World) (hp : PiV (fun b => b < w.heap.size) w p cs) : Calls Tryd.prog 13 #[.agg cs] w fun e w' => e = .returned (.int .i64 ((chk p : Nat) : Int)) ∧ Below w.heap.size w w' := by
  have HPV := hid hp
  obtain ⟨x0, x1, x2, x3, ao, cap, xs, rfl, h1, h2, h3⟩ := hp.five
  obtain ⟨r, hr⟩ : ∃ r, r = chk p := ⟨_, rfl⟩
  rw [← hr]
  have HRr := hid hr
  have HX : Hid (Bxp w x0 x1 x2 x3 ao p.qs.length cap (w.alloc (.cells #[x0, x1, x2, x3, .slice ao p.qs.length cap] 29))) := Bxp.new _ _ _ _ _ _ _ _
  have H1 := hid h1
  have H2 := hid h2
  have H3 := hid h3
  clear h1 h2 h3 hp hr
  go_enter Tryd.func13, Tryd.ntmps13
  go_upto_region 1 with fail
  generalize w.alloc (.cells #[x0, x1, x2, x3, .slice ao p.qs.length cap] 29) = W1 at HX ⊢
  have c4 := HX.out.c4
  by_cases hl : 32 < p.qs.length
  · have g1 : decide ((32 : Int) < (p.qs.length : Int)) = true := decide_eq_true (by omega)
    have g1n : decide (32 < p.qs.length) = true := decide_eq_true hl
    obtain rfl : r = 200 := HRr.out.trans (chk_big fun h => by omega)
    clear HRr hl
    go_wp2
    go_ret
    exact ⟨rfl, HX.out.b⟩
  have g1 : decide ((32 : Int) < (p.qs.length : Int)) = false := decide_eq_false (by omega)
  have g1n : decide (32 < p.qs.length) = false := decide_eq_false hl
  have HBg := hid (rbig_any p _ W1 (by omega) (HPV.out.carry fun b hb hS => ⟨by have := HX.out.b.size; omega, HX.out.b.block b hb⟩))
  cases hf : fitI (tmsI p) with
  | false =>
    obtain rfl : r = 200 := HRr.out.trans (chk_big fun h => by rw [hf] at h; cases h.2)
    rw [hf] at HBg
    clear HRr hf
    go_wp2_with (first
      | (refine ldRow 29 (.tmp 1) rfl rfl w.heap.size rfl 29 #[x0, x1, x2, x3, .slice ao p.qs.length cap] _ Tryd.underlying29 rfl sizePO HX.out.n ?_)
      | (go_at_call 40; refine (HBg.out).mono ?_; rintro e W2 ⟨rfl, hw⟩; have HX2 := hid (HX.out.on hw); clear hw HBg))
    go_ret
    exact ⟨rfl, HX2.out.b⟩
  | true =>
    have HFt : Hid (p.qs.length ≤ 32 ∧ fitI (tmsI p) = true) := ⟨by omega, hf⟩
    rw [hf] at HBg
    have hfs := fitI_iff.1 hf
    have HSz : Hid (szI p.main ≤ 4096 ∧ ∀ j (hj : j < p.qs.length), szI (p.qs[j]).pd ≤ 4096) := by
      unfold tmsI at hfs
      rw [szsI] at hfs
      refine ⟨by omega, fun j hj => ?_⟩
      have := szsI_mem (ks := p.qs.map (·.pd)) (List.mem_map.2 ⟨p.qs[j], List.getElem_mem hj, rfl⟩)
      omega
    clear hf hfs
    go_upto_region 3 with (first
      | (refine ldRow 29 (.tmp 1) rfl rfl w.heap.size rfl 29 #[x0, x1, x2, x3, .slice ao p.qs.length cap] _ Tryd.underlying29 rfl sizePO HX.out.n ?_)
      | (go_at_call 40; refine (HBg.out).mono ?_; rintro e W2 ⟨rfl, hw⟩; have HX2 := hid (HX.out.on hw); clear hw HBg))
    clear c4 HX
    have HRg := hid (five_rng HX2.out.n)
    have HC := hid (rright_any 4096 p.main #[x0, x1, x2, x3] false W2 HSz.out.1 (Nat.le_refl _) (ti_on H1.out fun b hb hS => ⟨by have := HX2.out.b.size; omega, HX2.out.b.block b hb⟩))
    cases ho : oneI false p.main with
    | false =>
      obtain rfl : r = 170 := HRr.out.trans (chk_no HFt.out fun h => by rw [ho] at h; cases h.1)
      rw [ho] at HC
      clear HRr ho
      go_wp2_with (first
        | (refine ldMid 26 (.tmp 14) rfl rfl w.heap.size 0 rfl #[x0, x1, x2, x3] _ Tryd.underlying26 rfl sizeTM HRg.out ?_)
        | (go_at_call 41; refine (HC.out).mono ?_; rintro e W3 ⟨rfl, hw⟩; have HX3 := hid (HX2.out.on hw); clear hw HC))
      go_ret
      exact ⟨rfl, HX3.out.b⟩
    | true =>
      have HO := hid ho
      rw [ho] at HC
      clear ho
      go_upto_region 6 with (first
        | (refine ldMid 26 (.tmp 14) rfl rfl w.heap.size 0 rfl #[x0, x1, x2, x3] _ Tryd.underlying26 rfl sizeTM HRg.out ?_)
        | (go_at_call 41; refine (HC.out).mono ?_; rintro e W3 ⟨rfl, hw⟩; have HX3 := hid (HX2.out.on hw); clear hw HC))
      clear HRg HX2 g1 g1n
      go_loopw [3] (fun iv wr => ∃ j : Nat, iv = .int .i64 ((j : Nat) : Int) ∧ j ≤ p.qs.length ∧ Hid (CkS w p x0 x1 x2 x3 ao cap j wr)) (fun iv _ => p.qs.length - (intOf iv).toNat)
      case atStart => exact ⟨0, rfl, Nat.zero_le _, HX3.out, fun i hi h => absurd h (by omega)⟩
      case round =>
        clear HX3
        obtain ⟨j, rfl, hj1, HS⟩ := hrel
        have c4 := HS.out.b.c4
        by_cases hj : j < p.qs.length
        · have hs3 : decide ((j : Int) < (p.qs.length : Int)) = true := by simp; omega
          have hw3 : IntKind.i64.wrap ((j : Int) + 1) = (j : Int) + 1 := by rw [IntKind.wrap_i64]; omega
          obtain ⟨g, o, c0, e0, hcap, hgl, kcs, hkv, hkn, hra⟩ := QiL.rng H2.out H3.out hj
          cases e0
          have hlow := HS.out.b.b
          have hk4 := hkv.size
          obtain ⟨y0, y1, y2, y3, rfl⟩ := arr4 hk4
          obtain ⟨nm, hnm⟩ : ∃ nm, nm = (p.qs[j]).nm := ⟨_, rfl⟩
          rw [← hnm] at hkn
          have HNm := hid hnm
          have hjc : j < cap := by omega
          have HRA : Hid (wr.rangeAt g (o + j * 5) (#[.string nm, y0, y1, y2, y3] : Array Value).toList) := fun i v hi => by
            have hi5 : i < 5 := by simpa using (List.getElem?_eq_some_iff.1 hi).1
            cases i with
            | zero =>
              obtain rfl : Value.string nm = v := by simpa using hi
              exact (cell_same (hlow.block g hgl)).trans hkn
            | succ i =>
              have := hra i v (by simpa using hi)
              rw [show o + j * 5 + (i + 1) = o + j * 5 + 1 + i by omega]
              exact (cell_same (hlow.block g hgl)).trans this
          have HO1 : Hid ((#[Value.string nm, y0, y1, y2, y3] : Array Value).all (·.oneCell') = true) := one_of4 hkv.one nm
          have hb3 : Below wr.heap.size wr (wr.alloc (.cells #[.string nm, y0, y1, y2, y3] 40)) := (Below.refl _ _).alloc (Nat.le_refl _) _
          have HS3 := hid (HS.out.on hb3)
          have HK3 : Hid ((wr.alloc (.cells #[.string nm, y0, y1, y2, y3] 40)).heap[wr.heap.size]? = some (.cells #[.string nm, y0, y1, y2, y3] 40 (0, 0))) := heap_alloc_new _ _
          have HKv := hid hkv
          clear hra hkn hnm hkv hlow hb3
          go_upto_region 9 with (first
            | (refine ldMid 40 (.tmp 28) rfl rfl g (o + j * 5) rfl #[.string nm, y0, y1, y2, y3] _ Tryd.underlying40 rfl infoQ5 HRA.out ?_)
            | (refine stNew 40 (.tmp 4) (.tmp 29) rfl rfl wr 40 #[.string ⟨#[]⟩, .int .i8 0, .int .i8 0, .int .u64 0, nilS] #[.string nm, y0, y1, y2, y3] rfl rfl rfl infoQ5 rfl HO1.out ?_))
          generalize wr.alloc (.cells #[.string nm, y0, y1, y2, y3] 40) = W4 at HS3 HK3 ⊢
          generalize wr.heap.size = K at HK3 ⊢
          clear c4 HRA HS HO1
          have q0 := (qrow_cells HK3.out).1
          have HRn := hid (rname_any nm W4)
          have HNo : Hid (nmB nm = false → r = 170) := fun h => HRr.out.trans (chk_no HFt.out fun h2 => by have := (h2.2 j hj).1; rw [← HNm.out, h] at this; cases this)
          cases hn : nmB nm with
          | false =>
            obtain rfl : r = 170 := HNo.out hn
            rw [hn] at HRn
            clear HNo hn HRr
            go_wp2_with (go_at_call 42; refine (HRn.out).mono ?_; rintro e w' ⟨rfl, hw⟩; rw [hw]; clear hw w')
            go_ret
            exact ⟨rfl, HS3.out.b.b⟩
          | true =>
            have HNy := hid hn
            rw [hn] at HRn
            clear HNo hn
            have HRg4 := hid (qrow_cells HK3.out).2
            have HC4 := hid (rright_any 4096 (p.qs[j]).pd #[y0, y1, y2, y3] true W4 (HSz.out.2 j hj) (Nat.le_refl _) (ti_on HKv.out fun b hb hS => ⟨by have := HS3.out.b.b.size; omega, HS3.out.b.b.block b hb⟩))
            have HNo : Hid (oneI true (p.qs[j]).pd = false → r = 170) := fun h => HRr.out.trans (chk_no HFt.out fun h2 => by have := (h2.2 j hj).2.1; rw [h] at this; cases this)
            cases hn : oneI true (p.qs[j]).pd with
            | false =>
              obtain rfl : r = 170 := HNo.out hn
              rw [hn] at HC4
              clear HNo hn HRr
              go_wp2_with (first
                | (go_at_call 42; refine (HRn.out).mono ?_; rintro e w' ⟨rfl, hw⟩; rw [hw]; clear hw w' HRn)
                | (refine ldMid 26 (.tmp 35) rfl rfl K 1 rfl #[y0, y1, y2, y3] _ Tryd.underlying26 rfl sizeTM HRg4.out ?_)
                | (go_at_call 41; refine (HC4.out).mono ?_; rintro e W5 ⟨rfl, hw⟩; have HS5 := hid (HS3.out.on hw); clear hw HC4))
              go_ret
              exact ⟨rfl, HS5.out.b.b⟩
            | true =>
              have HOy := hid hn
              rw [hn] at HC4
              clear HNo hn
              go_upto_region 12 with (first
                | (go_at_call 42; refine (HRn.out).mono ?_; rintro e w' ⟨rfl, hw⟩; rw [hw]; clear hw w' HRn)
                | (refine ldMid 26 (.tmp 35) rfl rfl K 1 rfl #[y0, y1, y2, y3] _ Tryd.underlying26 rfl sizeTM HRg4.out ?_)
                | (go_at_call 41; refine (HC4.out).mono ?_; rintro e W5 ⟨rfl, hw⟩; have HS5 := hid (HS3.out.on hw); have HK5 := hid ((hw.block _ (Array.getElem?_eq_some_iff.1 HK3.out).1).trans HK3.out); clear hw HC4))
              clear q0 HRg4 HS3 HK3
              go_loopw [5] (fun iv wr => ∃ k : Nat, iv = .int .i64 ((k : Nat) : Int) ∧ k ≤ j ∧ Hid (CkS w p x0 x1 x2 x3 (some ⟨g, o, none⟩) cap j wr) ∧ Hid (wr.heap[K]? = some (.cells #[.string nm, y0, y1, y2, y3] 40 (0, 0))) ∧ Hid (∀ m (hm : m < k) (hm' : m < p.qs.length), (p.qs[m]).nm ≠ nm)) (fun iv _ => j - (intOf iv).toNat)
              case atStart => exact ⟨0, rfl, Nat.zero_le _, HS5, HK5, fun m hm => absurd hm (by omega)⟩
              case round =>
                clear HS5 HK5
                obtain ⟨k, rfl, hk1, HS, HK, HM⟩ := hrel
                by_cases hk : k < j
                · have hs4 : decide ((k : Int) < (j : Int)) = true := by simp; omega
                  have hs4n : decide (k < j) = true := decide_eq_true hk
                  have hw4 : IntKind.i64.wrap ((k : Int) + 1) = (k : Int) + 1 := by rw [IntKind.wrap_i64]; omega
                  have hkl : k < p.qs.length := by omega
                  have hkc : k < cap := by omega
                  obtain ⟨g9, o9, c9, e9, -, -, -, -, hkn, -⟩ := QiL.rng H2.out H3.out hkl
                  cases e9
                  obtain ⟨nk, hnk⟩ : ∃ nk, nk = (p.qs[k]).nm := ⟨_, rfl⟩
                  rw [← hnk] at hkn
                  have HNk := hid hnk
                  have HR : Hid (Ck14 w.heap.size K g (o + k * 5) (.slice (some ⟨g, o, none⟩) p.qs.length cap) nk nm wr.drew) := ⟨HS.out.b.c4, (cell_same (HS.out.b.b.block _ hgl)).trans hkn, (qrow_cells HK.out).1⟩
                  have HSd := hid (HS.out.on (bel_drew (Below.refl wr.heap.size wr)))
                  have HKd : Hid (wr.drew.heap[K]? = some (.cells #[.string nm, y0, y1, y2, y3] 40 (0, 0))) := HK.out
                  clear hkn hnk HS HK
                  by_cases hen : nk = nm
                  · obtain rfl : r = 170 := HRr.out.trans (chk_no HFt.out fun h2 => (h2.2 j hj).2.2 k hk (by rw [← HNk.out, ← HNm.out]; exact hen))
                    subst hen
                    clear HNk HM HRr
                    go_upto_region 14 with fail
                    refine wp_region_held_drew (S := Ck14 w.heap.size K g (o + k * 5) (.slice (some ⟨g, o, none⟩) p.qs.length cap) nk nk) (by kernel_rfl) HR.out (fun hHeld => ?_)
                    refine wpAnyH_take (i := 0) (v := ?_) rfl (by kernel_rfl) (by kernel_rfl) (by kernel_rfl) (fun _ _ _ h => h) (Or.inl ⟨by rfl, ?_⟩) hHeld ?_
                    rotate_left
                    · intro w' hSw
                      have c4 := hSw.c4
                      have ck := hSw.ck
                      have ci := hSw.ci
                      clear hSw
                      go_simp
                      first | done | with_reducible rfl
                    simp only [Act.put, List.getElem_toArray, List.getElem_cons_zero, List.setIfInBounds_toArray, List.set_cons_zero, List.set_cons_succ]
                    refine wpAnyH_take (i := 1) (v := ?_) rfl (by kernel_rfl) (by kernel_rfl) (by kernel_rfl) (fun _ _ _ h => h) (Or.inl ⟨by rfl, ?_⟩) hHeld ?_
                    rotate_left
                    · intro w' hSw
                      have c4 := hSw.c4
                      have ck := hSw.ck
                      have ci := hSw.ci
                      clear hSw
                      go_simp
                      first | done | with_reducible rfl
                    simp only [Act.put, List.getElem_toArray, List.getElem_cons_succ, List.getElem_cons_zero, List.setIfInBounds_toArray, List.set_cons_zero, List.set_cons_succ]
                    refine wpAnyH_take (i := 2) (v := ?_) rfl (by kernel_rfl) (by kernel_rfl) (by kernel_rfl) (fun _ _ _ h => h) (Or.inl ⟨by rfl, ?_⟩) hHeld ?_
                    rotate_left
                    · intro w' hSw
                      have c4 := hSw.c4
                      have ck := hSw.ck
                      have ci := hSw.ci
                      clear hSw
                      go_simp
                      first | done | with_reducible rfl
                    simp only [Act.put, List.getElem_toArray, List.getElem_cons_succ, List.getElem_cons_zero, List.setIfInBounds_toArray, List.set_cons_zero, List.set_cons_succ]
                    refine wpAnyH_take (i := 3) (v := ?_) rfl (by kernel_rfl) (by kernel_rfl) (by kernel_rfl) (fun _ _ _ h => h) (Or.inl ⟨by rfl, ?_⟩) hHeld ?_
                    rotate_left
                    · intro w' hSw
                      have c4 := hSw.c4
                      have ck := hSw.ck
                      have ci := hSw.ci
                      clear hSw
                      go_simp
                      first | done | with_reducible rfl
                    simp only [Act.put, List.getElem_toArray, List.getElem_cons_succ, List.getElem_cons_zero, List.setIfInBounds_toArray, List.set_cons_zero, List.set_cons_succ]
                    refine wpAnyH_take (i := 4) (v := ?_) rfl (by kernel_rfl) (by kernel_rfl) (by kernel_rfl) (fun _ _ _ h => h) (Or.inl ⟨by rfl, ?_⟩) hHeld ?_
                    rotate_left
                    · intro w' hSw
                      have c4 := hSw.c4
                      have ck := hSw.ck
                      have ci := hSw.ci
                      clear hSw
                      go_simp
                      first | done | with_reducible rfl
                    simp only [Act.put, List.getElem_toArray, List.getElem_cons_succ, List.getElem_cons_zero, List.setIfInBounds_toArray, List.set_cons_zero, List.set_cons_succ]
                    refine wpAnyH_take (i := 5) (v := ?_) rfl (by kernel_rfl) (by kernel_rfl) (by kernel_rfl) (fun _ _ _ h => h) (Or.inl ⟨by rfl, ?_⟩) hHeld ?_
                    rotate_left
                    · intro w' hSw
                      have c4 := hSw.c4
                      have ck := hSw.ck
                      have ci := hSw.ci
                      clear hSw
                      go_simp
                      first | done | with_reducible rfl
                    simp only [Act.put, List.getElem_toArray, List.getElem_cons_succ, List.getElem_cons_zero, List.setIfInBounds_toArray, List.set_cons_zero, List.set_cons_succ]
                    refine wpAnyH_take (i := 6) (v := ?_) rfl (by kernel_rfl) (by kernel_rfl) (by kernel_rfl) (fun _ _ _ h => h) (Or.inl ⟨by rfl, ?_⟩) hHeld ?_
                    rotate_left
                    · intro w' hSw
                      have c4 := hSw.c4
                      have ck := hSw.ck
                      have ci := hSw.ci
                      clear hSw
                      go_simp
                      first | done | with_reducible rfl
                    simp only [Act.put, List.getElem_toArray, List.getElem_cons_succ, List.getElem_cons_zero, List.setIfInBounds_toArray, List.set_cons_zero, List.set_cons_succ]
                    refine wpAnyH_take (i := 7) (v := ?_) rfl (by kernel_rfl) (by kernel_rfl) (by kernel_rfl) (fun _ _ _ h => h) (Or.inl ⟨by rfl, ?_⟩) hHeld ?_
                    rotate_left
                    · intro w' hSw
                      have c4 := hSw.c4
                      have ck := hSw.ck
                      have ci := hSw.ci
                      clear hSw
                      go_simp
                      first | done | with_reducible rfl
                    simp only [Act.put, List.getElem_toArray, List.getElem_cons_succ, List.getElem_cons_zero, List.setIfInBounds_toArray, List.set_cons_zero, List.set_cons_succ]
                    refine wpAnyH_take (i := 8) (v := (.bool true)) rfl (by kernel_rfl) (by kernel_rfl) (by kernel_rfl) (fun _ _ _ h => h) (Or.inl ⟨by rfl, ?_⟩) hHeld ?_
                    · intro w' hSw
                      clear hSw
                      go_simp
                      first | done | with_reducible rfl
                    simp only [Act.put, List.getElem_toArray, List.getElem_cons_succ, List.getElem_cons_zero, List.setIfInBounds_toArray, List.set_cons_zero, List.set_cons_succ]
                    refine wpAnyH_done (by kernel_rfl) ?_ _
                    clear hHeld
                    go_wp2
                    go_ret
                    exact ⟨rfl, HSd.out.b.b⟩
                  · have g9' : (nk.toList == nm.toList) = false := str_b (b := false) (decide_eq_false hen)
                    have HM2 : Hid (∀ m (hm : m < k + 1) (hm' : m < p.qs.length), (p.qs[m]).nm ≠ nm) := fun m hm hm' => by
                      by_cases h : m = k
                      · subst h; rw [← HNk.out]; exact hen
                      · exact HM.out m (by omega) hm'
                    clear HNk HM hen
                    go_upto_region 14 with fail
                    refine wp_region_held_drew (S := Ck14 w.heap.size K g (o + k * 5) (.slice (some ⟨g, o, none⟩) p.qs.length cap) nk nm) (by kernel_rfl) HR.out (fun hHeld => ?_)
                    refine wpAnyH_take (i := 0) (v := ?_) rfl (by kernel_rfl) (by kernel_rfl) (by kernel_rfl) (fun _ _ _ h => h) (Or.inl ⟨by rfl, ?_⟩) hHeld ?_
                    rotate_left
                    · intro w' hSw
                      have c4 := hSw.c4
                      have ck := hSw.ck
                      have ci := hSw.ci
                      clear hSw
                      go_simp
                      first | done | with_reducible rfl
                    simp only [Act.put, List.getElem_toArray, List.getElem_cons_zero, List.setIfInBounds_toArray, List.set_cons_zero, List.set_cons_succ]
                    refine wpAnyH_take (i := 1) (v := ?_) rfl (by kernel_rfl) (by kernel_rfl) (by kernel_rfl) (fun _ _ _ h => h) (Or.inl ⟨by rfl, ?_⟩) hHeld ?_
                    rotate_left
                    · intro w' hSw
                      have c4 := hSw.c4
                      have ck := hSw.ck
                      have ci := hSw.ci
                      clear hSw
                      go_simp
                      first | done | with_reducible rfl
                    simp only [Act.put, List.getElem_toArray, List.getElem_cons_succ, List.getElem_cons_zero, List.setIfInBounds_toArray, List.set_cons_zero, List.set_cons_succ]
                    refine wpAnyH_take (i := 2) (v := ?_) rfl (by kernel_rfl) (by kernel_rfl) (by kernel_rfl) (fun _ _ _ h => h) (Or.inl ⟨by rfl, ?_⟩) hHeld ?_
                    rotate_left
                    · intro w' hSw
                      have c4 := hSw.c4
                      have ck := hSw.ck
                      have ci := hSw.ci
                      clear hSw
                      go_simp
                      first | done | with_reducible rfl
                    simp only [Act.put, List.getElem_toArray, List.getElem_cons_succ, List.getElem_cons_zero, List.setIfInBounds_toArray, List.set_cons_zero, List.set_cons_succ]
                    refine wpAnyH_take (i := 3) (v := ?_) rfl (by kernel_rfl) (by kernel_rfl) (by kernel_rfl) (fun _ _ _ h => h) (Or.inl ⟨by rfl, ?_⟩) hHeld ?_
                    rotate_left
                    · intro w' hSw
                      have c4 := hSw.c4
                      have ck := hSw.ck
                      have ci := hSw.ci
                      clear hSw
                      go_simp
                      first | done | with_reducible rfl
                    simp only [Act.put, List.getElem_toArray, List.getElem_cons_succ, List.getElem_cons_zero, List.setIfInBounds_toArray, List.set_cons_zero, List.set_cons_succ]
                    refine wpAnyH_take (i := 4) (v := ?_) rfl (by kernel_rfl) (by kernel_rfl) (by kernel_rfl) (fun _ _ _ h => h) (Or.inl ⟨by rfl, ?_⟩) hHeld ?_
                    rotate_left
                    · intro w' hSw
                      have c4 := hSw.c4
                      have ck := hSw.ck
                      have ci := hSw.ci
                      clear hSw
                      go_simp
                      first | done | with_reducible rfl
                    simp only [Act.put, List.getElem_toArray, List.getElem_cons_succ, List.getElem_cons_zero, List.setIfInBounds_toArray, List.set_cons_zero, List.set_cons_succ]
                    refine wpAnyH_take (i := 5) (v := ?_) rfl (by kernel_rfl) (by kernel_rfl) (by kernel_rfl) (fun _ _ _ h => h) (Or.inl ⟨by rfl, ?_⟩) hHeld ?_
                    rotate_left
                    · intro w' hSw
                      have c4 := hSw.c4
                      have ck := hSw.ck
                      have ci := hSw.ci
                      clear hSw
                      go_simp
                      first | done | with_reducible rfl
                    simp only [Act.put, List.getElem_toArray, List.getElem_cons_succ, List.getElem_cons_zero, List.setIfInBounds_toArray, List.set_cons_zero, List.set_cons_succ]
                    refine wpAnyH_take (i := 6) (v := ?_) rfl (by kernel_rfl) (by kernel_rfl) (by kernel_rfl) (fun _ _ _ h => h) (Or.inl ⟨by rfl, ?_⟩) hHeld ?_
                    rotate_left
                    · intro w' hSw
                      have c4 := hSw.c4
                      have ck := hSw.ck
                      have ci := hSw.ci
                      clear hSw
                      go_simp
                      first | done | with_reducible rfl
                    simp only [Act.put, List.getElem_toArray, List.getElem_cons_succ, List.getElem_cons_zero, List.setIfInBounds_toArray, List.set_cons_zero, List.set_cons_succ]
                    refine wpAnyH_take (i := 7) (v := ?_) rfl (by kernel_rfl) (by kernel_rfl) (by kernel_rfl) (fun _ _ _ h => h) (Or.inl ⟨by rfl, ?_⟩) hHeld ?_
                    rotate_left
                    · intro w' hSw
                      have c4 := hSw.c4
                      have ck := hSw.ck
                      have ci := hSw.ci
                      clear hSw
                      go_simp
                      first | done | with_reducible rfl
                    simp only [Act.put, List.getElem_toArray, List.getElem_cons_succ, List.getElem_cons_zero, List.setIfInBounds_toArray, List.set_cons_zero, List.set_cons_succ]
                    refine wpAnyH_take (i := 8) (v := (.bool false)) rfl (by kernel_rfl) (by kernel_rfl) (by kernel_rfl) (fun _ _ _ h => h) (Or.inl ⟨by rfl, ?_⟩) hHeld ?_
                    · intro w' hSw
                      clear hSw
                      go_simp
                      first | done | with_reducible rfl
                    simp only [Act.put, List.getElem_toArray, List.getElem_cons_succ, List.getElem_cons_zero, List.setIfInBounds_toArray, List.set_cons_zero, List.set_cons_succ]
                    refine wpAnyH_done (by kernel_rfl) ?_ _
                    clear hHeld g9'
                    go_wp2
                    refine ⟨⟨k + 1, rfl, hk, HSd, HKd, HM2⟩, ?_⟩
                    simp [intOf]; omega
                · have hs4 : decide ((k : Int) < (j : Int)) = false := by simp; omega
                  have hs4n : decide (k < j) = false := decide_eq_false hk
                  obtain rfl : k = j := by omega
                  have HS2 : Hid (CkS w p x0 x1 x2 x3 (some ⟨g, o, none⟩) cap (k + 1) wr) := ⟨HS.out.b, fun i hi hik => by
                    by_cases h : i = k
                    · subst h
                      exact ⟨by rw [← HNm.out]; exact HNy.out, HOy.out, fun m hm => by rw [← HNm.out]; exact HM.out m hm (by omega)⟩
                    · exact HS.out.a i hi (by omega)⟩
                  clear HS HM HK
                  go_wp2
                  refine ⟨⟨k + 1, rfl, hj, HS2⟩, ?_⟩
                  simp [intOf]; omega
        · have hs3 : decide ((j : Int) < (p.qs.length : Int)) = false := by simp; omega
          obtain rfl : j = p.qs.length := by omega
          obtain rfl : r = 0 := HRr.out.trans (chk_yes HFt.out ⟨HO.out, fun i hi => HS.out.a i hi hi⟩)
          clear HRr
          go_wp2
          go_ret
          exact ⟨rfl, HS.out.b.b⟩
theorem run_bpm (x0 x1 x2 x3 : Value) (W : World) : (Instr.build 29 #[(0, .agg #[x0, x1, x2, x3])]).run Tryd.prog W = .ok (.agg #[x0, x1, x2, x3, .slice none 0 0]) W := by kernel_rfl
theorem prd_tms (t : Ti) : fitI (tmsI ⟨t, []⟩) = fitI [t] := rfl
set_option maxHeartbeats 12800000 in
theorem rpred8_any (t : Ti) (cs : Array Value) (w : World) (hp : TiV (fun b => b < w.heap.size) w t cs) : Calls Tryd.prog 15 #[.agg cs] w fun e w' => e = .returned (.int .i64 ((prd t : Nat) : Int)) ∧ Below w.heap.size w w' := by
  have h4 := hp.size
  obtain ⟨x0, x1, x2, x3, rfl⟩ := arr4 h4
  have hB1 : Below w.heap.size w (w.alloc (.cells #[x0, x1, x2, x3] 26)) := (Below.refl _ _).alloc (Nat.le_refl _) _
  have HN1 : Hid ((w.alloc (.cells #[x0, x1, x2, x3] 26)).heap[w.heap.size]? = some (.cells #[x0, x1, x2, x3] 26 (0, 0))) := heap_alloc_new _ _
  have hv1 : TiV (fun b => b < (w.alloc (.cells #[x0, x1, x2, x3] 26)).heap.size) (w.alloc (.cells #[x0, x1, x2, x3] 26)) t #[x0, x1, x2, x3] := ti_on hp fun b hb _ => ⟨by simp; omega, heap_alloc_old _ _ hb⟩
  have HBg := hid (rbig_any ⟨t, []⟩ #[x0, x1, x2, x3, nilS] (w.alloc (.cells #[x0, x1, x2, x3] 26)) (by simp) ⟨#[x0, x1, x2, x3], nilS, [], rfl, hv1, ⟨rfl, none, 0, rfl, Nat.le_refl _, fun h => absurd rfl h⟩, rfl⟩)
  have HB1 := hid hB1
  have HV := hid hp
  obtain ⟨r, hr⟩ : ∃ r, r = prd t := ⟨_, rfl⟩
  rw [← hr]
  have HR := hid hr
  have hbp := fun W => run_bpm x0 x1 x2 x3 W
  rw [prd_tms] at HBg
  clear hp hB1 hv1 hr h4
  go_enter Tryd.func15, Tryd.ntmps15
  go_upto_region 1 with fail
  generalize w.alloc (.cells #[x0, x1, x2, x3] 26) = W1 at HN1 HB1 HBg ⊢
  cases hf : fitI [t] with
  | false =>
    obtain rfl : r = 200 := by rw [HR.out]; unfold prd; rw [if_neg (by rw [hf]; decide)]
    rw [hf] at HBg
    clear HR hf
    go_wp2_with (first
      | (refine ldRow 26 (.tmp 1) rfl rfl w.heap.size rfl 26 #[x0, x1, x2, x3] _ Tryd.underlying26 rfl sizeTM HN1.out ?_)
      | (go_at_call 40; refine (HBg.out).mono ?_; rintro e W2 ⟨rfl, hw⟩; have HB2 := hid (HB1.out.trans (hw.mono HB1.out.size)); clear hw HBg))
    go_ret
    exact ⟨rfl, HB2.out⟩
  | true =>
    have HSz : Hid (szI t ≤ 4096) := by have := (fitI_iff.1 hf).1; rw [szsI, szsI] at this; show _ ≤ _; omega
    have HR2 : Hid (r = if oneI true t = true then 0 else 170) := by show _ = _; rw [HR.out]; unfold prd; rw [if_pos hf]
    rw [hf] at HBg
    clear HR hf
    go_upto_region 3 with (first
      | (refine ldRow 26 (.tmp 1) rfl rfl w.heap.size rfl 26 #[x0, x1, x2, x3] _ Tryd.underlying26 rfl sizeTM HN1.out ?_)
      | (go_at_call 40; refine (HBg.out).mono ?_; rintro e W2 ⟨rfl, hw⟩; have HB2 := hid (HB1.out.trans (hw.mono HB1.out.size)); have HN2 := hid ((hw.block _ (Array.getElem?_eq_some_iff.1 HN1.out).1).trans HN1.out); clear hw HBg))
    clear HB1 HN1 hbp
    have HC := hid (rright_any 4096 t #[x0, x1, x2, x3] true W2 HSz.out (Nat.le_refl _) (ti_on HV.out fun b hb hS => ⟨by have := HB2.out.size; omega, HB2.out.block b hb⟩))
    cases ho : oneI true t with
    | false =>
      obtain rfl : r = 170 := by rw [HR2.out, ho]; rfl
      rw [ho] at HC
      clear HR2 ho
      go_wp2_with (first
        | (refine ldRow 26 (.tmp 1) rfl rfl w.heap.size rfl 26 #[x0, x1, x2, x3] _ Tryd.underlying26 rfl sizeTM HN2.out ?_)
        | (go_at_call 41; refine (HC.out).mono ?_; rintro e W3 ⟨rfl, hw⟩; have HB3 := hid (HB2.out.trans (hw.mono HB2.out.size)); clear hw HC))
      go_ret
      exact ⟨rfl, HB3.out⟩
    | true =>
      obtain rfl : r = 0 := by rw [HR2.out, ho]; rfl
      rw [ho] at HC
      clear HR2 ho
      go_wp2_with (first
        | (refine ldRow 26 (.tmp 1) rfl rfl w.heap.size rfl 26 #[x0, x1, x2, x3] _ Tryd.underlying26 rfl sizeTM HN2.out ?_)
        | (go_at_call 41; refine (HC.out).mono ?_; rintro e W3 ⟨rfl, hw⟩; have HB3 := hid (HB2.out.trans (hw.mono HB2.out.size)); clear hw HC))
      go_ret
      exact ⟨rfl, HB3.out⟩
end Go.Proofs.YtjallmncajhamaaDoor
