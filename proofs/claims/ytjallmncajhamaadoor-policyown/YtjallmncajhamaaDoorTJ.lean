/-
  Proved here: Plain of package policy, of a policy that Check takes. Conditions: the tables; the policy lies in old memory.
-/
import Derived.Test.YtjallmncajhamaaDoorTI
namespace Go.Proofs.YtjallmncajhamaaDoor
open Go.RowKit
set_option maxRecDepth 100000

/-- where Plain's loop is -/
structure PlL (w : World) (cs : Array Value) (P : Po) (qv : Value) (M : Nat) (y0 y1 y2 y3 : Value) (j : Nat) (v : Value) (wr : World) : Prop where
  tp : Tp w cs wr
  md : ∃ W2, w.heap.size + 1 + 1 ≤ W2.heap.size ∧ MdS W2 M (ti (pl P.main)) y0 y1 y2 y3 ((pi (plPo P)).qs.take j) v wr
  q : AqS w (pi P).qs qv wr
theorem PlL.on {w : World} {cs : Array Value} {P : Po} {qv : Value} {M : Nat} {y0 y1 y2 y3 : Value} {j : Nat} {v : Value} {wr w' : World} (h : PlL w cs P qv M y0 y1 y2 y3 j v wr) (hb : Below wr.heap.size wr w') : PlL w cs P qv M y0 y1 y2 y3 j v w' := by
  obtain ⟨W2, q1, q2⟩ := h.md
  exact ⟨h.tp.on hb, ⟨W2, q1, q2.on hb⟩, h.q.on hb⟩
/-- what the round reads -/
structure Rq (G : Nat) (nm : ByteArray) (x0 x1 x2 x3 : Value) (W : World) : Prop where
  n0 : W.cell? ⟨G, 0, none⟩ = some (.string nm)
  rk : W.rangeAt G 1 (#[x0, x1, x2, x3] : Array Value).toList
structure Rm (M : Nat) (v : Value) (W : World) : Prop where
  m4 : W.cell? ⟨M, 4, none⟩ = some v
theorem Rq.of {G t : Nat} {nm : ByteArray} {x0 x1 x2 x3 : Value} {W : World} (h : W.heap[G]? = some (.cells #[.string nm, x0, x1, x2, x3] t (0, 0))) : Rq G nm x0 x1 x2 x3 W := ⟨(cell_of_row _ _ _ _ _ _ h).trans rfl, five_rng1 h⟩
theorem Rm.of {M t : Nat} {v x0 x1 x2 x3 : Value} {W : World} (h : W.heap[M]? = some (.cells #[x0, x1, x2, x3, v] t (0, 0))) : Rm M v W := ⟨(cell_of_row _ _ _ _ _ _ h).trans rfl⟩
theorem plq_take {P : Po} {j : Nat} (hj : j < P.qs.length) : (pi (plPo P)).qs.take (j + 1) = (pi (plPo P)).qs.take j ++ [⟨(P.qs[j]).nm, ti (pl (P.qs[j]).pd)⟩] := by
  have hl : j < (pi (plPo P)).qs.length := by rw [pi_len]; simpa [plPo] using hj
  rw [List.take_add_one, List.getElem?_eq_getElem hl]
  simp [pi, plPo, plQ]
theorem PlL.next {w : World} {cs : Array Value} {P : Po} {qv : Value} {M : Nat} {y0 y1 y2 y3 : Value} {j i : Nat} {v v' : Value} {wd w8 W2 : World} {acc : List Qi} (h : PlL w cs P qv M y0 y1 y2 y3 j v wd) (hW : w.heap.size + 1 + 1 ≤ W2.heap.size) (hm : MdS W2 M (ti (pl P.main)) y0 y1 y2 y3 ((pi (plPo P)).qs.take j) v wd) (hn : MdS W2 M (ti (pl P.main)) y0 y1 y2 y3 acc v' w8) (ha : (pi (plPo P)).qs.take i = acc) : PlL w cs P qv M y0 y1 y2 y3 i v' w8 := by
  have hk : ∀ b, b < w.heap.size + 1 + 1 → w8.heap[b]? = wd.heap[b]? := fun b hb => (hn.low.block b (by omega)).trans (hm.low.block b (by omega)).symm
  have hz := hn.low.size
  have hbl : Below w.heap.size w w8 := ⟨hn.low.os.trans (hm.low.os.symm.trans h.tp.b.os), hn.low.tape.trans (hm.low.tape.symm.trans h.tp.b.tape), hn.low.output.trans (hm.low.output.symm.trans h.tp.b.output), by omega, fun b hb => (hk b (by omega)).trans (h.tp.b.block b hb)⟩
  exact ⟨⟨hbl, (hk _ (by omega)).trans h.tp.n, (hk _ (by omega)).trans h.tp.r, by omega⟩, ⟨W2, hW, by rw [ha]; exact hn⟩, h.q.keep hbl⟩
set_option maxHeartbeats 25600000 in
theorem plain8_ok (P : Po) (cs : Array Value) (w : World) (hp : PiV (fun b => b < w.heap.size) w (pi P) cs) (hok : OkW P) (hT : TabP w) (hz : 3 ≤ w.heap.size) : Calls Tryd.prog 17 #[.agg cs] w fun e w' => ∃ ds, e = .returned (.tuple #[.agg ds, .int .i64 0]) ∧ Below w.heap.size w w' ∧ PiV (fun b => w.heap.size ≤ b) w' (pi (plPo P)) ds := by
  have HPV := hid hp
  have HOk := hid hok
  have HTw := hid hT
  obtain ⟨x0, x1, x2, x3, ao, cap, xs, rfl, h1, h2, h3⟩ := hp.five
  rw [pi_len] at h2 HPV ⊢
  have hq0 : AqS w (pi P).qs (.slice ao P.qs.length cap) w := ⟨Below.refl _ _, xs, by rw [pi_len]; exact h2, h3⟩
  have HQ0 := hid hq0
  have HM := hid h1
  have hl32 := hok.l
  obtain ⟨W1, hW1⟩ : ∃ W1, W1 = (w.alloc (.cells #[x0, x1, x2, x3, .slice ao P.qs.length cap] 29)).alloc (.cells pz 29) := ⟨_, rfl⟩
  have HE : Hid ((w.alloc (.cells #[x0, x1, x2, x3, .slice ao P.qs.length cap] 29)).alloc (.cells #[.int .i8 0, .int .i8 0, .int .u64 0, .slice none 0 0, .slice none 0 0] 29) = W1) := hW1.symm
  have HT : Hid (Tp w #[x0, x1, x2, x3, .slice ao P.qs.length cap] W1) := by show Tp _ _ _; rw [hW1]; exact Tp.new _ _
  have hC := check8_any (pi P) _ W1 (HPV.out.carry fun b hb hS => ⟨by have := HT.out.b.size; omega, HT.out.b.block b hb⟩) hok.wp (hT.on HT.out.b hz) (by have := HT.out.sz; omega)
  rw [okW_chk hok] at hC
  have HC := hid hC
  have HPl : Hid (∀ W, Below W1.heap.size W1 W → Calls Tryd.prog 46 #[.agg #[x0, x1, x2, x3]] W fun e w' => ∃ ds, e = .returned (.agg ds) ∧ Below W.heap.size W w' ∧ UmV (fun b => W.heap.size ≤ b) w' (pl P.main) ds) := fun W hb =>
    plain8_any 4096 P.main #[x0, x1, x2, x3] false W (by have := HOk.out.s; omega) (Nat.le_refl _) HOk.out.m (um_on (t := P.main) HM.out fun b hl2 hS => ⟨by have := hb.size; have := HT.out.b.size; omega, (hb.block b (by have := HT.out.sz; omega)).trans (HT.out.b.block b hS)⟩) (HTw.out.on (HT.out.b.trans (hb.mono HT.out.b.size)) hz) (by have := hb.size; have := HT.out.sz; omega)
  clear hW1 hp h1 h2 h3 hq0 hC hok hT HPV
  go_enter Tryd.func17, Tryd.ntmps17
  go_upto_region 1 with fail
  rw [show (w.alloc (.cells #[x0, x1, x2, x3, .slice ao P.qs.length cap] 29)).alloc (.cells #[.int .i8 0, .int .i8 0, .int .u64 0, .slice none 0 0, .slice none 0 0] 29) = W1 from HE.out]
  clear HE
  go_upto_region 4 with (first
    | (refine ldRow 29 (.tmp 1) rfl rfl w.heap.size rfl 29 #[x0, x1, x2, x3, .slice ao P.qs.length cap] _ Tryd.underlying29 rfl sizePO HT.out.n ?_)
    | (go_at_call 12; refine (HC.out).mono ?_; rintro e w2 ⟨rfl, hw⟩; have HT2 := hid (HT.out.on hw); have HPl2 := hid (HPl.out w2 hw); have HRg2 := hid (five_rng HT2.out.n); clear hw HC HPl))
  clear HT
  go_upto_region 5 with (first
    | (refine ldMid 26 (.tmp 14) rfl rfl w.heap.size 0 rfl #[x0, x1, x2, x3] _ Tryd.underlying26 rfl sizeTM HRg2.out ?_)
    | (refine stNew 29 (.tmp 5) (.tmp 17) rfl rfl w3 29 pz #[y0, y1, y2, y3, .slice none 0 0] rfl rfl rfl sizePO rfl HY5.out ?_)
    | (go_at_call 46; refine (HPl2.out).mono ?_; rintro e w3 ⟨ds, rfl, hw, hu⟩; obtain ⟨y0, y1, y2, y3, rfl⟩ := arr4 hu.size; have hbp := run_bp0 y0 y1 y2 y3; have HT3 := hid (HT2.out.on hw); have HY5 : Hid ((#[y0, y1, y2, y3, .slice none 0 0] : Array Value).all (·.oneCell') = true) := (by show _ = _; have h1 := hu.one; simp only [List.all_toArray, List.all_cons, List.all_nil, Bool.and_true] at h1 ⊢; simpa [Value.oneCell', and_assoc] using h1); have HU3 := hid hu; have HB3 := hid hw; clear hw hu HPl2))
  have hbA : Below w3.heap.size w3 (w3.alloc (.cells #[y0, y1, y2, y3, .slice none 0 0] 29)) := (Below.refl _ _).alloc (Nat.le_refl _) _
  have HL0 : Hid (PlL w #[x0, x1, x2, x3, .slice ao P.qs.length cap] P (.slice ao P.qs.length cap) w3.heap.size y0 y1 y2 y3 0 nilS (w3.alloc (.cells #[y0, y1, y2, y3, .slice none 0 0] 29))) := by
    refine ⟨HT3.out.on hbA, ⟨w2, HT2.out.sz, ?_⟩, HQ0.out.keep (HT3.out.b.trans (hbA.mono HT3.out.b.size))⟩
    rw [List.take_zero]
    exact ⟨HB3.out.trans (hbA.mono HB3.out.size), HB3.out.size, heap_alloc_new _ _, ti_on HU3.out fun b hb hS => ⟨⟨hS, by omega, by simp [Value.ownBlock]⟩, hbA.block b hb⟩, [], Rw.nil _ _ _ _, rfl⟩
  have hM3 : w.heap.size + 1 + 1 ≤ w3.heap.size := HT3.out.sz
  clear hbA HT2 HT3 HU3 HB3 HRg2 HQ0
  generalize w3.alloc (.cells #[y0, y1, y2, y3, .slice none 0 0] 29) = W4 at HL0 ⊢
  generalize w3.heap.size = M at HL0 hM3 ⊢
  have c4 : W4.cell? ⟨w.heap.size, 4, none⟩ = some (.slice ao P.qs.length cap) := (cell_of_row _ _ _ _ _ _ HL0.out.tp.n).trans rfl
  go_upto_region 6 with fail
  clear c4
  go_loopw [21] (fun v wr => ∃ (j : Nat) (vo : Option Addr) (vc : Nat), v = .int .i64 ((j : Nat) : Int) ∧ j ≤ P.qs.length ∧ Hid (PlL w #[x0, x1, x2, x3, .slice ao P.qs.length cap] P (.slice ao P.qs.length cap) M y0 y1 y2 y3 j (.slice vo j vc) wr)) (fun v _ => P.qs.length - (intOf v).toNat)
  case atStart => exact ⟨0, none, 0, rfl, Nat.zero_le _, HL0⟩
  case round =>
    clear HL0
    obtain ⟨j, vo, vc, rfl, hj1, HS⟩ := hrel
    by_cases hj : j < P.qs.length
    · have hjp : j < (pi P).qs.length := by rw [pi_len]; exact hj
      have hq1 := HS.out.q
      rw [← pi_len P] at hq1
      obtain ⟨g, o, e1, hcap, z0, z1, z2, z3, ht, hra, hone⟩ := hq1.qry hjp
      subst e1
      rw [pi_len] at hcap
      rw [pi_at P hj hjp] at ht hra
      have hs3 : decide ((j : Int) < (P.qs.length : Int)) = true := by simp; omega
      have hjc : j < cap := by omega
      have hw3 : IntKind.i64.wrap ((j : Int) + 1) = (j : Int) + 1 := by rw [IntKind.wrap_i64]; omega
      have HJJ := hid (plq_take hj)
      have hqm : P.qs[j] ∈ P.qs := List.getElem_mem hj
      obtain ⟨nm, hnm⟩ : ∃ nm, nm = (P.qs[j]).nm := ⟨_, rfl⟩
      obtain ⟨qt, hqt⟩ : ∃ qt, qt = (P.qs[j]).pd := ⟨_, rfl⟩
      have hqok : oneT true qt = true ∧ sz qt ≤ 4096 := by rw [hqt]; exact ⟨HOk.out.q _ hqm, by have := HOk.out.s; have := qsz_mem hqm; omega⟩
      simp only [← hnm, ← hqt] at ht hra HJJ
      have hb3 : Below wr.heap.size wr (wr.alloc (.cells #[.string nm, z0, z1, z2, z3] 40)) := (Below.refl _ _).alloc (Nat.le_refl _) _
      have HN3 : Hid ((wr.alloc (.cells #[.string nm, z0, z1, z2, z3] 40)).heap[wr.heap.size]? = some (.cells #[.string nm, z0, z1, z2, z3] 40 (0, 0))) := heap_alloc_new _ _
      have hMwr : M < wr.heap.size := by
        obtain ⟨W2, -, q⟩ := HS.out.md
        exact (Array.getElem?_eq_some_iff.1 q.row).1
      have HOwr : Hid (∀ b, (Value.slice vo j vc).ownBlock = some b → b < wr.heap.size ∧ b ≠ M) := fun b hb => by
        obtain ⟨W2, -, q⟩ := HS.out.md
        obtain ⟨ys, q1, -⟩ := q.ks
        exact ⟨q1.ownLt b hb, (q1.own b hb).2⟩
      have HS3 := hid (HS.out.on hb3)
      have HTi : Hid (UmV (fun b => b < w.heap.size) (wr.alloc (.cells #[.string nm, z0, z1, z2, z3] 40)) qt #[z0, z1, z2, z3]) := ti_on ht fun b hb hS => ⟨hS, hb3.block b hb⟩
      have HO5 := hid (one_of4 hone nm)
      have HRA := hid hra
      have HQk := hid hqok
      clear hb3 ht hone hnm hqt hqm hra HS hq1 hqok
      go_upto_region 8 with (first
        | (refine ldMid 40 (.tmp 23) rfl rfl g (o + j * 5) rfl #[.string nm, z0, z1, z2, z3] _ Tryd.underlying40 rfl infoQ5 HRA.out ?_)
        | (refine stNew 40 (.tmp 7) (.tmp 24) rfl rfl wr 40 #[.string ⟨#[]⟩, .int .i8 0, .int .i8 0, .int .u64 0, nilS] #[.string nm, z0, z1, z2, z3] rfl rfl rfl infoQ5 rfl HO5.out ?_))
      have HS3d : Hid (PlL w #[x0, x1, x2, x3, .slice (some ⟨g, o, none⟩) P.qs.length cap] P (.slice (some ⟨g, o, none⟩) P.qs.length cap) M y0 y1 y2 y3 j (.slice vo j vc) (wr.alloc (.cells #[.string nm, z0, z1, z2, z3] 40)).drew) := HS3.out.on (bel_drew (Below.refl _ _))
      have hzd : (wr.alloc (.cells #[.string nm, z0, z1, z2, z3] 40)).drew.heap.size = wr.heap.size + 1 := by show (wr.alloc (.cells #[.string nm, z0, z1, z2, z3] 40)).heap.size = _; simp
      have HRk : Hid (Rq wr.heap.size nm z0 z1 z2 z3 (wr.alloc (.cells #[.string nm, z0, z1, z2, z3] 40)).drew) := Rq.of HN3.out
      have HMr : Hid (∀ W, PlL w #[x0, x1, x2, x3, .slice (some ⟨g, o, none⟩) P.qs.length cap] P (.slice (some ⟨g, o, none⟩) P.qs.length cap) M y0 y1 y2 y3 j (.slice vo j vc) W → Rm M (.slice vo j vc) W) := fun W hW => by
        obtain ⟨W2, -, q2⟩ := hW.md
        exact Rm.of q2.row
      have HMr0 := hid (HMr.out _ HS3d.out)
      have HC := hid (plain8_any 4096 qt #[z0, z1, z2, z3] true (wr.alloc (.cells #[.string nm, z0, z1, z2, z3] 40)).drew HQk.out.2 (Nat.le_refl _) HQk.out.1 (um_on HTi.out fun b hb hS => ⟨by have := HS3d.out.tp.b.size; omega, rfl⟩) (HTw.out.on HS3d.out.tp.b hz) (by have := HS3d.out.tp.sz; omega))
      have HHd : Hid (∀ (W' : World), Below (wr.alloc (.cells #[.string nm, z0, z1, z2, z3] 40)).drew.heap.size (wr.alloc (.cells #[.string nm, z0, z1, z2, z3] 40)).drew W' → Rq wr.heap.size nm z0 z1 z2 z3 W') := fun W' hb => Rq.of ((hb.block _ (by omega)).trans HN3.out)
      clear HTi HN3 HS3 HO5
      refine wpK_begin (Rq wr.heap.size nm z0 z1 z2 z3) (Rm M (.slice vo j vc)) 9 (by kernel_rfl) HRk.out HMr0.out (fun hHeld => ?_)
      simp only [Act.put]
      generalize (wr.alloc (.cells #[.string nm, z0, z1, z2, z3] 40)).drew = wd at HC HS3d HRk HHd HMr0 hHeld hzd ⊢
      refine wpK_takeS (i := 0) (v := ?_) rfl (by kernel_rfl) (by kernel_rfl) (by kernel_rfl) (by decide) (fun _ _ _ h => h) (Or.inl ⟨by rfl, ?_⟩) hHeld ?_
      rotate_left
      · intro w' hSw
        clear hSw
        go_simp
        first | done | with_reducible rfl
      simp only [Act.put, List.getElem_toArray, List.getElem_cons_zero, List.setIfInBounds_toArray, List.set_cons_zero, List.set_cons_succ]
      refine wpK_takeT (i := 1) (v := ?_) rfl (by kernel_rfl) (by kernel_rfl) (by kernel_rfl) (by decide) (by kernel_rfl) rfl (fun _ _ _ h => h) (Or.inl ⟨by rfl, ?_⟩) hHeld ?_
      rotate_left
      · intro w' hSw
        have m4 := hSw.2.m4
        clear hSw
        go_simp
        first | done | with_reducible rfl
      simp only [Act.put, List.getElem_toArray, List.getElem_cons_succ, List.getElem_cons_zero, List.setIfInBounds_toArray, List.set_cons_zero, List.set_cons_succ]
      refine wpK_takeS (i := 2) (v := ?_) rfl (by kernel_rfl) (by kernel_rfl) (by kernel_rfl) (by decide) (fun _ _ _ h => h) (Or.inl ⟨by rfl, ?_⟩) hHeld ?_
      rotate_left
      · intro w' hSw
        clear hSw
        go_simp
        first | done | with_reducible rfl
      simp only [Act.put, List.getElem_toArray, List.getElem_cons_succ, List.getElem_cons_zero, List.setIfInBounds_toArray, List.set_cons_zero, List.set_cons_succ]
      refine wpK_takeS (i := 3) (v := ?_) rfl (by kernel_rfl) (by kernel_rfl) (by kernel_rfl) (by decide) (fun _ _ _ h => h) (Or.inl ⟨by rfl, ?_⟩) hHeld ?_
      rotate_left
      · intro w' hSw
        have n0 := hSw.n0
        clear hSw
        go_simp
        first | done | with_reducible rfl
      simp only [Act.put, List.getElem_toArray, List.getElem_cons_succ, List.getElem_cons_zero, List.setIfInBounds_toArray, List.set_cons_zero, List.set_cons_succ]
      refine wpK_takeS (i := 4) (v := ?_) rfl (by kernel_rfl) (by kernel_rfl) (by kernel_rfl) (by decide) (fun _ _ _ h => h) (Or.inl ⟨by rfl, ?_⟩) hHeld ?_
      rotate_left
      · intro w' hSw
        clear hSw
        go_simp
        first | done | with_reducible rfl
      simp only [Act.put, List.getElem_toArray, List.getElem_cons_succ, List.getElem_cons_zero, List.setIfInBounds_toArray, List.set_cons_zero, List.set_cons_succ]
      refine wpK_takeS (i := 5) (v := .agg #[z0, z1, z2, z3]) rfl (by kernel_rfl) (by kernel_rfl) (by kernel_rfl) (by decide) (fun _ _ _ h => h) (Or.inl ⟨by rfl, ?_⟩) hHeld ?_
      · intro w' hSw
        exact runLd 26 (.tmp 29) rfl wr.heap.size 1 rfl #[z0, z1, z2, z3] _ hSw.rk Tryd.underlying26 rfl sizeTM
      simp only [Act.put, List.getElem_toArray, List.getElem_cons_succ, List.getElem_cons_zero, List.setIfInBounds_toArray, List.set_cons_zero, List.set_cons_succ]
      refine kn1 6 _ (by kernel_rfl) rfl (Sp.of rfl (stepFnW 46 (.func 46) [.tmp 30] _ [.agg #[z0, z1, z2, z3]] rfl rfl rfl rfl (fun _ => rfl) _ HC.out ?_))
      rintro e w5 ⟨ds, rfl, hw, hds⟩
      refine Or.inl ⟨_, rfl, ?_⟩
      obtain ⟨d0, d1, d2, d3, rfl⟩ := arr4 hds.size
      have HS5 := hid (HS3d.out.on hw)
      have HX := hid (And.intro hw hds)
      have HD1 := hid (one_of4 hds.one nm)
      clear hds
      refine ⟨⟨HHd.out _ hw, Or.inr (HMr.out _ HS5.out)⟩, ?_⟩
      have hHeld : Rq wr.heap.size nm z0 z1 z2 z3 w5 ∧ Til 9 (Rm M (.slice vo j vc)) #[true, true, true, true, true, true, true, false, false, false, false, false] w5 := ⟨HHd.out _ hw, Or.inr (HMr.out _ HS5.out)⟩
      clear hw
      simp only [Act.put, List.getElem_toArray, List.getElem_cons_succ, List.getElem_cons_zero, List.setIfInBounds_toArray, List.set_cons_zero, List.set_cons_succ]
      refine wpK_takeS (i := 7) (v := .agg #[.string nm, d0, d1, d2, d3]) rfl (by kernel_rfl) (by kernel_rfl) (by kernel_rfl) (by decide) (fun _ _ _ h => h) (Or.inl ⟨by rfl, ?_⟩) hHeld ?_
      · intro w' hSw
        exact runBd (us := #[(0, .string nm), (1, .agg #[d0, d1, d2, d3])]) _ rfl (by kernel_rfl) (run_bq _ _ _ _ _ _)
      simp only [Act.put, List.getElem_toArray, List.getElem_cons_succ, List.getElem_cons_zero, List.setIfInBounds_toArray, List.set_cons_zero, List.set_cons_succ]
      refine kn1 8 _ (by kernel_rfl) rfl (Sp.bs 27 40 (.tmp 32) rfl rfl #[.string nm, d0, d1, d2, d3] rfl Tryd.underlying27 infoQY rfl (by omega) (by omega) ?_)
      have hb6 : Below w5.heap.size w5 (w5.alloc (.cells #[.string nm, d0, d1, d2, d3] 40)) := (Below.refl _ _).alloc (Nat.le_refl _) _
      have HS6 := hid (HS5.out.on hb6)
      refine ⟨⟨HHd.out _ (HX.out.1.trans (hb6.mono HX.out.1.size)), Or.inr (HMr.out _ HS6.out)⟩, ?_⟩
      simp only [Act.put, List.getElem_toArray, List.getElem_cons_succ, List.getElem_cons_zero, List.setIfInBounds_toArray, List.set_cons_zero, List.set_cons_succ]
      obtain ⟨W2, hW2, hmd⟩ := HS3d.out.md
      have hb36 := HX.out.1.trans (hb6.mono HX.out.1.size)
      obtain ⟨xs', g1, g2⟩ := (hmd.on hb36).ks
      have hpl : (plPo P).qs.length = P.qs.length := by simp [plPo]
      have hacc : ((pi (plPo P)).qs.take j).length = j := by rw [List.length_take, pi_len]; omega
      have g1' := g1
      rw [hacc] at g1'
      have hN6 : (w5.alloc (.cells #[.string nm, d0, d1, d2, d3] 40)).heap[w5.heap.size]? = some (.cells #[.string nm, d0, d1, d2, d3] 40 (0, 0)) := heap_alloc_new _ _
      refine kn1 9 _ (by kernel_rfl) rfl (Sp.rw (.tmp 26) (.tmp 33) 27 rfl rfl (k := 5) (t := 40) (n := j) (m := 1) (c := 1) (us := [.string nm, d0, d1, d2, d3]) (ad := ⟨w5.heap.size, 0, none⟩) rfl rfl Tryd.underlying27 infoQY rfl (by omega) (by omega) g1' rfl (fun jj x hx => by rw [Addr.add_lit, Nat.zero_add, cell_of_row _ _ _ _ _ _ hN6, ← Array.getElem?_toList]; exact hx) (fun x hx => by have h1 := HD1.out; rw [Array.all_eq_true_iff_forall_mem] at h1; exact h1 x (List.mem_toArray.2 hx)) (by omega) (Or.inl (by omega)) ?_)
      intro v' w7 hA hW
      obtain ⟨ao', cap', rfl⟩ := (hW _ g1').form
      have hmn : MdS W2 M (ti (pl P.main)) y0 y1 y2 y3 ((pi (plPo P)).qs.take j ++ [⟨nm, ti (pl qt)⟩]) (.slice ao' (j + 1) cap') (w7.setCell ⟨M, 4, none⟩ (.slice ao' (j + 1) cap')) := hmd.app (q := ⟨nm, ti (pl qt)⟩) HX.out.1 HX.out.2 hA g1 g2 (by rw [hacc]; exact hW)
      have HS8 := hid (PlL.next (i := j + 1) HS3d.out hW2 hmd hmn HJJ.out)
      have hz6 := hb36.size
      have hMlt : M < wd.heap.size := by omega
      have hM7 : w7.heap[M]? = some (.cells #[y0, y1, y2, y3, .slice vo j vc] 29 (0, 0)) := (hA.block M (by omega) (fun e => (HOwr.out M e).2 rfl)).trans ((hb36.block M hMlt).trans hmd.row)
      have hg7 : w7.heap[wr.heap.size]? = wd.heap[wr.heap.size]? := (hA.block _ (by omega) (fun e => by have := (HOwr.out _ e).1; omega)).trans (hb36.block _ (by omega))
      have hk5 : Rq wr.heap.size nm z0 z1 z2 z3 w7 := ⟨(cell_same hg7).trans HRk.out.n0, fun i v hi => (cell_same hg7).trans (HRk.out.rk i v hi)⟩
      clear hA hW g1 g1' g2 hmn hg7
      refine ⟨⟨hk5, Or.inl rfl⟩, ?_⟩
      have hHeld : Rq wr.heap.size nm z0 z1 z2 z3 w7 ∧ Til 9 (Rm M (.slice vo j vc)) #[true, true, true, true, true, true, true, true, true, true, false, false] w7 := ⟨hk5, Or.inl rfl⟩
      simp only [Act.put, List.getElem_toArray, List.getElem_cons_succ, List.getElem_cons_zero, List.setIfInBounds_toArray, List.set_cons_zero, List.set_cons_succ]
      refine wpK_takeS (i := 10) (v := ?_) rfl (by kernel_rfl) (by kernel_rfl) (by kernel_rfl) (by decide) (fun _ _ _ h => h) (Or.inl ⟨by rfl, ?_⟩) hHeld ?_
      rotate_left
      · intro w' hSw
        clear hSw
        go_simp
        first | done | with_reducible rfl
      simp only [Act.put, List.getElem_toArray, List.getElem_cons_succ, List.getElem_cons_zero, List.setIfInBounds_toArray, List.set_cons_zero, List.set_cons_succ]
      refine kn1 11 _ (by kernel_rfl) rfl (Sp.stq (.tmp 35) (.tmp 34) rfl rfl M 4 ao' (j + 1) cap' _ rfl rfl ((cell_of_row _ _ _ _ _ _ hM7).trans rfl) (row_frozen hM7) ?_)
      have hg8 : (w7.setCell ⟨M, 4, none⟩ (.slice ao' (j + 1) cap')).heap[wr.heap.size]? = w7.heap[wr.heap.size]? := heap_setCell_other w7 ⟨M, 4, none⟩ wr.heap.size _ (by show wr.heap.size ≠ M; omega)
      refine ⟨⟨⟨(cell_same hg8).trans hk5.n0, fun i v hi => (cell_same hg8).trans (hk5.rk i v hi)⟩, Or.inl rfl⟩, ?_⟩
      simp only [Act.put, List.getElem_toArray, List.getElem_cons_succ, List.getElem_cons_zero]
      refine wpK_done (by kernel_rfl) ?_ _
      clear hHeld hk5 hM7 hg8
      generalize w7.setCell ⟨M, 4, none⟩ (.slice ao' (j + 1) cap') = w8 at HS8 ⊢
      go_wp2
      have hX : ∃ (k : Nat) (vo : Option Addr) (vc : Nat), Value.int .i64 ((j : Int) + 1) = .int .i64 ((k : Nat) : Int) ∧ k ≤ P.qs.length ∧ Hid (PlL w #[x0, x1, x2, x3, .slice (some ⟨g, o, none⟩) P.qs.length cap] P (.slice (some ⟨g, o, none⟩) P.qs.length cap) M y0 y1 y2 y3 k (.slice vo k vc) w8) := ⟨j + 1, ao', cap', by rw [show (((j + 1 : Nat) : Nat) : Int) = (j : Int) + 1 by omega], hj, HS8⟩
      refine ⟨?_, ?_⟩
      · first
          | exact hX
          | ((repeat apply Exists.intro); refine ⟨?_, rfl⟩; exact hX)
      · simp [intOf]; omega
    · have hs3 : decide ((j : Int) < (P.qs.length : Int)) = false := by simp; omega
      obtain rfl : j = P.qs.length := by omega
      obtain ⟨W2, hW2, hmd⟩ := HS.out.md
      have HTp := hid HS.out.tp
      have HMr := hid hmd.row
      have hmo : (#[y0, y1, y2, y3] : Array Value).all (·.oneCell') = true := hmd.main.one
      have HO5 : Hid ((#[y0, y1, y2, y3, .slice vo P.qs.length vc] : Array Value).all (·.oneCell') = true) := by
        show _ = _
        simp only [List.all_toArray, List.all_cons, List.all_nil, Bool.and_true] at hmo ⊢
        simpa [Value.oneCell', and_assoc] using hmo
      have HPi : Hid (PiV (fun b => w.heap.size ≤ b ∧ b ≠ w.heap.size + 1) wr (pi (plPo P)) #[y0, y1, y2, y3, .slice vo P.qs.length vc]) := by
        obtain ⟨xs', g1, g2⟩ := hmd.ks
        have hll : (pi (plPo P)).qs.take P.qs.length = (pi (plPo P)).qs := List.take_of_length_le (by rw [pi_len]; simp [plPo])
        rw [hll] at g1 g2
        refine ⟨#[y0, y1, y2, y3], .slice vo P.qs.length vc, xs', rfl, ti_on hmd.main fun b _ hS => ⟨⟨by omega, by omega⟩, rfl⟩, g1.rx.carry fun b _ hS => ⟨⟨by omega, by omega⟩, rfl⟩, QiL.carry (fun b _ hS => ⟨⟨by omega, by omega⟩, rfl⟩) _ _ g2⟩
      clear hmd hmo HS
      go_wp2_with (first
        | (refine ldRow 29 (.tmp 5) rfl rfl M rfl 29 #[y0, y1, y2, y3, .slice vo P.qs.length vc] _ Tryd.underlying29 rfl sizePO HMr.out ?_)
        | (refine stRow 29 (.tmp 2) (.tmp 37) rfl rfl (w.heap.size + 1) #[y0, y1, y2, y3, .slice vo P.qs.length vc] rfl rfl 29 pz HTp.out.r sizePO rfl HO5.out ?_))
      have hbR : Below w.heap.size w (wr.setRow (w.heap.size + 1) #[y0, y1, y2, y3, .slice vo P.qs.length vc]) := bel_row HTp.out.b (by omega) _
      refine bodyPost_ret (v := .tuple #[.agg #[y0, y1, y2, y3, .slice vo P.qs.length vc], .int .i64 0]) (res_pe Tryd.results17 _ _ (w.heap.size + 1) _ sizePO rfl (setRow_heap wr _ _ _ _ _ HTp.out.r)) rfl ?_
      exact ⟨_, rfl, hbR, HPi.out.carry fun b _ hS => ⟨hS.1, setRow_other wr _ b _ hS.2⟩⟩
end Go.Proofs.YtjallmncajhamaaDoor
