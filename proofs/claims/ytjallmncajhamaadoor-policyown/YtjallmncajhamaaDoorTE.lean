/-
  Proved here: gather of package policy: the parts that are left. Conditions: the tables; the parts lie in old memory of S; a Filter has its kid, as a part of that Op; at most 4096 terms.
-/
import Derived.Test.YtjallmncajhamaaDoorTD
namespace Go.Proofs.YtjallmncajhamaaDoor
open Go.RowKit
set_option maxRecDepth 100000

theorem tis_map : ∀ ts : List Tm, tis ts = ts.map ti
  | [] => by rw [tis]; rfl
  | t :: ts => by rw [tis, tis_map ts]; rfl
theorem tis_app (a b : List Tm) : tis (a ++ b) = tis a ++ tis b := by rw [tis_map, tis_map, tis_map, List.map_append]
theorem gth_take (r : Nat) {ks : List Tm} {j : Nat} (hj : j < ks.length) : gth r (ks.take (j + 1)) = gth r (ks.take j) ++ (if (ks[j]).op = r then (ks[j]).ks else if hd ks[j] = iop r then [] else [ks[j]]) := by
  rw [List.take_add_one, List.getElem?_eq_getElem hj]
  unfold gth
  rw [List.flatMap_append]
  simp
/-- where gather's loop is -/
structure GaS (S : Nat → Prop) (w : World) (r : Nat) (ks : List Tm) (pv : Value) (j : Nat) (v : Value) (wr : World) : Prop where
  l : TlS S w (tis (gth r (ks.take j))) v wr
  q : LqS S w ks pv wr
theorem GaS.on {S : Nat → Prop} {w : World} {r : Nat} {ks : List Tm} {pv : Value} {j : Nat} {v : Value} {wr w' : World} (h : GaS S w r ks pv j v wr) (hb : Below wr.heap.size wr w') : GaS S w r ks pv j v w' := ⟨h.l.on hb, h.q.on hb⟩
theorem gth_len {r : Nat} {ks : List Tm} (hs : szs ks ≤ 4096) (j : Nat) : (gth r (ks.take j)).length ≤ 4096 := by
  have h1 := len_le_szs (gth r (ks.take j))
  have h2 := gth_sz r (ks.take j)
  have h3 := szs_le ks j
  omega
/-- what the test reads -/
structure GaR (P r : Nat) (cs : Array Value) (W : World) : Prop where
  rk : W.rangeAt P 0 cs.toList
  jc : W.cell? ⟨1, r * 2, none⟩ = some (.int .i8 (jid r))
theorem iop_jid {r : Nat} (hr : isRow r = true) : ((iop r : Nat) : Int) = jid r := by rcases isRow_iff.1 hr with rfl | rfl | rfl | rfl <;> rfl
theorem row_lt {r : Nat} (hr : isRow r = true) : r < 10 := by rcases isRow_iff.1 hr with rfl | rfl | rfl | rfl <;> decide
set_option maxHeartbeats 12800000 in
theorem gather8_any (S : Nat → Prop) (r : Nat) (hr : isRow r = true) (ks : List Tm) (ao : Option Addr) (cap : Nat) (w : World) (hS : LqS S w ks (.slice ao ks.length cap) w) (hk : ∀ k ∈ ks, (k.op = 6 → k.ks ≠ []) ∧ (k.op = r → k.ks ≠ [])) (hs : szs ks ≤ 4096) (hT : TabP w) (hz : 3 ≤ w.heap.size) : Calls Tryd.prog 103 #[.int .i8 ((r : Nat) : Int), .slice ao ks.length cap] w fun e w' => ∃ v, e = .returned v ∧ TlS S w (tis (gth r ks)) v w' := by
  have HSz := hid hs
  have HK := hid hk
  have HTw := hid hT
  have hr10 := row_lt hr
  have HRw := hid hr
  have hkl : ks.length ≤ 4096 := by have := len_le_szs ks; omega
  have HS0 : Hid (GaS S w r ks (.slice ao ks.length cap) 0 nilS w) := ⟨by rw [List.take_zero]; exact TlS.nil _ (Below.refl _ _), hS⟩
  have g10 : decide ((10 : Int) ≤ (r : Int)) = false := decide_eq_false (by omega)
  clear hS hk hs hT hr
  go_enter Tryd.func103, Tryd.ntmps103
  go_upto_region 3 with fail
  go_loopw [5, 10] (fun lv v wr => ∃ (j : Nat) (vo : Option Addr) (vc : Nat), v = .int .i64 ((j : Nat) : Int) ∧ lv = .slice vo (gth r (ks.take j)).length vc ∧ j ≤ ks.length ∧ Hid (GaS S w r ks (.slice ao ks.length cap) j lv wr)) (fun _ v _ => ks.length - (intOf v).toNat)
  case atStart => exact ⟨0, none, 0, rfl, rfl, Nat.zero_le _, HS0⟩
  case round =>
    clear HS0
    obtain ⟨j, vo, vc, rfl, rfl, hj1, HS⟩ := hrel
    by_cases hj : j < ks.length
    · obtain ⟨g, o, rfl, hcap, hgS, x0, x1, x2, x3, ht, hra⟩ := HS.out.q.kid hj
      have hs3 : decide ((j : Int) < (ks.length : Int)) = true := by simp; omega
      have hjc : j < cap := by omega
      have hw3 : IntKind.i64.wrap ((j : Int) + 1) = (j : Int) + 1 := by rw [IntKind.wrap_i64]; omega
      have HKj := hid (HK.out _ (List.getElem_mem hj))
      have HL1 := hid (gth_len (r := r) HSz.out (j + 1))
      have HGt := hid (gth_take r hj)
      obtain ⟨k, hkj⟩ : ∃ k, k = ks[j] := ⟨_, rfl⟩
      rw [← hkj] at ht HKj HGt
      obtain ⟨kop, kfd, kn, kks⟩ := k
      obtain ⟨kv, zs, hcs, hk2, hk3⟩ := ht.get
      obtain ⟨kao, kcap, rfl⟩ := hk2.form
      rw [hcs] at ht
      replace hra : wr.rangeAt g (o + j * 4) (tmc kop kfd kn (.slice kao kks.length kcap)).toList := by rw [← hcs]; exact hra
      have hb3 : Below wr.heap.size wr (wr.alloc (.cells (tmc kop kfd kn (.slice kao kks.length kcap)) 26)) := (Below.refl _ _).alloc (Nat.le_refl _) _
      have hN3 : (wr.alloc (.cells (tmc kop kfd kn (.slice kao kks.length kcap)) 26)).heap[wr.heap.size]? = some (.cells (tmc kop kfd kn (.slice kao kks.length kcap)) 26 (0, 0)) := heap_alloc_new _ _
      have HS3 := hid (HS.out.on hb3)
      have hww : w.heap.size ≤ wr.heap.size := HS.out.l.low.size
      have HTi : Hid (UmV (fun b => S b ∧ b < w.heap.size) (wr.alloc (.cells (tmc kop kfd kn (.slice kao kks.length kcap)) 26)) (.mk kop kfd kn kks) (tmc kop kfd kn (.slice kao kks.length kcap))) := um_on ht fun b hb hS => ⟨hS, hb3.block b hb⟩
      have HKx : Hid (Rx (fun b => S b ∧ b < w.heap.size) 4 (wr.alloc (.cells (tmc kop kfd kn (.slice kao kks.length kcap)) 26)) (.slice kao kks.length kcap) kks.length zs ∧ UmL (fun b => S b ∧ b < w.heap.size) (wr.alloc (.cells (tmc kop kfd kn (.slice kao kks.length kcap)) 26)) kks zs) := ⟨hk2.carry fun b hb hS => ⟨hS, hb3.block b hb⟩, UmL.carry (fun b hb hS => ⟨hS, hb3.block b hb⟩) _ _ hk3⟩
      have c0 := (four_cells hN3).1
      have c3 := (four_cells hN3).2.2.2
      have HN3 := hid hN3
      have HRA := hid hra
      have HOw := hid (HS.out.l.own)
      have HKJ := hid hkj
      clear hb3 hN3 ht hkj hra HS hgS hcs hk2 hk3
      go_upto_region 5 with (first
        | (refine ldMid 26 (.tmp 12) rfl rfl g (o + j * 4) rfl (tmc kop kfd kn (.slice kao kks.length kcap)) _ Tryd.underlying26 rfl sizeTM HRA.out ?_)
        | (refine stNew 26 (.tmp 7) (.tmp 13) rfl rfl wr 26 (tmc 0 0 0 nilS) (tmc kop kfd kn (.slice kao kks.length kcap)) rfl rfl rfl sizeTM rfl (tic_one _ _ _ _ _ _) ?_))
      generalize wr.alloc (.cells (tmc kop kfd kn (.slice kao kks.length kcap)) 26) = w3 at HS3 HTi HKx c0 c3 HN3 ⊢
      by_cases eop : kop = r
      · have gop : (((kop : Nat) : Int) == ((r : Nat) : Int)) = true := by rw [eop]; simp
        have hgt : gth r (ks.take (j + 1)) = gth r (ks.take j) ++ kks := by rw [HGt.out, if_pos (show (Tm.mk kop kfd kn kks).op = r from eop)]; rfl
        have hne : kks ≠ [] := HKj.out.2 eop
        have hkp : 0 < kks.length := List.length_pos_iff.2 hne
        obtain ⟨g2, o2, rfl, hc2, hS2, hg2, hr2⟩ := HKx.out.1.at (j := 0) hkp
        obtain ⟨xs', q1, q2⟩ := HS3.out.l.ks
        rw [tis_len] at q1
        have hzl : zs.length = kks.length * 4 := HKx.out.1.1
        have HX4 : Hid (∀ (jj : Nat) (x : Value), zs[jj]? = some x → w3.cell? ((⟨g2, o2, none⟩ : Addr).add jj) = some x) := fun jj x hx => by
          obtain ⟨-, ao', cap', e, -, hh⟩ := HKx.out.1
          obtain ⟨g', o', e1, -, -, hrg, -⟩ := hh (by omega)
          cases e
          cases e1
          rw [Addr.add_lit]
          exact hrg jj x hx
        have HY4 : Hid (∀ x ∈ zs, x.oneCell' = true) := TiL.one _ _ HKx.out.2
        have HTl : Hid (TiL (fun b => (S b ∧ (Value.slice vo (gth r (ks.take j)).length vc).ownBlock ≠ some b) ∧ b < w3.heap.size) w3 (tis kks) zs) := TiL.carry (fun b hb hS => ⟨⟨⟨hS.1, fun e => by have := (HOw.out b e).1; omega⟩, hb⟩, rfl⟩) _ _ HKx.out.2
        have HG1 := hid q1
        have HG2 := hid q2
        have HGL : Hid ((gth r (ks.take j)).length + kks.length ≤ 4096) := by
          have := HL1.out
          rw [hgt, List.length_append] at this
          exact this
        have HGT := hid hgt
        have hgl := HGL.out
        clear eop hgt hne hr2 q1 q2 hzl HKj HGt HL1
        generalize hLl : (gth r (ks.take j)).length = L at HS3 HTl HG1 HG2 HGL HOw hgl
        have HLl := hid hLl
        clear hLl
        go_wp2_with (refine appRw (.tmp 19) (.tmp 21) 24 rfl rfl (k := 4) (t := 26) (n := L) (m := kks.length) (c := kcap) (us := zs) (ad := ⟨g2, o2, none⟩) rfl rfl Tryd.underlying24 infoTM rfl (by omega) (by omega) HG1.out (HKx.out.1.1) HX4.out HY4.out (by omega) (Or.inl (by omega)) ?_; intro v4 w4 hA4 hR4; obtain ⟨ao4, cap4, rfl⟩ := (hR4 _ HG1.out).form; have HS4 : Hid (TlS S w (tis (gth r (ks.take j)) ++ tis kks) (.slice ao4 (L + kks.length) cap4) w4) := HS3.out.l.app (Below.refl _ _) (by rw [tis_len, HLl.out]; exact HG1.out) HG2.out HTl.out hA4 (by rw [tis_len, tis_len, HLl.out]; exact hR4); have HQ4 := hid (HS3.out.q.keep HS4.out.low); clear hA4 hR4)
        have hX : ∃ (m : Nat) (vo : Option Addr) (vc : Nat), Value.int .i64 ((j : Int) + 1) = .int .i64 ((m : Nat) : Int) ∧ Value.slice ao4 (L + kks.length) cap4 = .slice vo (gth r (ks.take m)).length vc ∧ m ≤ ks.length ∧ Hid (GaS S w r ks (.slice (some ⟨g, o, none⟩) ks.length cap) m (.slice ao4 (L + kks.length) cap4) w4) := ⟨j + 1, ao4, cap4, by rw [show (((j + 1 : Nat) : Nat) : Int) = (j : Int) + 1 by omega], by rw [HGT.out, List.length_append, HLl.out], hj, ⟨by rw [HGT.out, tis_app]; exact HS4.out, HQ4.out⟩⟩
        refine ⟨?_, ?_⟩
        · first
            | exact hX
            | ((repeat apply Exists.intro); refine ⟨?_, rfl⟩; exact hX)
        · simp [intOf]; omega
      · have gop : (((kop : Nat) : Int) == ((r : Nat) : Int)) = false := by simp; omega
        have hb3d : Below w3.heap.size w3 w3.drew := bel_drew (Below.refl _ _)
        have hRR : GaR wr.heap.size r (tmc kop kfd kn (.slice kao kks.length kcap)) w3.drew := ⟨row4_rng HN3.out, (HTw.out.on HS3.out.l.low hz).jt r hr10 0 _ rfl⟩
        have HRR := hid hRR
        have HSy := hid (says8_any (.mk kop kfd kn kks) (tmc kop kfd kn (.slice kao kks.length kcap)) (jid r) w3.drew (um_on HTi.out fun b hb hS => ⟨hb, rfl⟩) HKj.out.1)
        have HS3d : Hid (GaS S w r ks (.slice (some ⟨g, o, none⟩) ks.length cap) j (.slice vo (gth r (ks.take j)).length vc) w3.drew) := HS3.out.on hb3d
        have HTd : Hid (UmV (fun b => S b ∧ b < w.heap.size) w3.drew (.mk kop kfd kn kks) (tmc kop kfd kn (.slice kao kks.length kcap))) := um_on HTi.out fun b hb hS => ⟨hS, hb3d.block b hb⟩
        have hPl := (Array.getElem?_eq_some_iff.1 HN3.out).1
        have hz3 : 3 ≤ w3.heap.size := by have := HS3.out.l.low.size; omega
        have HN3d : Hid (w3.drew.heap[wr.heap.size]? = some (.cells (tmc kop kfd kn (.slice kao kks.length kcap)) 26 (0, 0))) := HN3.out
        clear hRR hb3d HKx HTi HS3
        go_upto_region 7 with fail
        clear c0 c3
        have hri : ((r : Nat) : Int) < 10 := by omega
        refine wp_region_held_drew (S := GaR wr.heap.size r (tmc kop kfd kn (.slice kao kks.length kcap))) (by kernel_rfl) HRR.out (fun hHeld => ?_)
        generalize w3.drew = wd at HRR HSy HS3d HTd HN3d hHeld ⊢
        refine wpAnyH_take (i := 0) (v := .agg (tmc kop kfd kn (.slice kao kks.length kcap))) rfl (by kernel_rfl) (by kernel_rfl) (by kernel_rfl) (fun _ _ _ h => h) (Or.inl ⟨by rfl, ?_⟩) hHeld ?_
        · intro w' hSw
          exact runLd 26 (.tmp 7) rfl wr.heap.size 0 rfl (tmc kop kfd kn (.slice kao kks.length kcap)) _ hSw.rk Tryd.underlying26 rfl sizeTM
        simp only [Act.put, List.getElem_toArray, List.getElem_cons_zero, List.setIfInBounds_toArray, List.set_cons_zero, List.set_cons_succ]
        refine wpAnyH_take (i := 1) (v := ?_) rfl (by kernel_rfl) (by kernel_rfl) (by kernel_rfl) (fun _ _ _ h => h) (Or.inl ⟨by rfl, ?_⟩) hHeld ?_
        rotate_left
        · intro w' hSw
          clear hSw
          go_simp
          first | done | with_reducible rfl
        simp only [Act.put, List.getElem_toArray, List.getElem_cons_succ, List.getElem_cons_zero, List.setIfInBounds_toArray, List.set_cons_zero, List.set_cons_succ]
        refine wpAnyH_take (i := 2) (v := ?_) rfl (by kernel_rfl) (by kernel_rfl) (by kernel_rfl) (fun _ _ _ h => h) (Or.inl ⟨by rfl, ?_⟩) hHeld ?_
        rotate_left
        · intro w' hSw
          clear hSw
          go_simp
          first | done | with_reducible rfl
        simp only [Act.put, List.getElem_toArray, List.getElem_cons_succ, List.getElem_cons_zero, List.setIfInBounds_toArray, List.set_cons_zero, List.set_cons_succ]
        refine wpAnyH_take (i := 3) (v := ?_) rfl (by kernel_rfl) (by kernel_rfl) (by kernel_rfl) (fun _ _ _ h => h) (Or.inl ⟨by rfl, ?_⟩) hHeld ?_
        rotate_left
        · intro w' hSw
          clear hSw
          go_simp
          first | done | with_reducible rfl
        simp only [Act.put, List.getElem_toArray, List.getElem_cons_succ, List.getElem_cons_zero, List.setIfInBounds_toArray, List.set_cons_zero, List.set_cons_succ]
        refine wpAnyH_take (i := 4) (v := ?_) rfl (by kernel_rfl) (by kernel_rfl) (by kernel_rfl) (fun _ _ _ h => h) (Or.inl ⟨by rfl, ?_⟩) hHeld ?_
        rotate_left
        · intro w' hSw
          have jc := hSw.jc
          clear hSw
          go_simp
          first | done | with_reducible rfl
        simp only [Act.put, List.getElem_toArray, List.getElem_cons_succ, List.getElem_cons_zero, List.setIfInBounds_toArray, List.set_cons_zero, List.set_cons_succ]
        refine ready_one 5 _ (by kernel_rfl) rfl (stepFnW 101 (.func 101) [.tmp 24, .tmp 28] _ [.agg (tmc kop kfd kn (.slice kao kks.length kcap)), .int .i8 (jid r)] rfl rfl rfl rfl (fun _ => rfl) _ HSy.out ?_)
        rintro e w4 ⟨rfl, hw⟩
        refine Or.inl ⟨_, rfl, ?_⟩
        have HS4 := hid (HS3d.out.on hw)
        have HT4 : Hid (UmV (fun b => S b ∧ b < w.heap.size) w4 (.mk kop kfd kn kks) (tmc kop kfd kn (.slice kao kks.length kcap))) := um_on HTd.out fun b hb hS => ⟨hS, hw.block b hb⟩
        have HN4 := hid ((hw.block _ (Array.getElem?_eq_some_iff.1 HN3d.out).1).trans HN3d.out)
        have hHeld : GaR wr.heap.size r (tmc kop kfd kn (.slice kao kks.length kcap)) w4 := ⟨row4_rng HN4.out, (HTw.out.on HS4.out.l.low hz).jt r hr10 0 _ rfl⟩
        clear hw HS3d HTd HN3d HSy HRR
        refine ⟨hHeld, ?_⟩
        simp only [Act.put, List.getElem_toArray, List.getElem_cons_succ, List.getElem_cons_zero, List.setIfInBounds_toArray, List.set_cons_zero, List.set_cons_succ]
        refine wpAnyH_take (i := 6) (v := ?_) rfl (by kernel_rfl) (by kernel_rfl) (by kernel_rfl) (fun _ _ _ h => h) (Or.inl ⟨by rfl, ?_⟩) hHeld ?_
        rotate_left
        · intro w' hSw
          clear hSw
          go_simp
          first | done | with_reducible rfl
        simp only [Act.put, List.getElem_toArray, List.getElem_cons_succ, List.getElem_cons_zero, List.setIfInBounds_toArray, List.set_cons_zero, List.set_cons_succ]
        refine wpAnyH_take (i := 7) (v := ?_) rfl (by kernel_rfl) (by kernel_rfl) (by kernel_rfl) (fun _ _ _ h => h) (Or.inl ⟨by rfl, ?_⟩) hHeld ?_
        rotate_left
        · intro w' hSw
          clear hSw
          go_simp
          first | done | with_reducible rfl
        simp only [Act.put, List.getElem_toArray, List.getElem_cons_succ, List.getElem_cons_zero, List.setIfInBounds_toArray, List.set_cons_zero, List.set_cons_succ]
        refine wpAnyH_done (by kernel_rfl) ?_ _
        clear hHeld
        have hii := HGt.out
        rw [if_neg (show ¬ (Tm.mk kop kfd kn kks).op = r from eop)] at hii
        by_cases hid2 : hd (.mk kop kfd kn kks) = iop r
        · have gid : decide ((hd (.mk kop kfd kn kks) : Int) = jid r) = true := by rw [hid2, iop_jid HRw.out]; simp
          rw [if_pos hid2, List.append_nil] at hii
          have HGT := hid hii
          clear hii hid2 HGt eop hri
          rw [gid]
          go_wp2
          have hX : ∃ (m : Nat) (vo' : Option Addr) (vc' : Nat), Value.int .i64 ((j : Int) + 1) = .int .i64 ((m : Nat) : Int) ∧ Value.slice vo (gth r (ks.take j)).length vc = .slice vo' (gth r (ks.take m)).length vc' ∧ m ≤ ks.length ∧ Hid (GaS S w r ks (.slice (some ⟨g, o, none⟩) ks.length cap) m (.slice vo (gth r (ks.take j)).length vc) w4) := ⟨j + 1, vo, vc, by rw [show (((j + 1 : Nat) : Nat) : Int) = (j : Int) + 1 by omega], by rw [HGT.out], hj, ⟨by rw [HGT.out]; exact HS4.out.l, HS4.out.q⟩⟩
          refine ⟨?_, ?_⟩
          · first
              | exact hX
              | ((repeat apply Exists.intro); refine ⟨?_, rfl⟩; exact hX)
          · simp [intOf]; omega
        · have gid : decide ((hd (.mk kop kfd kn kks) : Int) = jid r) = false := by rw [← iop_jid HRw.out]; exact decide_eq_false (fun e => hid2 (by omega))
          rw [if_neg hid2] at hii
          have HGT := hid hii
          have hb5 : Below w4.heap.size w4 (w4.alloc (.cells (tmc kop kfd kn (.slice kao kks.length kcap)) 26)) := (Below.refl _ _).alloc (Nat.le_refl _) _
          obtain ⟨xs', q1, q2⟩ := (HS4.out.l.on hb5).ks
          rw [tis_len] at q1
          have HG1 := hid q1
          have HG2 := hid q2
          have HN5 : Hid ((w4.alloc (.cells (tmc kop kfd kn (.slice kao kks.length kcap)) 26)).heap[w4.heap.size]? = some (.cells (tmc kop kfd kn (.slice kao kks.length kcap)) 26 (0, 0))) := heap_alloc_new _ _
          have HX4 : Hid (∀ (jj : Nat) (x : Value), (tmc kop kfd kn (.slice kao kks.length kcap)).toList[jj]? = some x → (w4.alloc (.cells (tmc kop kfd kn (.slice kao kks.length kcap)) 26)).cell? ((⟨w4.heap.size, 0, none⟩ : Addr).add jj) = some x) := fun jj x hx => by
            rw [Addr.add_lit, Nat.zero_add, cell_of_row _ _ _ _ _ _ HN5.out, ← Array.getElem?_toList]; exact hx
          have HY4 : Hid (∀ x ∈ (tmc kop kfd kn (.slice kao kks.length kcap)).toList, x.oneCell' = true) := fun x hx => by have h1 := tic_one ((kop : Nat) : Int) ((kfd : Nat) : Int) kn kao kks.length kcap; rw [Array.all_eq_true_iff_forall_mem] at h1; exact h1 x (by simpa using hx)
          have HTl : Hid (TiV (fun b => (S b ∧ (Value.slice vo (gth r (ks.take j)).length vc).ownBlock ≠ some b) ∧ b < w4.heap.size) w4 (ti (.mk kop kfd kn kks)) (tmc kop kfd kn (.slice kao kks.length kcap))) := um_on HT4.out fun b hb hS => ⟨⟨⟨hS.1, fun e => by have := (HOw.out b e).1; omega⟩, hb⟩, rfl⟩
          have HGL : Hid ((gth r (ks.take j)).length + 1 ≤ 4096) := by
            have := HL1.out
            rw [hii, List.length_append] at this
            exact this
          have hgl := HGL.out
          clear hii hid2 HGt eop hri hb5 q1 q2 HL1
          rw [gid]
          generalize hLl : (gth r (ks.take j)).length = L at HS4 HTl HG1 HG2 HGL HOw hgl ⊢
          have HLl := hid hLl
          clear hLl
          go_wp2_with (first
            | (refine ldRow 26 (.tmp 7) rfl rfl wr.heap.size rfl 26 (tmc kop kfd kn (.slice kao kks.length kcap)) _ Tryd.underlying26 rfl sizeTM HN4.out ?_)
            | (refine bldSl 24 26 (.tmp 32) rfl rfl (tmc kop kfd kn (.slice kao kks.length kcap)) rfl Tryd.underlying24 _ _ _ rfl rfl rfl rfl (by decide) (by decide) ?_)
            | (refine appRw (.tmp 31) (.tmp 33) 24 rfl rfl (k := 4) (t := 26) (n := L) (m := 1) (c := 1) (us := (tmc kop kfd kn (.slice kao kks.length kcap)).toList) (ad := ⟨w4.heap.size, 0, none⟩) rfl rfl Tryd.underlying24 infoTM rfl (by omega) (by omega) HG1.out rfl HX4.out HY4.out (by omega) (Or.inl (by omega)) ?_; intro v5 w5 hA4 hR4; obtain ⟨ao4, cap4, rfl⟩ := (hR4 _ HG1.out).form; have HS5 : Hid (TlS S w (tis (gth r (ks.take j)) ++ [ti (.mk kop kfd kn kks)]) (.slice ao4 (L + 1) cap4) w5) := HS4.out.l.app1 (Below.refl _ _) (by rw [tis_len, HLl.out]; exact HG1.out) HG2.out HTl.out hA4 (by rw [tis_len, HLl.out]; exact hR4); have HQ5 := hid (HS4.out.q.keep HS5.out.low); clear hA4 hR4))
          have hX : ∃ (m : Nat) (vo : Option Addr) (vc : Nat), Value.int .i64 ((j : Int) + 1) = .int .i64 ((m : Nat) : Int) ∧ Value.slice ao4 (L + 1) cap4 = .slice vo (gth r (ks.take m)).length vc ∧ m ≤ ks.length ∧ Hid (GaS S w r ks (.slice (some ⟨g, o, none⟩) ks.length cap) m (.slice ao4 (L + 1) cap4) w5) := ⟨j + 1, ao4, cap4, by rw [show (((j + 1 : Nat) : Nat) : Int) = (j : Int) + 1 by omega], by rw [HGT.out, List.length_append, HLl.out]; rfl, hj, ⟨by rw [HGT.out, tis_app, show tis [Tm.mk kop kfd kn kks] = [ti (.mk kop kfd kn kks)] by rw [tis, tis]]; exact HS5.out, HQ5.out⟩⟩
          refine ⟨?_, ?_⟩
          · first
              | exact hX
              | ((repeat apply Exists.intro); refine ⟨?_, rfl⟩; exact hX)
          · simp [intOf]; omega
    · have hs3 : decide ((j : Int) < (ks.length : Int)) = false := by simp; omega
      obtain rfl : j = ks.length := by omega
      have HL := hid HS.out.l
      go_wp2
      go_ret
      refine ⟨_, rfl, ?_⟩
      have h9 := HL.out
      rw [List.take_length] at h9
      rw [List.take_length]
      exact h9
end Go.Proofs.YtjallmncajhamaaDoor
