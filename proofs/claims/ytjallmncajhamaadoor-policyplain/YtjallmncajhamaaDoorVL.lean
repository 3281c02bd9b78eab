/-
  Proved here: row of the document's layer 18. Conditions: what plain makes of the kids is known; at most 4096 terms.
-/
import Derived.Test.YtjallmncajhamaaDoorVK
namespace Go.Proofs.YtjallmncajhamaaDoor
open Go.RowKit
set_option maxRecDepth 100000

theorem flt_sz (r : Nat) : ∀ ls : List Tm, szs (flt r ls) ≤ szs ls
  | [] => by simp [flt]
  | k :: ls => by
    have ih := flt_sz r ls
    rw [flt_cons, szs_app, szs]
    split
    · obtain ⟨op, fd, n, ks⟩ := k
      rw [sz]; show szs ks + _ ≤ _; omega
    · rw [szs, szs]; omega
theorem flt_len (r : Nat) (ls : List Tm) : (flt r ls).length ≤ szs ls := Nat.le_trans (len_le_szs _) (flt_sz r ls)
theorem flt_take (r : Nat) (ls : List Tm) {j : Nat} (hj : j < ls.length) : flt r (ls.take (j + 1)) = flt r (ls.take j) ++ (if (ls[j]).op = r then (ls[j]).ks else [ls[j]]) := by
  rw [List.take_add_one, List.getElem?_eq_getElem hj]
  unfold flt
  rw [List.flatMap_append]
  simp
theorem tis_one (x : Tm) : tis [x] = [ti x] := by rw [tis, tis]
/-- what is the callee's or new -/
def Old (S : Nat → Prop) (w : World) (b : Nat) : Prop := (b < w.heap.size ∧ S b) ∨ w.heap.size ≤ b
/-- where the first loop is: L is what plain makes of the kids; W1: behind the box -/
structure RgS (S : Nat → Prop) (w W1 : World) (op : Nat) (L : List Tm) (j : Nat) (v : Value) (wr : World) : Prop where
  l : TlS (Old S w) W1 (tis (flt op (L.take j))) v wr
theorem RgS.on {S : Nat → Prop} {w W1 : World} {op : Nat} {L : List Tm} {j : Nat} {v : Value} {wr w' : World} (h : RgS S w W1 op L j v wr) (hb : Below wr.heap.size wr w') : RgS S w W1 op L j v w' := ⟨h.l.on hb⟩
/-- where the second loop is -/
structure RoS (S0 : Nat → Prop) (w : World) (no : Nat) (f : Bool) (F : List Tm) (j : Nat) (v : Value) (wr : World) : Prop where
  l : TlS S0 w (tis ((F.take j).filter fun k => !saysD f no k)) v wr
theorem RoS.on {S0 : Nat → Prop} {w : World} {no : Nat} {f : Bool} {F : List Tm} {j : Nat} {v : Value} {wr w' : World} (h : RoS S0 w no f F j v wr) (hb : Below wr.heap.size wr w') : RoS S0 w no f F j v w' := ⟨h.l.on hb⟩
theorem fil_take (F : List Tm) (p : Tm → Bool) {j : Nat} (hj : j < F.length) : (F.take (j + 1)).filter p = (F.take j).filter p ++ (if p F[j] = true then [F[j]] else []) := by
  rw [List.take_add_one, List.getElem?_eq_getElem hj, List.filter_append]
  congr 1
  cases h : p F[j] <;> simp [h]
theorem any_take (F : List Tm) (p : Tm → Bool) {j : Nat} (hj : j < F.length) : (F.take (j + 1)).any p = ((F.take j).any p || p F[j]) := by
  rw [List.take_add_one, List.getElem?_eq_getElem hj, List.any_append]
  simp
theorem fil_len (F : List Tm) (p : Tm → Bool) (j : Nat) : ((F.take j).filter p).length ≤ F.length := Nat.le_trans (List.length_filter_le _ _) (by rw [List.length_take]; omega)
set_option maxHeartbeats 25600000 in
theorem rrow_any (S : Nat → Prop) (op fd n no al : Nat) (f : Bool) (ks : List Tm) (cs : Array Value) (w : World) (ht : UmV S w (.mk op fd n ks) cs) (hs : szs (ks.map pl) ≤ 4096) (hkl : ks.length ≤ 4096) (hg : ∀ k ∈ ks.map pl, (k.op = 6 → k.ks ≠ []) ∧ (k.op = op → k.ks ≠ [] ∧ ∀ x ∈ k.ks, x.op = 6 → x.ks ≠ []))
    (HP : Hid (∀ (S1 : Nat → Prop) j (hj : j < ks.length) (cs : Array Value) (W : World), UmV S1 W ks[j] cs → Calls Tryd.prog 47 #[.agg cs] W fun e w' => ∃ ds, e = .returned (.agg ds) ∧ Below W.heap.size W w' ∧ UmV (fun b => (b < W.heap.size ∧ S1 b) ∨ W.heap.size ≤ b) w' (pl ks[j]) ds)) :
    Calls Tryd.prog 71 #[.agg cs, .int .i8 ((no : Nat) : Int), .int .i8 ((al : Nat) : Int), .bool f] w fun e w' => ∃ ao cap xs, e = .returned (.tuple #[.slice ao (outD op no f (ks.map pl)).length cap, .bool (fndD op al f (ks.map pl))]) ∧ Below w.heap.size w w' ∧ Rx (Old S w) 4 w' (.slice ao (outD op no f (ks.map pl)).length cap) (outD op no f (ks.map pl)).length xs ∧ UmL (Old S w) w' (outD op no f (ks.map pl)) xs := by
  obtain ⟨v, xs, rfl, h2, h3⟩ := ht.get
  obtain ⟨ao, cap, rfl⟩ := h2.form
  obtain ⟨L, hL⟩ : ∃ L, L = ks.map pl := ⟨_, rfl⟩
  have hLl : L.length = ks.length := by rw [hL, List.length_map]
  have HLj : Hid (∀ j (hj : j < ks.length) (hj' : j < L.length), L[j] = pl ks[j]) := by subst hL; exact fun j hj hj' => by simp
  rw [← hL] at hs hg ⊢
  have HG := hid hg
  have HSs := hid hs
  have HLl := hid hLl
  have H2 := hid h2
  have H3 := hid h3
  obtain ⟨W1, hW1⟩ : ∃ W1, W1 = w.alloc (.cells (tmc op fd n (.slice ao ks.length cap)) 26) := ⟨_, rfl⟩
  have HE : Hid (w.alloc (.cells #[.int .i8 ((op : Nat) : Int), .int .i8 ((fd : Nat) : Int), .int .u64 ((n : Nat) : Int), .slice ao ks.length cap] 26) = W1) := hW1.symm
  have HS0 : Hid (RgS S w W1 op L 0 nilS W1) := ⟨by rw [List.take_zero]; exact TlS.nil _ (Below.refl _ _)⟩
  have HB1 : Hid (Below w.heap.size w W1) := by show Below _ _ _; rw [hW1]; exact (Below.refl _ _).alloc (Nat.le_refl _) _
  have HN1 : Hid (W1.heap[w.heap.size]? = some (.cells (tmc op fd n (.slice ao ks.length cap)) 26 (0, 0))) := by show _ = _; rw [hW1]; exact heap_alloc_new _ _
  have HZ1 : Hid (w.heap.size < W1.heap.size) := (Array.getElem?_eq_some_iff.1 HN1.out).1
  clear hL hLl hs hg h2 h3 ht hW1
  go_enter Tryd.func71, Tryd.ntmps71
  go_upto_region 1 with fail
  rw [show w.alloc (.cells #[.int .i8 ((op : Nat) : Int), .int .i8 ((fd : Nat) : Int), .int .u64 ((n : Nat) : Int), .slice ao ks.length cap] 26) = W1 from HE.out]
  clear HE
  go_upto_region 3 with fail
  go_loopw [10, 11] (fun lv v wr => ∃ (j : Nat) (vo : Option Addr) (vc : Nat), v = .int .i64 ((j : Nat) : Int) ∧ lv = .slice vo (flt op (L.take j)).length vc ∧ j ≤ ks.length ∧ Hid (RgS S w W1 op L j lv wr)) (fun _ v _ => ks.length - (intOf v).toNat)
  case atStart => exact ⟨0, none, 0, rfl, rfl, Nat.zero_le _, HS0⟩
  case round =>
    clear HS0
    obtain ⟨j, vo, vc, rfl, rfl, hj1, HS⟩ := hrel
    have HBx := hid ((HS.out.l.low.block _ HZ1.out).trans HN1.out)
    have c3t := (four_cells HBx.out).2.2.2
    by_cases hj : j < ks.length
    · have hs3 : decide ((j : Int) < (ks.length : Int)) = true := by simp; omega
      have hw3 : IntKind.i64.wrap ((j : Int) + 1) = (j : Int) + 1 := by rw [IntKind.wrap_i64]; omega
      obtain ⟨g, o, rfl, hcap, hgS, hgl, x0, x1, x2, x3, hkv, hra⟩ := UmL.kid H2.out H3.out hj
      have hjc : j < cap := by omega
      have hjL : j < L.length := by have := HLl.out; omega
      have hlow : Below w.heap.size w wr := HB1.out.trans (HS.out.l.low.mono HB1.out.size)
      have HRA : Hid (wr.rangeAt g (o + j * 4) (#[x0, x1, x2, x3] : Array Value).toList) := fun i v hi => (cell_same (hlow.block g hgl)).trans (hra i v hi)
      have HC := hid (HP.out (fun b => b < w.heap.size ∧ S b) j hj #[x0, x1, x2, x3] wr (um_on hkv fun b hb hS => ⟨⟨hb, hS⟩, hlow.block b hb⟩))
      rw [← HLj.out j hj hjL] at HC
      have HGj := hid (HG.out _ (List.getElem_mem hjL))
      have HFt := hid (flt_take op L hjL)
      have HLn : Hid ((flt op (L.take (j + 1))).length ≤ 4096) := Nat.le_trans (flt_len _ _) (Nat.le_trans (szs_le L (j + 1)) HSs.out)
      have HOw := hid (HS.out.l.own)
      have HLow := hid hlow
      obtain ⟨K, hK⟩ : ∃ K, K = L[j] := ⟨_, rfl⟩
      rw [← hK] at HC HGj HFt
      clear hkv hra hlow hK hgS hgl
      obtain ⟨kop, kfd, kn, kks⟩ := K
      go_upto_region 6 with (first
        | (refine ldMid 26 (.tmp 26) rfl rfl g (o + j * 4) rfl #[x0, x1, x2, x3] _ Tryd.underlying26 rfl sizeTM HRA.out ?_)
        | (go_at_call 47; refine (HC.out).mono ?_; rintro e w2 ⟨ds, rfl, hw, hd⟩; have HW2 := hid hw; have HD2 := hid hd; clear hw hd HC)
        | (refine stNew 26 (.tmp 12) (.tmp 28) rfl rfl w2 26 (tmc 0 0 0 nilS) ds rfl rfl rfl HD2.out.info (by rw [HD2.out.size]; rfl) HD2.out.one ?_))
      obtain ⟨kv, zs, hcs, hk2, hk3⟩ := HD2.out.get
      obtain ⟨kao, kcap, rfl⟩ := hk2.form
      subst hcs
      have hb3 : Below w2.heap.size w2 (w2.alloc (.cells (tmc kop kfd kn (.slice kao kks.length kcap)) 26)) := (Below.refl _ _).alloc (Nat.le_refl _) _
      have hb23 : Below wr.heap.size wr (w2.alloc (.cells (tmc kop kfd kn (.slice kao kks.length kcap)) 26)) := HW2.out.trans (hb3.mono HW2.out.size)
      have HS3 := hid (HS.out.on hb23)
      have HN3 : Hid ((w2.alloc (.cells (tmc kop kfd kn (.slice kao kks.length kcap)) 26)).heap[w2.heap.size]? = some (.cells (tmc kop kfd kn (.slice kao kks.length kcap)) 26 (0, 0))) := heap_alloc_new _ _
      have hcar : ∀ b, b < w2.heap.size → ((b < wr.heap.size ∧ (b < w.heap.size ∧ S b)) ∨ wr.heap.size ≤ b) → ((Old S w b ∧ (Value.slice vo (flt op (L.take j)).length vc).ownBlock ≠ some b) ∧ b < w2.heap.size) ∧ (w2.alloc (.cells (tmc kop kfd kn (.slice kao kks.length kcap)) 26)).heap[b]? = w2.heap[b]? := fun b hb hS => by
        refine ⟨⟨⟨?_, fun e => ?_⟩, hb⟩, heap_alloc_old _ _ hb⟩
        · rcases hS with ⟨-, h⟩ | h
          · exact Or.inl h
          · exact Or.inr (by have := HLow.out.size; omega)
        · have := HOw.out b e
          have := HZ1.out
          rcases hS with ⟨-, h, -⟩ | h <;> omega
      have HTi : Hid (UmV (fun b => (Old S w b ∧ (Value.slice vo (flt op (L.take j)).length vc).ownBlock ≠ some b) ∧ b < w2.heap.size) (w2.alloc (.cells (tmc kop kfd kn (.slice kao kks.length kcap)) 26)) (.mk kop kfd kn kks) (tmc kop kfd kn (.slice kao kks.length kcap))) := um_on HD2.out hcar
      have HKx : Hid (Rx (fun b => (Old S w b ∧ (Value.slice vo (flt op (L.take j)).length vc).ownBlock ≠ some b) ∧ b < w2.heap.size) 4 (w2.alloc (.cells (tmc kop kfd kn (.slice kao kks.length kcap)) 26)) (.slice kao kks.length kcap) kks.length zs ∧ UmL (fun b => (Old S w b ∧ (Value.slice vo (flt op (L.take j)).length vc).ownBlock ≠ some b) ∧ b < w2.heap.size) (w2.alloc (.cells (tmc kop kfd kn (.slice kao kks.length kcap)) 26)) kks zs) := ⟨hk2.carry hcar, UmL.carry hcar _ _ hk3⟩
      have hz23 := hb3.size
      have HZ3 : Hid (w2.heap.size < (w2.alloc (.cells (tmc kop kfd kn (.slice kao kks.length kcap)) 26)).heap.size) := by show _ < _; simp
      clear HD2 hk2 hk3 hcar hb3 hb23 HS HRA HW2 hz23 c3t HBx
      generalize w2.alloc (.cells (tmc kop kfd kn (.slice kao kks.length kcap)) 26) = w3 at HS3 HN3 HTi HKx HZ3 ⊢
      have c0 := (four_cells HN3.out).1
      have c3 := (four_cells HN3.out).2.2.2
      have HBx3 := hid ((HS3.out.l.low.block _ HZ1.out).trans HN1.out)
      have c0t := (four_cells HBx3.out).1
      by_cases eop : kop = op
      · have gop : (((kop : Nat) : Int) == ((op : Nat) : Int)) = true := by rw [eop]; simp
        have gop' : decide (kop = op) = true := decide_eq_true eop
        have hgt : flt op (L.take (j + 1)) = flt op (L.take j) ++ kks := by rw [HFt.out, if_pos (show (Tm.mk kop kfd kn kks).op = op from eop)]; rfl
        have hne : kks ≠ [] := (HGj.out.2 eop).1
        have hkp : 0 < kks.length := List.length_pos_iff.2 hne
        obtain ⟨g2, o2, rfl, hc2, hS2, hg2, hr2⟩ := HKx.out.1.at (j := 0) hkp
        obtain ⟨xs', q1, q2⟩ := HS3.out.l.ks
        rw [tis_len] at q1
        have HX4 : Hid (∀ (jj : Nat) (x : Value), zs[jj]? = some x → w3.cell? ((⟨g2, o2, none⟩ : Addr).add jj) = some x) := fun jj x hx => by
          obtain ⟨-, ao', cap', e, -, hh⟩ := HKx.out.1
          obtain ⟨g', o', e1, -, -, hrg⟩ := hh (by omega)
          cases e
          cases e1
          rw [Addr.add_lit]
          exact hrg jj x hx
        have HY4 : Hid (∀ x ∈ zs, x.oneCell' = true) := TiL.one _ _ HKx.out.2
        have HTl : Hid (TiL (fun b => (Old S w b ∧ (Value.slice vo (flt op (L.take j)).length vc).ownBlock ≠ some b) ∧ b < w3.heap.size) w3 (tis kks) zs) := TiL.carry (fun b hb hS => ⟨⟨hS.1, hb⟩, rfl⟩) _ _ HKx.out.2
        have HG1 := hid q1
        have HG2 := hid q2
        have HGL : Hid ((flt op (L.take j)).length + kks.length ≤ 4096) := by
          have := HLn.out
          rw [hgt, List.length_append] at this
          exact this
        have HGT := hid hgt
        have hgl := HGL.out
        clear eop hgt hne hr2 q1 q2 HGj HFt HLn
        generalize hLl : (flt op (L.take j)).length = M at HS3 HTl HG1 HG2 HGL HOw hgl HKx HTi
        have HMl := hid hLl
        clear hLl
        go_wp2_with (refine appRw (.tmp 34) (.tmp 36) 24 rfl rfl (k := 4) (t := 26) (n := M) (m := kks.length) (c := kcap) (us := zs) (ad := ⟨g2, o2, none⟩) rfl rfl Tryd.underlying24 infoTM rfl (by omega) (by omega) HG1.out (HKx.out.1.1) HX4.out HY4.out (by omega) (Or.inl (by omega)) ?_; intro v4 w4 hA4 hR4; obtain ⟨ao4, cap4, rfl⟩ := (hR4 _ HG1.out).form; have HS4 : Hid (TlS (Old S w) W1 (tis (flt op (L.take j)) ++ tis kks) (.slice ao4 (M + kks.length) cap4) w4) := HS3.out.l.app (Below.refl _ _) (by rw [tis_len, HMl.out]; exact HG1.out) HG2.out HTl.out hA4 (by rw [tis_len, tis_len, HMl.out]; exact hR4); clear hA4 hR4)
        have hX : ∃ (m : Nat) (vo : Option Addr) (vc : Nat), Value.int .i64 ((j : Int) + 1) = .int .i64 ((m : Nat) : Int) ∧ Value.slice ao4 (M + kks.length) cap4 = .slice vo (flt op (L.take m)).length vc ∧ m ≤ ks.length ∧ Hid (RgS S w W1 op L m (.slice ao4 (M + kks.length) cap4) w4) := ⟨j + 1, ao4, cap4, by rw [show (((j + 1 : Nat) : Nat) : Int) = (j : Int) + 1 by omega], by rw [HGT.out, List.length_append, HMl.out], hj, ⟨by rw [HGT.out, tis_app]; exact HS4.out⟩⟩
        refine ⟨?_, ?_⟩
        · first
            | exact hX
            | ((repeat apply Exists.intro); refine ⟨?_, rfl⟩; exact hX)
        · simp [intOf]; omega
      · have gop : (((kop : Nat) : Int) == ((op : Nat) : Int)) = false := beq_eq_false_iff_ne.2 (by omega)
        have gop' : decide (kop = op) = false := decide_eq_false eop
        have hgt : flt op (L.take (j + 1)) = flt op (L.take j) ++ [.mk kop kfd kn kks] := by rw [HFt.out, if_neg (show ¬ (Tm.mk kop kfd kn kks).op = op from eop)]
        have hb4 : Below w3.heap.size w3 (w3.alloc (.cells (tmc kop kfd kn (.slice kao kks.length kcap)) 26)) := (Below.refl _ _).alloc (Nat.le_refl _) _
        have HS4 := hid (HS3.out.on hb4)
        have HN4 : Hid ((w3.alloc (.cells (tmc kop kfd kn (.slice kao kks.length kcap)) 26)).heap[w3.heap.size]? = some (.cells (tmc kop kfd kn (.slice kao kks.length kcap)) 26 (0, 0))) := heap_alloc_new _ _
        obtain ⟨xs', q1, q2⟩ := HS4.out.l.ks
        rw [tis_len] at q1
        have HX4 : Hid (∀ (jj : Nat) (x : Value), (tmc kop kfd kn (.slice kao kks.length kcap)).toList[jj]? = some x → (w3.alloc (.cells (tmc kop kfd kn (.slice kao kks.length kcap)) 26)).cell? ((⟨w3.heap.size, 0, none⟩ : Addr).add jj) = some x) := fun jj x hx => by
          rw [Addr.add_lit, Nat.zero_add, cell_of_row _ _ _ _ _ _ HN4.out, ← Array.getElem?_toList]; exact hx
        have HY4 : Hid (∀ x ∈ (tmc kop kfd kn (.slice kao kks.length kcap)).toList, x.oneCell' = true) := fun x hx => by
          have h1 := tmc_one kop kfd kn kao kks.length kcap
          rw [Array.all_eq_true_iff_forall_mem] at h1
          exact h1 x (by simpa using hx)
        have HTl : Hid (TiV (fun b => (Old S w b ∧ (Value.slice vo (flt op (L.take j)).length vc).ownBlock ≠ some b) ∧ b < w3.heap.size) w3 (ti (.mk kop kfd kn kks)) (tmc kop kfd kn (.slice kao kks.length kcap))) := ti_on HTi.out fun b hb hS => ⟨⟨hS.1, hb⟩, rfl⟩
        have HG1 := hid q1
        have HG2 := hid q2
        have HGL : Hid ((flt op (L.take j)).length + 1 ≤ 4096) := by
          have := HLn.out
          rw [hgt, List.length_append] at this
          exact this
        have HGT := hid hgt
        have hgl := HGL.out
        clear eop hgt q1 q2 HGj HFt HLn hb4
        generalize hLl : (flt op (L.take j)).length = M at HS3 HS4 HTl HG1 HG2 HGL HOw hgl HKx HTi
        have HMl := hid hLl
        clear hLl
        go_wp2_with (first
          | (refine ldRow 26 (.tmp 12) rfl rfl w2.heap.size rfl 26 (tmc kop kfd kn (.slice kao kks.length kcap)) _ Tryd.underlying26 rfl sizeTM HN3.out ?_)
          | (refine bldSl 24 26 (.tmp 39) rfl rfl (tmc kop kfd kn (.slice kao kks.length kcap)) rfl Tryd.underlying24 _ _ _ rfl rfl rfl rfl (by decide) (by decide) ?_)
          | (refine appRw (.tmp 38) (.tmp 40) 24 rfl rfl (k := 4) (t := 26) (n := M) (m := 1) (c := 1) (us := (tmc kop kfd kn (.slice kao kks.length kcap)).toList) (ad := ⟨w3.heap.size, 0, none⟩) rfl rfl Tryd.underlying24 infoTM rfl (by omega) (by omega) HG1.out rfl HX4.out HY4.out (by omega) (Or.inl (by omega)) ?_; intro v5 w5 hA4 hR4; obtain ⟨ao4, cap4, rfl⟩ := (hR4 _ HG1.out).form; have HS5 : Hid (TlS (Old S w) W1 (tis (flt op (L.take j)) ++ [ti (.mk kop kfd kn kks)]) (.slice ao4 (M + 1) cap4) w5) := HS3.out.l.app1 (Below.refl _ _) (by rw [tis_len, HMl.out]; exact HG1.out) HG2.out HTl.out hA4 (by rw [tis_len, HMl.out]; exact hR4); clear hA4 hR4))
        have hX : ∃ (m : Nat) (vo : Option Addr) (vc : Nat), Value.int .i64 ((j : Int) + 1) = .int .i64 ((m : Nat) : Int) ∧ Value.slice ao4 (M + 1) cap4 = .slice vo (flt op (L.take m)).length vc ∧ m ≤ ks.length ∧ Hid (RgS S w W1 op L m (.slice ao4 (M + 1) cap4) w5) := ⟨j + 1, ao4, cap4, by rw [show (((j + 1 : Nat) : Nat) : Int) = (j : Int) + 1 by omega], by rw [HGT.out, List.length_append, HMl.out]; rfl, hj, ⟨by rw [HGT.out, tis_app, tis_one]; exact HS5.out⟩⟩
        refine ⟨?_, ?_⟩
        · first
            | exact hX
            | ((repeat apply Exists.intro); refine ⟨?_, rfl⟩; exact hX)
        · simp [intOf]; omega
    · have hs3 : decide ((j : Int) < (ks.length : Int)) = false := by simp; omega
      obtain rfl : j = ks.length := by omega
      have hLe : L.take ks.length = L := by rw [← HLl.out, List.take_length]
      have hl := HS.out.l
      rw [hLe] at hl ⊢
      have hLow := HB1.out.trans (hl.low.mono HB1.out.size)
      obtain ⟨fs, q1, q2⟩ := hl.ks
      obtain ⟨F, hF⟩ : ∃ F, F = flt op L := ⟨_, rfl⟩
      have HF6 : Hid (∀ x ∈ F, x.op = 6 → x.ks ≠ []) := by
        intro x hx h6
        rw [hF] at hx
        unfold flt at hx
        obtain ⟨k, hk1, hk2⟩ := List.mem_flatMap.1 hx
        have h9 := HG.out k hk1
        by_cases e : k.op = op
        · rw [if_pos e] at hk2; exact (h9.2 e).2 x hk2 h6
        · rw [if_neg e] at hk2
          obtain rfl := List.mem_singleton.1 hk2
          exact h9.1 h6
      have hFl : F.length ≤ 4096 := by rw [hF]; exact Nat.le_trans (flt_len _ _) HSs.out
      have HOut : Hid (outD op no f L = F.filter fun k => !saysD f no k) := by show _ = _; unfold outD; rw [hF]
      have HFnd : Hid (fndD op al f L = F.any (saysD f al)) := by show _ = _; unfold fndD; rw [hF]
      rw [← hF] at q1 q2 ⊢
      rw [tis_len] at q1
      have HFr : Hid (Rx (fun b => b < wr.heap.size ∧ Old S w b) 4 wr (.slice vo F.length vc) F.length fs) := q1.rx.carry fun b hb hS9 => ⟨⟨hb, Or.inr (by have := HB1.out.size; omega)⟩, rfl⟩
      have HFk : Hid (UmL (fun b => b < wr.heap.size ∧ Old S w b) wr F fs) := TiL.carry (fun b hb hS9 => ⟨⟨hb, hS9.1.1⟩, rfl⟩) _ _ q2
      have HS0 : Hid (RoS (Old S w) wr no f F 0 nilS wr) := ⟨by rw [List.take_zero]; exact TlS.nil _ (Below.refl _ _)⟩
      have HLw := hid hLow
      clear hF hl hLow q1 q2 HS HG HSs HLl HLj HP H2 H3 hLe HN1 HZ1 HB1 hkl hj hj1 HBx
      generalize wr = W5 at HFr HFk HS0 HLw c3t ⊢
      go_upto_region 12 with fail
      clear c3t hs3
      go_loopw [13, 14, 15] (fun ov fv iv wr => ∃ (j : Nat) (oo : Option Addr) (oc : Nat), iv = .int .i64 ((j : Nat) : Int) ∧ ov = .slice oo ((F.take j).filter fun k => !saysD f no k).length oc ∧ fv = .bool ((F.take j).any (saysD f al)) ∧ j ≤ F.length ∧ Hid (RoS (Old S w) W5 no f F j ov wr)) (fun _ _ iv _ => F.length - (intOf iv).toNat)
      case atStart => exact ⟨0, none, 0, rfl, rfl, rfl, Nat.zero_le _, HS0⟩
      case round =>
        clear HS0
        obtain ⟨j, oo, oc, rfl, rfl, rfl, hj1, HS⟩ := hrel
        by_cases hj : j < F.length
        · have hs3 : decide ((j : Int) < (F.length : Int)) = true := by simp; omega
          have hw3 : IntKind.i64.wrap ((j : Int) + 1) = (j : Int) + 1 := by rw [IntKind.wrap_i64]; omega
          obtain ⟨g, o, rfl, hcap, hgS, hgl, x0, x1, x2, x3, hkv, hra⟩ := UmL.kid HFr.out HFk.out hj
          have hjc : j < vc := by omega
          have HGl := hid hgl
          have HRA := hid hra
          have HKv := hid hkv
          have HFj := hid (HF6.out _ (List.getElem_mem hj))
          have HFt := hid (fil_take F (fun k => !saysD f no k) hj)
          have HAt := hid (any_take F (saysD f al) hj)
          have HLn := hid (fil_len F (fun k => !saysD f no k) (j + 1))
          obtain ⟨K, hK⟩ : ∃ K, K = F[j] := ⟨_, rfl⟩
          rw [← hK] at HKv HFj HFt HAt
          have HRg : Hid (∀ W, Below W5.heap.size W5 W → W.rangeAt g (o + j * 4) (#[x0, x1, x2, x3] : Array Value).toList) := fun W hb i v hi => (cell_same (hb.block g HGl.out)).trans (HRA.out i v hi)
          have HIs : Hid (∀ (a : Nat) W, Below W5.heap.size W5 W → Calls Tryd.prog 104 #[.agg #[x0, x1, x2, x3], .int .i8 ((a : Nat) : Int), .bool f] W fun e w' => e = .returned (.bool (saysD f a K)) ∧ Below W.heap.size W w') := fun a W hb => ris_any f a K #[x0, x1, x2, x3] W (um_on HKv.out fun b hb2 hS => ⟨by have := hb.size; omega, hb.block b hb2⟩) HFj.out
          have HRg1 := hid (HRg.out wr HS.out.l.low)
          have HC1 := hid (HIs.out al wr HS.out.l.low)
          obtain ⟨fd', hfd⟩ : ∃ x, x = (F.take j).any (saysD f al) := ⟨_, rfl⟩
          obtain ⟨q, hq⟩ : ∃ x, x = saysD f al K := ⟨_, rfl⟩
          obtain ⟨u, hu⟩ : ∃ x, x = saysD f no K := ⟨_, rfl⟩
          rw [← hfd]
          rw [← hfd, ← hq] at HAt
          rw [← hq] at HC1
          have HUu := hid hu
          obtain ⟨M, hM⟩ : ∃ M, M = ((F.take j).filter fun k => !saysD f no k).length := ⟨_, rfl⟩
          rw [← hM]
          rw [← hM] at HS
          have HMl := hid hM
          clear hkv hra hgl hgS hK hfd hq hu hM
          go_upto_region 14 with fail
          go_cut [14] from 48 to 57 (fun s14 wc => s14 = .bool (fd' || q) ∧ Hid (Below wr.heap.size wr wc))
          case first =>
            cases fd' with
            | true =>
              go_wp2_with fail
              go_meet
              case rel => exact ⟨rfl, Below.refl _ _⟩
            | false =>
              go_wp2_with (first
                | (refine ldMid 26 (.tmp 52) rfl rfl g (o + j * 4) rfl #[x0, x1, x2, x3] _ Tryd.underlying26 rfl sizeTM HRg1.out ?_)
                | (go_at_call 104; refine (HC1.out).mono ?_; rintro e w3 ⟨rfl, hw⟩; have HW3 := hid hw; clear hw HC1))
              go_meet
              case rel => exact ⟨rfl, HW3.out⟩
          case rest =>
          obtain ⟨rfl, HBc⟩ := hcut
          have HS2 := hid (HS.out.on HBc.out)
          clear HS HRg1 HC1 HBc
          have HRg2 := hid (HRg.out wc HS2.out.l.low)
          have HC2 := hid (HIs.out no wc HS2.out.l.low)
          rw [← HUu.out] at HC2
          cases u with
          | true =>
            have hft : ((F.take (j + 1)).filter fun k => !saysD f no k) = (F.take j).filter fun k => !saysD f no k := by rw [HFt.out, if_neg (by rw [← HUu.out]; decide), List.append_nil]
            have HFT := hid hft
            clear hft HFt HUu HIs HRg HKv HRA
            go_wp2_with (first
              | (refine ldMid 26 (.tmp 60) rfl rfl g (o + j * 4) rfl #[x0, x1, x2, x3] _ Tryd.underlying26 rfl sizeTM HRg2.out ?_)
              | (go_at_call 104; refine (HC2.out).mono ?_; rintro e w3 ⟨rfl, hw⟩; have HS3 := hid (HS2.out.on hw); clear hw HC2))
            have hX : ∃ (m : Nat) (oo' : Option Addr) (oc' : Nat), Value.int .i64 ((j : Int) + 1) = .int .i64 ((m : Nat) : Int) ∧ Value.slice oo M oc = .slice oo' ((F.take m).filter fun k => !saysD f no k).length oc' ∧ Value.bool (fd' || q) = .bool ((F.take m).any (saysD f al)) ∧ m ≤ F.length ∧ Hid (RoS (Old S w) W5 no f F m (.slice oo M oc) w3) := ⟨j + 1, oo, oc, by rw [show (((j + 1 : Nat) : Nat) : Int) = (j : Int) + 1 by omega], by rw [HFT.out, HMl.out], by rw [HAt.out], hj, ⟨by rw [HFT.out]; exact HS3.out.l⟩⟩
            refine ⟨?_, ?_⟩
            · first
                | exact hX
                | ((repeat apply Exists.intro); refine ⟨?_, rfl⟩; exact hX)
            · simp [intOf]; omega
          | false =>
            have hft : ((F.take (j + 1)).filter fun k => !saysD f no k) = ((F.take j).filter fun k => !saysD f no k) ++ [K] := by
              rw [HFt.out, if_pos (by rw [← HUu.out]; rfl)]
            have HFT := hid hft
            have HML : Hid (M + 1 ≤ F.length) := by
              have h8 := HLn.out
              rw [hft, List.length_append] at h8
              have h9 := HMl.out
              show _ ≤ _
              simp only [List.length_cons, List.length_nil] at h8
              omega
            have hml := HML.out
            clear hft HFt
            go_upto_region 16 with (first
              | (refine ldMid 26 (.tmp 60) rfl rfl g (o + j * 4) rfl #[x0, x1, x2, x3] _ Tryd.underlying26 rfl sizeTM HRg2.out ?_)
              | (go_at_call 104; refine (HC2.out).mono ?_; rintro e w3 ⟨rfl, hw⟩; have HS3 := hid (HS2.out.on hw); clear hw HC2))
            clear HRg2 HS2
            have HRg3 := hid (HRg.out w3 HS3.out.l.low)
            have hb4 : Below w3.heap.size w3 (w3.alloc (.cells #[x0, x1, x2, x3] 26)) := (Below.refl _ _).alloc (Nat.le_refl _) _
            have HN4 : Hid ((w3.alloc (.cells #[x0, x1, x2, x3] 26)).heap[w3.heap.size]? = some (.cells #[x0, x1, x2, x3] 26 (0, 0))) := heap_alloc_new _ _
            obtain ⟨xs', q1, q2⟩ := (HS3.out.on hb4).l.ks
            rw [tis_len, ← HMl.out] at q1
            have HX4 : Hid (∀ (jj : Nat) (x : Value), [x0, x1, x2, x3][jj]? = some x → (w3.alloc (.cells #[x0, x1, x2, x3] 26)).cell? ((⟨w3.heap.size, 0, none⟩ : Addr).add jj) = some x) := fun jj x hx => by
              rw [Addr.add_lit, Nat.zero_add, cell_of_row _ _ _ _ _ _ HN4.out, ← Array.getElem?_toList]; exact hx
            have HY4 : Hid (∀ x ∈ [x0, x1, x2, x3], x.oneCell' = true) := fun x hx => by have h1 := HKv.out.one; rw [Array.all_eq_true_iff_forall_mem] at h1; exact h1 x (List.mem_toArray.2 hx)
            have HOw := hid (HS3.out.l.own)
            have HLw3 := hid HS3.out.l.low
            have HTl : Hid (TiV (fun b => (Old S w b ∧ (Value.slice oo M oc).ownBlock ≠ some b) ∧ b < w3.heap.size) w3 (ti K) #[x0, x1, x2, x3]) := ti_on HKv.out fun b hb hS => ⟨⟨⟨hS.2, fun e => by have := (HOw.out b e).1; omega⟩, by have := HLw3.out.size; omega⟩, HLw3.out.block b hb⟩
            have HG1 := hid q1
            have HG2 := hid q2
            clear q1 q2 hb4
            go_wp2_with (first
              | (refine ldMid 26 (.tmp 69) rfl rfl g (o + j * 4) rfl #[x0, x1, x2, x3] _ Tryd.underlying26 rfl sizeTM HRg3.out ?_)
              | (refine bldSl 24 26 (.tmp 70) rfl rfl #[x0, x1, x2, x3] rfl Tryd.underlying24 _ _ _ rfl rfl rfl rfl (by decide) (by decide) ?_)
              | (refine appRw (.tmp 66) (.tmp 71) 24 rfl rfl (k := 4) (t := 26) (n := M) (m := 1) (c := 1) (us := [x0, x1, x2, x3]) (ad := ⟨w3.heap.size, 0, none⟩) rfl rfl Tryd.underlying24 infoTM rfl (by omega) (by omega) HG1.out rfl HX4.out HY4.out (by omega) (Or.inl (by omega)) ?_; intro v5 w5 hA4 hR4; obtain ⟨ao4, cap4, rfl⟩ := (hR4 _ HG1.out).form; have HS5 : Hid (TlS (Old S w) W5 (tis ((F.take j).filter fun k => !saysD f no k) ++ [ti K]) (.slice ao4 (M + 1) cap4) w5) := HS3.out.l.app1 (Below.refl _ _) (by rw [tis_len, ← HMl.out]; exact HG1.out) HG2.out HTl.out hA4 (by rw [tis_len, ← HMl.out]; exact hR4); clear hA4 hR4))
            have hX : ∃ (m : Nat) (oo' : Option Addr) (oc' : Nat), Value.int .i64 ((j : Int) + 1) = .int .i64 ((m : Nat) : Int) ∧ Value.slice ao4 (M + 1) cap4 = .slice oo' ((F.take m).filter fun k => !saysD f no k).length oc' ∧ Value.bool (fd' || q) = .bool ((F.take m).any (saysD f al)) ∧ m ≤ F.length ∧ Hid (RoS (Old S w) W5 no f F m (.slice ao4 (M + 1) cap4) w5) := ⟨j + 1, ao4, cap4, by rw [show (((j + 1 : Nat) : Nat) : Int) = (j : Int) + 1 by omega], by rw [HFT.out, List.length_append, HMl.out]; rfl, by rw [HAt.out], hj, ⟨by rw [HFT.out, tis_app, tis_one]; exact HS5.out⟩⟩
            refine ⟨?_, ?_⟩
            · first
                | exact hX
                | ((repeat apply Exists.intro); refine ⟨?_, rfl⟩; exact hX)
            · simp [intOf]; omega
        · have hs3 : decide ((j : Int) < (F.length : Int)) = false := by simp; omega
          obtain rfl : j = F.length := by omega
          have hl := HS.out.l
          rw [List.take_length] at hl ⊢
          have HLa := hid (HLw.out.trans (hl.low.mono HLw.out.size))
          obtain ⟨ys, q1, q2⟩ := hl.ks
          rw [tis_len] at q1
          have HQ1 := hid (q1.rx.carry (T := Old S w) fun b hb hS9 => ⟨Or.inr (by have := HLw.out.size; omega), rfl⟩)
          have HQ2 : Hid (UmL (Old S w) wr (F.filter fun k => !saysD f no k) ys) := TiL.carry (fun b hb hS9 => ⟨hS9.1.1, rfl⟩) _ _ q2
          clear q1 q2 hl HS
          go_wp2
          go_ret2
          rw [HOut.out, HFnd.out]
          exact ⟨_, _, _, rfl, HLa.out, HQ1.out, HQ2.out⟩
end Go.Proofs.YtjallmncajhamaaDoor
