/-
  Proved here: the document's Do. Conditions: fewer than a million ones.
-/
import Derived.Test.YthgkmbdnkamcoaaB4
namespace Go.Proofs.Ythgkmbdnkamcoaa
open Go.RowKit

theorem size2 (x y : Value) : (Try.prog.info? 53).map (·.size) = some (#[x, y] : Array Value).size := by kernel_rfl
/-- The row is another one, of those that were there, in new memory. -/
theorem rset_fin {S : Nat → Prop} {f : Nat → Nat} {w W : World} {g : Nat} {vl vn v3 : Value} {ps l' : List (Value × On)} {ns : List (Value × List Int)} (h : RRf S f w g vl vn ps ns) (hf : Fresh S w) (hB : Below w.heap.size w W) (hR : Rw (fun b => w.heap.size ≤ b) 2 53 W v3 l'.length (c2s l')) (hl : ∀ q ∈ l', q ∈ ps) :
    Only S w (W.setCell ⟨g, 0, none⟩ v3) ∧ RRf S (paint f w.heap.size w.heap.size 1) (W.setCell ⟨g, 0, none⟩ v3) g v3 vn l' ns := by
  have hgl := (Array.getElem?_eq_some_iff.1 h.hg).1
  have sett : ∀ k, k ≠ g → (W.setCell ⟨g, 0, none⟩ v3).heap[k]? = W.heap[k]? := fun k hk => heap_setCell_other W ⟨g, 0, none⟩ k v3 hk
  have hgW : W.heap[g]? = some (.cells #[vl, vn] 30 (0, 0)) := (hB.block g hgl).trans h.hg
  have carry : ∀ i, i ≠ 0 → ∀ k, k < w.heap.size → (S k ∧ f k = i) → (S k ∧ paint f w.heap.size w.heap.size 1 k = i) ∧ (W.setCell ⟨g, 0, none⟩ v3).heap[k]? = w.heap[k]? := fun i h0 k hk hS => ⟨⟨hS.1, (paint_old hk).trans hS.2⟩, (sett k (fun e => by have := h.fg; have := hS.2; subst e; omega)).trans (hB.block k hk)⟩
  refine ⟨Only.setCell (p := ⟨g, 0, none⟩) (Only.of hB hf) h.sg v3, h.sg, (paint_old hgl).trans h.fg, by rw [heap_setCell_same W g 0 _ _ _ hgW]; rfl, hR.carry fun b _ hb => ⟨⟨hf b hb, paint_new hb hb⟩, sett b (by omega)⟩, h.new.carry (carry 2 (by omega)), fun q hq => (h.pr q (hl q hq)).carry (carry 3 (by omega)), h.pn.carry (carry 3 (by omega))⟩
/-- What the document's Do leaves. -/
def RdP (S : Nat → Prop) (w : World) (v : Value) (a : Ra) (x y : Int) (e : Ending) (w' : World) : Prop := e = .returned (.int .i64 (rdoE a x y)) ∧ Only S w w' ∧ RR S w' v (rdoS a x y)
set_option maxHeartbeats 3200000 in
set_option maxRecDepth 100000 in
theorem rdo_1 {S : Nat → Prop} (w : World) (v : Value) (a : Ra) (y : Int) (h : RR S w v a) (hf : Fresh S w) (hy : y < 9223372036854775808) (hE : rdoE a 1 y = 0) (hlr : a.l.length < 1000000) (_hlc : a.n.length < 1000000) : Calls Try.prog 17 #[v, .int .u8 1, .int .i64 y] w fun e w' => RdP S w v a 1 y e w' := by
  obtain ⟨g, f, vr, vn, ps, ns, rfl, h, hrow, hnew⟩ := h
  have hl : a.l.length = ps.length := by rw [hrow]; simp
  have hl2 : a.n.length = ns.length := by rw [hnew]; simp
  have h0 : 0 ≤ y ∧ ps.length ≠ 0 := by
    unfold rdoE at hE
    split at hE
    · cases hE
    · rename_i hb
      split at hE
      · cases hE
      · exact ⟨by unfold bad at hb; omega, by omega⟩
  have hd0 : decide (y < 0) = false := decide_eq_false (by omega)
  have hq : ((ps.length : Int) == 0) = false := beq_eq_false_iff_ne.2 (by omega)
  have hq' : ¬ (ps.length : Int) = 0 := by omega
  obtain ⟨p, hp⟩ : ∃ p, p = rplc a y := ⟨_, rfl⟩
  have hpl : p < ps.length := by
    have h1 := Int.tmod_nonneg (ps.length : Int) h0.1
    have h2 := Int.tmod_lt_of_pos y (show (0 : Int) < ps.length by omega)
    rw [hp]; unfold rplc; rw [hl]; omega
  have hp1 : y.tmod (ps.length : Int) = (p : Int) := by
    have := Int.tmod_nonneg (ps.length : Int) h0.1
    rw [hp]; unfold rplc; rw [hl]; omega
  have hp2 : y % (ps.length : Int) = (p : Int) := by rw [← Int.tmod_eq_emod_of_nonneg h0.1]; exact hp1
  have HDo : Hid (rdoS a 1 y = rdoG a 1 y) := by show rdoS a 1 y = rdoG a 1 y; unfold rdoS; rw [if_pos hE]
  have HE := hid hE
  obtain ⟨u, hu⟩ : ∃ u, u = ps[p].1 := ⟨_, rfl⟩
  obtain ⟨d, hd⟩ : ∃ d, d = ps[p].2 := ⟨_, rfl⟩
  have hpr := h.pr _ (List.getElem_mem hpl)
  rw [← hu, ← hd] at hpr
  have HPr := hid hpr
  obtain ⟨ua, uc, rfl, -⟩ := id hpr
  have hpk : rpick a y = d := by
    unfold rpick
    rw [← hp, hrow, hd, List.getD_eq_getElem?_getD, List.getElem?_map, List.getElem?_eq_getElem hpl]; rfl
  have hgl := (Array.getElem?_eq_some_iff.1 h.hg).1
  obtain ⟨c0, c1, k2, k9⟩ := two_cells h.hg
  have hdl := hpr.len
  have hr := h.row
  rcases hr with ⟨hx, ⟨_, hz0⟩ | ⟨b, o, cap, cur, rfl, hb1, hb2, hb3, hb4, hb5⟩⟩
  · omega
  have hbl := (Array.getElem?_eq_some_iff.1 hb2).1
  obtain ⟨W1, hW1⟩ : ∃ W1, W1 = w.alloc (.cells #[.slice ua d.b.length uc, .bool d.ch] 53) := ⟨_, rfl⟩
  have hWb : Below w.heap.size w W1 := by rw [hW1]; exact (Below.refl _ _).alloc (Nat.le_refl _) _
  have hWs : W1.heap.size = w.heap.size + 1 := by rw [hW1]; simp
  have hW9 : W1.heap[w.heap.size]? = some (.cells #[.slice ua d.b.length uc, .bool d.ch] 53 (0, 0)) := by rw [hW1]; exact heap_alloc_new _ _
  have HRg : Hid (w.rangeAt b (o + p * 2) (#[.slice ua d.b.length uc, .bool d.ch] : Array Value).toList) := range_of fun i hi => by
    have hi2 : i < 2 := hi
    rw [cell_of_row w b _ cur 53 (0, 0) hb2, Nat.add_assoc, cells_at hb5 (by omega), c2s_at ps p i hpl hi2, hu, hd]
    have : i = 0 ∨ i = 1 := by omega
    rcases this with rfl | rfl <;> rfl
  have hbp : decide ((p : Int) < (ps.length : Int)) = true := by simp; omega
  have hpc : p ≤ cap := by omega
  have hpc1 : p + 1 ≤ cap := by omega
  have hpn2 : p + 1 ≤ ps.length := by omega
  have hp0 : (0 : Int) ≤ (p : Int) + 1 := by omega
  have hpz : (0 : Int) ≤ (p : Int) := by omega
  have hwr : IntKind.i64.wrap ((p : Int) + 1) = (p : Int) + 1 := by rw [IntKind.wrap_i64]; omega
  have ht1 : (c2s (ps.take p)).length = p * 2 := by rw [c2s_len]; simp; omega
  have ht2 : (c2s (ps.drop (p + 1))).length = (ps.length - (p + 1)) * 2 := by rw [c2s_len]; simp
  have hone : ∀ l : List (Value × On), (∀ q ∈ l, q ∈ ps) → ∀ x ∈ c2s l, x.oneCell' = true := by
    intro l hl x hx
    obtain ⟨q, hq, hx⟩ := List.mem_flatMap.1 hx
    simp only [c2, List.mem_cons, List.not_mem_nil, or_false] at hx
    rcases hx with rfl | rfl
    · exact (h.pr q (hl q hq)).one
    · rfl
  have HN1 : Hid (∀ W : World, W.heap[b]? = w.heap[b]? → ∀ j x, (c2s (ps.take p))[j]? = some x → W.cell? (Addr.add ⟨b, o, none⟩ j) = some x) := by
    show ∀ _, _
    intro W hW j x hx
    have hj : j < p * 2 := by have := (List.getElem?_eq_some_iff.1 hx).1; omega
    rw [Addr.add_lit, cell_of_row W b _ cur 53 (0, 0) (hW.trans hb2), cells_at hb5 (by omega), ← hx, ← c2s_take, List.getElem?_take, if_pos hj]
  obtain ⟨Ad, hAd, HN2⟩ : ∃ Ad : Addr, (if cap = p + 1 then some (⟨b, o, none⟩ : Addr) else some ⟨b, o + (p + 1) * 2, none⟩) = some Ad ∧ Hid (∀ W : World, W.heap[b]? = w.heap[b]? → ∀ j x, (c2s (ps.drop (p + 1)))[j]? = some x → W.cell? (Ad.add j) = some x) := by
    by_cases hc : cap = p + 1
    · refine ⟨⟨b, o, none⟩, by simp [hc], fun W hW j x hx => ?_⟩
      have := (List.getElem?_eq_some_iff.1 hx).1
      omega
    · refine ⟨⟨b, o + (p + 1) * 2, none⟩, by simp [hc], fun W hW j x hx => ?_⟩
      have hj : j < (ps.length - (p + 1)) * 2 := by have := (List.getElem?_eq_some_iff.1 hx).1; omega
      rw [Addr.add_lit, cell_of_row W b _ cur 53 (0, 0) (hW.trans hb2), Nat.add_assoc, cells_at hb5 (by omega), ← hx, ← c2s_drop, List.getElem?_drop]
  have HO1 : Hid (∀ x ∈ c2s (ps.take p), x.oneCell' = true) := hone _ fun q hq => List.mem_of_mem_take hq
  have HO2 : Hid (∀ x ∈ c2s (ps.drop (p + 1)), x.oneCell' = true) := hone _ fun q hq => List.mem_of_mem_drop hq
  obtain ⟨x0, x1, x2, x9⟩ := two_cells ((hWb.block g hgl).trans h.hg)
  have hpsl : ps.length < 1000000 := by omega
  have H := hid h
  have HU := hid hu
  have HD := hid hd
  have HP := hid hp
  have HPk := hid hpk
  have HRow := hid hrow
  have HNew := hid hnew
  have HL := hid hl
  have HGl := hid (And.intro hgl hbl)
  have HFr := hid hf
  have HWb := hid (And.intro hWb (And.intro hWs hW9))
  have HW1 := hid hW1
  have HT := hid (And.intro ht1 ht2)
  clear hu hd hp hrow hnew hpr hpk hf hE hl hgl hbl h hWb hWs hW9 hW1 hone hb1 hb2 hb4 hb5 hx ht1 ht2
  go_enter Try.func17, Try.ntmps17
  go_upto_region 8 with (first
    | (refine ldMid 53 (.tmp 34) rfl rfl b (o + p * 2) rfl #[.slice ua d.b.length uc, .bool d.ch] _ Try.underlying53 rfl (size2 _ _) HRg.out ?_)
    | (refine stNew 53 (.tmp 9) (.tmp 35) rfl rfl w 53 #[.slice none 0 0, .bool false] #[.slice ua d.b.length uc, .bool d.ch] rfl rfl rfl (size2 _ _) rfl rfl ?_))
  rw [← HW1.out]
  clear HW1 HRg
  go_upto_region 10 with (at_builtin; refine appRwN (v := nilS) (S := fun _ => False) (k := 2) (t := 53) (n := 0) (m := p) (c := cap) (xs := []) (us := c2s (ps.take p)) (ad := ⟨b, o, none⟩) (.tmp 36) (.tmp 42) 27 rfl rfl rfl rfl Try.underlying27 infoO rfl (by omega) (by omega) (Rw.nil _ _ _ _) (fun _ => rfl) HT.out.1 (HN1.out W1 (HWb.out.1.block b HGl.out.2)) HO1.out (by omega) ?_
                          intro v2 W2 A2 R2 N2
                          rw [Nat.zero_add, List.nil_append] at R2
                          rw [Nat.zero_add] at N2
                          have HA2 := hid A2
                          have HR2 := hid R2
                          have HNn := hid N2
                          have HG2 : Hid (∀ k, k < W1.heap.size → W2.heap[k]? = W1.heap[k]?) := fun k hk => A2.block k hk (by simp [Value.ownBlock])
                          obtain ⟨a2, q2, rfl⟩ := R2.form
                          have hg2 : W2.heap[g]? = _ := (HG2.out g (Nat.lt_of_lt_of_le HGl.out.1 HWb.out.1.size)).trans ((HWb.out.1.block g HGl.out.1).trans H.out.hg)
                          obtain ⟨y0, y1, y2, y9⟩ := two_cells hg2
                          clear A2 R2 N2 hg2)
  have hb2' : W2.heap[b]? = w.heap[b]? := (HG2.out b (Nat.lt_of_lt_of_le HGl.out.2 HWb.out.1.size)).trans (HWb.out.1.block b HGl.out.2)
  have HNW := hid (HN2.out W2 hb2')
  have hml : p + (ps.length - (p + 1)) < 2147483648 := by omega
  clear hb2'
  go_upto_region 12 with (at_builtin; refine appRwN (v := .slice a2 p q2) (S := fun b => False ∨ W1.heap.size ≤ b) (k := 2) (t := 53) (n := p) (m := ps.length - (p + 1)) (c := cap - (p + 1)) (xs := c2s (ps.take p)) (us := c2s (ps.drop (p + 1))) (ad := Ad) (.tmp 44) (.tmp 51) 27 rfl rfl rfl (by first | rfl | simp [Act.eval, Act.put]) Try.underlying27 infoO rfl (by omega) (by omega) HR2.out HNn.out HT.out.2 HNW.out HO2.out hml ?_
                          intro v3 W3 A3 R3 N3
                          have HA3 := hid A3
                          have HR3 := hid R3
                          have HN3 := hid N3
                          have HG3 : Hid (∀ k, k < W1.heap.size → W3.heap[k]? = W1.heap[k]?) := fun k hk => (A3.block k (Nat.lt_of_lt_of_le hk HA2.out.size) (fun e => by rcases HR2.out.own k e with h | h; exact h; omega)).trans (HG2.out k hk)
                          obtain ⟨a3, q3, rfl⟩ := R3.form
                          have hg3 : W3.heap[g]? = _ := (HG3.out g (Nat.lt_of_lt_of_le HGl.out.1 HWb.out.1.size)).trans ((HWb.out.1.block g HGl.out.1).trans H.out.hg)
                          obtain ⟨z0, z1, z2, z9⟩ := two_cells hg3
                          have h93 : W3.heap[w.heap.size]? = some (.cells #[.slice ua d.b.length uc, .bool d.ch] 53 (0, 0)) := (HG3.out _ (by have := HWb.out.2.1; omega)).trans HWb.out.2.2
                          obtain ⟨n0, n1, -, -⟩ := two_cells h93
                          have H94 := hid h93
                          clear A3 R3 N3 hg3 h93)
  have HSu : Hid (Sl w.heap.size W3 (.slice ua d.b.length uc) d.b) := (HPr.out.carry (T := fun k => k < w.heap.size) (w' := W3) fun k hk _ => ⟨hk, (HG3.out k (by have := HWb.out.2.1; omega)).trans (HWb.out.1.block k hk)⟩)
  have hdl2 : ([] : List Int).length + d.b.length ≤ 140737488355328 := by simpa using hdl
  have HOw : Hid (Owns W3.heap.size W3 nilS []) := Owns.isNil
  go_upto_region 13 with (at_builtin; refine app22 (.tmp 53) (.tmp 55) rfl rfl rfl rfl HOw.out HSu.out (Nat.le_refl _) hdl2 ?_
                          intro v4 W4 X4
                          have HX4 := hid X4
                          have HB4 : Hid (Below W3.heap.size W3 W4) := X4.below HOw.out (Nat.le_refl _)
                          obtain ⟨a4, q4, rfl⟩ : ∃ a4 q4, v4 = .slice a4 d.b.length q4 := X4.own.slice
                          clear X4)
  have HBw : Hid (Below w.heap.size w W4) := by
    have h1 := HWb.out.2.1
    refine ⟨HB4.out.os.trans (HA3.out.os.trans (HA2.out.os.trans HWb.out.1.os)), HB4.out.tape.trans (HA3.out.tape.trans (HA2.out.tape.trans HWb.out.1.tape)), HB4.out.output.trans (HA3.out.output.trans (HA2.out.output.trans HWb.out.1.output)), ?_, fun k hk => ?_⟩
    · have h2 := HA2.out.size
      have h3 := HA3.out.size
      have h4 := HB4.out.size
      omega
    · have h2 := HA2.out.size
      have h3 := HA3.out.size
      rw [HB4.out.block k (by omega), HG3.out k (by omega), HWb.out.1.block k hk]
  have hel : (ps.eraseIdx p).length = p + (ps.length - (p + 1)) := by rw [List.length_eraseIdx_of_lt hpl]; omega
  have HR4 : Hid (Rw (fun b => w.heap.size ≤ b) 2 53 W4 (.slice a3 (p + (ps.length - (p + 1))) q3) (ps.eraseIdx p).length (c2s (ps.eraseIdx p))) := by
    show Rw _ _ _ _ _ _ _
    rw [hel, c2s_erase]
    refine HR3.out.carry fun k hk hS => ⟨?_, HB4.out.block k hk⟩
    have h1 := HWb.out.2.1
    have h2 := HA2.out.size
    rcases hS with (hS | hS) | hS
    · exact hS.elim
    · omega
    · omega
  have hg4 : W4.heap[g]? = _ := (HBw.out.block g HGl.out.1).trans H.out.hg
  obtain ⟨j0, j1, j2, j9⟩ := two_cells hg4
  clear hel hg4 HG2 HG3 HA2 HA3 HR2 HR3 HNn HNW HT HO1 HO2 HN1 HN2
  have HF := hid (rset_fin H.out HFr.out HBw.out HR4.out fun q hq => List.mem_of_mem_eraseIdx hq)
  go_wp2
  go_ret
  refine ⟨by rw [HE.out]; rfl, HF.out.1, ?_⟩
  rw [HDo.out]
  refine ⟨g, _, _, _, _, _, rfl, HF.out.2, ?_, ?_⟩
  · unfold rdoG; rw [if_neg (by omega), if_pos rfl, map_erase, ← HRow.out, HP.out]
  · unfold rdoG; rw [if_neg (by omega), if_pos rfl]; exact HNew.out
set_option maxHeartbeats 3200000 in
set_option maxRecDepth 100000 in
theorem rdo_4 {S : Nat → Prop} (w : World) (v : Value) (a : Ra) (y : Int) (h : RR S w v a) (hf : Fresh S w) (hy : y < 9223372036854775808) (hE : rdoE a 4 y = 0) (hlr : a.l.length < 1000000) (_hlc : a.n.length < 1000000) : Calls Try.prog 17 #[v, .int .u8 4, .int .i64 y] w fun e w' => RdP S w v a 4 y e w' := by
  obtain ⟨g, f, vr, vn, ps, ns, rfl, h, hrow, hnew⟩ := h
  have hl : a.l.length = ps.length := by rw [hrow]; simp
  have hl2 : a.n.length = ns.length := by rw [hnew]; simp
  have h0 : 0 ≤ y ∧ ps.length ≠ 0 := by
    unfold rdoE at hE
    split at hE
    · cases hE
    · rename_i hb
      split at hE
      · cases hE
      · exact ⟨by unfold bad at hb; omega, by omega⟩
  have hd0 : decide (y < 0) = false := decide_eq_false (by omega)
  have hq : ((ps.length : Int) == 0) = false := beq_eq_false_iff_ne.2 (by omega)
  have hq' : ¬ (ps.length : Int) = 0 := by omega
  obtain ⟨p, hp⟩ : ∃ p, p = rplc a y := ⟨_, rfl⟩
  have hpl : p < ps.length := by
    have h1 := Int.tmod_nonneg (ps.length : Int) h0.1
    have h2 := Int.tmod_lt_of_pos y (show (0 : Int) < ps.length by omega)
    rw [hp]; unfold rplc; rw [hl]; omega
  have hp1 : y.tmod (ps.length : Int) = (p : Int) := by
    have := Int.tmod_nonneg (ps.length : Int) h0.1
    rw [hp]; unfold rplc; rw [hl]; omega
  have hp2 : y % (ps.length : Int) = (p : Int) := by rw [← Int.tmod_eq_emod_of_nonneg h0.1]; exact hp1
  have HDo : Hid (rdoS a 4 y = rdoG a 4 y) := by show rdoS a 4 y = rdoG a 4 y; unfold rdoS; rw [if_pos hE]
  have HE := hid hE
  obtain ⟨u, hu⟩ : ∃ u, u = ps[p].1 := ⟨_, rfl⟩
  obtain ⟨d, hd⟩ : ∃ d, d = ps[p].2 := ⟨_, rfl⟩
  have hpr := h.pr _ (List.getElem_mem hpl)
  rw [← hu, ← hd] at hpr
  have HPr := hid hpr
  obtain ⟨ua, uc, rfl, -⟩ := id hpr
  have hpk : rpick a y = d := by
    unfold rpick
    rw [← hp, hrow, hd, List.getD_eq_getElem?_getD, List.getElem?_map, List.getElem?_eq_getElem hpl]; rfl
  have hgl := (Array.getElem?_eq_some_iff.1 h.hg).1
  obtain ⟨c0, c1, k2, k9⟩ := two_cells h.hg
  have hdl := hpr.len
  have hr := h.row
  rcases hr with ⟨hx, ⟨_, hz0⟩ | ⟨b, o, cap, cur, rfl, hb1, hb2, hb3, hb4, hb5⟩⟩
  · omega
  have hbl := (Array.getElem?_eq_some_iff.1 hb2).1
  obtain ⟨W1, hW1⟩ : ∃ W1, W1 = w.alloc (.cells #[.slice ua d.b.length uc, .bool d.ch] 53) := ⟨_, rfl⟩
  have hWb : Below w.heap.size w W1 := by rw [hW1]; exact (Below.refl _ _).alloc (Nat.le_refl _) _
  have hWs : W1.heap.size = w.heap.size + 1 := by rw [hW1]; simp
  have hW9 : W1.heap[w.heap.size]? = some (.cells #[.slice ua d.b.length uc, .bool d.ch] 53 (0, 0)) := by rw [hW1]; exact heap_alloc_new _ _
  have HRg : Hid (w.rangeAt b (o + p * 2) (#[.slice ua d.b.length uc, .bool d.ch] : Array Value).toList) := range_of fun i hi => by
    have hi2 : i < 2 := hi
    rw [cell_of_row w b _ cur 53 (0, 0) hb2, Nat.add_assoc, cells_at hb5 (by omega), c2s_at ps p i hpl hi2, hu, hd]
    have : i = 0 ∨ i = 1 := by omega
    rcases this with rfl | rfl <;> rfl
  have hbp : decide ((p : Int) < (ps.length : Int)) = true := by simp; omega
  have hpc : p ≤ cap := by omega
  have hpc1 : p + 1 ≤ cap := by omega
  have hpn2 : p + 1 ≤ ps.length := by omega
  have hp0 : (0 : Int) ≤ (p : Int) + 1 := by omega
  have hpz : (0 : Int) ≤ (p : Int) := by omega
  have hwr : IntKind.i64.wrap ((p : Int) + 1) = (p : Int) + 1 := by rw [IntKind.wrap_i64]; omega
  have ht1 : (c2s (ps.take p)).length = p * 2 := by rw [c2s_len]; simp; omega
  have ht2 : (c2s (ps.drop (p + 1))).length = (ps.length - (p + 1)) * 2 := by rw [c2s_len]; simp
  have hone : ∀ l : List (Value × On), (∀ q ∈ l, q ∈ ps) → ∀ x ∈ c2s l, x.oneCell' = true := by
    intro l hl x hx
    obtain ⟨q, hq, hx⟩ := List.mem_flatMap.1 hx
    simp only [c2, List.mem_cons, List.not_mem_nil, or_false] at hx
    rcases hx with rfl | rfl
    · exact (h.pr q (hl q hq)).one
    · rfl
  have HN1 : Hid (∀ W : World, W.heap[b]? = w.heap[b]? → ∀ j x, (c2s (ps.take p))[j]? = some x → W.cell? (Addr.add ⟨b, o, none⟩ j) = some x) := by
    show ∀ _, _
    intro W hW j x hx
    have hj : j < p * 2 := by have := (List.getElem?_eq_some_iff.1 hx).1; omega
    rw [Addr.add_lit, cell_of_row W b _ cur 53 (0, 0) (hW.trans hb2), cells_at hb5 (by omega), ← hx, ← c2s_take, List.getElem?_take, if_pos hj]
  obtain ⟨Ad, hAd, HN2⟩ : ∃ Ad : Addr, (if cap = p + 1 then some (⟨b, o, none⟩ : Addr) else some ⟨b, o + (p + 1) * 2, none⟩) = some Ad ∧ Hid (∀ W : World, W.heap[b]? = w.heap[b]? → ∀ j x, (c2s (ps.drop (p + 1)))[j]? = some x → W.cell? (Ad.add j) = some x) := by
    by_cases hc : cap = p + 1
    · refine ⟨⟨b, o, none⟩, by simp [hc], fun W hW j x hx => ?_⟩
      have := (List.getElem?_eq_some_iff.1 hx).1
      omega
    · refine ⟨⟨b, o + (p + 1) * 2, none⟩, by simp [hc], fun W hW j x hx => ?_⟩
      have hj : j < (ps.length - (p + 1)) * 2 := by have := (List.getElem?_eq_some_iff.1 hx).1; omega
      rw [Addr.add_lit, cell_of_row W b _ cur 53 (0, 0) (hW.trans hb2), Nat.add_assoc, cells_at hb5 (by omega), ← hx, ← c2s_drop, List.getElem?_drop]
  have HO1 : Hid (∀ x ∈ c2s (ps.take p), x.oneCell' = true) := hone _ fun q hq => List.mem_of_mem_take hq
  have HO2 : Hid (∀ x ∈ c2s (ps.drop (p + 1)), x.oneCell' = true) := hone _ fun q hq => List.mem_of_mem_drop hq
  obtain ⟨x0, x1, x2, x9⟩ := two_cells ((hWb.block g hgl).trans h.hg)
  have hpsl : ps.length < 1000000 := by omega
  have H := hid h
  have HU := hid hu
  have HD := hid hd
  have HP := hid hp
  have HPk := hid hpk
  have HRow := hid hrow
  have HNew := hid hnew
  have HL := hid hl
  have HGl := hid (And.intro hgl hbl)
  have HFr := hid hf
  have HWb := hid (And.intro hWb (And.intro hWs hW9))
  have HW1 := hid hW1
  have HT := hid (And.intro ht1 ht2)
  clear hu hd hp hrow hnew hpr hpk hf hE hl hgl hbl h hWb hWs hW9 hW1 hone hb1 hb2 hb4 hb5 hx ht1 ht2
  go_enter Try.func17, Try.ntmps17
  go_upto_region 8 with (first
    | (refine ldMid 53 (.tmp 34) rfl rfl b (o + p * 2) rfl #[.slice ua d.b.length uc, .bool d.ch] _ Try.underlying53 rfl (size2 _ _) HRg.out ?_)
    | (refine stNew 53 (.tmp 9) (.tmp 35) rfl rfl w 53 #[.slice none 0 0, .bool false] #[.slice ua d.b.length uc, .bool d.ch] rfl rfl rfl (size2 _ _) rfl rfl ?_))
  rw [← HW1.out]
  clear HW1 HRg
  go_upto_region 10 with (at_builtin; refine appRwN (v := nilS) (S := fun _ => False) (k := 2) (t := 53) (n := 0) (m := p) (c := cap) (xs := []) (us := c2s (ps.take p)) (ad := ⟨b, o, none⟩) (.tmp 36) (.tmp 42) 27 rfl rfl rfl rfl Try.underlying27 infoO rfl (by omega) (by omega) (Rw.nil _ _ _ _) (fun _ => rfl) HT.out.1 (HN1.out W1 (HWb.out.1.block b HGl.out.2)) HO1.out (by omega) ?_
                          intro v2 W2 A2 R2 N2
                          rw [Nat.zero_add, List.nil_append] at R2
                          rw [Nat.zero_add] at N2
                          have HA2 := hid A2
                          have HR2 := hid R2
                          have HNn := hid N2
                          have HG2 : Hid (∀ k, k < W1.heap.size → W2.heap[k]? = W1.heap[k]?) := fun k hk => A2.block k hk (by simp [Value.ownBlock])
                          obtain ⟨a2, q2, rfl⟩ := R2.form
                          have hg2 : W2.heap[g]? = _ := (HG2.out g (Nat.lt_of_lt_of_le HGl.out.1 HWb.out.1.size)).trans ((HWb.out.1.block g HGl.out.1).trans H.out.hg)
                          obtain ⟨y0, y1, y2, y9⟩ := two_cells hg2
                          clear A2 R2 N2 hg2)
  have hb2' : W2.heap[b]? = w.heap[b]? := (HG2.out b (Nat.lt_of_lt_of_le HGl.out.2 HWb.out.1.size)).trans (HWb.out.1.block b HGl.out.2)
  have HNW := hid (HN2.out W2 hb2')
  have hml : p + (ps.length - (p + 1)) < 2147483648 := by omega
  clear hb2'
  go_upto_region 12 with (at_builtin; refine appRwN (v := .slice a2 p q2) (S := fun b => False ∨ W1.heap.size ≤ b) (k := 2) (t := 53) (n := p) (m := ps.length - (p + 1)) (c := cap - (p + 1)) (xs := c2s (ps.take p)) (us := c2s (ps.drop (p + 1))) (ad := Ad) (.tmp 44) (.tmp 51) 27 rfl rfl rfl (by first | rfl | simp [Act.eval, Act.put]) Try.underlying27 infoO rfl (by omega) (by omega) HR2.out HNn.out HT.out.2 HNW.out HO2.out hml ?_
                          intro v3 W3 A3 R3 N3
                          have HA3 := hid A3
                          have HR3 := hid R3
                          have HN3 := hid N3
                          have HG3 : Hid (∀ k, k < W1.heap.size → W3.heap[k]? = W1.heap[k]?) := fun k hk => (A3.block k (Nat.lt_of_lt_of_le hk HA2.out.size) (fun e => by rcases HR2.out.own k e with h | h; exact h; omega)).trans (HG2.out k hk)
                          obtain ⟨a3, q3, rfl⟩ := R3.form
                          have hg3 : W3.heap[g]? = _ := (HG3.out g (Nat.lt_of_lt_of_le HGl.out.1 HWb.out.1.size)).trans ((HWb.out.1.block g HGl.out.1).trans H.out.hg)
                          obtain ⟨z0, z1, z2, z9⟩ := two_cells hg3
                          have h93 : W3.heap[w.heap.size]? = some (.cells #[.slice ua d.b.length uc, .bool d.ch] 53 (0, 0)) := (HG3.out _ (by have := HWb.out.2.1; omega)).trans HWb.out.2.2
                          obtain ⟨n0, n1, -, -⟩ := two_cells h93
                          have H94 := hid h93
                          clear A3 R3 N3 hg3 h93)
  have HSu : Hid (Sl w.heap.size W3 (.slice ua d.b.length uc) d.b) := (HPr.out.carry (T := fun k => k < w.heap.size) (w' := W3) fun k hk _ => ⟨hk, (HG3.out k (by have := HWb.out.2.1; omega)).trans (HWb.out.1.block k hk)⟩)
  have hdl2 : ([] : List Int).length + d.b.length ≤ 140737488355328 := by simpa using hdl
  have HOw : Hid (Owns W3.heap.size W3 nilS []) := Owns.isNil
  go_upto_region 13 with (at_builtin; refine app22 (.tmp 53) (.tmp 55) rfl rfl rfl rfl HOw.out HSu.out (Nat.le_refl _) hdl2 ?_
                          intro v4 W4 X4
                          have HX4 := hid X4
                          have HB4 : Hid (Below W3.heap.size W3 W4) := X4.below HOw.out (Nat.le_refl _)
                          obtain ⟨a4, q4, rfl⟩ : ∃ a4 q4, v4 = .slice a4 d.b.length q4 := X4.own.slice
                          clear X4)
  have HBw : Hid (Below w.heap.size w W4) := by
    have h1 := HWb.out.2.1
    refine ⟨HB4.out.os.trans (HA3.out.os.trans (HA2.out.os.trans HWb.out.1.os)), HB4.out.tape.trans (HA3.out.tape.trans (HA2.out.tape.trans HWb.out.1.tape)), HB4.out.output.trans (HA3.out.output.trans (HA2.out.output.trans HWb.out.1.output)), ?_, fun k hk => ?_⟩
    · have h2 := HA2.out.size
      have h3 := HA3.out.size
      have h4 := HB4.out.size
      omega
    · have h2 := HA2.out.size
      have h3 := HA3.out.size
      rw [HB4.out.block k (by omega), HG3.out k (by omega), HWb.out.1.block k hk]
  have hel : (ps.eraseIdx p).length = p + (ps.length - (p + 1)) := by rw [List.length_eraseIdx_of_lt hpl]; omega
  have HR4 : Hid (Rw (fun b => w.heap.size ≤ b) 2 53 W4 (.slice a3 (p + (ps.length - (p + 1))) q3) (ps.eraseIdx p).length (c2s (ps.eraseIdx p))) := by
    show Rw _ _ _ _ _ _ _
    rw [hel, c2s_erase]
    refine HR3.out.carry fun k hk hS => ⟨?_, HB4.out.block k hk⟩
    have h1 := HWb.out.2.1
    have h2 := HA2.out.size
    rcases hS with (hS | hS) | hS
    · exact hS.elim
    · omega
    · omega
  have hg4 : W4.heap[g]? = _ := (HBw.out.block g HGl.out.1).trans H.out.hg
  obtain ⟨j0, j1, j2, j9⟩ := two_cells hg4
  clear hel hg4 HG2 HG3 HA2 HA3 HR2 HR3 HNn HNW HT HO1 HO2 HN1 HN2
  have hel : (ps.eraseIdx p).length = p + (ps.length - (p + 1)) := by rw [List.length_eraseIdx_of_lt hpl]; omega
  have h94 : W4.heap[w.heap.size]? = some (.cells #[.slice ua d.b.length uc, .bool d.ch] 53 (0, 0)) := (HB4.out.block _ (cell_lt n0)).trans (by
    have e := (Array.getElem?_eq_some_iff.1 H94.out).1
    exact H94.out)
  obtain ⟨i0, i1, -, -⟩ := two_cells h94
  have HR5 : Hid (Rw (fun b => w.heap.size ≤ b) 2 53 (W4.alloc (.cells #[.slice ua d.b.length uc, .bool d.ch] 53)) (.slice a3 (p + (ps.length - (p + 1))) q3) (p + (ps.length - (p + 1))) (c2s (ps.eraseIdx p))) := by
    have := HR4.out
    rw [hel] at this
    exact this.carry fun k hk h => ⟨h, heap_alloc_old _ _ hk⟩
  have HNx : Hid (∀ j x, (c2 (.slice ua d.b.length uc, d))[j]? = some x → (W4.alloc (.cells #[.slice ua d.b.length uc, .bool d.ch] 53)).cell? (Addr.add ⟨W4.heap.size, 0, none⟩ j) = some x) := fun j x hx => two_new (q := (.slice ua d.b.length uc, d)) j x hx
  have HOx : Hid (∀ x ∈ c2 (.slice ua d.b.length uc, d), x.oneCell' = true) := by intro x hx; simp only [c2, List.mem_cons, List.not_mem_nil, or_false] at hx; rcases hx with rfl | rfl <;> rfl
  have HEl := hid hel
  have hml2 : p + (ps.length - (p + 1)) + 1 < 2147483648 := by omega
  clear hel h94
  have HFin : Hid (∀ v6 W6, Apd (W4.alloc (.cells #[.slice ua d.b.length uc, .bool d.ch] 53)) (.slice a3 (p + (ps.length - (p + 1))) q3) W6 → Rw (fun b => w.heap.size ≤ b ∨ (W4.alloc (.cells #[.slice ua d.b.length uc, .bool d.ch] 53)).heap.size ≤ b) 2 53 W6 v6 (p + (ps.length - (p + 1)) + 1) (c2s (ps.eraseIdx p) ++ c2 (.slice ua d.b.length uc, d)) → (Only S w (W6.setCell ⟨g, 0, none⟩ v6) ∧ RRf S (paint f w.heap.size w.heap.size 1) (W6.setCell ⟨g, 0, none⟩ v6) g v6 vn (ps.eraseIdx p ++ [(Value.slice ua d.b.length uc, d)]) ns) ∧ W6.heap[g]? = some (.cells #[.slice (some ⟨b, o, none⟩) ps.length cap, vn] 30 (0, 0))) := by
    show ∀ _, _
    intro v6 W6 A6 R6
    have hs4 := HBw.out.size
    have hsz5 : (W4.alloc (.cells #[.slice ua d.b.length uc, .bool d.ch] 53)).heap.size = W4.heap.size + 1 := by simp
    have h16 := A6.size
    have hB6 : Below w.heap.size w W6 := ⟨A6.os.trans HBw.out.os, A6.tape.trans HBw.out.tape, A6.output.trans HBw.out.output, by omega, fun k hk => by
      rw [A6.block k (by omega) (fun e => by have := HR5.out.own k e; omega), heap_alloc_old _ _ (by omega), HBw.out.block k hk]⟩
    have hR6 : Rw (fun b => w.heap.size ≤ b) 2 53 W6 v6 (ps.eraseIdx p ++ [(Value.slice ua d.b.length uc, d)]).length (c2s (ps.eraseIdx p ++ [(Value.slice ua d.b.length uc, d)])) := by
      rw [List.length_append, HEl.out, c2s_app, c2s_one]
      exact R6.carry fun k _ h => ⟨by rcases h with h | h; exact h; omega, rfl⟩
    refine ⟨rset_fin H.out HFr.out hB6 hR6 ?_, (hB6.block g HGl.out.1).trans H.out.hg⟩
    intro q hq
    rcases List.mem_append.1 hq with hq | hq
    · exact List.mem_of_mem_eraseIdx hq
    · have e : (Value.slice ua d.b.length uc, d) = ps[p] := Prod.ext HU.out HD.out
      rw [List.mem_singleton.1 hq, e]; exact List.getElem_mem _
  go_wp2_with (at_builtin; refine appRwN (v := .slice a3 (p + (ps.length - (p + 1))) q3) (S := fun b => w.heap.size ≤ b) (k := 2) (t := 53) (n := p + (ps.length - (p + 1))) (m := 1) (c := 1) (xs := c2s (ps.eraseIdx p)) (us := c2 (.slice ua d.b.length uc, d)) (ad := ⟨W4.heap.size, 0, none⟩) (.tmp 131) (.tmp 133) 27 rfl rfl rfl rfl Try.underlying27 infoO rfl (by omega) (by omega) HR5.out HN3.out rfl HNx.out HOx.out hml2 ?_
               intro v6 W6 A6 R6 N6
               have HF := hid (HFin.out v6 W6 A6 R6).1
               obtain ⟨a6, q6, rfl⟩ := R6.form
               obtain ⟨r0, r1, r2, r9⟩ := two_cells (HFin.out _ W6 A6 R6).2
               clear A6 R6 N6)
  go_ret
  refine ⟨by rw [HE.out]; rfl, HF.out.1, ?_⟩
  rw [HDo.out]
  refine ⟨g, _, _, _, _, _, rfl, HF.out.2, ?_, ?_⟩
  · unfold rdoG; rw [if_neg (by omega), if_neg (by omega), if_neg (by omega), if_neg (by omega), List.map_append, map_erase, ← HRow.out, HPk.out, HP.out]; rfl
  · unfold rdoG; rw [if_neg (by omega), if_neg (by omega), if_neg (by omega), if_neg (by omega)]; exact HNew.out
end Go.Proofs.Ythgkmbdnkamcoaa
