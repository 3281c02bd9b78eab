/-
  Proved here: TuplesPlays' body says true. Condition: the widths' table holds its numbers.
-/
import Derived.Test.YtimenbkfkdpdcaaDoorTX
namespace Go.Proofs.YtimenbkfkdpdcaaDoor
open Go.RowKit

/-- What holds of the document's rules. -/
structure Iv9 (L : List Ie) (la : Int) (k : Nat) : Prop where
  pw : L.Pairwise fun a b => a.k < b.k
  le : ∀ e ∈ L, e.k ≤ la
  l0 : 0 ≤ la
  l1 : la ≤ (k : Int)
  ln : L.length ≤ k
theorem Iv9.nil : Iv9 [] 0 0 := ⟨List.Pairwise.nil, (fun _ h => by cases h), Int.le_refl _, Int.le_refl _, Nat.le_refl _⟩
theorem Iv9.same {L : List Ie} {la : Int} {k : Nat} (h : Iv9 L la k) : Iv9 L la (k + 1) := ⟨h.pw, h.le, h.l0, by have := h.l1; omega, by have := h.ln; omega⟩
theorem Iv9.add {L : List Ie} {la : Int} {k : Nat} (h : Iv9 L la k) (x : RuV) : Iv9 (raL L la x) (adA (ruI L) la x.m) (k + 1) := by
  unfold raL adA
  by_cases e : adE (ruI L) x.m = 0
  · rw [if_pos e, if_pos e]
    refine ⟨List.pairwise_append.2 ⟨h.pw, List.pairwise_singleton _ _, fun a ha b hb => ?_⟩, fun a ha => ?_, by have := h.l0; omega, by have := h.l1; omega, by have := h.ln; simp; omega⟩
    · simp at hb; rw [hb]; have := h.le a ha; show a.k < la + 1; omega
    · rcases List.mem_append.1 ha with ha | ha
      · have := h.le a ha; omega
      · simp at ha; rw [ha]; exact Int.le_refl _
  · rw [if_neg e, if_neg e]; exact h.same
theorem Iv9.drop {L : List Ie} {la : Int} {k : Nat} (h : Iv9 L la k) (id : Int) : Iv9 (rmI L id) la (k + 1) :=
  ⟨h.pw.sublist List.filter_sublist, fun e he => h.le e (List.mem_filter.1 he).1, h.l0, by have := h.l1; omega, by have h1 := h.ln; have := rmI_le L id; omega⟩
theorem ru_drop (L : List Ie) (id : Int) : rmT (ruI L) id = ruI (rmI L id) := by
  simp [rmT, rmI, ruI, List.filter_map, Function.comp_def]
theorem any_drop (L : List Ie) (id : Int) : ((ruI L).any fun u => u.k == id) = decide ((rmI L id).length < L.length) := by
  have h1 : ((ruI L).any fun u => u.k == id) = L.any fun e => e.k == id := by simp [ruI, List.any_map, Function.comp_def]
  rw [h1]
  cases h : (L.any fun e => e.k == id) with
  | false =>
    have : rmI L id = L := List.filter_eq_self.2 fun e he => by
      have := List.any_eq_false.1 h e he
      simpa using this
    rw [this]; simp
  | true =>
    obtain ⟨e, he, hk⟩ := List.any_eq_true.1 h
    symm
    rw [decide_eq_true_iff]
    rcases Nat.lt_or_ge (rmI L id).length L.length with hl | hl
    · exact hl
    · have h2 := rmI_le L id
      have h3 : rmI L id = L := List.filter_sublist.eq_of_length (by unfold rmI at *; omega)
      have h4 : e ∈ rmI L id := by rw [h3]; exact he
      have := (List.mem_filter.1 h4).2
      rw [hk] at this; cases this
set_option maxHeartbeats 12800000 in
set_option maxRecDepth 100000 in
theorem plays_any (w : World) (v : Value) (l : List De) (hl : Lst (fun b => b < w.heap.size) 38 RDe w v l) (ht : Tab w) : Calls Tryd.prog 3 #[v] w fun e w' => e = .returned (.bool true) ∧ Below w.heap.size w w' := by
  obtain ⟨ao, cap, rfl, hcap⟩ := hl.form
  have HLs : Hid (∀ z, Below w.heap.size w z → ∀ q (hq : q < l.length), ∃ b o, ao = some ⟨b, o, none⟩ ∧ z.rangeAt b (o + q * 38) (dcs l[q]).toList ∧ Wf l[q].x.m ∧ l[q].x.cp.oneCell' = true ∧ Wf l[q].h ∧ (Lit.int .i64 l[q].id).wf = true) := fun z hO q hq => by
    obtain ⟨b, o, cap', e1, _, hbl, hr, h2⟩ := hl.deal hq
    simp at e1
    exact ⟨b, o, e1.1, fun j u hj => (cell_same (hO.block b hbl)).trans (hr j u hj), h2⟩
  have HTb : Hid (∀ z, Below w.heap.size w z → Tab z) := fun z hz => ht.on hz
  have HN1 : Hid (Calls Tryd.prog 7 #[] w fun r y => ∃ g, r = .returned (pv g) ∧ Below w.heap.size w y ∧ Tbl (fun b => w.heap.size ≤ b) y (pv g) [] 0) := (tnew_any w).mono fun r y ⟨v, a1, a2, a3⟩ => by
    obtain ⟨g, rfl⟩ := a3.form
    exact ⟨g, a1, a2, a3⟩
  have HA1 : Hid (∀ X W1 z g1 g2 T ad L la x, Tab z → Wf (RuV.m x) → ad < 2147483640 → Tx w X W1 z (pv g1) g2 T ad L la → Calls Tryd.prog 8 #[pv g1, .agg (rvc x)] z fun r y => r = .returned (.tuple #[.int .i64 (adN T ad x.m), .int .i64 (adE T x.m)]) ∧ Tx w X W1 y (pv g1) g2 (adT T ad x.r x.m) (adA T ad x.m) L la) := fun X W1 z g1 g2 T ad L la x htz hw ha h => by
    obtain ⟨S, a1, a2, a3⟩ := h.prog
    exact (tAdd_any z _ T ad x.r x.m x.cp x.ck a2 a1 htz hw ha).mono fun r y ⟨b1, b2, b3⟩ => ⟨b1, a3 y _ _ b2 b3⟩
  have HA2 : Hid (∀ X W1 z g1 g2 T ad L la x, (RuV.cp x).oneCell' = true → 0 ≤ la → la < 2147483640 → Tx w X W1 z (pv g1) g2 T ad L la → Calls Tryd.prog 9 #[pv g2, .agg (rvc x)] z fun r y => r = .returned (.tuple #[.int .i64 (adN (ruI L) la x.m), .int .i64 (adE (ruI L) x.m)]) ∧ Tx w X W1 y (pv g1) g2 T ad (raL L la x) (adA (ruI L) la x.m)) := fun X W1 z g1 g2 T ad L la x hx h0 h1 h => by
    obtain ⟨S, a1, a2, a3⟩ := h.doc
    exact (radd_any z g2 L la x a2 a1 hx h0 h1).mono fun r y ⟨b1, b2, b3⟩ => ⟨b1, a3 y _ _ b2 b3⟩
  have HD1 : Hid (∀ X W1 z g1 g2 T ad L la id, (Lit.int .i64 id).wf = true → ad < 2147483640 → Tx w X W1 z (pv g1) g2 T ad L la → Calls Tryd.prog 10 #[pv g1, .int .i64 id] z fun r y => r = .returned (.bool (T.any fun u => u.k == id)) ∧ Tx w X W1 y (pv g1) g2 (rmT T id) ad L la) := fun X W1 z g1 g2 T ad L la id hid' ha h => by
    obtain ⟨S, a1, a2, a3⟩ := h.prog
    exact (tDrop_any z _ T ad id a2 a1 hid' ha).mono fun r y ⟨b1, b2, b3⟩ => ⟨b1, a3 y _ _ b2 b3⟩
  have HD2 : Hid (∀ X W1 z g1 g2 T ad L la id, L.length < 2147483640 → Tx w X W1 z (pv g1) g2 T ad L la → Calls Tryd.prog 11 #[pv g2, .int .i64 id] z fun r y => r = .returned (.bool (decide ((rmI L id).length < L.length))) ∧ Tx w X W1 y (pv g1) g2 T ad (rmI L id) la) := fun X W1 z g1 g2 T ad L la id ha h => by
    obtain ⟨S, a1, a2, a3⟩ := h.doc
    exact (rdrop_any z g2 L la id a2 a1 ha).mono fun r y ⟨b1, b2, b3⟩ => ⟨b1, a3 y _ _ b2 b3⟩
  have HF1 : Hid (∀ X W1 z g1 g2 L la h, Wf h → L.Pairwise (fun a b => Ie.k a < Ie.k b) → la < 2147483640 → Tx w X W1 z (pv g1) g2 (ruI L) la L la → Calls Tryd.prog 12 #[pv g1, hv h] z fun r y => r = .returned (.tuple #[.int .i64 (match rb L h L.length with | none => 0 | some j => (L.getD j ie0).k), .bool (rb L h L.length).isSome]) ∧ Tx w X W1 y (pv g1) g2 (ruI L) la L la) := fun X W1 z g1 g2 L la h hw hp ha hT => by
    obtain ⟨S, a1, a2, a3⟩ := hT.prog
    refine (tFind_any z _ (ruI L) la h a2 hw ha).mono ?_
    rintro r y ⟨f, b1, b2, b3⟩
    obtain ⟨e1, e2⟩ := best_rb hp b1
    rw [e2, e1] at b2
    exact ⟨b2, hT.on b3⟩
  have HF2 : Hid (∀ X W1 z g1 g2 T ad L la h, L.length < 2147483640 → Tx w X W1 z (pv g1) g2 T ad L la → Calls Tryd.prog 13 #[pv g2, hv h] z fun r y => r = .returned (.tuple #[.int .i64 (match rb L h L.length with | none => 0 | some j => (L.getD j ie0).k), .bool (rb L h L.length).isSome]) ∧ Tx w X W1 y (pv g1) g2 T ad L la) := fun X W1 z g1 g2 T ad L la h ha hT => by
    obtain ⟨S, a1, a2, a3⟩ := hT.doc
    exact (rfind_any z g2 L la h a2 ha).mono fun r y ⟨b1, b2⟩ => ⟨b2, hT.on b1⟩
  have HR1 : Hid (∀ X W1 z g1 g2 T ad L la, Tx w X W1 z (pv g1) g2 T ad L la → Calls Tryd.prog 14 #[pv g1] z fun r y => r = .returned (.int .i64 (nMask T : Nat)) ∧ Tx w X W1 y (pv g1) g2 T ad L la) := fun X W1 z g1 g2 T ad L la h => by
    obtain ⟨S, a1, a2, a3⟩ := h.prog
    exact (tRows_any z _ T ad a2).mono fun r y ⟨b1, b2⟩ => ⟨b1, by rw [b2]; exact h⟩
  have HR2 : Hid (∀ X W1 z g1 g2 T ad L la, L.length < 2147483640 → Tx w X W1 z (pv g1) g2 T ad L la → Calls Tryd.prog 15 #[pv g2] z fun r y => r = .returned (.int .i64 (nMask (ruI L) : Nat)) ∧ Tx w X W1 y (pv g1) g2 T ad L la) := fun X W1 z g1 g2 T ad L la ha h => by
    obtain ⟨S, a1, a2, a3⟩ := h.doc
    exact (rrows_any z g2 L la a2 ha).mono fun r y ⟨b1, b2⟩ => ⟨b1, h.on b2⟩
  have HW : Hid (∀ z, Below w.heap.size w z → Calls Tryd.prog 16 #[] z fun e w' => e = .returned (.bool true) ∧ Below w.heap.size w w') := fun z hO => (wakes_any z (ht.on hO)).mono fun r y ⟨a1, a2⟩ => ⟨a1, hO.trans (a2.mono hO.size)⟩
  have HB : Hid (∀ z, Below z.heap.size z (z.alloc (.cells #[.slice none 0 0, .int .i64 0] 28)) ∧ RTab (fun b => z.heap.size ≤ b) (z.alloc (.cells #[.slice none 0 0, .int .i64 0] 28)) z.heap.size [] 0) := fun z => ⟨(Below.refl _ _).alloc (Nat.le_refl _) _, Nat.le_refl _, ⟨nilS, heap_alloc_new _ _, Rw.nil _ _ _ _⟩, fun _ h => by cases h⟩
  have hlen := hl.len
  clear hl hcap ht
  go_enter Tryd.func3, Tryd.ntmps3
  go_upto_region 1 with fail
  go_upto_region 2 with (go_at_call 7; refine (HN1.out).mono ?_; rintro r y0 ⟨g1, rfl, hO0, hC0⟩; have HS0 := hid (And.intro hO0 hC0); clear hO0 hC0 HN1)
  have HT0 := hid (Tx.start HS0.out.1 HS0.out.2 (HB.out y0).1 (HB.out y0).2)
  clear HB HS0
  obtain ⟨g2, hg2⟩ : ∃ g2, g2 = y0.heap.size := ⟨_, rfl⟩
  obtain ⟨y1, hy1⟩ : ∃ y1, y1 = y0.alloc (.cells #[.slice none 0 0, .int .i64 0] 28) := ⟨_, rfl⟩
  rw [← hy1, ← hg2] at HT0
  rw [← hy1, ← hg2]
  clear hy1 hg2
  go_upto_region 5 with fail
  go_loopw [22] (fun i wr => ∃ k : Nat, k ≤ l.length ∧ k ≤ 200 ∧ i = .int .i64 k ∧ ∃ L la, Tx w (fun _ => False) w wr (pv g1) g2 (ruI L) la L la ∧ Iv9 L la k) (fun i _ => l.length - (intOf i).toNat)
  case atStart => exact ⟨0, by omega, by omega, rfl, [], 0, HT0.out, Iv9.nil⟩
  case round =>
    obtain ⟨k, hk, hk2, rfl, L, la, hR⟩ := hrel
    generalize wr = wx at *
    have HR := hid hR
    clear hR HT0
    by_cases hlt : k < l.length
    · have hdk : decide ((k : Int) < (l.length : Int)) = true := decide_eq_true (by omega)
      obtain ⟨b, o, hao, hA, hwf⟩ := HLs.out wx HR.out.1.below.2 k hlt
      subst hao
      obtain ⟨d, hd⟩ : ∃ d, d = l[k] := ⟨_, rfl⟩
      rw [← hd] at hA hwf
      have HRx := hid hA
      have hw1 : IntKind.i64.wrap ((k : Int) + 1) = (k : Int) + 1 := by rw [IntKind.wrap_i64]; omega
      obtain ⟨W1, hW1⟩ : ∃ W1, W1 = wx.alloc (.cells (dcs d) 38) := ⟨_, rfl⟩
      obtain ⟨xb, hxb⟩ : ∃ xb, xb = wx.heap.size := ⟨_, rfl⟩
      have hX1 : W1.heap[xb]? = some (.cells (dcs d) 38 (0, 0)) := by rw [hW1, hxb]; exact heap_alloc_new _ _
      have hT1 : Tx w (fun b => b = xb) W1 W1 (pv g1) g2 (ruI L) la L la := by rw [hW1, hxb]; exact HR.out.1.take _
      have hBw : Below w.heap.size w W1 := by rw [hW1]; exact HR.out.1.below.2.alloc HR.out.1.below.2.size _
      have HBk : Hid (∀ z L' la', Tx w (fun b => b = xb) W1 z (pv g1) g2 (ruI L') la' L' la' → Tx w (fun _ => False) w z (pv g1) g2 (ruI L') la' L' la') := fun z L' la' h => by
        rw [hW1, hxb] at h
        exact h.back HR.out.1.below.1
      have HTz : Hid (∀ z T ad L' la', Tx w (fun b => b = xb) W1 z (pv g1) g2 T ad L' la' → Tab z) := fun z T ad L' la' h => HTb.out z (hBw.trans h.bel)
      have HKp : Hid (∀ z T ad L' la', Tx w (fun b => b = xb) W1 z (pv g1) g2 T ad L' la' → Hx xb d.k d.x d.id d.h z) := fun z T ad L' la' h => dcs_blk (h.kept.trans hX1)
      have HT1' := hid hT1
      have HW1 := hid hW1
      have HXb := hid hxb
      obtain ⟨dk, hdk'⟩ : ∃ z, z = d.k := ⟨_, rfl⟩
      obtain ⟨dx, hdx⟩ : ∃ z, z = d.x := ⟨_, rfl⟩
      obtain ⟨di, hdi⟩ : ∃ z, z = d.id := ⟨_, rfl⟩
      obtain ⟨dh, hdh⟩ : ∃ z, z = d.h := ⟨_, rfl⟩
      have HKq : Hid (∀ z T ad L' la', Tx w (fun b => b = xb) W1 z (pv g1) g2 T ad L' la' → Hx xb dk dx di dh z) := fun z T ad L' la' h => by rw [hdk', hdx, hdi, hdh]; exact HKp.out z T ad L' la' h
      have HBW := hid hBw
      have HWf : Hid (Wf dx.m ∧ dx.cp.oneCell' = true ∧ Wf dh ∧ (Lit.int .i64 di).wf = true) := by rw [hdx, hdh, hdi]; exact hwf
      have H1c := hid (dcs_one hwf.2.1)
      clear hA hd hW1 hX1 hT1 hdk' hdx hdi hdh HKp hxb hwf hBw
      go_upto_region 7 with (first
        | (refine ldMid 38 (.tmp 25) rfl rfl b (o + k * 38) rfl (dcs d) _ Tryd.underlying38 rfl (sizeDE d) HRx.out ?_)
        | (refine stNew 38 (.tmp 6) (.tmp 26) rfl rfl wx 38 _ (dcs d) rfl rfl rfl (sizeDE d) (by rw [dcs_size]; rfl) H1c.out ?_))
      rw [← HW1.out, ← HXb.out]
      clear HW1 HXb HRx HLs H1c
      by_cases h200 : 200 ≤ k
      · have hd2 : decide ((200 : Int) ≤ (k : Int)) = true := decide_eq_true (by omega)
        have HWk := hid (HW.out W1 (HBW.out))
        clear HW HA1 HA2 HD1 HD2 HF1 HF2 HR1 HR2
        go_wp2_with (go_at_call 16; refine (HWk.out).mono ?_; rintro r y7 ⟨rfl, hb7⟩; have HB7 := hid hb7; clear hb7)
        go_ret
        exact ⟨rfl, HB7.out⟩
      · have hd2 : decide ((200 : Int) ≤ (k : Int)) = false := decide_eq_false (by omega)
        have c0 := (HKq.out _ _ _ _ _ HT1'.out).c0
        have HRA := hid (HKq.out _ _ _ _ _ HT1'.out).rr
        have HRH := hid (HKq.out _ _ _ _ _ HT1'.out).rh
        by_cases t0 : dk = 0
        · clear HD1 HD2 HF1 HF2
          obtain rfl : dk = 0 := t0
          have hb := HR.out.2.l1
          have HAa := hid (HA1.out _ _ _ _ _ _ _ _ _ dx (HTz.out _ _ _ _ _ HT1'.out) HWf.out.1 (by omega) HT1'.out)
          have HAb : Hid (∀ y, Tx w (fun b => b = xb) W1 y (pv g1) g2 (adT (ruI L) la dx.r dx.m) (adA (ruI L) la dx.m) L la → Calls Tryd.prog 9 #[pv g2, .agg (rvc dx)] y fun r y => r = .returned (.tuple #[.int .i64 (adN (ruI L) la dx.m), .int .i64 (adE (ruI L) dx.m)]) ∧ Tx w (fun b => b = xb) W1 y (pv g1) g2 (ruI (raL L la dx)) (adA (ruI L) la dx.m) (raL L la dx) (adA (ruI L) la dx.m)) := fun y h => by
            rw [raL_ru]
            exact HA2.out _ _ _ _ _ _ _ _ _ dx HWf.out.2.1 HR.out.2.l0 (by omega) h
          obtain ⟨an, han⟩ : ∃ z, z = adN (ruI L) la dx.m := ⟨_, rfl⟩
          obtain ⟨ae, hae⟩ : ∃ z, z = adE (ruI L) dx.m := ⟨_, rfl⟩
          rw [← han, ← hae] at HAa HAb
          have hbn : (an != an) = false := by simp [bne]
          have hbe : (ae != ae) = false := by simp [bne]
          clear han hae hb
          go_upto_region 11 with (first
            | (refine ldMid 36 (.tmp 35) rfl rfl xb 1 rfl (rvc dx) _ Tryd.underlying36 rfl (sizeRul dx) HRA.out ?_)
            | (go_at_call 8; refine (HAa.out).mono ?_; rintro r y2 ⟨rfl, h2⟩; have HRB := hid (HKq.out _ _ _ _ _ h2).rr; have HAc := hid (HAb.out y2 h2); clear h2 HAa HAb))
          go_upto_region 12 with (first
            | (refine ldMid 36 (.tmp 42) rfl rfl xb 1 rfl (rvc dx) _ Tryd.underlying36 rfl (sizeRul dx) HRB.out ?_)
            | (go_at_call 9; refine (HAc.out).mono ?_; rintro r yz ⟨rfl, h3⟩; have HZ := hid h3; clear h3 HAc))
          go_upto_region 22 with fail
          have HZi := hid (HR.out.2.add dx)
          obtain ⟨m, hm⟩ : ∃ m, m = nMask (ruI (raL L la dx)) := ⟨_, rfl⟩
          have HRa : Hid (Calls Tryd.prog 14 #[pv g1] yz fun r y => r = .returned (.int .i64 (m : Nat)) ∧ Tx w (fun b => b = xb) W1 y (pv g1) g2 (ruI (raL L la dx)) (adA (ruI L) la dx.m) (raL L la dx) (adA (ruI L) la dx.m)) := by show Calls _ _ _ _ _; rw [hm]; exact HR1.out _ _ _ _ _ _ _ _ _ HZ.out
          have HRb : Hid (∀ y, Tx w (fun b => b = xb) W1 y (pv g1) g2 (ruI (raL L la dx)) (adA (ruI L) la dx.m) (raL L la dx) (adA (ruI L) la dx.m) → Calls Tryd.prog 15 #[pv g2] y fun r y => r = .returned (.int .i64 (m : Nat)) ∧ Tx w (fun b => b = xb) W1 y (pv g1) g2 (ruI (raL L la dx)) (adA (ruI L) la dx.m) (raL L la dx) (adA (ruI L) la dx.m)) := fun y h => by rw [hm]; exact HR2.out _ _ _ _ _ _ _ _ _ (by have := HZi.out.ln; omega) h
          have hbm : ((m : Int) != (m : Int)) = false := by simp [bne]
          clear hm HR1 HR2
          go_wp2_with (first
            | (go_at_call 14; refine (HRa.out).mono ?_; rintro r q1 ⟨rfl, hq1⟩; have HRc := hid (HRb.out q1 hq1); clear hq1 HRa HRb)
            | (go_at_call 15; refine (HRc.out).mono ?_; rintro r q2 ⟨rfl, hq2⟩; have HQ2 := hid hq2; clear hq2 HRc))
          go_roundw
          case rel => exact ⟨k + 1, by omega, by omega, by go_num, _, _, HBk.out q2 _ _ HQ2.out, HZi.out⟩
          case measure => simp [intOf]; omega
        · by_cases t1 : dk = 1
          · clear HA1 HA2 HF1 HF2
            obtain rfl : dk = 1 := t1
            have hb := HR.out.2.l1
            have hbl := HR.out.2.ln
            have HDa := hid (HD1.out _ _ W1.drew _ _ _ _ _ _ di HWf.out.2.2.2 (by omega) (HT1'.out.on ((Below.refl _ _).drew)))
            have HDb : Hid (∀ y, Tx w (fun b => b = xb) W1 y (pv g1) g2 (rmT (ruI L) di) la L la → Calls Tryd.prog 11 #[pv g2, .int .i64 di] y fun r y => r = .returned (.bool ((ruI L).any fun u => u.k == di)) ∧ Tx w (fun b => b = xb) W1 y (pv g1) g2 (ruI (rmI L di)) la (rmI L di) la) := fun y h => by
              rw [any_drop]
              rw [ru_drop] at h
              exact HD2.out _ _ _ _ _ _ _ _ _ di (by omega) h
            obtain ⟨bd, hbd⟩ : ∃ z, z = ((ruI L).any fun u => u.k == di) := ⟨_, rfl⟩
            rw [← hbd] at HDa HDb
            have HU : Hid (Hx xb 1 dx di dh W1.drew) := by
              have := HKq.out _ _ _ _ _ HT1'.out
              exact ⟨this.c0, fun j v hj => this.rr j v hj, this.ci, fun j v hj => this.rh j v hj⟩
            clear hbd hb hbl
            go_upto_region 15 with fail
            refine wp_region_held_drew (S := Hx xb 1 dx di dh) (by kernel_rfl) HU.out (fun hHeld => ?_)
            refine wpAnyH_take (i := 0) (v := ?_) rfl (by kernel_rfl) (by kernel_rfl) (by kernel_rfl) (fun _ _ _ h => h) (Or.inl ⟨by rfl, ?_⟩) hHeld ?_
            rotate_left
            · intro w' hSw
              clear hSw
              go_simp
              first | done | with_reducible rfl
            simp only [Act.put, List.getElem_toArray, List.getElem_cons_zero, List.setIfInBounds_toArray, List.set_cons_zero, List.set_cons_succ]
            refine wpAnyH_take (i := 1) (v := ?_) rfl (by kernel_rfl) (by kernel_rfl) (by kernel_rfl) (fun _ _ _ h => h) (Or.inl ⟨by rfl, ?_⟩) hHeld ?_
            rotate_left
            · intro w' hSw
              clear hSw
              go_simp
              first | done | with_reducible rfl
            simp only [Act.put, List.getElem_toArray, List.getElem_cons_succ, List.getElem_cons_zero, List.setIfInBounds_toArray, List.set_cons_zero, List.set_cons_succ]
            refine wpAnyH_take (i := 2) (v := ?_) rfl (by kernel_rfl) (by kernel_rfl) (by kernel_rfl) (fun _ _ _ h => h) (Or.inl ⟨by rfl, ?_⟩) hHeld ?_
            rotate_left
            · intro w' hSw
              have ci := hSw.ci
              clear hSw
              go_simp
              first | done | with_reducible rfl
            simp only [Act.put, List.getElem_toArray, List.getElem_cons_succ, List.getElem_cons_zero, List.setIfInBounds_toArray, List.set_cons_zero, List.set_cons_succ]
            refine wpAnyH_take (i := 4) (v := ?_) rfl (by kernel_rfl) (by kernel_rfl) (by kernel_rfl) (fun _ _ _ h => h) (Or.inl ⟨by rfl, ?_⟩) hHeld ?_
            rotate_left
            · intro w' hSw
              clear hSw
              go_simp
              first | done | with_reducible rfl
            simp only [Act.put, List.getElem_toArray, List.getElem_cons_succ, List.getElem_cons_zero, List.setIfInBounds_toArray, List.set_cons_zero, List.set_cons_succ]
            refine wpAnyH_take (i := 5) (v := ?_) rfl (by kernel_rfl) (by kernel_rfl) (by kernel_rfl) (fun _ _ _ h => h) (Or.inl ⟨by rfl, ?_⟩) hHeld ?_
            rotate_left
            · intro w' hSw
              clear hSw
              go_simp
              first | done | with_reducible rfl
            simp only [Act.put, List.getElem_toArray, List.getElem_cons_succ, List.getElem_cons_zero, List.setIfInBounds_toArray, List.set_cons_zero, List.set_cons_succ]
            refine wpAnyH_take (i := 6) (v := ?_) rfl (by kernel_rfl) (by kernel_rfl) (by kernel_rfl) (fun _ _ _ h => h) (Or.inl ⟨by rfl, ?_⟩) hHeld ?_
            rotate_left
            · intro w' hSw
              have ci := hSw.ci
              clear hSw
              go_simp
              first | done | with_reducible rfl
            simp only [Act.put, List.getElem_toArray, List.getElem_cons_succ, List.getElem_cons_zero, List.setIfInBounds_toArray, List.set_cons_zero, List.set_cons_succ]
            refine wpAnyH_ready (rs := [3]) (by kernel_rfl) (by simp) ?_
            refine AllReadyH.cons rfl (fun K hK => ?_) AllReadyH.nil
            refine stepFnW 10 (.func 10) [.tmp 57, .tmp 59] _ [pv g1, .int .i64 di] rfl rfl rfl rfl (fun _ => rfl) _ HDa.out ?_
            rintro r5 y2 ⟨rfl, h2⟩
            refine Or.inl ⟨_, rfl, ?_⟩
            have HY2 := hid h2
            have HDc := hid (HDb.out y2 h2)
            refine hK.out _ _ (HKq.out _ _ _ _ _ h2) (fun hHeld => ?_)
            clear hK K
            simp only [Act.put, List.getElem_toArray, List.getElem_cons_succ, List.getElem_cons_zero, List.setIfInBounds_toArray, List.set_cons_zero, List.set_cons_succ]
            clear h2 HDa HDb
            refine wpAnyH_ready (rs := [7]) (by kernel_rfl) (by simp) ?_
            refine AllReadyH.cons rfl (fun K hK => ?_) AllReadyH.nil
            refine stepFnW 11 (.func 11) [.tmp 61, .tmp 63] _ [pv g2, .int .i64 di] rfl rfl rfl rfl (fun _ => rfl) _ HDc.out ?_
            rintro r6 yz ⟨rfl, h3⟩
            refine Or.inl ⟨_, rfl, ?_⟩
            have HZ := hid h3
            refine hK.out _ _ (HKq.out _ _ _ _ _ h3) (fun hHeld => ?_)
            clear hK K
            simp only [Act.put, List.getElem_toArray, List.getElem_cons_succ, List.getElem_cons_zero, List.setIfInBounds_toArray, List.set_cons_zero, List.set_cons_succ]
            clear h3 HDc
            cases bd with
            | true =>
              refine wpAnyH_take (i := 8) (v := (.bool false)) rfl (by kernel_rfl) (by kernel_rfl) (by kernel_rfl) (fun _ _ _ h => h) (Or.inl ⟨by rfl, ?_⟩) hHeld ?_
              · intro w' hSw
                clear hSw
                go_simp
                first | done | with_reducible rfl
              simp only [Act.put, List.getElem_toArray, List.getElem_cons_succ, List.getElem_cons_zero, List.setIfInBounds_toArray, List.set_cons_zero, List.set_cons_succ]
              refine wpAnyH_done (by kernel_rfl) ?_ _
              go_upto_region 22 with fail
              have HZi := hid (HR.out.2.drop di)
              obtain ⟨m, hm⟩ : ∃ m, m = nMask (ruI (rmI L di)) := ⟨_, rfl⟩
              have HRa : Hid (Calls Tryd.prog 14 #[pv g1] yz fun r y => r = .returned (.int .i64 (m : Nat)) ∧ Tx w (fun b => b = xb) W1 y (pv g1) g2 (ruI (rmI L di)) (la) (rmI L di) (la)) := by show Calls _ _ _ _ _; rw [hm]; exact HR1.out _ _ _ _ _ _ _ _ _ HZ.out
              have HRb : Hid (∀ y, Tx w (fun b => b = xb) W1 y (pv g1) g2 (ruI (rmI L di)) (la) (rmI L di) (la) → Calls Tryd.prog 15 #[pv g2] y fun r y => r = .returned (.int .i64 (m : Nat)) ∧ Tx w (fun b => b = xb) W1 y (pv g1) g2 (ruI (rmI L di)) (la) (rmI L di) (la)) := fun y h => by rw [hm]; exact HR2.out _ _ _ _ _ _ _ _ _ (by have := HZi.out.ln; omega) h
              have hbm : ((m : Int) != (m : Int)) = false := by simp [bne]
              clear hm HR1 HR2
              go_wp2_with (first
                | (go_at_call 14; refine (HRa.out).mono ?_; rintro r q1 ⟨rfl, hq1⟩; have HRc := hid (HRb.out q1 hq1); clear hq1 HRa HRb)
                | (go_at_call 15; refine (HRc.out).mono ?_; rintro r q2 ⟨rfl, hq2⟩; have HQ2 := hid hq2; clear hq2 HRc))
              go_roundw
              case rel => exact ⟨k + 1, by omega, by omega, by go_num, _, _, HBk.out q2 _ _ HQ2.out, HZi.out⟩
              case measure => simp [intOf]; omega
            | false =>
              refine wpAnyH_take (i := 8) (v := (.bool false)) rfl (by kernel_rfl) (by kernel_rfl) (by kernel_rfl) (fun _ _ _ h => h) (Or.inl ⟨by rfl, ?_⟩) hHeld ?_
              · intro w' hSw
                clear hSw
                go_simp
                first | done | with_reducible rfl
              simp only [Act.put, List.getElem_toArray, List.getElem_cons_succ, List.getElem_cons_zero, List.setIfInBounds_toArray, List.set_cons_zero, List.set_cons_succ]
              refine wpAnyH_done (by kernel_rfl) ?_ _
              go_upto_region 22 with fail
              have HZi := hid (HR.out.2.drop di)
              obtain ⟨m, hm⟩ : ∃ m, m = nMask (ruI (rmI L di)) := ⟨_, rfl⟩
              have HRa : Hid (Calls Tryd.prog 14 #[pv g1] yz fun r y => r = .returned (.int .i64 (m : Nat)) ∧ Tx w (fun b => b = xb) W1 y (pv g1) g2 (ruI (rmI L di)) (la) (rmI L di) (la)) := by show Calls _ _ _ _ _; rw [hm]; exact HR1.out _ _ _ _ _ _ _ _ _ HZ.out
              have HRb : Hid (∀ y, Tx w (fun b => b = xb) W1 y (pv g1) g2 (ruI (rmI L di)) (la) (rmI L di) (la) → Calls Tryd.prog 15 #[pv g2] y fun r y => r = .returned (.int .i64 (m : Nat)) ∧ Tx w (fun b => b = xb) W1 y (pv g1) g2 (ruI (rmI L di)) (la) (rmI L di) (la)) := fun y h => by rw [hm]; exact HR2.out _ _ _ _ _ _ _ _ _ (by have := HZi.out.ln; omega) h
              have hbm : ((m : Int) != (m : Int)) = false := by simp [bne]
              clear hm HR1 HR2
              go_wp2_with (first
                | (go_at_call 14; refine (HRa.out).mono ?_; rintro r q1 ⟨rfl, hq1⟩; have HRc := hid (HRb.out q1 hq1); clear hq1 HRa HRb)
                | (go_at_call 15; refine (HRc.out).mono ?_; rintro r q2 ⟨rfl, hq2⟩; have HQ2 := hid hq2; clear hq2 HRc))
              go_roundw
              case rel => exact ⟨k + 1, by omega, by omega, by go_num, _, _, HBk.out q2 _ _ HQ2.out, HZi.out⟩
              case measure => simp [intOf]; omega
          · by_cases t2 : dk = 2
            · clear HA1 HA2 HD1 HD2
              obtain rfl : dk = 2 := t2
              have hb := HR.out.2.l1
              have hbl := HR.out.2.ln
              obtain ⟨fk, hfk⟩ : ∃ z : Int, z = (match rb L dh L.length with | none => 0 | some j => (L.getD j ie0).k) := ⟨_, rfl⟩
              obtain ⟨fs, hfs⟩ : ∃ z, z = (rb L dh L.length).isSome := ⟨_, rfl⟩
              have HFa : Hid (Calls Tryd.prog 12 #[pv g1, hv dh] W1 fun r y => r = .returned (.tuple #[.int .i64 fk, .bool fs]) ∧ Tx w (fun b => b = xb) W1 y (pv g1) g2 (ruI L) la L la) := by
                show Calls _ _ _ _ _
                rw [hfk, hfs]
                exact HF1.out _ _ _ _ _ _ _ dh HWf.out.2.2.1 HR.out.2.pw (by omega) HT1'.out
              have HFb : Hid (∀ y, Tx w (fun b => b = xb) W1 y (pv g1) g2 (ruI L) la L la → Calls Tryd.prog 13 #[pv g2, hv dh] y fun r y => r = .returned (.tuple #[.int .i64 fk, .bool fs]) ∧ Tx w (fun b => b = xb) W1 y (pv g1) g2 (ruI L) la L la) := fun y h => by
                rw [hfk, hfs]
                exact HF2.out _ _ _ _ _ _ _ _ _ dh (by omega) h
              have hbn : (fk != fk) = false := by simp [bne]
              clear hfk hfs hb hbl
              go_upto_region 19 with (first
                | (refine ldMid 31 (.tmp 70) rfl rfl xb 27 rfl (row 11 dh) _ Tryd.underlying31 rfl (sizeH dh) HRH.out ?_)
                | (go_at_call 12; refine (HFa.out).mono ?_; rintro r y2 ⟨rfl, h2⟩; have HRB := hid (HKq.out _ _ _ _ _ h2).rh; have HFc := hid (HFb.out y2 h2); clear h2 HFa HFb))
              go_upto_region 20 with (first
                | (refine ldMid 31 (.tmp 77) rfl rfl xb 27 rfl (row 11 dh) _ Tryd.underlying31 rfl (sizeH dh) HRB.out ?_)
                | (go_at_call 13; refine (HFc.out).mono ?_; rintro r yz ⟨rfl, h3⟩; have HZ := hid h3; clear h3 HFc))
              cases fs with
              | true =>
                go_upto_region 22 with fail
                have HZi := hid (HR.out.2.same)
                obtain ⟨m, hm⟩ : ∃ m, m = nMask (ruI (L)) := ⟨_, rfl⟩
                have HRa : Hid (Calls Tryd.prog 14 #[pv g1] yz fun r y => r = .returned (.int .i64 (m : Nat)) ∧ Tx w (fun b => b = xb) W1 y (pv g1) g2 (ruI (L)) (la) (L) (la)) := by show Calls _ _ _ _ _; rw [hm]; exact HR1.out _ _ _ _ _ _ _ _ _ HZ.out
                have HRb : Hid (∀ y, Tx w (fun b => b = xb) W1 y (pv g1) g2 (ruI (L)) (la) (L) (la) → Calls Tryd.prog 15 #[pv g2] y fun r y => r = .returned (.int .i64 (m : Nat)) ∧ Tx w (fun b => b = xb) W1 y (pv g1) g2 (ruI (L)) (la) (L) (la)) := fun y h => by rw [hm]; exact HR2.out _ _ _ _ _ _ _ _ _ (by have := HZi.out.ln; omega) h
                have hbm : ((m : Int) != (m : Int)) = false := by simp [bne]
                clear hm HR1 HR2
                go_wp2_with (first
                  | (go_at_call 14; refine (HRa.out).mono ?_; rintro r q1 ⟨rfl, hq1⟩; have HRc := hid (HRb.out q1 hq1); clear hq1 HRa HRb)
                  | (go_at_call 15; refine (HRc.out).mono ?_; rintro r q2 ⟨rfl, hq2⟩; have HQ2 := hid hq2; clear hq2 HRc))
                go_roundw
                case rel => exact ⟨k + 1, by omega, by omega, by go_num, _, _, HBk.out q2 _ _ HQ2.out, HZi.out⟩
                case measure => simp [intOf]; omega
              | false =>
                go_upto_region 22 with fail
                have HZi := hid (HR.out.2.same)
                obtain ⟨m, hm⟩ : ∃ m, m = nMask (ruI (L)) := ⟨_, rfl⟩
                have HRa : Hid (Calls Tryd.prog 14 #[pv g1] yz fun r y => r = .returned (.int .i64 (m : Nat)) ∧ Tx w (fun b => b = xb) W1 y (pv g1) g2 (ruI (L)) (la) (L) (la)) := by show Calls _ _ _ _ _; rw [hm]; exact HR1.out _ _ _ _ _ _ _ _ _ HZ.out
                have HRb : Hid (∀ y, Tx w (fun b => b = xb) W1 y (pv g1) g2 (ruI (L)) (la) (L) (la) → Calls Tryd.prog 15 #[pv g2] y fun r y => r = .returned (.int .i64 (m : Nat)) ∧ Tx w (fun b => b = xb) W1 y (pv g1) g2 (ruI (L)) (la) (L) (la)) := fun y h => by rw [hm]; exact HR2.out _ _ _ _ _ _ _ _ _ (by have := HZi.out.ln; omega) h
                have hbm : ((m : Int) != (m : Int)) = false := by simp [bne]
                clear hm HR1 HR2
                go_wp2_with (first
                  | (go_at_call 14; refine (HRa.out).mono ?_; rintro r q1 ⟨rfl, hq1⟩; have HRc := hid (HRb.out q1 hq1); clear hq1 HRa HRb)
                  | (go_at_call 15; refine (HRc.out).mono ?_; rintro r q2 ⟨rfl, hq2⟩; have HQ2 := hid hq2; clear hq2 HRc))
                go_roundw
                case rel => exact ⟨k + 1, by omega, by omega, by go_num, _, _, HBk.out q2 _ _ HQ2.out, HZi.out⟩
                case measure => simp [intOf]; omega
            · clear HA1 HA2 HD1 HD2 HF1 HF2
              have e0 : (dk == 0) = false := beq_eq_false_iff_ne.2 t0
              have e1 : (dk == 1) = false := beq_eq_false_iff_ne.2 t1
              have e2 : (dk == 2) = false := beq_eq_false_iff_ne.2 t2
              have HZ := HT1'
              obtain ⟨yz, hyz⟩ : ∃ yz, yz = W1 := ⟨_, rfl⟩
              have HZ' : Hid (Tx w (fun b => b = xb) W1 yz (pv g1) g2 (ruI L) la L la) := by rw [hyz]; exact HT1'.out
              clear t0 t1 t2
              go_upto_region 22 with fail
              have HZi := hid (HR.out.2.same)
              obtain ⟨m, hm⟩ : ∃ m, m = nMask (ruI (L)) := ⟨_, rfl⟩
              have HRa : Hid (Calls Tryd.prog 14 #[pv g1] W1 fun r y => r = .returned (.int .i64 (m : Nat)) ∧ Tx w (fun b => b = xb) W1 y (pv g1) g2 (ruI (L)) (la) (L) (la)) := by show Calls _ _ _ _ _; rw [hm]; exact HR1.out _ _ _ _ _ _ _ _ _ HZ.out
              have HRb : Hid (∀ y, Tx w (fun b => b = xb) W1 y (pv g1) g2 (ruI (L)) (la) (L) (la) → Calls Tryd.prog 15 #[pv g2] y fun r y => r = .returned (.int .i64 (m : Nat)) ∧ Tx w (fun b => b = xb) W1 y (pv g1) g2 (ruI (L)) (la) (L) (la)) := fun y h => by rw [hm]; exact HR2.out _ _ _ _ _ _ _ _ _ (by have := HZi.out.ln; omega) h
              have hbm : ((m : Int) != (m : Int)) = false := by simp [bne]
              clear hm HR1 HR2 HZ' hyz
              go_wp2_with (first
                | (go_at_call 14; refine (HRa.out).mono ?_; rintro r q1 ⟨rfl, hq1⟩; have HRc := hid (HRb.out q1 hq1); clear hq1 HRa HRb)
                | (go_at_call 15; refine (HRc.out).mono ?_; rintro r q2 ⟨rfl, hq2⟩; have HQ2 := hid hq2; clear hq2 HRc))
              go_roundw
              case rel => exact ⟨k + 1, by omega, by omega, by go_num, _, _, HBk.out q2 _ _ HQ2.out, HZi.out⟩
              case measure => simp [intOf]; omega
    · obtain rfl : k = l.length := by omega
      have hdk : decide ((l.length : Int) < (l.length : Int)) = false := by simp
      have HWk := hid (HW.out wx HR.out.1.below.2)
      clear HW HA1 HA2 HD1 HD2 HF1 HF2 HR1 HR2 HLs
      go_wp2_with (go_at_call 16; refine (HWk.out).mono ?_; rintro r y7 ⟨rfl, hb7⟩; have HB7 := hid hb7; clear hb7)
      go_ret
      exact ⟨rfl, HB7.out⟩
end Go.Proofs.YtimenbkfkdpdcaaDoor
