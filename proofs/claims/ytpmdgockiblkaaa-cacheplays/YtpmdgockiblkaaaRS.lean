/-
  Proved here: Put of the document's cache with a new header. Conditions: fewer than 2 to 31 places; the hand is at one of them.
-/
import Derived.Test.YtpmdgockiblkaaaRQ
namespace Go.Proofs.Ytpmdgockiblkaaa
open Go.RowKit

/-- What is read as the entry is made. -/
structure H6 (g : Nat) (now : Int) (bx : Nat) (x : Nat → Int) (w : World) : Prop where
  c1 : w.cell? ⟨g, 1, none⟩ = some (.int .i64 now)
  rx : w.rangeAt bx 0 (row 11 x).toList
theorem H6.on {g : Nat} {now : Int} {bx : Nat} {x : Nat → Int} {w w' : World} (H : H6 g now bx x w) (h1 : w'.heap[g]? = w.heap[g]?) (h2 : w'.heap[bx]? = w.heap[bx]?) : H6 g now bx x w' := ⟨(cell_same h1).trans H.c1, range_on H.rx h2⟩
/-- What is read as an entry is put in. -/
structure Hf (g bl L k eb : Nat) (o : Option Et) (w : World) : Prop where
  c0 : w.cell? ⟨g, 0, none⟩ = some (.slice (some ⟨bl, 0, none⟩) L L)
  c2 : w.cell? ⟨g, 2, none⟩ = some (.int .i64 (k : Int))
  re : w.rangeAt eb 0 (rco o).toList
theorem RcM.hf {S : Nat → Prop} {w : World} {g : Nat} {c : Cs} {bl : Nat} {cur : Array Value} (h : RcM S w g c bl cur) {eb : Nat} {o : Option Et} (he : w.heap[eb]? = some (.cells (rco o) 58 (0, 0))) {L k : Nat} (hL : c.es.length = L) (hk : c.hand = k) : Hf g bl L k eb o w := by
  obtain ⟨b0, b1, b2⟩ := h.cells
  rw [hL] at b0
  rw [hk] at b2
  exact ⟨b0, b2, range_of fun j _ => by rw [Nat.zero_add, cell_of_row _ _ _ _ _ _ he]⟩
set_option maxHeartbeats 6000000 in
set_option maxRecDepth 100000 in
theorem rput_new {S : Nat → Prop} (w : World) (v : Value) (c : Cs) (h : Hdr) (id : Int) (hC : Rc S w v c) (hf : Fresh S w) (hc : c.es ≠ []) (hn : c.es.length < 2147483640) (hh : c.hand < c.es.length) (hfd : fnd c.es h = none) : Calls Try.prog 14 #[v, hv h.f, .int .i64 id] w (RpP S w v c h id) := by
  have HC := hid hC
  obtain ⟨g, bl, cur, rfl, hM⟩ := hC
  obtain ⟨x, hx⟩ : ∃ z, z = h.f := ⟨_, rfl⟩
  obtain ⟨W0, hW0⟩ : ∃ W0, W0 = w.alloc (.cells (row 11 h.f) 30) := ⟨_, rfl⟩
  have hB0 : Below w.heap.size w W0 := by rw [hW0]; exact (Below.refl _ _).alloc (Nat.le_refl _) _
  have hs0 : W0.heap.size = w.heap.size + 1 := by rw [hW0]; simp
  have hG0 : Blk W0 w.heap.size 11 30 x := by rw [hW0, hx]; exact Blk.new w 11 30 h.f
  have e0 : fdI c.es h = -1 := by unfold fdI; rw [hfd]
  have HF : Hid (Calls Try.prog 22 #[pv g, hv x] W0 fun r w' => r = .returned (.int .i64 (-1)) ∧ Below W0.heap.size W0 w') := by
    show Calls _ _ _ _ _
    rw [hx, ← e0]
    exact rfind_any W0 (pv g) c h (HC.out.on hB0) hn
  have hc0 := (hM.carry (T := S) (w' := W0) fun b hb hS => ⟨hS, hB0.block b hb⟩).cells.1
  obtain ⟨L, hL⟩ : ∃ z, z = c.es.length := ⟨_, rfl⟩
  have hhL : c.hand < L := by rw [hL]; exact hh
  have hLn : ((L : Int) == 0) = false := by simp; omega
  have hnL : L < 2147483640 := by rw [hL]; exact hn
  rw [← hL] at hc0
  obtain ⟨now, hnow⟩ : ∃ z, z = c.now := ⟨_, rfl⟩
  have hgb := hM.ne
  have HM := hid hM
  have HFs := hid hf
  have HW0 := hid hW0
  rw [← hx] at HW0
  have HB0 := hid (And.intro hB0 hs0)
  have HX := hid (And.intro hx (And.intro hL (And.intro hnow (And.intro hfd hc))))
  rw [← hx]
  clear hM hW0 hx hfd hL hnow hB0 e0 hf hn hh hc hs0 HC
  go_enter Try.func14, Try.ntmps14
  go_upto_region 1 with fail
  rw [← HW0.out]
  clear HW0
  go_upto_region 6 with (first
    | (refine ld24 (.tmp 4) rfl _ rfl rfl x hG0 ?_)
    | (go_at_call 22; refine (HF.out).mono ?_; rintro r y1 ⟨rfl, hb1⟩; have HB1 := hid hb1; clear hb1 HF))
  clear hc0
  obtain ⟨hx, hL, hnow, hfd, hc⟩ := HX.out
  obtain ⟨E, hE⟩ : ∃ E : Et, E = ⟨h, id, c.now, false⟩ := ⟨_, rfl⟩
  have e1 : E.h.f = x := by rw [hE, hx]
  have e2 : E.id = id := by rw [hE]
  have e3 : E.gen = now := by rw [hE, hnow]
  have e4 : E.mark = false := by rw [hE]
  have hB1w : Below w.heap.size w y1 := HB0.out.1.trans (HB1.out.mono HB0.out.1.size)
  have hM1 : RcM S y1 g c bl cur := HM.out.carry fun b hb hS => ⟨hS, hB1w.block b hb⟩
  have hG1 : Blk y1 w.heap.size 11 30 x := (HB1.out.block _ (by rw [HB0.out.2]; omega)).trans hG0
  have hs1 : w.heap.size < y1.heap.size := by have := HB1.out.size; rw [HB0.out.2] at this; omega
  obtain ⟨Wb, hWb⟩ : ∃ Wb, Wb = y1.drew.alloc (.cells (rco (some E)) 58) := ⟨_, rfl⟩
  obtain ⟨eb, heb⟩ : ∃ eb, eb = y1.heap.size := ⟨_, rfl⟩
  have hBb : Below y1.heap.size y1 Wb := by rw [hWb]; exact (Below.refl _ _).drew.alloc (Nat.le_refl _) _
  have hE6 : Wb.heap[eb]? = some (.cells (rco (some E)) 58 (0, 0)) := by rw [hWb, heb]; exact heap_alloc_new _ _
  obtain ⟨S', hS'⟩ : ∃ S' : Nat → Prop, S' = fun b => S b ∧ b ≠ eb := ⟨_, rfl⟩
  have hSS : ∀ b, S' b → S b := fun b hb => by rw [hS'] at hb; exact hb.1
  have hSe : ¬ S' eb := by rw [hS']; exact fun h => h.2 rfl
  have hMb : RcM S' Wb g c bl cur := hM1.carry fun b hb hS => ⟨by rw [hS']; exact ⟨hS, by rw [heb]; omega⟩, hBb.block b hb⟩
  have hOb : Only S w Wb := Only.of (hB1w.trans (hBb.mono (Nat.le_of_lt hs1))) HFs.out
  have HS6 : Hid (H6 g now w.heap.size x y1.drew) := ⟨by rw [hnow]; exact hM1.cells.2.1, range_on (w' := y1.drew) (range_blk hG1) rfl⟩
  have hg1 := cell_lt hM1.cells.1
  obtain ⟨Wa, hWa⟩ : ∃ Wa, Wa = y1.drew.alloc (.cells (rco none) 58) := ⟨_, rfl⟩
  have H6a : Hid (H6 g now w.heap.size x Wa) := by
    have h1 := HS6.out.on (w' := Wa) (by rw [hWa]; exact heap_alloc_old _ _ hg1) (by rw [hWa]; exact heap_alloc_old _ _ hs1)
    exact h1
  have HWa := hid hWa.symm
  have H6b : Hid (H6 g now w.heap.size x Wb) := by
    have h1 := HS6.out.on (w' := Wb) (by rw [hWb]; exact heap_alloc_old _ _ hg1) (by rw [hWb]; exact heap_alloc_old _ _ hs1)
    exact h1
  have HEq := hid (And.intro e1 (And.intro e2 (And.intro e3 e4)))
  have HWb := hid hWb
  have HEb := hid heb
  have HMb := hid (And.intro hMb (And.intro hOb (And.intro hE6 (And.intro hSS hSe))))
  have HEE := hid hE
  have SF : Hid (Fresh S' Wb) := fun b hb => by rw [hS']; exact ⟨HFs.out b (Nat.le_trans hOb.size hb), by have := (Array.getElem?_eq_some_iff.1 hE6).1; omega⟩
  have hpv : pv y1.drew.heap.size = pv eb := by rw [heb]; rfl
  have HPv := hid hpv
  clear hx hL hnow hfd hc hE e1 e2 e3 e4 hB1w hM1 hG1 hs1 hWb heb hBb hE6 hS' hSS hSe hMb hOb hg1 hpv hG0 hWa HB1 HB0 HM
  refine wp_region_held_drew (S := H6 g now w.heap.size x) (by kernel_rfl) HS6.out (fun hHeld => ?_)
  refine wpAnyH_take (i := 0) (v := (hv x)) rfl (by kernel_rfl) (by kernel_rfl) (by kernel_rfl) (fun _ _ _ h => h) (Or.inl ⟨by rfl, ?_⟩) hHeld ?_
  · intro w' hSw
    exact runLd 30 (.tmp 4) rfl w.heap.size 0 rfl (row 11 x) _ hSw.rx Try.underlying30 rfl (sizeH x)
  simp only [Act.put, List.getElem_toArray, List.getElem_cons_zero, List.setIfInBounds_toArray, List.set_cons_zero, List.set_cons_succ]
  refine wpAnyH_take (i := 1) (v := ?_) rfl (by kernel_rfl) (by kernel_rfl) (by kernel_rfl) (fun _ _ _ h => h) (Or.inl ⟨by rfl, ?_⟩) hHeld ?_
  rotate_left
  · intro w' hSw
    clear hSw
    go_simp
    first | done | with_reducible rfl
  simp only [Act.put, List.getElem_toArray, List.getElem_cons_succ, List.getElem_cons_zero, List.setIfInBounds_toArray, List.set_cons_zero, List.set_cons_succ]
  refine wpAnyH_take (i := 2) (v := ?_) rfl (by kernel_rfl) (by kernel_rfl) (by kernel_rfl) (fun _ _ _ h => h) (Or.inl ⟨by rfl, ?_⟩) hHeld ?_
  rotate_left
  · intro w' hSw
    clear hSw
    go_simp
    first | done | with_reducible rfl
  simp only [Act.put, List.getElem_toArray, List.getElem_cons_succ, List.getElem_cons_zero, List.setIfInBounds_toArray, List.set_cons_zero, List.set_cons_succ]
  refine wpAnyH_take (i := 3) (v := ?_) rfl (by kernel_rfl) (by kernel_rfl) (by kernel_rfl) (fun _ _ _ h => h) (Or.inl ⟨by rfl, ?_⟩) hHeld ?_
  rotate_left
  · intro w' hSw
    clear hSw
    go_simp
    first | done | with_reducible rfl
  simp only [Act.put, List.getElem_toArray, List.getElem_cons_succ, List.getElem_cons_zero, List.setIfInBounds_toArray, List.set_cons_zero, List.set_cons_succ]
  refine wpAnyH_take (i := 4) (v := ?_) rfl (by kernel_rfl) (by kernel_rfl) (by kernel_rfl) (fun _ _ _ h => h) (Or.inl ⟨by rfl, ?_⟩) hHeld ?_
  rotate_left
  · intro w' hSw
    clear hSw
    go_simp
    first | done | with_reducible rfl
  simp only [Act.put, List.getElem_toArray, List.getElem_cons_succ, List.getElem_cons_zero, List.setIfInBounds_toArray, List.set_cons_zero, List.set_cons_succ]
  refine wpAnyH_take (i := 5) (v := ?_) rfl (by kernel_rfl) (by kernel_rfl) (by kernel_rfl) (fun _ _ _ h => h) (Or.inl ⟨by rfl, ?_⟩) hHeld ?_
  rotate_left
  · intro w' hSw
    have c1 := hSw.c1
    clear hSw
    go_simp
    first | done | with_reducible rfl
  simp only [Act.put, List.getElem_toArray, List.getElem_cons_succ, List.getElem_cons_zero, List.setIfInBounds_toArray, List.set_cons_zero, List.set_cons_succ]
  refine wpAnyH_take (i := 6) (v := (.agg (rco (some E)))) rfl (by kernel_rfl) (by kernel_rfl) (by kernel_rfl) (fun _ _ _ h => h) (Or.inl ⟨by rfl, ?_⟩) hHeld ?_
  · intro w' hSw
    exact runBldR (.tmp 39) (.tmp 40) (.tmp 44) rfl E HEq.out.2.2.2 (by rw [HEq.out.1]; rfl) (by rw [HEq.out.2.1]; rfl) (by rw [HEq.out.2.2.1]; rfl)
  simp only [Act.put, List.getElem_toArray, List.getElem_cons_succ, List.getElem_cons_zero, List.setIfInBounds_toArray, List.set_cons_zero, List.set_cons_succ]
  refine wpAnyH_ready (rs := [7]) (by kernel_rfl) (by simp) ?_
  refine AllReadyH.cons rfl (fun K hK => ?_) AllReadyH.nil
  refine stepAlR rfl rfl ?_
  rw [HWa.out]
  refine hK.out _ _ H6a.out (fun hHeld => ?_)
  clear hK K
  simp only [Act.put, List.getElem_toArray, List.getElem_cons_succ, List.getElem_cons_zero, List.setIfInBounds_toArray, List.set_cons_zero, List.set_cons_succ]
  refine ready_stN 8 _ (by kernel_rfl) rfl 58 (.tmp 7) (.tmp 45) rfl rfl y1.drew 58 (rco none) (rco (some E)) HWa.out.symm rfl rfl (sizeRE _) (by rw [rco_size, rco_size]) (rco_one _) ?_
  rw [← HWb.out]
  refine ⟨H6b.out, ?_⟩
  simp only [Act.put, List.getElem_toArray, List.getElem_cons_succ, List.getElem_cons_zero]
  refine wpAnyH_done (by kernel_rfl) ?_ _
  rw [HPv.out]
  clear HPv HWa HWb HEb H6a H6b HS6
  obtain ⟨hMb, hOb, hE6, hSS, hSe⟩ := HMb.out
  have hc0 := hMb.cells.1
  rw [← HX.out.2.1] at hc0
  have hgl := cell_lt hc0
  have hbl := (Array.getElem?_eq_some_iff.1 hMb.hl).1
  have hel := (Array.getElem?_eq_some_iff.1 hE6).1
  clear hMb hOb hE6 hSS hSe
  go_upto_region 8 with fail
  go_loopw [8] (fun j wr => ∃ q : Nat, q ≤ L ∧ j = .int .i64 q ∧ Below Wb.heap.size Wb wr ∧ ∀ j, j < q → ∃ e, c.es[j]? = some (some e)) (fun j _ => L - (intOf j).toNat)
  case atStart => exact ⟨0, by omega, rfl, Below.refl _ _, fun j hj => by omega⟩
  case round =>
    obtain ⟨q, hq, rfl, hlow, hno⟩ := hrel
    generalize wr = wx at *
    have HLo := hid hlow
    have HNo := hid hno
    have k0 : wx.cell? ⟨g, 0, none⟩ = some (.slice (some ⟨bl, 0, none⟩) L L) := by rw [hlow.cell (p := ⟨g, 0, none⟩) hgl]; exact hc0
    clear hlow hno
    by_cases hlt : q < L
    · have hd : decide ((q : Int) < (L : Int)) = true := decide_eq_true (by omega)
      have hqc : q < c.es.length := by rw [← HX.out.2.1]; exact hlt
      obtain ⟨o, ho⟩ : ∃ o, c.es[q]? = some o := ⟨_, List.getElem?_eq_getElem hqc⟩
      obtain ⟨d1, -, -, -, -⟩ := HMb.out.1.at ho
      have k1 : wx.cell? ⟨bl, q * 15, none⟩ = some (.bool o.isSome) := (cell_same (HLo.out.block _ hbl)).trans d1
      have hw1 : IntKind.i64.wrap ((q : Int) + 1) = (q : Int) + 1 := by rw [IntKind.wrap_i64]; omega
      have HO := hid ho
      clear d1 ho
      cases o with
      | some e =>
        have k1' : wx.cell? ⟨bl, q * 15, none⟩ = some (.bool true) := k1
        clear k1
        go_wp2
        go_roundw
        case rel => exact ⟨q + 1, by omega, by go_num, HLo.out, fun j hj => by
          by_cases e1 : j = q
          · subst e1; exact ⟨e, HO.out⟩
          · exact HNo.out j (by omega)⟩
        case measure => simp [intOf]; omega
      | none =>
        have k1' : wx.cell? ⟨bl, q * 15, none⟩ = some (.bool false) := k1
        have hfi : c.es.findIdx? Option.isNone = some q := by
          rw [List.findIdx?_eq_some_iff_getElem]
          refine ⟨hqc, by have := HO.out; rw [List.getElem?_eq_getElem hqc] at this; rw [Option.some.inj this]; rfl, fun j hj => ?_⟩
          obtain ⟨e, he⟩ := HNo.out j hj
          rw [List.getElem?_eq_getElem (by omega)] at he
          rw [Option.some.inj he]; simp
        have hMx : RcM _ wx.drew g c bl cur := HMb.out.1.carry (T := S') fun b hb hS => ⟨hS, HLo.out.block b hb⟩
        have hEx : wx.drew.heap[eb]? = some (.cells (rco (some E)) 58 (0, 0)) := (HLo.out.block _ hel).trans HMb.out.2.2.1
        have HHp := hid (hMx.hf hEx HX.out.2.1.symm rfl)
        obtain ⟨cur', a1, a2⟩ := hMx.setAll hqc (some E)
        have HHq := hid (a1.hf ((a2.block _ HMb.out.2.2.2.2).trans hEx) (L := L) (k := c.hand) (by show (c.es.set q (some E)).length = L; rw [List.length_set]; exact HX.out.2.1.symm) rfl)
        have HP : Hid (RpP S w (pv g) c h id (.returned (.tuple #[])) (wx.drew.setCells bl (q * 15) (rco (some E)).toList)) := by
          refine ⟨rfl, (HMb.out.2.1.trans (Only.of HLo.out fun b hb => HFs.out b (Nat.le_trans HMb.out.2.1.size hb)).drew).trans (a2.mono HMb.out.2.2.2.1), g, bl, cur', rfl, ?_⟩
          rw [put_free HX.out.2.2.2.1 hfi, ← HEE.out]
          exact a1.carry fun b _ hS => ⟨HMb.out.2.2.2.1 b hS, rfl⟩
        have HTh : Hid (wx.drew.there bl (q * 15) (rco (some E)).size) := by
          show World.there _ _ _ _
          rw [rco_size]; exact there_of hMx.hl (by rw [hMx.sz]; omega)
        clear k1 hfi hMx hEx a1 a2
        go_upto_region 11 with fail
        refine wp_region_held_drew (S := Hf g bl L c.hand eb (some E)) (by kernel_rfl) HHp.out (fun hHeld => ?_)
        refine wpAnyH_take (i := 0) (v := ?_) rfl (by kernel_rfl) (by kernel_rfl) (by kernel_rfl) (fun _ _ _ h => h) (Or.inl ⟨by rfl, ?_⟩) hHeld ?_
        rotate_left
        · intro w' hSw
          clear hSw
          go_simp
          first | done | with_reducible rfl
        simp only [Act.put, List.getElem_toArray, List.getElem_cons_zero, List.setIfInBounds_toArray, List.set_cons_zero, List.set_cons_succ]
        refine wpAnyH_take (i := 1) (v := ?_) rfl (by kernel_rfl) (by kernel_rfl) (by kernel_rfl) (fun _ _ _ h => h) (Or.inl ⟨by rfl, ?_⟩) hHeld ?_
        rotate_left
        · intro w' hSw
          clear hSw
          go_simp
          first | done | with_reducible rfl
        simp only [Act.put, List.getElem_toArray, List.getElem_cons_succ, List.getElem_cons_zero, List.setIfInBounds_toArray, List.set_cons_zero, List.set_cons_succ]
        refine wpAnyH_take (i := 2) (v := ?_) rfl (by kernel_rfl) (by kernel_rfl) (by kernel_rfl) (fun _ _ _ h => h) (Or.inl ⟨by rfl, ?_⟩) hHeld ?_
        rotate_left
        · intro w' hSw
          clear hSw
          go_simp
          first | done | with_reducible rfl
        simp only [Act.put, List.getElem_toArray, List.getElem_cons_succ, List.getElem_cons_zero, List.setIfInBounds_toArray, List.set_cons_zero, List.set_cons_succ]
        refine wpAnyH_take (i := 3) (v := ?_) rfl (by kernel_rfl) (by kernel_rfl) (by kernel_rfl) (fun _ _ _ h => h) (Or.inl ⟨by rfl, ?_⟩) hHeld ?_
        rotate_left
        · intro w' hSw
          have c0 := hSw.c0
          clear hSw
          go_simp
          first | done | with_reducible rfl
        simp only [Act.put, List.getElem_toArray, List.getElem_cons_succ, List.getElem_cons_zero, List.setIfInBounds_toArray, List.set_cons_zero, List.set_cons_succ]
        refine wpAnyH_take (i := 4) (v := ?_) rfl (by kernel_rfl) (by kernel_rfl) (by kernel_rfl) (fun _ _ _ h => h) (Or.inl ⟨by rfl, ?_⟩) hHeld ?_
        rotate_left
        · intro w' hSw
          clear hSw
          go_simp
          first | done | with_reducible rfl
        simp only [Act.put, List.getElem_toArray, List.getElem_cons_succ, List.getElem_cons_zero, List.setIfInBounds_toArray, List.set_cons_zero, List.set_cons_succ]
        refine wpAnyH_take (i := 5) (v := (.agg (rco (some E)))) rfl (by kernel_rfl) (by kernel_rfl) (by kernel_rfl) (fun _ _ _ h => h) (Or.inl ⟨by rfl, ?_⟩) hHeld ?_
        · intro w' hSw
          exact runLd 58 (.tmp 7) rfl eb 0 rfl (rco (some E)) _ hSw.re Try.underlying58 rfl (sizeRE _)
        simp only [Act.put, List.getElem_toArray, List.getElem_cons_succ, List.getElem_cons_zero, List.setIfInBounds_toArray, List.set_cons_zero, List.set_cons_succ]
        refine wpAnyH_take (i := 6) (v := ?_) rfl (by kernel_rfl) (by kernel_rfl) (by kernel_rfl) (fun _ _ _ h => h) (Or.inl ⟨by rfl, ?_⟩) hHeld ?_
        rotate_left
        · intro w' hSw
          clear hSw
          go_simp
          first | done | with_reducible rfl
        simp only [Act.put, List.getElem_toArray, List.getElem_cons_succ, List.getElem_cons_zero, List.setIfInBounds_toArray, List.set_cons_zero, List.set_cons_succ]
        refine ready_stM 7 _ (by kernel_rfl) rfl 58 (.tmp 70) (.tmp 69) rfl rfl bl (q * 15) (rco (some E)) (by simp [Act.eval]) rfl HTh.out (sizeRE _) (rco_one _) ?_
        refine ⟨HHq.out, ?_⟩
        simp only [Act.put, List.getElem_toArray, List.getElem_cons_succ, List.getElem_cons_zero]
        obtain ⟨W9, hW9⟩ : ∃ W9, W9 = wx.drew.setCells bl (q * 15) (rco (some E)).toList := ⟨_, rfl⟩
        rw [← hW9] at HP
        rw [← hW9]
        clear hW9
        refine wpAnyH_done (by kernel_rfl) ?_ _
        go_wp2
        first | go_end0 | refine bodyPost_ret (results_none rfl _ _ _) rfl ?_
        exact HP.out
    · obtain rfl : L = q := by omega
      have hd : decide ((L : Int) < (L : Int)) = false := by simp
      have hfi : c.es.findIdx? Option.isNone = none := by
        rw [List.findIdx?_eq_none_iff]
        intro o ho
        obtain ⟨j, hj, rfl⟩ := List.getElem_of_mem ho
        obtain ⟨e, he⟩ := HNo.out j (by rw [HX.out.2.1]; exact hj)
        rw [List.getElem?_eq_getElem hj] at he
        rw [Option.some.inj he]; rfl
      have h0 : Rr S' Wb g bl c c wx := ⟨Only.of HLo.out SF.out, ⟨cur, HMb.out.1.carry fun b hb hS => ⟨hS, HLo.out.block b hb⟩⟩, rfl, rfl, by rw [← HX.out.2.1]; exact hhL, fun i hi => HNo.out i (by rw [HX.out.2.1]; exact hi), rfl⟩
      have H0 := hid h0
      have HFi := hid hfi
      clear h0 hfi HNo HLo
      go_upto_region 12 with fail
      clear k0
      go_loopg [] (marks c.es) (fun n wr => ∃ c1, Rr S' Wb g bl c c1 wr ∧ n = marks c1.es)
      case atStart => exact ⟨c, H0.out, rfl⟩
      case round =>
        obtain ⟨c1, hR, hm⟩ := hrel
        clear H0
        generalize wr = wy at *
        obtain ⟨k, hk⟩ : ∃ z, z = c1.hand := ⟨_, rfl⟩
        have hkL : k < L := by rw [hk, HX.out.2.1]; exact hR.hand
        obtain ⟨e, he⟩ := hR.full k (by rw [← HX.out.2.1]; exact hkL)
        obtain ⟨cu, hMy⟩ := hR.ca
        have hEy : wy.heap[eb]? = some (.cells (rco (some E)) 58 (0, 0)) := (hR.only.block _ HMb.out.2.2.2.2).trans HMb.out.2.2.1
        have hHp := hMy.hp he hEy
        rw [hR.len, ← HX.out.2.1, hR.now, ← HX.out.2.2.1, ← hk] at hHp
        obtain ⟨em, hem⟩ : ∃ z, z = om (some e) := ⟨_, rfl⟩
        obtain ⟨eg, heg⟩ : ∃ z, z = og (some e) := ⟨_, rfl⟩
        rw [← hem, ← heg] at hHp
        have HHp : Hid (Hp g bl L now k k em eg eb (some E) wy.drew) := hHp.drew
        obtain ⟨be, hbe⟩ : ∃ z, z = (eg == now) := ⟨_, rfl⟩
        have HFr : Hid (fr c.now c1.es c1.hand = (em && be)) := by
          show _ = _
          rw [← hk, fr_at he, hem, hbe, heg, HX.out.2.2.1]
          show (e.mark && decide (e.gen = c.now)) = (e.mark && (e.gen == c.now))
          by_cases e1 : e.gen = c.now <;> simp [e1]
        have hw1 : IntKind.i64.wrap ((k : Int) + 1) = (k : Int) + 1 := by rw [IntKind.wrap_i64]; omega
        have HCm : Hid ((((k + 1) % L : Nat) : Int) = ((k : Int) + 1) % (L : Int)) := by show _ = _; rw [Int.natCast_emod]; rfl
        have HR := hid hR
        have HMk : Hid (fr c.now c1.es c1.hand = true → gk = marks (unm c1.es c1.hand) + 1) := fun hs => by rw [hm]; exact marks_unm hs
        have HKk := hid hk
        have HMy := hid hMy
        have HEy := hid hEy
        have HE1 := hid he
        have hLne : (L : Int) ≠ 0 := by omega
        have HBe := hid hbe
        clear hR hm hk he hMy hEy hHp hem heg hbe
        cases hgo : (em && be) with
        | true =>
          obtain ⟨rfl, rfl⟩ : em = true ∧ be = true := by simpa using hgo
          have hs : fr c.now c1.es c1.hand = true := by rw [HFr.out]; rfl
          have hG := HR.out.go hs k HKk.out L HX.out.2.1
          have hU := HMk.out hs
          have HG := hid (And.intro hG hU)
          have z0 := HHp.out.c0
          have z2 := HHp.out.c2
          have z4 := HHp.out.cm
          have z5 : wy.frozen? ⟨bl, k * 15 + 14, none⟩ = false := (HMy.out.frz (k * 15 + 14)).2
          have z6 : wy.frozen? ⟨g, 2, none⟩ = false := (HMy.out.frz 2).1
          have y0 : wy.cell? ⟨g, 0, none⟩ = some (.slice (some ⟨bl, 0, none⟩) L L) := z0
          have y2 : wy.cell? ⟨g, 2, none⟩ = some (.int .i64 (k : Int)) := z2
          have y4 : wy.cell? ⟨bl, k * 15 + 14, none⟩ = some (.bool true) := z4
          clear hG hU hs hgo z0 z2 z4
          go_upto_region 12 with fail
          refine wp_region_held_drew (S := Hp g bl L now k k true eg eb (some E)) (by kernel_rfl) HHp.out (fun hHeld => ?_)
          refine wpAnyH_take (i := 0) (v := ?_) rfl (by kernel_rfl) (by kernel_rfl) (by kernel_rfl) (fun _ _ _ h => h) (Or.inl ⟨by rfl, ?_⟩) hHeld ?_
          rotate_left
          · intro w' hSw
            clear hSw
            go_simp
            first | done | with_reducible rfl
          simp only [Act.put, List.getElem_toArray, List.getElem_cons_zero, List.setIfInBounds_toArray, List.set_cons_zero, List.set_cons_succ]
          refine wpAnyH_take (i := 1) (v := ?_) rfl (by kernel_rfl) (by kernel_rfl) (by kernel_rfl) (fun _ _ _ h => h) (Or.inl ⟨by rfl, ?_⟩) hHeld ?_
          rotate_left
          · intro w' hSw
            clear hSw
            go_simp
            first | done | with_reducible rfl
          simp only [Act.put, List.getElem_toArray, List.getElem_cons_succ, List.getElem_cons_zero, List.setIfInBounds_toArray, List.set_cons_zero, List.set_cons_succ]
          refine wpAnyH_take (i := 2) (v := ?_) rfl (by kernel_rfl) (by kernel_rfl) (by kernel_rfl) (fun _ _ _ h => h) (Or.inl ⟨by rfl, ?_⟩) hHeld ?_
          rotate_left
          · intro w' hSw
            clear hSw
            go_simp
            first | done | with_reducible rfl
          simp only [Act.put, List.getElem_toArray, List.getElem_cons_succ, List.getElem_cons_zero, List.setIfInBounds_toArray, List.set_cons_zero, List.set_cons_succ]
          refine wpAnyH_take (i := 3) (v := ?_) rfl (by kernel_rfl) (by kernel_rfl) (by kernel_rfl) (fun _ _ _ h => h) (Or.inl ⟨by rfl, ?_⟩) hHeld ?_
          rotate_left
          · intro w' hSw
            have c0 := hSw.c0
            clear hSw
            go_simp
            first | done | with_reducible rfl
          simp only [Act.put, List.getElem_toArray, List.getElem_cons_succ, List.getElem_cons_zero, List.setIfInBounds_toArray, List.set_cons_zero, List.set_cons_succ]
          refine wpAnyH_take (i := 4) (v := ?_) rfl (by kernel_rfl) (by kernel_rfl) (by kernel_rfl) (fun _ _ _ h => h) (Or.inl ⟨by rfl, ?_⟩) hHeld ?_
          rotate_left
          · intro w' hSw
            clear hSw
            go_simp
            first | done | with_reducible rfl
          simp only [Act.put, List.getElem_toArray, List.getElem_cons_succ, List.getElem_cons_zero, List.setIfInBounds_toArray, List.set_cons_zero, List.set_cons_succ]
          refine wpAnyH_take (i := 5) (v := ?_) rfl (by kernel_rfl) (by kernel_rfl) (by kernel_rfl) (fun _ _ _ h => h) (Or.inl ⟨by rfl, ?_⟩) hHeld ?_
          rotate_left
          · intro w' hSw
            clear hSw
            go_simp
            first | done | with_reducible rfl
          simp only [Act.put, List.getElem_toArray, List.getElem_cons_succ, List.getElem_cons_zero, List.setIfInBounds_toArray, List.set_cons_zero, List.set_cons_succ]
          refine wpAnyH_take (i := 6) (v := ?_) rfl (by kernel_rfl) (by kernel_rfl) (by kernel_rfl) (fun _ _ _ h => h) (Or.inl ⟨by rfl, ?_⟩) hHeld ?_
          rotate_left
          · intro w' hSw
            clear hSw
            go_simp
            first | done | with_reducible rfl
          simp only [Act.put, List.getElem_toArray, List.getElem_cons_succ, List.getElem_cons_zero, List.setIfInBounds_toArray, List.set_cons_zero, List.set_cons_succ]
          refine wpAnyH_take (i := 7) (v := ?_) rfl (by kernel_rfl) (by kernel_rfl) (by kernel_rfl) (fun _ _ _ h => h) (Or.inl ⟨by rfl, ?_⟩) hHeld ?_
          rotate_left
          · intro w' hSw
            have c2 := hSw.c2
            clear hSw
            go_simp
            first | done | with_reducible rfl
          simp only [Act.put, List.getElem_toArray, List.getElem_cons_succ, List.getElem_cons_zero, List.setIfInBounds_toArray, List.set_cons_zero, List.set_cons_succ]
          refine wpAnyH_take (i := 8) (v := ?_) rfl (by kernel_rfl) (by kernel_rfl) (by kernel_rfl) (fun _ _ _ h => h) (Or.inl ⟨by rfl, ?_⟩) hHeld ?_
          rotate_left
          · intro w' hSw
            clear hSw
            go_simp
            first | done | with_reducible rfl
          simp only [Act.put, List.getElem_toArray, List.getElem_cons_succ, List.getElem_cons_zero, List.setIfInBounds_toArray, List.set_cons_zero, List.set_cons_succ]
          refine wpAnyH_take (i := 9) (v := ?_) rfl (by kernel_rfl) (by kernel_rfl) (by kernel_rfl) (fun _ _ _ h => h) (Or.inl ⟨by rfl, ?_⟩) hHeld ?_
          rotate_left
          · intro w' hSw
            clear hSw
            go_simp
            first | done | with_reducible rfl
          simp only [Act.put, List.getElem_toArray, List.getElem_cons_succ, List.getElem_cons_zero, List.setIfInBounds_toArray, List.set_cons_zero, List.set_cons_succ]
          refine wpAnyH_take (i := 10) (v := (.bool true)) rfl (by kernel_rfl) (by kernel_rfl) (by kernel_rfl) (fun _ _ _ h => h) (Or.inl ⟨by rfl, ?_⟩) hHeld ?_
          · intro w' hSw
            have cm := hSw.cm
            clear hSw
            go_simp
            first | done | with_reducible rfl
          simp only [Act.put, List.getElem_toArray, List.getElem_cons_succ, List.getElem_cons_zero, List.setIfInBounds_toArray, List.set_cons_zero, List.set_cons_succ]
          refine wpAnyH_take (i := 11) (v := (.bool true)) rfl (by kernel_rfl) (by kernel_rfl) (by kernel_rfl) (fun _ _ _ h => h) (Or.inl ⟨by rfl, ?_⟩) hHeld ?_
          · intro w' hSw
            clear hSw
            go_simp
            first | done | with_reducible rfl
          simp only [Act.put, List.getElem_toArray, List.getElem_cons_succ, List.getElem_cons_zero, List.setIfInBounds_toArray, List.set_cons_zero, List.set_cons_succ]
          refine wpAnyH_take (i := 12) (v := ?_) rfl (by kernel_rfl) (by kernel_rfl) (by kernel_rfl) (fun _ _ _ h => h) (Or.inl ⟨by rfl, ?_⟩) hHeld ?_
          rotate_left
          · intro w' hSw
            clear hSw
            go_simp
            first | done | with_reducible rfl
          simp only [Act.put, List.getElem_toArray, List.getElem_cons_succ, List.getElem_cons_zero, List.setIfInBounds_toArray, List.set_cons_zero, List.set_cons_succ]
          refine wpAnyH_take (i := 13) (v := ?_) rfl (by kernel_rfl) (by kernel_rfl) (by kernel_rfl) (fun _ _ _ h => h) (Or.inl ⟨by rfl, ?_⟩) hHeld ?_
          rotate_left
          · intro w' hSw
            clear hSw
            go_simp
            first | done | with_reducible rfl
          simp only [Act.put, List.getElem_toArray, List.getElem_cons_succ, List.getElem_cons_zero, List.setIfInBounds_toArray, List.set_cons_zero, List.set_cons_succ]
          refine wpAnyH_take (i := 14) (v := ?_) rfl (by kernel_rfl) (by kernel_rfl) (by kernel_rfl) (fun _ _ _ h => h) (Or.inl ⟨by rfl, ?_⟩) hHeld ?_
          rotate_left
          · intro w' hSw
            clear hSw
            go_simp
            first | done | with_reducible rfl
          simp only [Act.put, List.getElem_toArray, List.getElem_cons_succ, List.getElem_cons_zero, List.setIfInBounds_toArray, List.set_cons_zero, List.set_cons_succ]
          refine wpAnyH_take (i := 15) (v := ?_) rfl (by kernel_rfl) (by kernel_rfl) (by kernel_rfl) (fun _ _ _ h => h) (Or.inl ⟨by rfl, ?_⟩) hHeld ?_
          rotate_left
          · intro w' hSw
            have c0 := hSw.c0
            clear hSw
            go_simp
            first | done | with_reducible rfl
          simp only [Act.put, List.getElem_toArray, List.getElem_cons_succ, List.getElem_cons_zero, List.setIfInBounds_toArray, List.set_cons_zero, List.set_cons_succ]
          refine wpAnyH_take (i := 16) (v := ?_) rfl (by kernel_rfl) (by kernel_rfl) (by kernel_rfl) (fun _ _ _ h => h) (Or.inl ⟨by rfl, ?_⟩) hHeld ?_
          rotate_left
          · intro w' hSw
            clear hSw
            go_simp
            first | done | with_reducible rfl
          simp only [Act.put, List.getElem_toArray, List.getElem_cons_succ, List.getElem_cons_zero, List.setIfInBounds_toArray, List.set_cons_zero, List.set_cons_succ]
          refine wpAnyH_take (i := 17) (v := ?_) rfl (by kernel_rfl) (by kernel_rfl) (by kernel_rfl) (fun _ _ _ h => h) (Or.inl ⟨by rfl, ?_⟩) hHeld ?_
          rotate_left
          · intro w' hSw
            clear hSw
            go_simp
            first | done | with_reducible rfl
          simp only [Act.put, List.getElem_toArray, List.getElem_cons_succ, List.getElem_cons_zero, List.setIfInBounds_toArray, List.set_cons_zero, List.set_cons_succ]
          refine wpAnyH_take (i := 18) (v := ?_) rfl (by kernel_rfl) (by kernel_rfl) (by kernel_rfl) (fun _ _ _ h => h) (Or.inl ⟨by rfl, ?_⟩) hHeld ?_
          rotate_left
          · intro w' hSw
            clear hSw
            go_simp
            first | done | with_reducible rfl
          simp only [Act.put, List.getElem_toArray, List.getElem_cons_succ, List.getElem_cons_zero, List.setIfInBounds_toArray, List.set_cons_zero, List.set_cons_succ]
          refine wpAnyH_take (i := 19) (v := ?_) rfl (by kernel_rfl) (by kernel_rfl) (by kernel_rfl) (fun _ _ _ h => h) (Or.inl ⟨by rfl, ?_⟩) hHeld ?_
          rotate_left
          · intro w' hSw
            have c2 := hSw.c2
            clear hSw
            go_simp
            first | done | with_reducible rfl
          simp only [Act.put, List.getElem_toArray, List.getElem_cons_succ, List.getElem_cons_zero, List.setIfInBounds_toArray, List.set_cons_zero, List.set_cons_succ]
          refine wpAnyH_take (i := 20) (v := ?_) rfl (by kernel_rfl) (by kernel_rfl) (by kernel_rfl) (fun _ _ _ h => h) (Or.inl ⟨by rfl, ?_⟩) hHeld ?_
          rotate_left
          · intro w' hSw
            clear hSw
            go_simp
            first | done | with_reducible rfl
          simp only [Act.put, List.getElem_toArray, List.getElem_cons_succ, List.getElem_cons_zero, List.setIfInBounds_toArray, List.set_cons_zero, List.set_cons_succ]
          refine wpAnyH_take (i := 21) (v := ?_) rfl (by kernel_rfl) (by kernel_rfl) (by kernel_rfl) (fun _ _ _ h => h) (Or.inl ⟨by rfl, ?_⟩) hHeld ?_
          rotate_left
          · intro w' hSw
            clear hSw
            go_simp
            first | done | with_reducible rfl
          simp only [Act.put, List.getElem_toArray, List.getElem_cons_succ, List.getElem_cons_zero, List.setIfInBounds_toArray, List.set_cons_zero, List.set_cons_succ]
          refine wpAnyH_take (i := 22) (v := ?_) rfl (by kernel_rfl) (by kernel_rfl) (by kernel_rfl) (fun _ _ _ h => h) (Or.inl ⟨by rfl, ?_⟩) hHeld ?_
          rotate_left
          · intro w' hSw
            have cg := hSw.cg
            clear hSw
            go_simp
            first | done | with_reducible rfl
          simp only [Act.put, List.getElem_toArray, List.getElem_cons_succ, List.getElem_cons_zero, List.setIfInBounds_toArray, List.set_cons_zero, List.set_cons_succ]
          refine wpAnyH_take (i := 23) (v := ?_) rfl (by kernel_rfl) (by kernel_rfl) (by kernel_rfl) (fun _ _ _ h => h) (Or.inl ⟨by rfl, ?_⟩) hHeld ?_
          rotate_left
          · intro w' hSw
            clear hSw
            go_simp
            first | done | with_reducible rfl
          simp only [Act.put, List.getElem_toArray, List.getElem_cons_succ, List.getElem_cons_zero, List.setIfInBounds_toArray, List.set_cons_zero, List.set_cons_succ]
          refine wpAnyH_take (i := 24) (v := ?_) rfl (by kernel_rfl) (by kernel_rfl) (by kernel_rfl) (fun _ _ _ h => h) (Or.inl ⟨by rfl, ?_⟩) hHeld ?_
          rotate_left
          · intro w' hSw
            clear hSw
            go_simp
            first | done | with_reducible rfl
          simp only [Act.put, List.getElem_toArray, List.getElem_cons_succ, List.getElem_cons_zero, List.setIfInBounds_toArray, List.set_cons_zero, List.set_cons_succ]
          refine wpAnyH_take (i := 25) (v := ?_) rfl (by kernel_rfl) (by kernel_rfl) (by kernel_rfl) (fun _ _ _ h => h) (Or.inl ⟨by rfl, ?_⟩) hHeld ?_
          rotate_left
          · intro w' hSw
            clear hSw
            go_simp
            first | done | with_reducible rfl
          simp only [Act.put, List.getElem_toArray, List.getElem_cons_succ, List.getElem_cons_zero, List.setIfInBounds_toArray, List.set_cons_zero, List.set_cons_succ]
          refine wpAnyH_take (i := 26) (v := ?_) rfl (by kernel_rfl) (by kernel_rfl) (by kernel_rfl) (fun _ _ _ h => h) (Or.inl ⟨by rfl, ?_⟩) hHeld ?_
          rotate_left
          · intro w' hSw
            have c1 := hSw.c1
            clear hSw
            go_simp
            first | done | with_reducible rfl
          simp only [Act.put, List.getElem_toArray, List.getElem_cons_succ, List.getElem_cons_zero, List.setIfInBounds_toArray, List.set_cons_zero, List.set_cons_succ]
          refine wpAnyH_take (i := 27) (v := (.bool (eg == now))) rfl (by kernel_rfl) (by kernel_rfl) (by kernel_rfl) (fun _ _ _ h => h) (Or.inl ⟨by rfl, ?_⟩) hHeld ?_
          · intro w' hSw
            clear hSw
            go_simp
            first | done | with_reducible rfl
          simp only [Act.put, List.getElem_toArray, List.getElem_cons_succ, List.getElem_cons_zero, List.setIfInBounds_toArray, List.set_cons_zero, List.set_cons_succ]
          refine wpAnyH_take (i := 28) (v := (.bool (eg == now))) rfl (by kernel_rfl) (by kernel_rfl) (by kernel_rfl) (fun _ _ _ h => h) (Or.inl ⟨by rfl, ?_⟩) hHeld ?_
          · intro w' hSw
            clear hSw
            go_simp
            first | done | with_reducible rfl
          simp only [Act.put, List.getElem_toArray, List.getElem_cons_succ, List.getElem_cons_zero, List.setIfInBounds_toArray, List.set_cons_zero, List.set_cons_succ]
          refine wpAnyH_done (by kernel_rfl) ?_ _
          rw [← HBe.out]
          clear HBe
          go_upto_region 13 with fail
          go_region
          go_upto_region 14 with fail
          go_region
          go_wp2
          go_roundg (marks (unm c1.es c1.hand))
          case measure => have := HG.out.2; omega
          case rel => exact ⟨_, HCm.out ▸ HG.out.1, rfl⟩
        | false =>
          have hs : fr c.now c1.es c1.hand = false := by rw [HFr.out]; exact hgo
          have hFin := HR.out.fin hs E k HKk.out L HX.out.2.1
          have HP : Hid (RpP S w (pv g) c h id (.returned (.tuple #[])) ((wy.drew.drew.setCells bl (k * 15) (rco (some E)).toList).drew.setCell ⟨g, 2, none⟩ (.int .i64 (((k + 1) % L : Nat) : Int)))) := by
            refine ⟨rfl, HMb.out.2.1.trans (hFin.1.mono HMb.out.2.2.2.1), ?_⟩
            rw [put_full HX.out.2.2.2.2 HX.out.2.2.2.1 HFi.out, ← HEE.out]
            exact hFin.2.carry fun b _ hS => ⟨HMb.out.2.2.2.1 b hS, rfl⟩
          have hMd : RcM S' wy.drew.drew g c1 bl cu := HMy.out.drew.drew
          have hEd : wy.drew.drew.heap[eb]? = some (.cells (rco (some E)) 58 (0, 0)) := HEy.out
          obtain ⟨cur', a1, a2⟩ := hMd.setAll (i := k) (by rw [HR.out.len, ← HX.out.2.1]; exact hkL) (some E)
          cases em with
          | false =>
            clear hgo
            have HHf := hid (hMd.hf hEd (L := L) (k := k) (by rw [HX.out.2.1]; exact HR.out.len) HKk.out.symm)
            have HHq := hid (a1.hf ((a2.block _ HMb.out.2.2.2.2).trans hEd) (L := L) (k := k) (by show (c1.es.set k (some E)).length = L; rw [List.length_set, HX.out.2.1]; exact HR.out.len) HKk.out.symm)
            have HTh : Hid (wy.drew.drew.there bl (k * 15) (rco (some E)).size) := by
              show World.there _ _ _ _
              rw [rco_size]; exact there_of hMd.hl (by rw [hMd.sz, HR.out.len, ← HX.out.2.1]; omega)
            have HZ6 := hid (a1.frz 2).1
            clear hFin hs hMd hEd a1 a2
            go_upto_region 12 with fail
            refine wp_region_held_drew (S := Hp g bl L now k k false eg eb (some E)) (by kernel_rfl) HHp.out (fun hHeld => ?_)
            refine wpAnyH_take (i := 0) (v := ?_) rfl (by kernel_rfl) (by kernel_rfl) (by kernel_rfl) (fun _ _ _ h => h) (Or.inl ⟨by rfl, ?_⟩) hHeld ?_
            rotate_left
            · intro w' hSw
              clear hSw
              go_simp
              first | done | with_reducible rfl
            simp only [Act.put, List.getElem_toArray, List.getElem_cons_zero, List.setIfInBounds_toArray, List.set_cons_zero, List.set_cons_succ]
            refine wpAnyH_take (i := 1) (v := ?_) rfl (by kernel_rfl) (by kernel_rfl) (by kernel_rfl) (fun _ _ _ h => h) (Or.inl ⟨by rfl, ?_⟩) hHeld ?_
            rotate_left
            · intro w' hSw
              clear hSw
              go_simp
              first | done | with_reducible rfl
            simp only [Act.put, List.getElem_toArray, List.getElem_cons_succ, List.getElem_cons_zero, List.setIfInBounds_toArray, List.set_cons_zero, List.set_cons_succ]
            refine wpAnyH_take (i := 2) (v := ?_) rfl (by kernel_rfl) (by kernel_rfl) (by kernel_rfl) (fun _ _ _ h => h) (Or.inl ⟨by rfl, ?_⟩) hHeld ?_
            rotate_left
            · intro w' hSw
              clear hSw
              go_simp
              first | done | with_reducible rfl
            simp only [Act.put, List.getElem_toArray, List.getElem_cons_succ, List.getElem_cons_zero, List.setIfInBounds_toArray, List.set_cons_zero, List.set_cons_succ]
            refine wpAnyH_take (i := 3) (v := ?_) rfl (by kernel_rfl) (by kernel_rfl) (by kernel_rfl) (fun _ _ _ h => h) (Or.inl ⟨by rfl, ?_⟩) hHeld ?_
            rotate_left
            · intro w' hSw
              have c0 := hSw.c0
              clear hSw
              go_simp
              first | done | with_reducible rfl
            simp only [Act.put, List.getElem_toArray, List.getElem_cons_succ, List.getElem_cons_zero, List.setIfInBounds_toArray, List.set_cons_zero, List.set_cons_succ]
            refine wpAnyH_take (i := 4) (v := ?_) rfl (by kernel_rfl) (by kernel_rfl) (by kernel_rfl) (fun _ _ _ h => h) (Or.inl ⟨by rfl, ?_⟩) hHeld ?_
            rotate_left
            · intro w' hSw
              clear hSw
              go_simp
              first | done | with_reducible rfl
            simp only [Act.put, List.getElem_toArray, List.getElem_cons_succ, List.getElem_cons_zero, List.setIfInBounds_toArray, List.set_cons_zero, List.set_cons_succ]
            refine wpAnyH_take (i := 5) (v := ?_) rfl (by kernel_rfl) (by kernel_rfl) (by kernel_rfl) (fun _ _ _ h => h) (Or.inl ⟨by rfl, ?_⟩) hHeld ?_
            rotate_left
            · intro w' hSw
              clear hSw
              go_simp
              first | done | with_reducible rfl
            simp only [Act.put, List.getElem_toArray, List.getElem_cons_succ, List.getElem_cons_zero, List.setIfInBounds_toArray, List.set_cons_zero, List.set_cons_succ]
            refine wpAnyH_take (i := 6) (v := ?_) rfl (by kernel_rfl) (by kernel_rfl) (by kernel_rfl) (fun _ _ _ h => h) (Or.inl ⟨by rfl, ?_⟩) hHeld ?_
            rotate_left
            · intro w' hSw
              clear hSw
              go_simp
              first | done | with_reducible rfl
            simp only [Act.put, List.getElem_toArray, List.getElem_cons_succ, List.getElem_cons_zero, List.setIfInBounds_toArray, List.set_cons_zero, List.set_cons_succ]
            refine wpAnyH_take (i := 7) (v := ?_) rfl (by kernel_rfl) (by kernel_rfl) (by kernel_rfl) (fun _ _ _ h => h) (Or.inl ⟨by rfl, ?_⟩) hHeld ?_
            rotate_left
            · intro w' hSw
              have c2 := hSw.c2
              clear hSw
              go_simp
              first | done | with_reducible rfl
            simp only [Act.put, List.getElem_toArray, List.getElem_cons_succ, List.getElem_cons_zero, List.setIfInBounds_toArray, List.set_cons_zero, List.set_cons_succ]
            refine wpAnyH_take (i := 8) (v := ?_) rfl (by kernel_rfl) (by kernel_rfl) (by kernel_rfl) (fun _ _ _ h => h) (Or.inl ⟨by rfl, ?_⟩) hHeld ?_
            rotate_left
            · intro w' hSw
              clear hSw
              go_simp
              first | done | with_reducible rfl
            simp only [Act.put, List.getElem_toArray, List.getElem_cons_succ, List.getElem_cons_zero, List.setIfInBounds_toArray, List.set_cons_zero, List.set_cons_succ]
            refine wpAnyH_take (i := 9) (v := ?_) rfl (by kernel_rfl) (by kernel_rfl) (by kernel_rfl) (fun _ _ _ h => h) (Or.inl ⟨by rfl, ?_⟩) hHeld ?_
            rotate_left
            · intro w' hSw
              clear hSw
              go_simp
              first | done | with_reducible rfl
            simp only [Act.put, List.getElem_toArray, List.getElem_cons_succ, List.getElem_cons_zero, List.setIfInBounds_toArray, List.set_cons_zero, List.set_cons_succ]
            refine wpAnyH_take (i := 10) (v := (.bool false)) rfl (by kernel_rfl) (by kernel_rfl) (by kernel_rfl) (fun _ _ _ h => h) (Or.inl ⟨by rfl, ?_⟩) hHeld ?_
            · intro w' hSw
              have cm := hSw.cm
              clear hSw
              go_simp
              first | done | with_reducible rfl
            simp only [Act.put, List.getElem_toArray, List.getElem_cons_succ, List.getElem_cons_zero, List.setIfInBounds_toArray, List.set_cons_zero, List.set_cons_succ]
            refine wpAnyH_take (i := 11) (v := (.bool false)) rfl (by kernel_rfl) (by kernel_rfl) (by kernel_rfl) (fun _ _ _ h => h) (Or.inl ⟨by rfl, ?_⟩) hHeld ?_
            · intro w' hSw
              clear hSw
              go_simp
              first | done | with_reducible rfl
            simp only [Act.put, List.getElem_toArray, List.getElem_cons_succ, List.getElem_cons_zero, List.setIfInBounds_toArray, List.set_cons_zero, List.set_cons_succ]
            refine wpAnyH_take (i := 12) (v := undef) rfl (by kernel_rfl) (by kernel_rfl) (by kernel_rfl) (fun _ _ _ h => h) (Or.inr ⟨by rfl, rfl⟩) hHeld ?_
            simp only [Act.put, List.getElem_toArray, List.getElem_cons_succ, List.getElem_cons_zero, List.setIfInBounds_toArray, List.set_cons_zero, List.set_cons_succ]
            refine wpAnyH_take (i := 13) (v := undef) rfl (by kernel_rfl) (by kernel_rfl) (by kernel_rfl) (fun _ _ _ h => h) (Or.inr ⟨by rfl, rfl⟩) hHeld ?_
            simp only [Act.put, List.getElem_toArray, List.getElem_cons_succ, List.getElem_cons_zero, List.setIfInBounds_toArray, List.set_cons_zero, List.set_cons_succ]
            refine wpAnyH_take (i := 14) (v := undef) rfl (by kernel_rfl) (by kernel_rfl) (by kernel_rfl) (fun _ _ _ h => h) (Or.inr ⟨by rfl, rfl⟩) hHeld ?_
            simp only [Act.put, List.getElem_toArray, List.getElem_cons_succ, List.getElem_cons_zero, List.setIfInBounds_toArray, List.set_cons_zero, List.set_cons_succ]
            refine wpAnyH_take (i := 15) (v := undef) rfl (by kernel_rfl) (by kernel_rfl) (by kernel_rfl) (fun _ _ _ h => h) (Or.inr ⟨by rfl, rfl⟩) hHeld ?_
            simp only [Act.put, List.getElem_toArray, List.getElem_cons_succ, List.getElem_cons_zero, List.setIfInBounds_toArray, List.set_cons_zero, List.set_cons_succ]
            refine wpAnyH_take (i := 16) (v := undef) rfl (by kernel_rfl) (by kernel_rfl) (by kernel_rfl) (fun _ _ _ h => h) (Or.inr ⟨by rfl, rfl⟩) hHeld ?_
            simp only [Act.put, List.getElem_toArray, List.getElem_cons_succ, List.getElem_cons_zero, List.setIfInBounds_toArray, List.set_cons_zero, List.set_cons_succ]
            refine wpAnyH_take (i := 17) (v := undef) rfl (by kernel_rfl) (by kernel_rfl) (by kernel_rfl) (fun _ _ _ h => h) (Or.inr ⟨by rfl, rfl⟩) hHeld ?_
            simp only [Act.put, List.getElem_toArray, List.getElem_cons_succ, List.getElem_cons_zero, List.setIfInBounds_toArray, List.set_cons_zero, List.set_cons_succ]
            refine wpAnyH_take (i := 18) (v := undef) rfl (by kernel_rfl) (by kernel_rfl) (by kernel_rfl) (fun _ _ _ h => h) (Or.inr ⟨by rfl, rfl⟩) hHeld ?_
            simp only [Act.put, List.getElem_toArray, List.getElem_cons_succ, List.getElem_cons_zero, List.setIfInBounds_toArray, List.set_cons_zero, List.set_cons_succ]
            refine wpAnyH_take (i := 19) (v := undef) rfl (by kernel_rfl) (by kernel_rfl) (by kernel_rfl) (fun _ _ _ h => h) (Or.inr ⟨by rfl, rfl⟩) hHeld ?_
            simp only [Act.put, List.getElem_toArray, List.getElem_cons_succ, List.getElem_cons_zero, List.setIfInBounds_toArray, List.set_cons_zero, List.set_cons_succ]
            refine wpAnyH_take (i := 20) (v := undef) rfl (by kernel_rfl) (by kernel_rfl) (by kernel_rfl) (fun _ _ _ h => h) (Or.inr ⟨by rfl, rfl⟩) hHeld ?_
            simp only [Act.put, List.getElem_toArray, List.getElem_cons_succ, List.getElem_cons_zero, List.setIfInBounds_toArray, List.set_cons_zero, List.set_cons_succ]
            refine wpAnyH_take (i := 21) (v := undef) rfl (by kernel_rfl) (by kernel_rfl) (by kernel_rfl) (fun _ _ _ h => h) (Or.inr ⟨by rfl, rfl⟩) hHeld ?_
            simp only [Act.put, List.getElem_toArray, List.getElem_cons_succ, List.getElem_cons_zero, List.setIfInBounds_toArray, List.set_cons_zero, List.set_cons_succ]
            refine wpAnyH_take (i := 22) (v := undef) rfl (by kernel_rfl) (by kernel_rfl) (by kernel_rfl) (fun _ _ _ h => h) (Or.inr ⟨by rfl, rfl⟩) hHeld ?_
            simp only [Act.put, List.getElem_toArray, List.getElem_cons_succ, List.getElem_cons_zero, List.setIfInBounds_toArray, List.set_cons_zero, List.set_cons_succ]
            refine wpAnyH_take (i := 23) (v := undef) rfl (by kernel_rfl) (by kernel_rfl) (by kernel_rfl) (fun _ _ _ h => h) (Or.inr ⟨by rfl, rfl⟩) hHeld ?_
            simp only [Act.put, List.getElem_toArray, List.getElem_cons_succ, List.getElem_cons_zero, List.setIfInBounds_toArray, List.set_cons_zero, List.set_cons_succ]
            refine wpAnyH_take (i := 24) (v := undef) rfl (by kernel_rfl) (by kernel_rfl) (by kernel_rfl) (fun _ _ _ h => h) (Or.inr ⟨by rfl, rfl⟩) hHeld ?_
            simp only [Act.put, List.getElem_toArray, List.getElem_cons_succ, List.getElem_cons_zero, List.setIfInBounds_toArray, List.set_cons_zero, List.set_cons_succ]
            refine wpAnyH_take (i := 25) (v := undef) rfl (by kernel_rfl) (by kernel_rfl) (by kernel_rfl) (fun _ _ _ h => h) (Or.inr ⟨by rfl, rfl⟩) hHeld ?_
            simp only [Act.put, List.getElem_toArray, List.getElem_cons_succ, List.getElem_cons_zero, List.setIfInBounds_toArray, List.set_cons_zero, List.set_cons_succ]
            refine wpAnyH_take (i := 26) (v := undef) rfl (by kernel_rfl) (by kernel_rfl) (by kernel_rfl) (fun _ _ _ h => h) (Or.inr ⟨by rfl, rfl⟩) hHeld ?_
            simp only [Act.put, List.getElem_toArray, List.getElem_cons_succ, List.getElem_cons_zero, List.setIfInBounds_toArray, List.set_cons_zero, List.set_cons_succ]
            refine wpAnyH_take (i := 27) (v := undef) rfl (by kernel_rfl) (by kernel_rfl) (by kernel_rfl) (fun _ _ _ h => h) (Or.inr ⟨by rfl, rfl⟩) hHeld ?_
            simp only [Act.put, List.getElem_toArray, List.getElem_cons_succ, List.getElem_cons_zero, List.setIfInBounds_toArray, List.set_cons_zero, List.set_cons_succ]
            refine wpAnyH_take (i := 28) (v := (.bool false)) rfl (by kernel_rfl) (by kernel_rfl) (by kernel_rfl) (fun _ _ _ h => h) (Or.inl ⟨by rfl, ?_⟩) hHeld ?_
            · intro w' hSw
              clear hSw
              go_simp
              first | done | with_reducible rfl
            simp only [Act.put, List.getElem_toArray, List.getElem_cons_succ, List.getElem_cons_zero, List.setIfInBounds_toArray, List.set_cons_zero, List.set_cons_succ]
            refine wpAnyH_done (by kernel_rfl) ?_ _
            go_upto_region 15 with fail
            refine wp_region_held_drew (S := Hf g bl L k eb (some E)) (by kernel_rfl) HHf.out (fun hHeld => ?_)
            refine wpAnyH_take (i := 0) (v := ?_) rfl (by kernel_rfl) (by kernel_rfl) (by kernel_rfl) (fun _ _ _ h => h) (Or.inl ⟨by rfl, ?_⟩) hHeld ?_
            rotate_left
            · intro w' hSw
              clear hSw
              go_simp
              first | done | with_reducible rfl
            simp only [Act.put, List.getElem_toArray, List.getElem_cons_zero, List.setIfInBounds_toArray, List.set_cons_zero, List.set_cons_succ]
            refine wpAnyH_take (i := 1) (v := ?_) rfl (by kernel_rfl) (by kernel_rfl) (by kernel_rfl) (fun _ _ _ h => h) (Or.inl ⟨by rfl, ?_⟩) hHeld ?_
            rotate_left
            · intro w' hSw
              clear hSw
              go_simp
              first | done | with_reducible rfl
            simp only [Act.put, List.getElem_toArray, List.getElem_cons_succ, List.getElem_cons_zero, List.setIfInBounds_toArray, List.set_cons_zero, List.set_cons_succ]
            refine wpAnyH_take (i := 2) (v := ?_) rfl (by kernel_rfl) (by kernel_rfl) (by kernel_rfl) (fun _ _ _ h => h) (Or.inl ⟨by rfl, ?_⟩) hHeld ?_
            rotate_left
            · intro w' hSw
              clear hSw
              go_simp
              first | done | with_reducible rfl
            simp only [Act.put, List.getElem_toArray, List.getElem_cons_succ, List.getElem_cons_zero, List.setIfInBounds_toArray, List.set_cons_zero, List.set_cons_succ]
            refine wpAnyH_take (i := 3) (v := ?_) rfl (by kernel_rfl) (by kernel_rfl) (by kernel_rfl) (fun _ _ _ h => h) (Or.inl ⟨by rfl, ?_⟩) hHeld ?_
            rotate_left
            · intro w' hSw
              have c0 := hSw.c0
              clear hSw
              go_simp
              first | done | with_reducible rfl
            simp only [Act.put, List.getElem_toArray, List.getElem_cons_succ, List.getElem_cons_zero, List.setIfInBounds_toArray, List.set_cons_zero, List.set_cons_succ]
            refine wpAnyH_take (i := 4) (v := ?_) rfl (by kernel_rfl) (by kernel_rfl) (by kernel_rfl) (fun _ _ _ h => h) (Or.inl ⟨by rfl, ?_⟩) hHeld ?_
            rotate_left
            · intro w' hSw
              clear hSw
              go_simp
              first | done | with_reducible rfl
            simp only [Act.put, List.getElem_toArray, List.getElem_cons_succ, List.getElem_cons_zero, List.setIfInBounds_toArray, List.set_cons_zero, List.set_cons_succ]
            refine wpAnyH_take (i := 5) (v := ?_) rfl (by kernel_rfl) (by kernel_rfl) (by kernel_rfl) (fun _ _ _ h => h) (Or.inl ⟨by rfl, ?_⟩) hHeld ?_
            rotate_left
            · intro w' hSw
              clear hSw
              go_simp
              first | done | with_reducible rfl
            simp only [Act.put, List.getElem_toArray, List.getElem_cons_succ, List.getElem_cons_zero, List.setIfInBounds_toArray, List.set_cons_zero, List.set_cons_succ]
            refine wpAnyH_take (i := 6) (v := ?_) rfl (by kernel_rfl) (by kernel_rfl) (by kernel_rfl) (fun _ _ _ h => h) (Or.inl ⟨by rfl, ?_⟩) hHeld ?_
            rotate_left
            · intro w' hSw
              clear hSw
              go_simp
              first | done | with_reducible rfl
            simp only [Act.put, List.getElem_toArray, List.getElem_cons_succ, List.getElem_cons_zero, List.setIfInBounds_toArray, List.set_cons_zero, List.set_cons_succ]
            refine wpAnyH_take (i := 7) (v := ?_) rfl (by kernel_rfl) (by kernel_rfl) (by kernel_rfl) (fun _ _ _ h => h) (Or.inl ⟨by rfl, ?_⟩) hHeld ?_
            rotate_left
            · intro w' hSw
              have c2 := hSw.c2
              clear hSw
              go_simp
              first | done | with_reducible rfl
            simp only [Act.put, List.getElem_toArray, List.getElem_cons_succ, List.getElem_cons_zero, List.setIfInBounds_toArray, List.set_cons_zero, List.set_cons_succ]
            refine wpAnyH_take (i := 8) (v := (.agg (rco (some E)))) rfl (by kernel_rfl) (by kernel_rfl) (by kernel_rfl) (fun _ _ _ h => h) (Or.inl ⟨by rfl, ?_⟩) hHeld ?_
            · intro w' hSw
              exact runLd 58 (.tmp 7) rfl eb 0 rfl (rco (some E)) _ hSw.re Try.underlying58 rfl (sizeRE _)
            simp only [Act.put, List.getElem_toArray, List.getElem_cons_succ, List.getElem_cons_zero, List.setIfInBounds_toArray, List.set_cons_zero, List.set_cons_succ]
            refine wpAnyH_take (i := 9) (v := ?_) rfl (by kernel_rfl) (by kernel_rfl) (by kernel_rfl) (fun _ _ _ h => h) (Or.inl ⟨by rfl, ?_⟩) hHeld ?_
            rotate_left
            · intro w' hSw
              clear hSw
              go_simp
              first | done | with_reducible rfl
            simp only [Act.put, List.getElem_toArray, List.getElem_cons_succ, List.getElem_cons_zero, List.setIfInBounds_toArray, List.set_cons_zero, List.set_cons_succ]
            refine ready_stM 10 _ (by kernel_rfl) rfl 58 (.tmp 133) (.tmp 132) rfl rfl bl (k * 15) (rco (some E)) (by simp [Act.eval]) rfl HTh.out (sizeRE _) (rco_one _) ?_
            refine ⟨HHq.out, ?_⟩
            simp only [Act.put, List.getElem_toArray, List.getElem_cons_succ, List.getElem_cons_zero]
            obtain ⟨W9, hW9⟩ : ∃ W9, W9 = wy.drew.drew.setCells bl (k * 15) (rco (some E)).toList := ⟨_, rfl⟩
            rw [← hW9] at HP HHq HZ6
            rw [← hW9]
            clear hW9
            refine wpAnyH_done (by kernel_rfl) ?_ _
            have y0 := HHq.out.c0
            have y2 := HHq.out.c2
            have y6 := HZ6.out
            go_upto_region 16 with fail
            go_region
            go_wp2
            first | go_end0 | refine bodyPost_ret (results_none rfl _ _ _) rfl ?_
            exact HCm.out ▸ HP.out
          | true =>
            obtain rfl : be = false := by simpa using hgo
            clear hgo
            have HHf := hid (hMd.hf hEd (L := L) (k := k) (by rw [HX.out.2.1]; exact HR.out.len) HKk.out.symm)
            have HHq := hid (a1.hf ((a2.block _ HMb.out.2.2.2.2).trans hEd) (L := L) (k := k) (by show (c1.es.set k (some E)).length = L; rw [List.length_set, HX.out.2.1]; exact HR.out.len) HKk.out.symm)
            have HTh : Hid (wy.drew.drew.there bl (k * 15) (rco (some E)).size) := by
              show World.there _ _ _ _
              rw [rco_size]; exact there_of hMd.hl (by rw [hMd.sz, HR.out.len, ← HX.out.2.1]; omega)
            have HZ6 := hid (a1.frz 2).1
            clear hFin hs hMd hEd a1 a2
            go_upto_region 12 with fail
            refine wp_region_held_drew (S := Hp g bl L now k k true eg eb (some E)) (by kernel_rfl) HHp.out (fun hHeld => ?_)
            refine wpAnyH_take (i := 0) (v := ?_) rfl (by kernel_rfl) (by kernel_rfl) (by kernel_rfl) (fun _ _ _ h => h) (Or.inl ⟨by rfl, ?_⟩) hHeld ?_
            rotate_left
            · intro w' hSw
              clear hSw
              go_simp
              first | done | with_reducible rfl
            simp only [Act.put, List.getElem_toArray, List.getElem_cons_zero, List.setIfInBounds_toArray, List.set_cons_zero, List.set_cons_succ]
            refine wpAnyH_take (i := 1) (v := ?_) rfl (by kernel_rfl) (by kernel_rfl) (by kernel_rfl) (fun _ _ _ h => h) (Or.inl ⟨by rfl, ?_⟩) hHeld ?_
            rotate_left
            · intro w' hSw
              clear hSw
              go_simp
              first | done | with_reducible rfl
            simp only [Act.put, List.getElem_toArray, List.getElem_cons_succ, List.getElem_cons_zero, List.setIfInBounds_toArray, List.set_cons_zero, List.set_cons_succ]
            refine wpAnyH_take (i := 2) (v := ?_) rfl (by kernel_rfl) (by kernel_rfl) (by kernel_rfl) (fun _ _ _ h => h) (Or.inl ⟨by rfl, ?_⟩) hHeld ?_
            rotate_left
            · intro w' hSw
              clear hSw
              go_simp
              first | done | with_reducible rfl
            simp only [Act.put, List.getElem_toArray, List.getElem_cons_succ, List.getElem_cons_zero, List.setIfInBounds_toArray, List.set_cons_zero, List.set_cons_succ]
            refine wpAnyH_take (i := 3) (v := ?_) rfl (by kernel_rfl) (by kernel_rfl) (by kernel_rfl) (fun _ _ _ h => h) (Or.inl ⟨by rfl, ?_⟩) hHeld ?_
            rotate_left
            · intro w' hSw
              have c0 := hSw.c0
              clear hSw
              go_simp
              first | done | with_reducible rfl
            simp only [Act.put, List.getElem_toArray, List.getElem_cons_succ, List.getElem_cons_zero, List.setIfInBounds_toArray, List.set_cons_zero, List.set_cons_succ]
            refine wpAnyH_take (i := 4) (v := ?_) rfl (by kernel_rfl) (by kernel_rfl) (by kernel_rfl) (fun _ _ _ h => h) (Or.inl ⟨by rfl, ?_⟩) hHeld ?_
            rotate_left
            · intro w' hSw
              clear hSw
              go_simp
              first | done | with_reducible rfl
            simp only [Act.put, List.getElem_toArray, List.getElem_cons_succ, List.getElem_cons_zero, List.setIfInBounds_toArray, List.set_cons_zero, List.set_cons_succ]
            refine wpAnyH_take (i := 5) (v := ?_) rfl (by kernel_rfl) (by kernel_rfl) (by kernel_rfl) (fun _ _ _ h => h) (Or.inl ⟨by rfl, ?_⟩) hHeld ?_
            rotate_left
            · intro w' hSw
              clear hSw
              go_simp
              first | done | with_reducible rfl
            simp only [Act.put, List.getElem_toArray, List.getElem_cons_succ, List.getElem_cons_zero, List.setIfInBounds_toArray, List.set_cons_zero, List.set_cons_succ]
            refine wpAnyH_take (i := 6) (v := ?_) rfl (by kernel_rfl) (by kernel_rfl) (by kernel_rfl) (fun _ _ _ h => h) (Or.inl ⟨by rfl, ?_⟩) hHeld ?_
            rotate_left
            · intro w' hSw
              clear hSw
              go_simp
              first | done | with_reducible rfl
            simp only [Act.put, List.getElem_toArray, List.getElem_cons_succ, List.getElem_cons_zero, List.setIfInBounds_toArray, List.set_cons_zero, List.set_cons_succ]
            refine wpAnyH_take (i := 7) (v := ?_) rfl (by kernel_rfl) (by kernel_rfl) (by kernel_rfl) (fun _ _ _ h => h) (Or.inl ⟨by rfl, ?_⟩) hHeld ?_
            rotate_left
            · intro w' hSw
              have c2 := hSw.c2
              clear hSw
              go_simp
              first | done | with_reducible rfl
            simp only [Act.put, List.getElem_toArray, List.getElem_cons_succ, List.getElem_cons_zero, List.setIfInBounds_toArray, List.set_cons_zero, List.set_cons_succ]
            refine wpAnyH_take (i := 8) (v := ?_) rfl (by kernel_rfl) (by kernel_rfl) (by kernel_rfl) (fun _ _ _ h => h) (Or.inl ⟨by rfl, ?_⟩) hHeld ?_
            rotate_left
            · intro w' hSw
              clear hSw
              go_simp
              first | done | with_reducible rfl
            simp only [Act.put, List.getElem_toArray, List.getElem_cons_succ, List.getElem_cons_zero, List.setIfInBounds_toArray, List.set_cons_zero, List.set_cons_succ]
            refine wpAnyH_take (i := 9) (v := ?_) rfl (by kernel_rfl) (by kernel_rfl) (by kernel_rfl) (fun _ _ _ h => h) (Or.inl ⟨by rfl, ?_⟩) hHeld ?_
            rotate_left
            · intro w' hSw
              clear hSw
              go_simp
              first | done | with_reducible rfl
            simp only [Act.put, List.getElem_toArray, List.getElem_cons_succ, List.getElem_cons_zero, List.setIfInBounds_toArray, List.set_cons_zero, List.set_cons_succ]
            refine wpAnyH_take (i := 10) (v := (.bool true)) rfl (by kernel_rfl) (by kernel_rfl) (by kernel_rfl) (fun _ _ _ h => h) (Or.inl ⟨by rfl, ?_⟩) hHeld ?_
            · intro w' hSw
              have cm := hSw.cm
              clear hSw
              go_simp
              first | done | with_reducible rfl
            simp only [Act.put, List.getElem_toArray, List.getElem_cons_succ, List.getElem_cons_zero, List.setIfInBounds_toArray, List.set_cons_zero, List.set_cons_succ]
            refine wpAnyH_take (i := 11) (v := (.bool true)) rfl (by kernel_rfl) (by kernel_rfl) (by kernel_rfl) (fun _ _ _ h => h) (Or.inl ⟨by rfl, ?_⟩) hHeld ?_
            · intro w' hSw
              clear hSw
              go_simp
              first | done | with_reducible rfl
            simp only [Act.put, List.getElem_toArray, List.getElem_cons_succ, List.getElem_cons_zero, List.setIfInBounds_toArray, List.set_cons_zero, List.set_cons_succ]
            refine wpAnyH_take (i := 12) (v := ?_) rfl (by kernel_rfl) (by kernel_rfl) (by kernel_rfl) (fun _ _ _ h => h) (Or.inl ⟨by rfl, ?_⟩) hHeld ?_
            rotate_left
            · intro w' hSw
              clear hSw
              go_simp
              first | done | with_reducible rfl
            simp only [Act.put, List.getElem_toArray, List.getElem_cons_succ, List.getElem_cons_zero, List.setIfInBounds_toArray, List.set_cons_zero, List.set_cons_succ]
            refine wpAnyH_take (i := 13) (v := ?_) rfl (by kernel_rfl) (by kernel_rfl) (by kernel_rfl) (fun _ _ _ h => h) (Or.inl ⟨by rfl, ?_⟩) hHeld ?_
            rotate_left
            · intro w' hSw
              clear hSw
              go_simp
              first | done | with_reducible rfl
            simp only [Act.put, List.getElem_toArray, List.getElem_cons_succ, List.getElem_cons_zero, List.setIfInBounds_toArray, List.set_cons_zero, List.set_cons_succ]
            refine wpAnyH_take (i := 14) (v := ?_) rfl (by kernel_rfl) (by kernel_rfl) (by kernel_rfl) (fun _ _ _ h => h) (Or.inl ⟨by rfl, ?_⟩) hHeld ?_
            rotate_left
            · intro w' hSw
              clear hSw
              go_simp
              first | done | with_reducible rfl
            simp only [Act.put, List.getElem_toArray, List.getElem_cons_succ, List.getElem_cons_zero, List.setIfInBounds_toArray, List.set_cons_zero, List.set_cons_succ]
            refine wpAnyH_take (i := 15) (v := ?_) rfl (by kernel_rfl) (by kernel_rfl) (by kernel_rfl) (fun _ _ _ h => h) (Or.inl ⟨by rfl, ?_⟩) hHeld ?_
            rotate_left
            · intro w' hSw
              have c0 := hSw.c0
              clear hSw
              go_simp
              first | done | with_reducible rfl
            simp only [Act.put, List.getElem_toArray, List.getElem_cons_succ, List.getElem_cons_zero, List.setIfInBounds_toArray, List.set_cons_zero, List.set_cons_succ]
            refine wpAnyH_take (i := 16) (v := ?_) rfl (by kernel_rfl) (by kernel_rfl) (by kernel_rfl) (fun _ _ _ h => h) (Or.inl ⟨by rfl, ?_⟩) hHeld ?_
            rotate_left
            · intro w' hSw
              clear hSw
              go_simp
              first | done | with_reducible rfl
            simp only [Act.put, List.getElem_toArray, List.getElem_cons_succ, List.getElem_cons_zero, List.setIfInBounds_toArray, List.set_cons_zero, List.set_cons_succ]
            refine wpAnyH_take (i := 17) (v := ?_) rfl (by kernel_rfl) (by kernel_rfl) (by kernel_rfl) (fun _ _ _ h => h) (Or.inl ⟨by rfl, ?_⟩) hHeld ?_
            rotate_left
            · intro w' hSw
              clear hSw
              go_simp
              first | done | with_reducible rfl
            simp only [Act.put, List.getElem_toArray, List.getElem_cons_succ, List.getElem_cons_zero, List.setIfInBounds_toArray, List.set_cons_zero, List.set_cons_succ]
            refine wpAnyH_take (i := 18) (v := ?_) rfl (by kernel_rfl) (by kernel_rfl) (by kernel_rfl) (fun _ _ _ h => h) (Or.inl ⟨by rfl, ?_⟩) hHeld ?_
            rotate_left
            · intro w' hSw
              clear hSw
              go_simp
              first | done | with_reducible rfl
            simp only [Act.put, List.getElem_toArray, List.getElem_cons_succ, List.getElem_cons_zero, List.setIfInBounds_toArray, List.set_cons_zero, List.set_cons_succ]
            refine wpAnyH_take (i := 19) (v := ?_) rfl (by kernel_rfl) (by kernel_rfl) (by kernel_rfl) (fun _ _ _ h => h) (Or.inl ⟨by rfl, ?_⟩) hHeld ?_
            rotate_left
            · intro w' hSw
              have c2 := hSw.c2
              clear hSw
              go_simp
              first | done | with_reducible rfl
            simp only [Act.put, List.getElem_toArray, List.getElem_cons_succ, List.getElem_cons_zero, List.setIfInBounds_toArray, List.set_cons_zero, List.set_cons_succ]
            refine wpAnyH_take (i := 20) (v := ?_) rfl (by kernel_rfl) (by kernel_rfl) (by kernel_rfl) (fun _ _ _ h => h) (Or.inl ⟨by rfl, ?_⟩) hHeld ?_
            rotate_left
            · intro w' hSw
              clear hSw
              go_simp
              first | done | with_reducible rfl
            simp only [Act.put, List.getElem_toArray, List.getElem_cons_succ, List.getElem_cons_zero, List.setIfInBounds_toArray, List.set_cons_zero, List.set_cons_succ]
            refine wpAnyH_take (i := 21) (v := ?_) rfl (by kernel_rfl) (by kernel_rfl) (by kernel_rfl) (fun _ _ _ h => h) (Or.inl ⟨by rfl, ?_⟩) hHeld ?_
            rotate_left
            · intro w' hSw
              clear hSw
              go_simp
              first | done | with_reducible rfl
            simp only [Act.put, List.getElem_toArray, List.getElem_cons_succ, List.getElem_cons_zero, List.setIfInBounds_toArray, List.set_cons_zero, List.set_cons_succ]
            refine wpAnyH_take (i := 22) (v := ?_) rfl (by kernel_rfl) (by kernel_rfl) (by kernel_rfl) (fun _ _ _ h => h) (Or.inl ⟨by rfl, ?_⟩) hHeld ?_
            rotate_left
            · intro w' hSw
              have cg := hSw.cg
              clear hSw
              go_simp
              first | done | with_reducible rfl
            simp only [Act.put, List.getElem_toArray, List.getElem_cons_succ, List.getElem_cons_zero, List.setIfInBounds_toArray, List.set_cons_zero, List.set_cons_succ]
            refine wpAnyH_take (i := 23) (v := ?_) rfl (by kernel_rfl) (by kernel_rfl) (by kernel_rfl) (fun _ _ _ h => h) (Or.inl ⟨by rfl, ?_⟩) hHeld ?_
            rotate_left
            · intro w' hSw
              clear hSw
              go_simp
              first | done | with_reducible rfl
            simp only [Act.put, List.getElem_toArray, List.getElem_cons_succ, List.getElem_cons_zero, List.setIfInBounds_toArray, List.set_cons_zero, List.set_cons_succ]
            refine wpAnyH_take (i := 24) (v := ?_) rfl (by kernel_rfl) (by kernel_rfl) (by kernel_rfl) (fun _ _ _ h => h) (Or.inl ⟨by rfl, ?_⟩) hHeld ?_
            rotate_left
            · intro w' hSw
              clear hSw
              go_simp
              first | done | with_reducible rfl
            simp only [Act.put, List.getElem_toArray, List.getElem_cons_succ, List.getElem_cons_zero, List.setIfInBounds_toArray, List.set_cons_zero, List.set_cons_succ]
            refine wpAnyH_take (i := 25) (v := ?_) rfl (by kernel_rfl) (by kernel_rfl) (by kernel_rfl) (fun _ _ _ h => h) (Or.inl ⟨by rfl, ?_⟩) hHeld ?_
            rotate_left
            · intro w' hSw
              clear hSw
              go_simp
              first | done | with_reducible rfl
            simp only [Act.put, List.getElem_toArray, List.getElem_cons_succ, List.getElem_cons_zero, List.setIfInBounds_toArray, List.set_cons_zero, List.set_cons_succ]
            refine wpAnyH_take (i := 26) (v := ?_) rfl (by kernel_rfl) (by kernel_rfl) (by kernel_rfl) (fun _ _ _ h => h) (Or.inl ⟨by rfl, ?_⟩) hHeld ?_
            rotate_left
            · intro w' hSw
              have c1 := hSw.c1
              clear hSw
              go_simp
              first | done | with_reducible rfl
            simp only [Act.put, List.getElem_toArray, List.getElem_cons_succ, List.getElem_cons_zero, List.setIfInBounds_toArray, List.set_cons_zero, List.set_cons_succ]
            refine wpAnyH_take (i := 27) (v := (.bool (eg == now))) rfl (by kernel_rfl) (by kernel_rfl) (by kernel_rfl) (fun _ _ _ h => h) (Or.inl ⟨by rfl, ?_⟩) hHeld ?_
            · intro w' hSw
              clear hSw
              go_simp
              first | done | with_reducible rfl
            simp only [Act.put, List.getElem_toArray, List.getElem_cons_succ, List.getElem_cons_zero, List.setIfInBounds_toArray, List.set_cons_zero, List.set_cons_succ]
            refine wpAnyH_take (i := 28) (v := (.bool (eg == now))) rfl (by kernel_rfl) (by kernel_rfl) (by kernel_rfl) (fun _ _ _ h => h) (Or.inl ⟨by rfl, ?_⟩) hHeld ?_
            · intro w' hSw
              clear hSw
              go_simp
              first | done | with_reducible rfl
            simp only [Act.put, List.getElem_toArray, List.getElem_cons_succ, List.getElem_cons_zero, List.setIfInBounds_toArray, List.set_cons_zero, List.set_cons_succ]
            refine wpAnyH_done (by kernel_rfl) ?_ _
            rw [← HBe.out]
            clear HBe
            go_upto_region 15 with fail
            refine wp_region_held_drew (S := Hf g bl L k eb (some E)) (by kernel_rfl) HHf.out (fun hHeld => ?_)
            refine wpAnyH_take (i := 0) (v := ?_) rfl (by kernel_rfl) (by kernel_rfl) (by kernel_rfl) (fun _ _ _ h => h) (Or.inl ⟨by rfl, ?_⟩) hHeld ?_
            rotate_left
            · intro w' hSw
              clear hSw
              go_simp
              first | done | with_reducible rfl
            simp only [Act.put, List.getElem_toArray, List.getElem_cons_zero, List.setIfInBounds_toArray, List.set_cons_zero, List.set_cons_succ]
            refine wpAnyH_take (i := 1) (v := ?_) rfl (by kernel_rfl) (by kernel_rfl) (by kernel_rfl) (fun _ _ _ h => h) (Or.inl ⟨by rfl, ?_⟩) hHeld ?_
            rotate_left
            · intro w' hSw
              clear hSw
              go_simp
              first | done | with_reducible rfl
            simp only [Act.put, List.getElem_toArray, List.getElem_cons_succ, List.getElem_cons_zero, List.setIfInBounds_toArray, List.set_cons_zero, List.set_cons_succ]
            refine wpAnyH_take (i := 2) (v := ?_) rfl (by kernel_rfl) (by kernel_rfl) (by kernel_rfl) (fun _ _ _ h => h) (Or.inl ⟨by rfl, ?_⟩) hHeld ?_
            rotate_left
            · intro w' hSw
              clear hSw
              go_simp
              first | done | with_reducible rfl
            simp only [Act.put, List.getElem_toArray, List.getElem_cons_succ, List.getElem_cons_zero, List.setIfInBounds_toArray, List.set_cons_zero, List.set_cons_succ]
            refine wpAnyH_take (i := 3) (v := ?_) rfl (by kernel_rfl) (by kernel_rfl) (by kernel_rfl) (fun _ _ _ h => h) (Or.inl ⟨by rfl, ?_⟩) hHeld ?_
            rotate_left
            · intro w' hSw
              have c0 := hSw.c0
              clear hSw
              go_simp
              first | done | with_reducible rfl
            simp only [Act.put, List.getElem_toArray, List.getElem_cons_succ, List.getElem_cons_zero, List.setIfInBounds_toArray, List.set_cons_zero, List.set_cons_succ]
            refine wpAnyH_take (i := 4) (v := ?_) rfl (by kernel_rfl) (by kernel_rfl) (by kernel_rfl) (fun _ _ _ h => h) (Or.inl ⟨by rfl, ?_⟩) hHeld ?_
            rotate_left
            · intro w' hSw
              clear hSw
              go_simp
              first | done | with_reducible rfl
            simp only [Act.put, List.getElem_toArray, List.getElem_cons_succ, List.getElem_cons_zero, List.setIfInBounds_toArray, List.set_cons_zero, List.set_cons_succ]
            refine wpAnyH_take (i := 5) (v := ?_) rfl (by kernel_rfl) (by kernel_rfl) (by kernel_rfl) (fun _ _ _ h => h) (Or.inl ⟨by rfl, ?_⟩) hHeld ?_
            rotate_left
            · intro w' hSw
              clear hSw
              go_simp
              first | done | with_reducible rfl
            simp only [Act.put, List.getElem_toArray, List.getElem_cons_succ, List.getElem_cons_zero, List.setIfInBounds_toArray, List.set_cons_zero, List.set_cons_succ]
            refine wpAnyH_take (i := 6) (v := ?_) rfl (by kernel_rfl) (by kernel_rfl) (by kernel_rfl) (fun _ _ _ h => h) (Or.inl ⟨by rfl, ?_⟩) hHeld ?_
            rotate_left
            · intro w' hSw
              clear hSw
              go_simp
              first | done | with_reducible rfl
            simp only [Act.put, List.getElem_toArray, List.getElem_cons_succ, List.getElem_cons_zero, List.setIfInBounds_toArray, List.set_cons_zero, List.set_cons_succ]
            refine wpAnyH_take (i := 7) (v := ?_) rfl (by kernel_rfl) (by kernel_rfl) (by kernel_rfl) (fun _ _ _ h => h) (Or.inl ⟨by rfl, ?_⟩) hHeld ?_
            rotate_left
            · intro w' hSw
              have c2 := hSw.c2
              clear hSw
              go_simp
              first | done | with_reducible rfl
            simp only [Act.put, List.getElem_toArray, List.getElem_cons_succ, List.getElem_cons_zero, List.setIfInBounds_toArray, List.set_cons_zero, List.set_cons_succ]
            refine wpAnyH_take (i := 8) (v := (.agg (rco (some E)))) rfl (by kernel_rfl) (by kernel_rfl) (by kernel_rfl) (fun _ _ _ h => h) (Or.inl ⟨by rfl, ?_⟩) hHeld ?_
            · intro w' hSw
              exact runLd 58 (.tmp 7) rfl eb 0 rfl (rco (some E)) _ hSw.re Try.underlying58 rfl (sizeRE _)
            simp only [Act.put, List.getElem_toArray, List.getElem_cons_succ, List.getElem_cons_zero, List.setIfInBounds_toArray, List.set_cons_zero, List.set_cons_succ]
            refine wpAnyH_take (i := 9) (v := ?_) rfl (by kernel_rfl) (by kernel_rfl) (by kernel_rfl) (fun _ _ _ h => h) (Or.inl ⟨by rfl, ?_⟩) hHeld ?_
            rotate_left
            · intro w' hSw
              clear hSw
              go_simp
              first | done | with_reducible rfl
            simp only [Act.put, List.getElem_toArray, List.getElem_cons_succ, List.getElem_cons_zero, List.setIfInBounds_toArray, List.set_cons_zero, List.set_cons_succ]
            refine ready_stM 10 _ (by kernel_rfl) rfl 58 (.tmp 133) (.tmp 132) rfl rfl bl (k * 15) (rco (some E)) (by simp [Act.eval]) rfl HTh.out (sizeRE _) (rco_one _) ?_
            refine ⟨HHq.out, ?_⟩
            simp only [Act.put, List.getElem_toArray, List.getElem_cons_succ, List.getElem_cons_zero]
            obtain ⟨W9, hW9⟩ : ∃ W9, W9 = wy.drew.drew.setCells bl (k * 15) (rco (some E)).toList := ⟨_, rfl⟩
            rw [← hW9] at HP HHq HZ6
            rw [← hW9]
            clear hW9
            refine wpAnyH_done (by kernel_rfl) ?_ _
            have y0 := HHq.out.c0
            have y2 := HHq.out.c2
            have y6 := HZ6.out
            go_upto_region 16 with fail
            go_region
            go_wp2
            first | go_end0 | refine bodyPost_ret (results_none rfl _ _ _) rfl ?_
            exact HCm.out ▸ HP.out
theorem rput_any {S : Nat → Prop} (w : World) (v : Value) (c : Cs) (h : Hdr) (id : Int) (hC : Rc S w v c) (hf : Fresh S w) (hn : c.es.length < 2147483640) (hh : c.es ≠ [] → c.hand < c.es.length) : Calls Try.prog 14 #[v, hv h.f, .int .i64 id] w (RpP S w v c h id) := by
  by_cases hc : c.es = []
  · exact rput_nil w v c h id hC hf hc
  · cases hfd : fnd c.es h with
    | some i => exact rput_in w v c h id hC hf hn i hfd
    | none => exact rput_new w v c h id hC hf hc hn (hh hc) hfd
end Go.Proofs.Ytpmdgockiblkaaa
