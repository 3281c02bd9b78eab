/-
  Proved here: takeOut of package tuples takes the row of a mask out of the list, or makes a new one. Condition: fewer than 2 to 31 rows.
-/
/-
  Proved here: putBack of package tuples puts a row to its place in the list, unless it has no rules. Condition: fewer than 2 to 31 rows.
-/
import Derived.Test.YtdehlnaoehjehaaGreatDoorzNR
namespace Go.Proofs.YtdehlnaoehjehaaGreatDoor
set_option maxRecDepth 100000
open Go.RowKit

/-- Two headers in two places. -/
structure Hm (b : Nat) (x : Nat → Int) (b' : Nat) (y : Nat → Int) (w : World) : Prop where
  rA : w.rangeAt b 0 (row 11 x).toList
  rB : w.rangeAt b' 0 (row 11 y).toList
theorem three_cells {w : World} {g t : Nat} {x y z : Value} (h : w.heap[g]? = some (.cells #[x, y, z] t (0, 0))) : w.cell? ⟨g, 0, none⟩ = some x ∧ w.cell? ⟨g, 1, none⟩ = some y ∧ w.cell? ⟨g, 2, none⟩ = some z ∧ ∀ i, w.frozen? ⟨g, i, none⟩ = false := by
  refine ⟨by rw [cell_of_row _ _ _ _ _ _ h]; rfl, by rw [cell_of_row _ _ _ _ _ _ h]; rfl, by rw [cell_of_row _ _ _ _ _ _ h]; rfl, fun i => by simp [World.frozen?, h]⟩
/-- What takeOut leaves. -/
def TkP (S : Nat → Prop) (_o : Nat → Tag) (w : World) (g : Nat) (ad : Int) (bm nm : Nat) (Gm : Lit → Option Value) (rs : List Ro) (μ : Nat → Int) (r : Ending) (w' : World) : Prop :=
  ∃ ρ rs' vr' o', r = .returned (pv ρ.p) ∧ Only S w w' ∧ TabM S o' w' g ad bm nm Gm vr' rs' ∧ RowM S o' w' ρ ∧ (∀ σ ∈ rs', σ.p ≠ ρ.p) ∧ (∀ k, k < 11 → ρ.mask k = μ k) ∧ ((∃ i, ∃ hi : i < rs.length, rs[i] = ρ ∧ rs' = rs.eraseIdx i) ∨ (rs' = rs ∧ (∀ σ ∈ rs, eqR 11 σ.mask μ = false) ∧ ρ = emRo ρ.p ρ.bc μ))
theorem Tg.tag {p : Nat} {t : Tag} (h : Tg p t) : t ≠ .tab ∧ t ≠ .mat ∧ t ≠ .rows := by
  cases t <;> simp [Tg] at h <;> simp
theorem Tg.inj {p q : Nat} {t : Tag} (h : Tg p t) (h' : Tg q t) : p = q := by
  cases t <;> simp [Tg] at h h' <;> omega
set_option maxHeartbeats 3200000 in
set_option maxRecDepth 100000 in
theorem takeOut_any {S : Nat → Prop} {o : Nat → Tag} (w : World) (g : Nat) (ad : Int) (bm nm : Nat) (Gm : Lit → Option Value) (vr : Value) (rs : List Ro) (μ : Nat → Int) (h : TabM S o w g ad bm nm Gm vr rs) (hf : Fresh S w) (hμ : Wf μ) (hn : rs.length < 2147483647) :
    Calls Tryz.prog 153 #[pv g, hv μ] w fun r w' => TkP S o w g ad bm nm Gm rs μ r w' := by
  obtain ⟨W0, hW0⟩ : ∃ W0, W0 = w.alloc (.cells (row 11 μ) 30) := ⟨_, rfl⟩
  have hB0 : Below w.heap.size w W0 := by rw [hW0]; exact (Below.refl _ _).alloc (Nat.le_refl _) _
  have hs0 : W0.heap.size = w.heap.size + 1 := by rw [hW0]; simp
  have hG0 : Blk W0 w.heap.size 11 30 μ := by rw [hW0]; exact Blk.new w 11 30 μ
  have hgl := (Array.getElem?_eq_some_iff.1 h.hg).1
  obtain ⟨ao, cap, rfl⟩ := h.row.form
  have HB0 := hid (And.intro hB0 (And.intro hs0 hG0))
  have hgW : W0.heap[g]? = _ := (hB0.block g hgl).trans h.hg
  obtain ⟨t0, t1, t2, t3⟩ := three_cells hgW
  have HFn : Hid (∀ wx, Below W0.heap.size W0 wx → (∀ σ ∈ rs, eqR 11 σ.mask μ = false) → ∀ p bc w5, Below wx.heap.size wx w5 → wx.heap.size ≤ p → wx.heap.size ≤ bc → p ≠ bc → RowM (fun b => wx.heap.size ≤ b) (fun b => if b = p then .row p else .cls p) w5 (emRo p bc μ) → TkP S o w g ad bm nm Gm rs μ (.returned (pv p)) w5) := by
    show ∀ _, _
    intro wx hlow hno p bc w5 hb5 h1 h2 h3 hR
    have hl1 := hlow.size
    have hw5 : Below w.heap.size w w5 := hB0.trans ((hlow.mono (by omega)).trans (hb5.mono (by omega)))
    have hnew : ∀ b, b < w.heap.size → newTag o w.heap.size (.row p) b = o b := fun b hb => newTag_old hb
    refine ⟨emRo p bc μ, rs, _, fun b => if b < w.heap.size then o b else if b = p then .row p else .cls p, rfl, Only.of hw5 hf, h.carry fun b hb hS _ => ⟨hS, by simp [hb], hw5.block b hb⟩, hR.carry fun b _ hS _ => ⟨hf b (by omega), by rw [if_neg (by omega)], rfl⟩, fun σ hσ e => ?_, fun _ _ => rfl, Or.inr ⟨rfl, hno, rfl⟩⟩
    have := (Array.getElem?_eq_some_iff.1 (h.all σ hσ).hp).1
    have e' : σ.p = p := e
    omega
  have HFd : Hid (∀ wx i (hi : i < rs.length), Below W0.heap.size W0 wx → eqR 11 rs[i].mask μ = true → ∀ v5 w5, Apd wx (.slice ao rs.length cap) w5 → Rw (fun b => S b ∧ o b = .rows) 1 218 w5 v5 (rs.length - 1) ((pts rs).eraseIdx i) → (w5.heap[g]? = some (.cells #[.int .i64 ad, .map (some bm), .slice ao rs.length cap] 215 (0, 0))) ∧ TkP S o w g ad bm nm Gm rs μ (.returned (pv rs[i].p)) (w5.setCell ⟨g, 2, none⟩ v5)) := by
    show ∀ _, _
    intro wx i hi hlow heq v5 w5 hA hR
    have hl1 := hlow.size
    have hwx : Below w.heap.size w wx := hB0.trans (hlow.mono (by omega))
    have hrb : ∀ b, (Value.slice ao rs.length cap).ownBlock = some b → (S b ∧ o b = .rows) ∧ b < w.heap.size := fun b hb => ⟨h.row.own b hb, h.row.ownLt b hb⟩
    have old : ∀ b, b < w.heap.size → o b ≠ .rows → w5.heap[b]? = w.heap[b]? := fun b hb hne => by
      rw [hA.block b (by have := hwx.size; omega) (fun e => hne (hrb b e).1.2), hwx.block b hb]
    have hg5 : w5.heap[g]? = some (.cells #[.int .i64 ad, .map (some bm), .slice ao rs.length cap] 215 (0, 0)) := (old g hgl (by rw [h.og]; simp)).trans h.hg
    have sett : ∀ b, b ≠ g → (w5.setCell ⟨g, 2, none⟩ v5).heap[b]? = w5.heap[b]? := fun b hb => heap_setCell_other w5 ⟨g, 2, none⟩ b v5 hb
    have oldS : ∀ b, b < w.heap.size → o b ≠ .rows → o b ≠ .tab → (w5.setCell ⟨g, 2, none⟩ v5).heap[b]? = w.heap[b]? := fun b hb h1 h2 => (sett b (fun e => h2 (e ▸ h.og))).trans (old b hb h1)
    have hrow : ∀ σ ∈ rs, RowM S o (w5.setCell ⟨g, 2, none⟩ v5) σ := fun σ hσ => (h.all σ hσ).carry fun b hb hS hT => ⟨hS, rfl, oldS b hb hT.tag.2.2 hT.tag.1⟩
    refine ⟨hg5, rs[i], rs.eraseIdx i, v5, o, rfl, ?_, ⟨h.sg, h.og, ?_, h.sm, h.om, h.mm.carry (oldS _ h.mm.lt (by rw [h.om]; simp) (by rw [h.om]; simp)), ?_, fun σ hσ => hrow σ (List.mem_of_mem_eraseIdx hσ), h.ne.eraseIdx i⟩, hrow _ (List.getElem_mem hi), ?_, fun k hk => eqR_iff.1 heq k hk, Or.inl ⟨i, hi, rfl, rfl⟩⟩
    · refine Only.setCell (p := ⟨g, 2, none⟩) ⟨hA.os.trans hwx.os, hA.tape.trans hwx.tape, hA.output.trans hwx.output, Nat.le_trans hwx.size hA.size, fun b hb => ?_⟩ h.sg v5
      rcases Nat.lt_or_ge b w.heap.size with h1 | h1
      · rw [hA.block b (by have := hwx.size; omega) (fun e => hb (hrb b e).1.1), hwx.block b h1]
      · exact absurd (hf b h1) hb
    · rw [heap_setCell_same w5 g 2 _ _ _ hg5]; rfl
    · rw [List.length_eraseIdx_of_lt hi]
      have e1 : ((rs.eraseIdx i).map fun ρ => Value.pointer (some ⟨ρ.p, 0, none⟩)) = (pts rs).eraseIdx i := by
        exact Go.ChangeMaps.map_eraseIdx _ _ _
      rw [e1]
      exact hR.carry fun b hb hS => ⟨hS, sett b (fun e => by have := hS.2; rw [e, h.og] at this; cases this)⟩
    · intro σ hσ
      obtain ⟨j, hj, rfl⟩ := List.getElem_of_mem hσ
      rw [List.getElem_eraseIdx]
      have hp := List.pairwise_iff_getElem.1 h.ne
      rw [List.length_eraseIdx_of_lt hi] at hj
      split
      · rename_i hji
        exact hp j i (by omega) hi hji
      · rename_i hji
        exact Ne.symm (hp i (j + 1) hi (by omega) (by omega))
  have HAll := hid h
  have HW0 := hid hW0
  clear hB0 hs0 hG0 hW0 hgW h hf
  go_enter Tryz.func153, Tryz.ntmps153
  go_upto_region 1 with fail
  rw [← HW0.out]
  clear HW0
  go_upto_region 2 with fail
  go_loopw [12] (fun i wr => ∃ q : Nat, q ≤ rs.length ∧ i = .int .i64 q ∧ Below W0.heap.size W0 wr ∧ ∀ j (hj : j < rs.length), j < q → eqR 11 rs[j].mask μ = false) (fun i _ => rs.length - (intOf i).toNat)
  case atStart => exact ⟨0, by omega, rfl, Below.refl _ _, fun j _ h => absurd h (by omega)⟩
  case round =>
    obtain ⟨q, hq, rfl, hlow, hno⟩ := hrel
    generalize wr = wx at *
    have HLo := hid hlow
    have HNo := hid hno
    have hBx : Blk wx w.heap.size 11 30 μ := HB0.out.2.2.on hlow
    have hgx : wx.heap[g]? = some (.cells #[.int .i64 ad, .map (some bm), .slice ao rs.length cap] 215 (0, 0)) := (hlow.block g (by have := HB0.out.2.1; omega)).trans ((HB0.out.1.block g hgl).trans HAll.out.hg)
    obtain ⟨x0, x1, x2, x3⟩ := three_cells hgx
    clear hno hgx
    by_cases hlt : q < rs.length
    · have hql : decide ((q : Int) < (rs.length : Int)) = true := decide_eq_true (by omega)
      obtain ⟨ρ, hρ⟩ : ∃ ρ, ρ = rs[q] := ⟨_, rfl⟩
      have hρm : ρ ∈ rs := hρ ▸ List.getElem_mem hlt
      rcases HAll.out.row with ⟨hx, ⟨_, hz0⟩ | ⟨b1, o1, cap', cur, he, hb1, hb2, hb3, hb4, hb5⟩⟩
      · omega
      obtain ⟨rfl, rfl⟩ : ao = some ⟨b1, o1, none⟩ ∧ cap = cap' := by simpa using he
      have hb1l := (Array.getElem?_eq_some_iff.1 hb2).1
      have hb1x : wx.heap[b1]? = some (.cells cur 218 (0, 0)) := (hlow.block b1 (by have := HB0.out.2.1; omega)).trans ((HB0.out.1.block b1 hb1l).trans hb2)
      have d0 : wx.cell? ⟨b1, o1 + q, none⟩ = some (pv ρ.p) := by
        rw [cell_of_row _ _ _ _ _ _ hb1x, cells_at hb5 (by omega), hρ]
        simp [hlt]
      have hRr : Rw (fun b => S b ∧ o b = .rows) 1 218 wx (.slice (some ⟨b1, o1, none⟩) rs.length cap) rs.length (pts rs) := HAll.out.row.carry fun b hb hS => ⟨hS, (hlow.block b (by have := HB0.out.2.1; omega)).trans (HB0.out.1.block b hb)⟩
      have hM := HAll.out.all ρ hρm
      have hMl := (Array.getElem?_eq_some_iff.1 hM.hp).1
      have hMx : wx.heap[ρ.p]? = some (.cells (rcs ρ.mask ρ.top ρ.bc) 223 (0, 0)) := (hlow.block _ (by have := HB0.out.2.1; omega)).trans ((HB0.out.1.block _ hMl).trans hM.hp)
      have HM0 : Hid (Hm ρ.p ρ.mask w.heap.size μ wx.drew) := ⟨range_of fun i hi => by
        rw [row_size] at hi
        show wx.cell? _ = _
        rw [Nat.zero_add, cell_of_row _ _ _ _ _ _ hMx, rcs_mask _ _ _ _ hi, row_at 11 _ _ hi], range_of fun i hi => by
        rw [row_size] at hi
        show wx.cell? _ = _
        rw [Nat.zero_add, hBx.cell i hi, row_at 11 _ _ hi]⟩
      have HDl := hid (del_any wx.drew (.slice (some ⟨b1, o1, none⟩) rs.length cap) rs.length q (pts rs) (hRr.carry fun b _ hS => ⟨hS, rfl⟩) hlt (by omega) (pts_one rs))
      have HFd' := hid (HFd.out wx.drew q hlt (hlow.trans (show Below W0.heap.size wx wx.drew from (Below.refl _ _).drew)))
      rw [← hρ] at HFd'
      have HNq : Hid (eqR 11 ρ.mask μ = false → ∀ j (hj : j < rs.length), j < q + 1 → eqR 11 rs[j].mask μ = false) := fun h j hj hjq => by
        by_cases e : j = q
        · subst e; rw [← hρ]; exact h
        · exact HNo.out j hj (by omega)
      have hw1 : IntKind.i64.wrap ((q : Int) + 1) = (q : Int) + 1 := by rw [IntKind.wrap_i64]; omega
      clear hx he hb1 hb2 hb3 hb4 hb5 hb1l hb1x hρ hρm hRr hM hMl hMx hlow hBx HFn HFd
      go_upto_region 4 with fail
      refine wp_region_held_drew (S := Hm ρ.p ρ.mask w.heap.size μ) (by kernel_rfl) HM0.out (fun hHeld => ?_)
      refine wpAnyH_take (i := 0) (v := ?_) rfl (by kernel_rfl) (by kernel_rfl) (by kernel_rfl) (fun _ _ _ h => h) (Or.inl ⟨by rfl, ?_⟩) hHeld ?_
      rotate_left
      · intro w' hSw
        clear hSw
        go_simp
        first | done | with_reducible rfl
      simp only [Act.put, List.getElem_toArray, List.getElem_cons_zero, List.setIfInBounds_toArray, List.set_cons_zero, List.set_cons_succ]
      refine wpAnyH_take (i := 1) (v := ?_) rfl (by kernel_rfl) (by kernel_rfl) (by kernel_rfl) (fun _ _ _ h => h) (Or.inl ⟨by rfl, ?_⟩) hHeld ?_
      rotate_left
      · intro w' hSw
        clear hSw
        go_simp
        first | done | with_reducible rfl
      simp only [Act.put, List.getElem_toArray, List.getElem_cons_succ, List.getElem_cons_zero, List.setIfInBounds_toArray, List.set_cons_zero, List.set_cons_succ]
      refine wpAnyH_take (i := 2) (v := ?_) rfl (by kernel_rfl) (by kernel_rfl) (by kernel_rfl) (fun _ _ _ h => h) (Or.inl ⟨by rfl, ?_⟩) hHeld ?_
      rotate_left
      · intro w' hSw
        clear hSw
        go_simp
        first | done | with_reducible rfl
      simp only [Act.put, List.getElem_toArray, List.getElem_cons_succ, List.getElem_cons_zero, List.setIfInBounds_toArray, List.set_cons_zero, List.set_cons_succ]
      refine wpAnyH_take (i := 3) (v := (hv ρ.mask)) rfl (by kernel_rfl) (by kernel_rfl) (by kernel_rfl) (fun _ _ _ h => h) (Or.inl ⟨by rfl, ?_⟩) hHeld ?_
      · intro w' hSw
        exact runLd 30 (.tmp 19) rfl ρ.p 0 rfl (row 11 ρ.mask) _ hSw.rA Tryz.underlying30 rfl (sizeH ρ.mask)
      simp only [Act.put, List.getElem_toArray, List.getElem_cons_succ, List.getElem_cons_zero, List.setIfInBounds_toArray, List.set_cons_zero, List.set_cons_succ]
      refine wpAnyH_take (i := 4) (v := (hv μ)) rfl (by kernel_rfl) (by kernel_rfl) (by kernel_rfl) (fun _ _ _ h => h) (Or.inl ⟨by rfl, ?_⟩) hHeld ?_
      · intro w' hSw
        exact runLd 30 (.tmp 3) rfl w.heap.size 0 rfl (row 11 μ) _ hSw.rB Tryz.underlying30 rfl (sizeH μ)
      simp only [Act.put, List.getElem_toArray, List.getElem_cons_succ, List.getElem_cons_zero, List.setIfInBounds_toArray, List.set_cons_zero, List.set_cons_succ]
      refine wpAnyH_take (i := 5) (v := (.bool (eqR 11 ρ.mask μ))) rfl (by kernel_rfl) (by kernel_rfl) (by kernel_rfl) (fun _ _ _ h => h) (Or.inl ⟨by rfl, ?_⟩) hHeld ?_
      · intro w' hSw
        exact runEqH (.tmp 20) (.tmp 21) rfl ρ.mask μ rfl rfl
      simp only [Act.put, List.getElem_toArray, List.getElem_cons_succ, List.getElem_cons_zero, List.setIfInBounds_toArray, List.set_cons_zero, List.set_cons_succ]
      refine wpAnyH_done (by kernel_rfl) ?_ _
      obtain ⟨c, hc⟩ : ∃ c, c = eqR 11 ρ.mask μ := ⟨_, rfl⟩
      rw [← hc] at HNq HFd' ⊢
      clear hc
      cases c with
      | true =>
        go_wp2_with (go_at_call 181; refine (HDl.out).mono ?_; rintro r w5 ⟨v5, rfl, hA5, hR5⟩
                     obtain ⟨g5, f5⟩ := HFd'.out rfl v5 w5 hA5 hR5
                     obtain ⟨y0, y1, y2, y3⟩ := three_cells g5
                     obtain ⟨a5, c5, rfl⟩ := hR5.form
                     have HF5 := hid f5
                     clear hA5 hR5 g5 f5)
        go_ret
        exact HF5.out
      | false =>
        go_wp2
        go_roundw
        case rel => exact ⟨q + 1, by omega, by go_num, HLo.out.trans (show Below W0.heap.size wx wx.drew from (Below.refl _ _).drew), HNq.out rfl⟩
        case measure => simp [intOf]; omega
    · obtain rfl : q = rs.length := by omega
      have hql : decide ((rs.length : Int) < (rs.length : Int)) = false := by simp
      have HC := hid (newRow_any μ wx hμ)
      have HFn' := hid (HFn.out wx HLo.out (fun σ hσ => by
        obtain ⟨j, hj, rfl⟩ := List.getElem_of_mem hσ
        exact HNo.out j hj hj))
      clear hlow HFn HFd
      go_wp2_with (first
        | (refine ld24 (.tmp 3) rfl _ rfl rfl μ hBx ?_)
        | (go_at_call 182; refine (HC.out).mono ?_; rintro r w5 ⟨p, bc, rfl, h1, h2, h3, h4, h5⟩; have HF5 := hid (HFn'.out p bc w5 h1 h2 h3 h4 h5); clear h1 h2 h3 h4 h5))
      go_ret
      exact HF5.out
end Go.Proofs.YtdehlnaoehjehaaGreatDoor
namespace Go.Proofs.YtdehlnaoehjehaaGreatDoor
set_option maxRecDepth 100000
open Go.RowKit

/-- What putBack leaves. -/
def PbP (S : Nat → Prop) (w : World) (g : Nat) (ad : Int) (bm nm : Nat) (Gm : Lit → Option Value) (rs : List Ro) (ρ : Ro) (r : Ending) (w' : World) : Prop :=
  r = .returned (.tuple #[]) ∧ Only S w w' ∧ ∃ vr' o', TabM S o' w' g ad bm nm Gm vr' (if ρ.n = 0 then rs else placeR rs ρ)
set_option maxHeartbeats 1600000 in
set_option maxRecDepth 100000 in
theorem putBack_any {S : Nat → Prop} {o : Nat → Tag} (w : World) (g : Nat) (ad : Int) (bm nm : Nat) (Gm : Lit → Option Value) (vr : Value) (rs : List Ro) (ρ : Ro) (h : TabM S o w g ad bm nm Gm vr rs) (hρ : RowM S o w ρ) (hd : ∀ σ ∈ rs, σ.p ≠ ρ.p) (hf : Fresh S w) (hn : rs.length < 2147483647) :
    Calls Tryz.prog 155 #[pv g, pv ρ.p] w fun r w' => PbP S w g ad bm nm Gm rs ρ r w' := by
  obtain ⟨c11, c12, -, -⟩ := hρ.cells
  obtain ⟨t0, t1, t2, t3⟩ := three_cells h.hg
  have hlen : ∀ ty, (Builtin.len_ #[221] ty #[.map (some ρ.bc)]).run Tryz.prog w = .ok (.int .i64 (ρ.n : Nat)) w := fun ty => hρ.mp.len Tryz.underlying221 ty
  have hgl := (Array.getElem?_eq_some_iff.1 h.hg).1
  by_cases h0 : ρ.n = 0
  · have HF : Hid (PbP S w g ad bm nm Gm rs ρ (.returned (.tuple #[])) w) := ⟨rfl, Only.refl _ _, vr, o, by rw [if_pos h0]; exact h⟩
    have hz : ¬ 0 < ρ.n := by omega
    have hz' : decide ((0 : Int) < (ρ.n : Int)) = false := decide_eq_false (by omega)
    clear h hρ hd hf h0
    go_enter Tryz.func155, Tryz.ntmps155
    go_wp2
    first | go_end0 | refine bodyPost_ret (results_none rfl _ _ _) rfl ?_
    exact HF.out
  · have hz : 0 < ρ.n := by omega
    have hz' : decide ((0 : Int) < (ρ.n : Int)) = true := decide_eq_true (by omega)
    have HC := hid (placedR_any w vr rs ρ h.row c11 (fun y hy => (h.all y hy).cells.1) hn)
    have HF : Hid (∀ v5 w5, Apd w vr w5 → Rw (fun b => (S b ∧ o b = .rows) ∨ w.heap.size ≤ b) 1 218 w5 v5 (placeR rs ρ).length (pts (placeR rs ρ)) → w5.heap[g]? = some (.cells #[.int .i64 ad, .map (some bm), vr] 215 (0, 0)) ∧ PbP S w g ad bm nm Gm rs ρ (.returned (.tuple #[])) (w5.setCell ⟨g, 2, none⟩ v5)) := by
      show ∀ _, _
      intro v5 w5 hA hR
      have hrb : ∀ b, vr.ownBlock = some b → (S b ∧ o b = .rows) ∧ b < w.heap.size := fun b hb => ⟨h.row.own b hb, h.row.ownLt b hb⟩
      have old : ∀ b, b < w.heap.size → o b ≠ .rows → w5.heap[b]? = w.heap[b]? := fun b hb hne => hA.block b hb (fun e => hne (hrb b e).1.2)
      have hg5 : w5.heap[g]? = some (.cells #[.int .i64 ad, .map (some bm), vr] 215 (0, 0)) := (old g hgl (by rw [h.og]; simp)).trans h.hg
      have sett : ∀ b, b ≠ g → (w5.setCell ⟨g, 2, none⟩ v5).heap[b]? = w5.heap[b]? := fun b hb => heap_setCell_other w5 ⟨g, 2, none⟩ b v5 hb
      have oldS : ∀ b, b < w.heap.size → o b ≠ .rows → o b ≠ .tab → (w5.setCell ⟨g, 2, none⟩ v5).heap[b]? = w.heap[b]? := fun b hb h1 h2 => (sett b (fun e => h2 (e ▸ h.og))).trans (old b hb h1)
      have hrow : ∀ σ, RowM S o w σ → RowM S (newTag o w.heap.size .rows) (w5.setCell ⟨g, 2, none⟩ v5) σ := fun σ hσ => hσ.carry fun b hb hS hT => ⟨hS, newTag_old hb, oldS b hb hT.tag.2.2 hT.tag.1⟩
      refine ⟨hg5, rfl, ?_, v5, newTag o w.heap.size .rows, ?_⟩
      · refine Only.setCell (p := ⟨g, 2, none⟩) ⟨hA.os, hA.tape, hA.output, hA.size, fun b hb => ?_⟩ h.sg v5
        rcases Nat.lt_or_ge b w.heap.size with h1 | h1
        · exact hA.block b h1 (fun e => hb (hrb b e).1.1)
        · exact absurd (hf b h1) hb
      rw [if_neg h0]
      refine ⟨h.sg, (newTag_old hgl).trans h.og, by rw [heap_setCell_same w5 g 2 _ _ _ hg5]; rfl, h.sm, (newTag_old h.mm.lt).trans h.om, h.mm.carry (oldS _ h.mm.lt (by rw [h.om]; simp) (by rw [h.om]; simp)), hR.carry fun b hb hS => ?_, fun σ hσ => ?_, ?_⟩
      · have hbg : b ≠ g := fun e => by
          rcases hS with hS | hS
          · have := hS.2; rw [e, h.og] at this; cases this
          · omega
        refine ⟨?_, sett b hbg⟩
        rcases hS with hS | hS
        · refine ⟨hS.1, ?_⟩
          rcases Nat.lt_or_ge b w.heap.size with h1 | h1
          · rw [newTag_old h1]; exact hS.2
          · rw [newTag_new h1]
        · exact ⟨hf b hS, newTag_new hS⟩
      · unfold placeR at hσ
        rcases List.mem_append.1 hσ with hσ | hσ
        · rcases List.mem_append.1 hσ with hσ | hσ
          · exact hrow σ (h.all σ (List.mem_of_mem_take hσ))
          · rw [List.mem_singleton.1 hσ]; exact hrow ρ hρ
        · exact hrow σ (h.all σ (List.mem_of_mem_drop hσ))
      · unfold placeR
        have hsp := h.ne
        rw [← List.take_append_drop (posr rs ρ.top rs.length) rs] at hsp
        rw [List.pairwise_append] at hsp
        rw [List.append_assoc, List.pairwise_append]
        refine ⟨hsp.1, List.pairwise_cons.2 ⟨fun b hb => Ne.symm (hd b (List.mem_of_mem_drop hb)), hsp.2.1⟩, fun a ha b hb => ?_⟩
        rcases List.mem_cons.1 hb with rfl | hb
        · exact hd a (List.mem_of_mem_take ha)
        · exact hsp.2.2 a ha b hb
    obtain ⟨ao, cap, rfl⟩ := h.row.form
    clear h hρ hd hf h0
    go_enter Tryz.func155, Tryz.ntmps155
    go_wp2_with (go_at_call 184; refine (HC.out).mono ?_; rintro r w5 ⟨v5, rfl, hA5, hR5⟩
                 obtain ⟨g5, f5⟩ := HF.out v5 w5 hA5 hR5
                 obtain ⟨y0, y1, y2, y3⟩ := three_cells g5
                 obtain ⟨a5, c5, rfl⟩ := hR5.form
                 have HF5 := hid f5
                 clear hA5 hR5 g5 f5)
    first | go_end0 | refine bodyPost_ret (results_none rfl _ _ _) rfl ?_
    exact HF5.out
end Go.Proofs.YtdehlnaoehjehaaGreatDoor
