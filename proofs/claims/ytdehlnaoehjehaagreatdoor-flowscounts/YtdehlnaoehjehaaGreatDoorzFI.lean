/-
  Proved here: masked of package tuples: a header's bits that a mask asks for. No condition.
-/
/-
  Proved here: first of a row of package tuples: the first of the entries at a header's masked bits. No condition.
-/
import Derived.Test.YtdehlnaoehjehaaGreatDoorzTA
import Derived.Laws.Bits64b
import Derived.Laws.Tables
import Derived.Laws.ResultCell
namespace Go.Proofs.YtdehlnaoehjehaaGreatDoor
set_option maxRecDepth 100000
open Go.RowKit

def msk (h μ : Nat → Int) : Nat → Int := fun k => bits .and .u64 (h k) (μ k)
theorem and_bd {x y : Int} (hx : 0 ≤ x) (hx2 : x < 18446744073709551616) (hy : 0 ≤ y) (hy2 : y < 18446744073709551616) : 0 ≤ bits .and .u64 x y ∧ bits .and .u64 x y < 18446744073709551616 := by
  obtain ⟨a, rfl⟩ := Int.eq_ofNat_of_zero_le hx
  obtain ⟨b, rfl⟩ := Int.eq_ofNat_of_zero_le hy
  rw [bits_and_u64_nat a b (by omega) (by omega)]
  have : a &&& b ≤ a := Nat.and_le_left
  omega
theorem msk_wf {h μ : Nat → Int} (hh : Wf h) (hμ : Wf μ) : Wf (msk h μ) := fun k => by
  have h1 := hh.bd k
  have h2 := hμ.bd k
  have := and_bd h1.1 h1.2 h2.1 h2.2
  exact WalkArith.wf_u64 (by show 0 ≤ bits .and .u64 (h k) (μ k) ∧ bits .and .u64 (h k) (μ k) ≤ _; omega)
def part (h μ : Nat → Int) (q : Nat) : Nat → Int := fun k => if k < q then msk h μ k else h k
theorem part_next (h μ : Nat → Int) (q : Nat) : row 11 (upd (part h μ q) q (msk h μ q)) = row 11 (part h μ (q + 1)) := row_congr fun k _ => by
  by_cases e : k = q
  · subst e
    rw [upd_same]; simp [part]
  · rw [upd_other _ _ _ _ e]
    unfold part
    by_cases h1 : k < q
    · rw [if_pos h1, if_pos (by omega)]
    · rw [if_neg h1, if_neg (by omega)]
theorem resM (tmps : Array Value) (w : World) (g : Nat) (m : Nat → Int) (hp : tmps.getD 4 undef = .pointer (some ⟨g, 0, none⟩)) (hg : Blk w g 11 30 m) :
    (results Tryz.f152 tmps).run Tryz.prog w = .ok (hv m) w :=
  results_cell_row Tryz.results152 tmps w g 30 _ (0, 0) _ hp hg Tryz.underlying30 rfl (sizeH m)
set_option maxHeartbeats 1600000 in
set_option maxRecDepth 100000 in
theorem masked_any (h μ : Nat → Int) (w : World) : Calls Tryz.prog 152 #[hv h, hv μ] w fun e w' => e = .returned (hv (msk h μ)) ∧ Below w.heap.size w w' := by
  obtain ⟨W0, hW0⟩ : ∃ W0, W0 = ((w.alloc (.cells (row 11 h) 30)).alloc (.cells (row 11 μ) 30)).alloc (.cells (row 11 zf) 30) := ⟨_, rfl⟩
  have hB0 : Below w.heap.size w W0 := by rw [hW0]; exact (((Below.refl _ _).alloc (Nat.le_refl _) _).alloc (by simp) _).alloc (by simp; omega) _
  have hA : Blk W0 w.heap.size 11 30 h := by rw [hW0]; exact ((Blk.new w 11 30 h).alloc _).alloc _
  have hM : Blk W0 (w.heap.size + 1) 11 30 μ := by rw [hW0]; exact (Blk.new1 w _ 11 30 μ).alloc _
  have hZ : Blk W0 (w.heap.size + 1 + 1) 11 30 zf := by
    rw [hW0]
    have := Blk.new1 (w.alloc (.cells (row 11 h) 30)) (.cells (row 11 μ) 30) 11 30 zf
    simpa using this
  have HW0 := hid hW0
  clear hW0
  have HB0 := hid (And.intro hB0 (And.intro hA hZ))
  have hs0 : W0.heap.size = w.heap.size + 3 := by rw [HW0.out]; simp
  clear hB0 hA hZ
  go_enter Tryz.func152, Tryz.ntmps152
  go_upto_region 1 with fail
  rw [show (#[Value.int .u64 0, Value.int .u64 0, Value.int .u64 0, Value.int .u64 0, Value.int .u64 0, Value.int .u64 0, Value.int .u64 0, Value.int .u64 0, Value.int .u64 0, Value.int .u64 0, Value.int .u64 0] : Array Value) = row 11 zf from rfl, ← HW0.out]
  clear HW0
  go_upto_region 2 with (refine ld24 (.tmp 3) rfl _ rfl rfl μ hM ?_)
  clear hM
  go_loopw [8] (fun i wr => ∃ q : Nat, q ≤ 11 ∧ i = .int .i64 q ∧ Blk wr w.heap.size 11 30 (part h μ q) ∧ Blk wr (w.heap.size + 1 + 1) 11 30 zf ∧ Below w.heap.size w wr) (fun i _ => 11 - (intOf i).toNat)
  case atStart => exact ⟨0, by omega, rfl, by have := HB0.out.2.1; unfold Blk at *; rw [this, row_congr (f := h) (g := part h μ 0) fun k _ => by simp [part]], HB0.out.2.2, HB0.out.1⟩
  case round =>
    obtain ⟨q, hq, rfl, hA, hZ, hlow⟩ := hrel
    generalize wr = wx at *
    by_cases hlt : q < 11
    · have hidx : ∀ W, (Instr.index 30 (hv μ) (.int .i64 (q : Int))).run Tryz.prog W = .ok (.int .u64 (μ q)) W := fun W => idx_hv μ q hlt W
      have hpq : part h μ q q = h q := by simp [part]
      have hc1 : wx.cell? ⟨w.heap.size, q, none⟩ = some (.int .u64 (h q)) := by rw [hA.cell q hlt, hpq]
      have hc2 := hA.frozen q
      have HN : Hid (Blk (wx.setCell ⟨w.heap.size, q, none⟩ (.int .u64 (bits .and .u64 (h q) (μ q)))) w.heap.size 11 30 (part h μ (q + 1)) ∧ Blk (wx.setCell ⟨w.heap.size, q, none⟩ (.int .u64 (bits .and .u64 (h q) (μ q)))) (w.heap.size + 1 + 1) 11 30 zf ∧ Below w.heap.size w (wx.setCell ⟨w.heap.size, q, none⟩ (.int .u64 (bits .and .u64 (h q) (μ q))))) := by
        refine ⟨?_, hZ.setOther _ _ _ (by omega), hlow.setCell (p := ⟨w.heap.size, q, none⟩) (Nat.le_refl _) _⟩
        have := hA.set q (bits .and .u64 (h q) (μ q))
        unfold Blk at *
        rw [this]
        have e := part_next h μ q
        unfold msk at e
        rw [e]
      have hd : decide ((q : Int) < 11) = true := decide_eq_true (by omega)
      clear hA hZ hlow hpq
      go_wp2
      go_roundw
      case rel => exact ⟨q + 1, by omega, by go_num, HN.out⟩
      case measure => simp [intOf]; omega
    · obtain rfl : q = 11 := by omega
      have hA' : Blk wx w.heap.size 11 30 (msk h μ) := by
        unfold Blk at *
        rw [hA, row_congr (f := part h μ 11) (g := msk h μ) fun k hk => by simp [part, hk]]
      have hW : Blk (wx.setRow (w.heap.size + 1 + 1) (row 11 (msk h μ))) (w.heap.size + 1 + 1) 11 30 (msk h μ) := setRow_heap wx _ _ _ _ _ hZ
      have HL := hid (show Below w.heap.size w (wx.setRow (w.heap.size + 1 + 1) (row 11 (msk h μ))) from below_setRow hlow (by omega) _)
      have HWb := hid hW
      clear hA hlow hW
      go_wp2_with (first
        | (refine ld24 (.tmp 2) rfl _ rfl rfl (msk h μ) hA' ?_)
        | (refine stRow 30 (.tmp 4) (.tmp 19) rfl rfl (w.heap.size + 1 + 1) (row 11 (msk h μ)) rfl rfl 30 (row 11 zf) hZ (sizeH _) (by rw [row_size, row_size]) (row_one _ _) ?_))
      refine bodyPost_ret (v := hv (msk h μ)) (resM _ _ (w.heap.size + 1 + 1) (msk h μ) rfl HWb.out) rfl ⟨rfl, HL.out⟩
end Go.Proofs.YtdehlnaoehjehaaGreatDoor
namespace Go.Proofs.YtdehlnaoehjehaaGreatDoor
set_option maxRecDepth 100000
open Go.RowKit

structure Hf (p bc b : Nat) (μ x : Nat → Int) (w : World) : Prop where
  c : w.cell? ⟨p, 12, none⟩ = some (.map (some bc))
  rm : w.rangeAt p 0 (row 11 μ).toList
  rx : w.rangeAt b 0 (row 11 x).toList
theorem Hf.on {p bc b : Nat} {μ x : Nat → Int} {w w' : World} (h : Hf p bc b μ x w) (h1 : w'.heap[p]? = w.heap[p]?) (h2 : w'.heap[b]? = w.heap[b]?) : Hf p bc b μ x w' :=
  ⟨(cell_same h1).trans h.c, fun j v hj => (cell_same h1).trans (h.rm j v hj), fun j v hj => (cell_same h2).trans (h.rx j v hj)⟩
/-- Two cells of a block are set. -/
theorem two_set {w w5 : World} {g : Nat} {a b x y : Value} {t : Nat} (h : w5.heap[g]? = some (.cells #[a, b] t (0, 0))) (hb : Below w.heap.size w w5) (hg : w.heap.size ≤ g := by omega) : ((w5.setCell ⟨g, 0, none⟩ x).setCell ⟨g, 1, none⟩ y).heap[g]? = some (.cells #[x, y] t (0, 0)) ∧ Below w.heap.size w ((w5.setCell ⟨g, 0, none⟩ x).setCell ⟨g, 1, none⟩ y) := by
  have e1 := heap_setCell_same w5 g 0 _ _ x h
  refine ⟨by rw [heap_setCell_same _ g 1 _ _ y e1]; rfl, (hb.setCell (p := ⟨g, 0, none⟩) hg _).setCell (p := ⟨g, 1, none⟩) hg _⟩
/-- The first of the entries of a row at a header. -/
noncomputable def fst (ρ : Ro) (h : Nat → Int) : Option En := (ρ.E (kl (msk h ρ.mask))).head?
def eD (e : Option En) : En := e.getD ⟨0, 0⟩
theorem resF (tmps : Array Value) (w : World) (g : Nat) (x y : Int) (c : Value) (hp : tmps.getD 4 undef = .pointer (some ⟨g, 0, none⟩)) (hc : tmps.getD 5 undef = c) (hg : w.heap[g]? = some (.cells #[.int .i64 x, .int .i64 y] 217 (0, 0))) :
    (results Tryz.f119 tmps).run Tryz.prog w = .ok (.tuple #[.agg #[.int .i64 x, .int .i64 y], c]) w := by
  rw [results_cell_tmp Tryz.results119, hp, hc]
  have := run_loadVar_row (P := Tryz.prog) w g 217 217 #[.int .i64 x, .int .i64 y] (0, 0) _ hg Tryz.underlying217 rfl sizeE2
  simp [asAddr, this, Result.andThen]
set_option maxHeartbeats 3200000 in
set_option maxRecDepth 100000 in
theorem first_any {S : Nat → Prop} {o : Nat → Tag} (w : World) (ρ : Ro) (h : Nat → Int) (hρ : RowM S o w ρ) (hw : Wf h) :
    Calls Tryz.prog 119 #[pv ρ.p, hv h] w fun r w' => r = .returned (.tuple #[ev (eD (fst ρ h)), .bool (fst ρ h).isSome]) ∧ Below w.heap.size w w' := by
  obtain ⟨W0, hW0⟩ : ∃ W0, W0 = (w.alloc (.cells (row 11 h) 30)).alloc (.cells #[.int .i64 0, .int .i64 0] 217) := ⟨_, rfl⟩
  have hB0 : Below w.heap.size w W0 := by rw [hW0]; exact ((Below.refl _ _).alloc (Nat.le_refl _) _).alloc (by simp) _
  have hs0 : W0.heap.size = w.heap.size + 2 := by rw [hW0]; simp
  have hG0 : W0.heap[w.heap.size]? = some (.cells (row 11 h) 30 (0, 0)) := by rw [hW0, heap_alloc_old _ _ (by simp)]; exact heap_alloc_new _ _
  have hG1 : W0.heap[w.heap.size + 1]? = some (.cells #[.int .i64 0, .int .i64 0] 217 (0, 0)) := by
    rw [hW0]
    have := heap_alloc_new (w.alloc (.cells (row 11 h) 30)) (.cells #[.int .i64 0, .int .i64 0] 217)
    simpa using this
  have hpl := (Array.getElem?_eq_some_iff.1 hρ.hp).1
  have hcl := hρ.mp.lt
  obtain ⟨-, q12, -, qm⟩ := hρ.cells
  have hwk : Wf (msk h ρ.mask) := msk_wf hw hρ.wf
  obtain ⟨v0, hv0⟩ : ∃ v0, v0 = (ρ.G (kl (msk h ρ.mask))).getD nilS := ⟨_, rfl⟩
  have hRv : Rw (fun b => b < w.heap.size) 2 217 w v0 (ρ.E (kl (msk h ρ.mask))).length (ces (ρ.E (kl (msk h ρ.mask)))) := by
    rcases hρ.hit (kl (msk h ρ.mask)) with ⟨h1, h2⟩ | ⟨v, h1, h2, h3⟩
    · rw [hv0, h1, h2]; exact Rw.nil _ _ _ _
    · rw [hv0, h1]; exact h3.carry fun b hb _ => ⟨hb, rfl⟩
  have HA0 : Hid (Hf ρ.p ρ.bc w.heap.size ρ.mask h W0.drew) := by
    refine ⟨?_, fun j v hj => ?_, range_of fun i hi => ?_⟩
    · show W0.cell? _ = _; rw [hB0.cell (p := ⟨ρ.p, 12, none⟩) hpl]; exact q12
    · show W0.cell? _ = _; rw [hB0.cell (p := ⟨ρ.p, 0 + j, none⟩) hpl]; exact qm j v hj
    · show W0.cell? _ = _; rw [Nat.zero_add, cell_of_row _ _ _ _ _ _ hG0]
  have HAb : Hid (∀ w5, Below W0.drew.heap.size W0.drew w5 → Hf ρ.p ρ.bc w.heap.size ρ.mask h w5) := fun w5 hb => HA0.out.on (hb.block _ (by show _ < W0.heap.size; omega)) (hb.block _ (by show _ < W0.heap.size; omega))
  have HMp : Hid (∀ w5, Below W0.drew.heap.size W0.drew w5 → Mp w5 30 ρ.bc ρ.n ρ.G) := fun w5 hb => hρ.mp.carry ((hb.block _ (by show _ < W0.heap.size; omega)).trans (hB0.block _ hcl))
  have HFin : Hid (∀ w5, Below W0.drew.heap.size W0.drew w5 → Below w.heap.size w w5 ∧ w5.heap[w.heap.size + 1]? = some (.cells #[.int .i64 0, .int .i64 0] 217 (0, 0)) ∧ Rw (fun b => b < w.heap.size) 2 217 w5 v0 (ρ.E (kl (msk h ρ.mask))).length (ces (ρ.E (kl (msk h ρ.mask))))) := fun w5 hb => by
    have hb' : Below w.heap.size w w5 := hB0.trans ((show Below w.heap.size W0 W0.drew from (Below.refl _ _).drew).trans (hb.mono (by show _ ≤ W0.heap.size; omega)))
    exact ⟨hb', (hb.block _ (by show _ < W0.heap.size; omega)).trans hG1, hRv.carry fun b hb1 hS => ⟨hS, hb'.block b hb1⟩⟩
  have HV0 : Hid ((ρ.G (kl (msk h ρ.mask))).getD nilS = v0) := hv0.symm
  have hfst : fst ρ h = (ρ.E (kl (msk h ρ.mask))).head? := rfl
  obtain ⟨ao, cap, hvf⟩ := hRv.form
  obtain ⟨l, hl⟩ : ∃ l, l = ρ.E (kl (msk h ρ.mask)) := ⟨_, rfl⟩
  rw [← hl] at hfst hvf HFin
  rw [hfst]
  have HW0 := hid hW0
  clear hB0 hs0 hG0 hG1 hRv hW0 hv0 hl hfst q12 qm hρ
  go_enter Tryz.func119, Tryz.ntmps119
  go_upto_region 1 with fail
  rw [← HW0.out]
  clear HW0
  go_wp2_with fail
  refine wp_region_held_drew (S := Hf ρ.p ρ.bc w.heap.size ρ.mask h) (by kernel_rfl) HA0.out (fun hHeld => ?_)
  refine wpAnyH_take (i := 0) (v := ?_) rfl (by kernel_rfl) (by kernel_rfl) (by kernel_rfl) (fun _ _ _ h => h) (Or.inl ⟨by rfl, ?_⟩) hHeld ?_
  rotate_left
  · intro w' hSw
    clear hSw
    go_simp
    first | done | with_reducible rfl
  simp only [Act.put, List.getElem_toArray, List.getElem_cons_zero, List.setIfInBounds_toArray, List.set_cons_zero, List.set_cons_succ]
  refine wpAnyH_take (i := 1) (v := ?_) rfl (by kernel_rfl) (by kernel_rfl) (by kernel_rfl) (fun _ _ _ h => h) (Or.inl ⟨by rfl, ?_⟩) hHeld ?_
  rotate_left
  · intro w' hSw
    clear hSw
    go_simp
    first | done | with_reducible rfl
  simp only [Act.put, List.getElem_toArray, List.getElem_cons_succ, List.getElem_cons_zero, List.setIfInBounds_toArray, List.set_cons_zero, List.set_cons_succ]
  refine wpAnyH_take (i := 2) (v := ?_) rfl (by kernel_rfl) (by kernel_rfl) (by kernel_rfl) (fun _ _ _ h => h) (Or.inl ⟨by rfl, ?_⟩) hHeld ?_
  rotate_left
  · intro w' hSw
    clear hSw
    go_simp
    first | done | with_reducible rfl
  simp only [Act.put, List.getElem_toArray, List.getElem_cons_succ, List.getElem_cons_zero, List.setIfInBounds_toArray, List.set_cons_zero, List.set_cons_succ]
  refine wpAnyH_take (i := 3) (v := ?_) rfl (by kernel_rfl) (by kernel_rfl) (by kernel_rfl) (fun _ _ _ h => h) (Or.inl ⟨by rfl, ?_⟩) hHeld ?_
  rotate_left
  · intro w' hSw
    have c := hSw.c
    clear hSw
    go_simp
    first | done | with_reducible rfl
  simp only [Act.put, List.getElem_toArray, List.getElem_cons_succ, List.getElem_cons_zero, List.setIfInBounds_toArray, List.set_cons_zero, List.set_cons_succ]
  refine wpAnyH_take (i := 4) (v := (hv h)) rfl (by kernel_rfl) (by kernel_rfl) (by kernel_rfl) (fun _ _ _ h => h) (Or.inl ⟨by rfl, ?_⟩) hHeld ?_
  · intro w' hSw
    exact runLd 30 (.tmp 3) rfl w.heap.size 0 rfl (row 11 h) _ hSw.rx Tryz.underlying30 rfl (sizeH h)
  simp only [Act.put, List.getElem_toArray, List.getElem_cons_succ, List.getElem_cons_zero, List.setIfInBounds_toArray, List.set_cons_zero, List.set_cons_succ]
  refine wpAnyH_take (i := 5) (v := ?_) rfl (by kernel_rfl) (by kernel_rfl) (by kernel_rfl) (fun _ _ _ h => h) (Or.inl ⟨by rfl, ?_⟩) hHeld ?_
  rotate_left
  · intro w' hSw
    clear hSw
    go_simp
    first | done | with_reducible rfl
  simp only [Act.put, List.getElem_toArray, List.getElem_cons_succ, List.getElem_cons_zero, List.setIfInBounds_toArray, List.set_cons_zero, List.set_cons_succ]
  refine wpAnyH_take (i := 6) (v := ?_) rfl (by kernel_rfl) (by kernel_rfl) (by kernel_rfl) (fun _ _ _ h => h) (Or.inl ⟨by rfl, ?_⟩) hHeld ?_
  rotate_left
  · intro w' hSw
    clear hSw
    go_simp
    first | done | with_reducible rfl
  simp only [Act.put, List.getElem_toArray, List.getElem_cons_succ, List.getElem_cons_zero, List.setIfInBounds_toArray, List.set_cons_zero, List.set_cons_succ]
  refine wpAnyH_take (i := 7) (v := ?_) rfl (by kernel_rfl) (by kernel_rfl) (by kernel_rfl) (fun _ _ _ h => h) (Or.inl ⟨by rfl, ?_⟩) hHeld ?_
  rotate_left
  · intro w' hSw
    clear hSw
    go_simp
    first | done | with_reducible rfl
  simp only [Act.put, List.getElem_toArray, List.getElem_cons_succ, List.getElem_cons_zero, List.setIfInBounds_toArray, List.set_cons_zero, List.set_cons_succ]
  refine wpAnyH_take (i := 8) (v := (hv ρ.mask)) rfl (by kernel_rfl) (by kernel_rfl) (by kernel_rfl) (fun _ _ _ h => h) (Or.inl ⟨by rfl, ?_⟩) hHeld ?_
  · intro w' hSw
    exact runLd 30 (.tmp 14) rfl ρ.p 0 rfl (row 11 ρ.mask) _ hSw.rm Tryz.underlying30 rfl (sizeH ρ.mask)
  simp only [Act.put, List.getElem_toArray, List.getElem_cons_succ, List.getElem_cons_zero, List.setIfInBounds_toArray, List.set_cons_zero, List.set_cons_succ]
  refine wpAnyH_ready (rs := [9]) (by kernel_rfl) (by simp) ?_
  refine AllReadyH.cons rfl (fun K hK => ?_) AllReadyH.nil
  refine stepFnW 152 (.func 152) [.tmp 11, .tmp 15] _ [hv h, hv ρ.mask] rfl rfl rfl rfl (fun _ => rfl) _ (masked_any h ρ.mask W0.drew) ?_
  rintro r5 w5 ⟨rfl, hb5⟩
  refine Or.inl ⟨_, rfl, ?_⟩
  have HB5 := hid hb5
  refine hK.out _ _ (HAb.out w5 hb5) (fun hHeld => ?_)
  clear hK K hb5
  simp only [Act.put, List.getElem_toArray, List.getElem_cons_succ, List.getElem_cons_zero, List.setIfInBounds_toArray, List.set_cons_zero, List.set_cons_succ]
  refine wpAnyH_ready (rs := [10]) (by kernel_rfl) (by simp) ?_
  refine AllReadyH.cons rfl (fun K hK => ?_) AllReadyH.nil
  refine stepLook (.tmp 10) (.tmp 16) 221 rfl rfl rfl rfl (HMp.out w5 HB5.out) lawH Tryz.underlying221 (zeroEs _) (key_h hwk) ?_
  refine hK.out _ _ (HAb.out w5 HB5.out) (fun hHeld => ?_)
  clear hK K
  rw [HV0.out]
  simp only [Act.put, List.getElem_toArray, List.getElem_cons_succ, List.getElem_cons_zero, List.setIfInBounds_toArray, List.set_cons_zero, List.set_cons_succ]
  refine wpAnyH_take (i := 11) (v := ?_) rfl (by kernel_rfl) (by kernel_rfl) (by kernel_rfl) (fun _ _ _ h => h) (Or.inl ⟨by rfl, ?_⟩) hHeld ?_
  rotate_left
  · intro w' hSw
    clear hSw
    go_simp
    first | done | with_reducible rfl
  simp only [Act.put, List.getElem_toArray, List.getElem_cons_succ, List.getElem_cons_zero, List.setIfInBounds_toArray, List.set_cons_zero, List.set_cons_succ]
  refine wpAnyH_done (by kernel_rfl) ?_ _
  obtain ⟨f1, f2, f3⟩ := HFin.out w5 HB5.out
  have HF1 := hid f1
  clear f1 HFin HA0 HAb HMp HV0
  subst hvf
  cases l with
  | nil =>
    have c0 : w5.cell? ⟨w.heap.size + 1, 0, none⟩ = some (.int .i64 0) := by rw [cell_of_row _ _ _ _ _ _ f2]; rfl
    have c1 : w5.cell? ⟨w.heap.size + 1, 1, none⟩ = some (.int .i64 0) := by rw [cell_of_row _ _ _ _ _ _ f2]; rfl
    have HS : Hid (((w5.setCell ⟨w.heap.size + 1, 0, none⟩ (.int .i64 0)).setCell ⟨w.heap.size + 1, 1, none⟩ (.int .i64 0)).heap[w.heap.size + 1]? = some (.cells #[.int .i64 0, .int .i64 0] 217 (0, 0)) ∧ Below w.heap.size w ((w5.setCell ⟨w.heap.size + 1, 0, none⟩ (.int .i64 0)).setCell ⟨w.heap.size + 1, 1, none⟩ (.int .i64 0))) := two_set f2 HF1.out
    have fz : ∀ i, w5.frozen? ⟨w.heap.size + 1, i, none⟩ = false := fun i => by simp [World.frozen?, f2]
    clear f3
    go_wp2
    refine bodyPost_ret (resF _ _ (w.heap.size + 1) 0 0 _ rfl rfl HS.out.1) rfl ⟨rfl, HS.out.2⟩
  | cons e l =>
    obtain ⟨er, ek⟩ := e
    rcases f3 with ⟨hx, ⟨_, hz0⟩ | ⟨g, of, cap', cur, he, hb1, hb2, hb3, hb4, hb5⟩⟩
    · simp at hz0
    obtain ⟨rfl, rfl⟩ : ao = some ⟨g, of, none⟩ ∧ cap = cap' := by simpa using he
    have d0 : w5.cell? ⟨g, of, none⟩ = some (.int .i64 er) := by
      rw [cell_of_row _ _ _ _ _ _ hb2]
      have := cells_at hb5 (j := 0) (by simp)
      simpa [ces, c2] using this
    have d1 : w5.cell? ⟨g, of + 1, none⟩ = some (.int .i64 ek) := by
      rw [cell_of_row _ _ _ _ _ _ hb2]
      have := cells_at hb5 (j := 1) (by simp; omega)
      simpa [ces, c2] using this
    have HRg := hid (range2 d0 d1)
    have HS : Hid (((w5.setCell ⟨w.heap.size + 1, 0, none⟩ (.int .i64 er)).setCell ⟨w.heap.size + 1, 1, none⟩ (.int .i64 ek)).heap[w.heap.size + 1]? = some (.cells #[.int .i64 er, .int .i64 ek] 217 (0, 0)) ∧ Below w.heap.size w ((w5.setCell ⟨w.heap.size + 1, 0, none⟩ (.int .i64 er)).setCell ⟨w.heap.size + 1, 1, none⟩ (.int .i64 ek))) := two_set f2 HF1.out
    have hln : ¬ ((l.length : Int) + 1 = 0) := by omega
    clear hx he hb1 hb2 hb3 hb4 hb5 d0 d1
    have c0 : w5.cell? ⟨w.heap.size + 1, 0, none⟩ = some (.int .i64 0) := by rw [cell_of_row _ _ _ _ _ _ f2]; rfl
    have c1 : w5.cell? ⟨w.heap.size + 1, 1, none⟩ = some (.int .i64 0) := by rw [cell_of_row _ _ _ _ _ _ f2]; rfl
    have fz : ∀ i, w5.frozen? ⟨w.heap.size + 1, i, none⟩ = false := fun i => by simp [World.frozen?, f2]
    go_wp2_with (refine ldMid 217 (.tmp 23) rfl rfl g of rfl #[.int .i64 er, .int .i64 ek] _ Tryz.underlying217 rfl sizeE2 HRg.out ?_)
    refine bodyPost_ret (resF _ _ (w.heap.size + 1) er ek _ rfl rfl HS.out.1) rfl ⟨rfl, HS.out.2⟩
end Go.Proofs.YtdehlnaoehjehaaGreatDoor
