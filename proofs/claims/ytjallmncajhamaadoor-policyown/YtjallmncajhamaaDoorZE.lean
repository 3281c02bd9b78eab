/-
  Proved here: Copied of the statements makes a term of new memory alone. Conditions: at most 8192 terms; the term lies in old memory.
-/
import Derived.Test.YtjallmncajhamaaDoorGX
namespace Go.Proofs.YtjallmncajhamaaDoor
open Go.RowKit
set_option maxRecDepth 100000

/-- Copied under way: j kids are copied -/
structure CnS (w : World) (cs : Array Value) (ks : List Ti) (j : Nat) (v : Value) (wr : World) : Prop where
  sz : w.heap.size + 1 + 1 ≤ wr.heap.size
  low : Below w.heap.size w wr
  n : wr.heap[w.heap.size]? = some (.cells cs 26 (0, 0))
  r : wr.heap[w.heap.size + 1]? = some (.cells (tmc 0 0 0 nilS) 26 (0, 0))
  l : ∃ W1, w.heap.size + 1 + 1 ≤ W1.heap.size ∧ TlS (fun b => w.heap.size + 1 + 1 ≤ b) W1 (ks.take j) v wr
theorem CnS.on {w : World} {cs : Array Value} {ks : List Ti} {j : Nat} {v : Value} {wr w' : World} (h : CnS w cs ks j v wr) (hb : Below wr.heap.size wr w') : CnS w cs ks j v w' := by
  obtain ⟨W1, l1, l2⟩ := h.l
  have hs := h.sz
  have hz := hb.size
  exact ⟨by omega, h.low.trans (hb.mono h.low.size), (hb.block _ (by omega)).trans h.n, (hb.block _ (by omega)).trans h.r, ⟨W1, l1, l2.on hb⟩⟩
theorem CnS.next {w : World} {cs : Array Value} {ks : List Ti} {j : Nat} {vo : Option Addr} {vc : Nat} {w3 w4 : World} {ds : Array Value} (h : CnS w cs ks j (.slice vo j vc) w3) (hj : j < ks.length) (hw : Below w3.heap.size w3 w4) (hu : TiV (fun b => w3.heap.size ≤ b) w4 ks[j] ds) :
    ∃ (S : Nat → Prop) (xs : List Value), Hid (Rw S 4 26 (w4.alloc (.cells ds 26)) (.slice vo j vc) j xs) ∧ Hid (ds.toList.length = 1 * 4) ∧ Hid (∀ (jj : Nat) (x : Value), ds.toList[jj]? = some x → (w4.alloc (.cells ds 26)).cell? ((⟨w4.heap.size, 0, none⟩ : Addr).add jj) = some x) ∧ Hid (∀ x ∈ ds.toList, x.oneCell' = true) ∧
      Hid (∀ (v5 : Value) (w5 : World), Apd (w4.alloc (.cells ds 26)) (.slice vo j vc) w5 → (∀ S, Rw S 4 26 (w4.alloc (.cells ds 26)) (.slice vo j vc) j xs → Rw (fun b => S b ∨ (w4.alloc (.cells ds 26)).heap.size ≤ b) 4 26 w5 v5 (j + 1) (xs ++ ds.toList)) → CnS w cs ks (j + 1) v5 w5) := by
  obtain ⟨W1, l1, l2⟩ := h.l
  have htl : (ks.take j).length = j := by rw [List.length_take]; omega
  have hs := h.sz
  have hb4 : Below w4.heap.size w4 (w4.alloc (.cells ds 26)) := (Below.refl _ _).alloc (Nat.le_refl _) _
  have hz := hw.size
  have hb34 : Below w3.heap.size w3 (w4.alloc (.cells ds 26)) := hw.trans (hb4.mono hz)
  obtain ⟨xs, q1, q2⟩ := (l2.on hb34).ks
  have hN : (w4.alloc (.cells ds 26)).heap[w4.heap.size]? = some (.cells ds 26 (0, 0)) := heap_alloc_new _ _
  have q1' := q1
  rw [htl] at q1'
  refine ⟨_, xs, q1', ?_, ?_, ?_, ?_⟩
  · show _ = _; simp [hu.size]
  · intro jj x hx
    rw [Addr.add_lit, Nat.zero_add, cell_of_row _ _ _ _ _ _ hN, ← Array.getElem?_toList]; exact hx
  · intro x hx
    have h1 := hu.one
    rw [Array.all_eq_true_iff_forall_mem] at h1
    exact h1 x (by simpa using hx)
  · intro v5 w5 hA hR
    have hl5 : TlS (fun b => w.heap.size + 1 + 1 ≤ b) W1 (ks.take j ++ [ks[j]]) v5 w5 :=
      l2.app1 hw q1 q2 (ti_on hu fun b hb hS => ⟨⟨⟨by omega, fun e => by have := (l2.own b e).2; omega⟩, hb⟩, rfl⟩) hA (by rw [htl]; exact hR)
    have hz4 := hb34.size
    have hlow5 : Below w.heap.size w w5 := by
      have h1 : Below w.heap.size w (w4.alloc (.cells ds 26)) := h.low.trans (hb34.mono h.low.size)
      exact h1.trans ((hA.only (S := fun b => w.heap.size + 1 + 1 ≤ b) (fun b hb => by omega) (fun b hb => by have := (l2.own b hb).1; omega)).below fun b hb => by omega)
    have hkeep : ∀ b, b < w.heap.size + 1 + 1 → w5.heap[b]? = w3.heap[b]? := fun b hb =>
      (hA.block b (by omega) (fun e => by have := (l2.own b e).1; omega)).trans (hb34.block b (by omega))
    have hz5 := hA.size
    refine ⟨by omega, hlow5, (hkeep _ (by omega)).trans h.n, (hkeep _ (by omega)).trans h.r, ⟨W1, l1, ?_⟩⟩
    rw [List.take_add_one, List.getElem?_eq_getElem hj]
    exact hl5
/-- the copy, whole, in the result's block -/
theorem CnS.fin {w : World} {cs : Array Value} {op fd : Int} {n : Nat} {ks : List Ti} {vo : Option Addr} {vc : Nat} {wr : World} (h : CnS w cs ks ks.length (.slice vo ks.length vc) wr) (ws : Array Value) : Below w.heap.size w ((wr.setCell ⟨w.heap.size, 3, none⟩ (.slice vo ks.length vc)).setRow (w.heap.size + 1) ws) ∧ TiV (fun b => w.heap.size ≤ b) ((wr.setCell ⟨w.heap.size, 3, none⟩ (.slice vo ks.length vc)).setRow (w.heap.size + 1) ws) (.mk op fd n ks) (tic op fd n (.slice vo ks.length vc)) := by
  obtain ⟨W1, l1, l2⟩ := h.l
  rw [List.take_length] at l2
  obtain ⟨xs, q1, q2⟩ := l2.ks
  refine ⟨bel_row (h.low.setCell (p := ⟨w.heap.size, 3, none⟩) (Nat.le_refl _) _) (by omega) _, ?_⟩
  have hb : ∀ b, w.heap.size + 1 + 1 ≤ b → ((wr.setCell ⟨w.heap.size, 3, none⟩ (.slice vo ks.length vc)).setRow (w.heap.size + 1) ws).heap[b]? = wr.heap[b]? := fun b hb =>
    (setRow_other _ _ b _ (by omega)).trans (heap_setCell_other wr ⟨w.heap.size, 3, none⟩ b _ (by show b ≠ w.heap.size; omega))
  rw [TiV]
  exact ⟨_, xs, rfl, q1.rx.carry fun b _ hS => ⟨by omega, hb b (by omega)⟩, TiL.carry (fun b _ hS => ⟨by omega, hb b (by omega)⟩) _ _ q2⟩
set_option maxHeartbeats 12800000 in
theorem copied_any : ∀ (N : Nat) (t : Ti) (cs : Array Value) (w : World), szI t ≤ N → N ≤ 8192 → GiV (fun b => b < w.heap.size) w t cs → Calls Tryd.prog 21 #[.agg cs] w fun e w' => ∃ ds, e = .returned (.agg ds) ∧ Below w.heap.size w w' ∧ TiV (fun b => w.heap.size ≤ b) w' t ds
  | 0, t, cs, w, hN, _, _ => by have := szI_pos t; omega
  | N + 1, .mk op fd n ks, cs, w, hN, hsm, ht => by
    have HIH := hid (copied_any N)
    obtain ⟨v, xs, rfl, h2, h3⟩ := ht.get
    obtain ⟨ao, cap, rfl⟩ := h2.form
    rw [szI] at hN
    have hkl : ks.length ≤ 8192 := by have := len_szsI ks ks.length (Nat.le_refl _); rw [List.take_length] at this; omega
    obtain ⟨W1, hW1⟩ : ∃ W1, W1 = (w.alloc (.cells (tic op fd n (.slice ao ks.length cap)) 26)).alloc (.cells (tmc 0 0 0 nilS) 26) := ⟨_, rfl⟩
    have HE : Hid ((w.alloc (.cells (tic op fd n (.slice ao ks.length cap)) 26)).alloc (.cells #[.int .i8 0, .int .i8 0, .int .u64 0, .slice none 0 0] 26) = W1) := hW1.symm
    have hTw : Tw w (tic op fd n (.slice ao ks.length cap)) W1 := by rw [hW1]; exact Tw.new _ _
    have HS0 : Hid (CnS w (tic op fd n (.slice ao ks.length cap)) ks 0 nilS W1) := ⟨by have := hTw.sz; omega, hTw.b, hTw.n, hTw.r, ⟨W1, by have := hTw.sz; omega, by rw [List.take_zero]; exact TlS.nil _ (Below.refl _ _)⟩⟩
    have H2 := hid h2
    have H3 := hid h3
    have HNN := hid hN
    clear ht h2 h3 hW1 hTw hN
    go_enter Tryd.func21, Tryd.ntmps21
    go_upto_region 1 with fail
    rw [show (w.alloc (.cells (tic op fd n (.slice ao ks.length cap)) 26)).alloc (.cells #[.int .i8 0, .int .i8 0, .int .u64 0, .slice none 0 0] 26) = W1 from HE.out]
    clear HE
    go_upto_region 3 with fail
    go_loopw [3, 4] (fun lv v wr => ∃ (j : Nat) (vo : Option Addr) (vc : Nat), v = .int .i64 ((j : Nat) : Int) ∧ lv = .slice vo j vc ∧ j ≤ ks.length ∧ Hid (CnS w (tic op fd n (.slice ao ks.length cap)) ks j lv wr)) (fun _ v _ => ks.length - (intOf v).toNat)
    case atStart => exact ⟨0, none, 0, rfl, rfl, Nat.zero_le _, HS0⟩
    case round =>
      clear HS0
      obtain ⟨j, vo, vc, rfl, rfl, hj1, HS⟩ := hrel
      have c3 := (four_cells HS.out.n).2.2.2
      by_cases hj : j < ks.length
      · have hs3 : decide ((j : Int) < (ks.length : Int)) = true := by simp; omega
        have hw3 : IntKind.i64.wrap ((j : Int) + 1) = (j : Int) + 1 := by rw [IntKind.wrap_i64]; omega
        have hks := szsI_mem (List.getElem_mem hj)
        obtain ⟨kcs, hkv, hka⟩ := GiL.at ks xs j hj H3.out
        obtain ⟨g, o, rfl, hcap, hgS, hgl, hra⟩ := H2.out.at hj
        have hlow := HS.out.low
        have hk4 := hkv.size
        obtain ⟨x0, x1, x2, x3, rfl⟩ := arr4 hk4
        have hra2 := hra (#[x0, x1, x2, x3] : Array Value).toList (fun i hi => by
          have hi4 : i < 4 := by simpa using hi
          rw [hka i hi4]; simp)
        have HRA : Hid (wr.rangeAt g (o + j * 4) (#[x0, x1, x2, x3] : Array Value).toList) := fun i v hi => (cell_same (hlow.block g hgl)).trans (hra2 i v hi)
        have HC := hid (HIH.out ks[j] #[x0, x1, x2, x3] wr (by have := HNN.out; omega) (by omega) (gi_on hkv fun b hb hS => ⟨by have := hlow.size; omega, hlow.block b hb⟩))
        have hjc : j < cap := by omega
        have hjl : j + 1 ≤ 8192 := by omega
        clear hkv hka hra hra2 hlow hks hgS hgl hk4
        go_wp2_with (first
          | (refine ldMid 26 (.tmp 16) rfl rfl g (o + j * 4) rfl #[x0, x1, x2, x3] _ Tryd.underlying26 rfl sizeTM HRA.out ?_)
          | (refine bldSl 24 26 (.tmp 18) rfl rfl ds rfl Tryd.underlying24 _ _ _ rfl rfl rfl HD4.out (by decide) (by decide) ?_)
          | (refine appRw (.tmp 12) (.tmp 19) 24 rfl rfl (k := 4) (t := 26) (n := j) (m := 1) (c := 1) (us := ds.toList) (ad := ⟨w4.heap.size, 0, none⟩) rfl rfl Tryd.underlying24 infoTM rfl (by omega) (by omega) HG4.out HE4.out HX4.out HY4.out (by omega) (Or.inl (by omega)) ?_; intro v5 w5 hA5 hR5; obtain ⟨ao5, cap5, rfl⟩ := (hR5 _ HG4.out).form; have HS5 := hid (HK4.out _ _ hA5 hR5); clear hA5 hR5)
          | (go_at_call 21; refine (HC.out).mono ?_; rintro e w4 ⟨ds, rfl, hw, hu⟩; have HD4 := hid hu.size; obtain ⟨S4, xs4, HG4, HE4, HX4, HY4, HK4⟩ := CnS.next HS.out hj hw hu; clear hw hu HC))
        have hX : ∃ (m : Nat) (vo : Option Addr) (vc : Nat), Value.int .i64 ((j : Int) + 1) = .int .i64 ((m : Nat) : Int) ∧ Value.slice ao5 (j + 1) cap5 = .slice vo m vc ∧ m ≤ ks.length ∧ Hid (CnS w (tic op fd n (.slice (some ⟨g, o, none⟩) ks.length cap)) ks m (.slice ao5 (j + 1) cap5) w5) := ⟨j + 1, ao5, cap5, by rw [show (((j + 1 : Nat) : Nat) : Int) = (j : Int) + 1 by omega], rfl, hj, HS5⟩
        refine ⟨?_, ?_⟩
        · first
            | exact hX
            | ((repeat apply Exists.intro); refine ⟨?_, rfl⟩; exact hX)
        · simp [intOf]; omega
      · have hs3 : decide ((j : Int) < (ks.length : Int)) = false := by simp; omega
        obtain rfl : j = ks.length := by omega
        have HN5 : Hid ((wr.setCell ⟨w.heap.size, 3, none⟩ (.slice vo ks.length vc)).heap[w.heap.size]? = some (.cells (tic op fd n (.slice vo ks.length vc)) 26 (0, 0))) := by
          have := heap_setCell_same wr w.heap.size 3 _ 26 (.slice vo ks.length vc) HS.out.n
          show _ = _
          simpa using this
        have HR5 : Hid ((wr.setCell ⟨w.heap.size, 3, none⟩ (.slice vo ks.length vc)).heap[w.heap.size + 1]? = some (.cells (tmc 0 0 0 nilS) 26 (0, 0))) := (heap_setCell_other wr ⟨w.heap.size, 3, none⟩ _ _ (by show w.heap.size + 1 ≠ w.heap.size; omega)).trans HS.out.r
        have hfz : wr.frozen? ⟨w.heap.size, 3, none⟩ = false := row_frozen HS.out.n
        go_wp2_with (first
          | (refine ldRow 26 (.tmp 1) rfl rfl w.heap.size rfl 26 (tic op fd n (.slice vo ks.length vc)) _ Tryd.underlying26 rfl sizeTM HN5.out ?_)
          | (refine stRow 26 (.tmp 2) (.tmp 23) rfl rfl (w.heap.size + 1) (tic op fd n (.slice vo ks.length vc)) rfl rfl 26 (tmc 0 0 0 nilS) HR5.out sizeTM rfl (by simp [Value.oneCell']) ?_))
        refine bodyPost_ret (v := .agg (tic op fd n (.slice vo ks.length vc))) (res_tm Tryd.results21 _ _ (w.heap.size + 1) _ sizeTM rfl (setRow_heap _ _ _ _ _ _ HR5.out)) rfl ?_
        have hfin := CnS.fin (op := op) (fd := fd) (n := n) HS.out (tic op fd n (.slice vo ks.length vc))
        exact ⟨_, rfl, hfin.1, hfin.2⟩
end Go.Proofs.YtjallmncajhamaaDoor
