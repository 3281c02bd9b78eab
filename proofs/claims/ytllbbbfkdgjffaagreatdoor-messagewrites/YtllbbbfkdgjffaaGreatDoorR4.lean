/-
  Proved here: the cursor's method action reads an action, or panics with ErrMessage. Conditions: the bytes lie in blocks of T, the cursor's is none of them.
-/
import Derived.Test.YtllbbbfkdgjffaaGreatDoorR3
namespace Go.Proofs.YtllbbbfkdgjffaaGreatDoor
open Go.RowKit

def VA : Nat → World → Value → Ac → Prop := fun _ _ v x => v = av x ∧ x.Fit
abbrev z93 : Array Value := #[.int .i8 0, .int .i8 0, .int .u64 0]
theorem two_new (w : World) (x y : Obj) : ∃ W, Hid (W = (w.alloc x).alloc y) ∧ Below w.heap.size w W ∧ W.heap.size = w.heap.size + 2 ∧ W.heap[w.heap.size]? = some x ∧ W.heap[w.heap.size + 1]? = some y := by
  refine ⟨_, rfl, ((Below.refl _ _).alloc (Nat.le_refl _) _).alloc (by simp) _, by simp, ?_, ?_⟩
  · rw [heap_alloc_old _ _ (by simp)]; exact heap_alloc_new _ _
  · have := heap_alloc_new (w.alloc x) y
    simpa using this
theorem three_free {w : World} {g : Nat} {x y z : Value} {t : TypeId} (h : w.heap[g]? = some (.cells #[x, y, z] t (0, 0))) (o : Nat) : w.frozen? ⟨g, o, none⟩ = false := by simp [World.frozen?, h]
theorem three_set0 {w : World} {g : Nat} {x y z u : Value} {t : TypeId} (h : w.heap[g]? = some (.cells #[x, y, z] t (0, 0))) : (w.setCell ⟨g, 0, none⟩ u).heap[g]? = some (.cells #[u, y, z] t (0, 0)) := by
  rw [heap_setCell_same w g 0 _ t _ h]; rfl
theorem three_set1 {w : World} {g : Nat} {x y z u : Value} {t : TypeId} (h : w.heap[g]? = some (.cells #[x, y, z] t (0, 0))) : (w.setCell ⟨g, 1, none⟩ u).heap[g]? = some (.cells #[x, u, z] t (0, 0)) := by
  rw [heap_setCell_same w g 1 _ t _ h]; rfl
theorem three_set2 {w : World} {g : Nat} {x y z u : Value} {t : TypeId} (h : w.heap[g]? = some (.cells #[x, y, z] t (0, 0))) : (w.setCell ⟨g, 2, none⟩ u).heap[g]? = some (.cells #[x, y, u] t (0, 0)) := by
  rw [heap_setCell_same w g 2 _ t _ h]; rfl
/-- A cursor stays, a new block is written. -/
theorem Rc.set {T : Nat → Prop} {w : World} {c g o : Nat} {bs : List Int} {v : Value} (h : Rc T w c bs) (hg : g ≠ c) (hT : ¬ T g) (h2 : 2 ≤ g) : Rc T (w.setCell ⟨g, o, none⟩ v) c bs := by
  have hk : ∀ k, k ≠ g → (w.setCell ⟨g, o, none⟩ v).heap[k]? = w.heap[k]? := fun k hk => heap_setCell_other w ⟨g, o, none⟩ k v hk
  have hb : Below 0 w (w.setCell ⟨g, o, none⟩ v) := (Below.refl 0 w).setCell (p := ⟨g, o, none⟩) (Nat.zero_le _) v
  exact ⟨h.cur.carry (hk c (fun e => hg e.symm)) fun k _ hx => ⟨hx, hk k (fun e => hT (e ▸ hx))⟩, h.out, h.tab.of (hk 0 (by omega)) (hk 1 (by omega)), h.two, fun x hx => Nat.lt_of_lt_of_le (h.old x hx) hb.size⟩
theorem resAct (tmps : Array Value) (w : World) (g : Nat) (cs : Array Value) (hp : tmps.getD 2 undef = ptr g) (hg : w.heap[g]? = some (.cells cs 93 (0, 0))) (hs : (Tryz.prog.info? 93).map (·.size) = some cs.size) : (results Tryz.f126 tmps).run Tryz.prog w = .ok (.agg cs) w := by
  have hp' : tmps[2]?.getD undef = ptr g := by simpa using hp
  simp [results, Tryz.results126, hp', asAddr, run_loadVar_row w g 93 93 _ (0, 0) _ hg Tryz.underlying93 rfl hs]

/-- A reading, then a store into a block of one's own. -/
theorem rd_set {T : Nat → Prop} {c n g o : Nat} {v : Value} {w W w1 : World} {bs r : List Int} (h : Rc T W c bs) (hO : Only (fun x => x = c ∨ n ≤ x) w W) (hn : n ≤ W.heap.size) (hg : n ≤ g) (hT : ∀ x, T x → x < n) (hc : c < n) (h2 : 2 ≤ n) (ho : Only (fun x => x = c ∨ W.heap.size ≤ x) W w1) (hc1 : Cur T w1 c r) :
    Rc T (w1.setCell ⟨g, o, none⟩ v) c r ∧ Only (fun x => x = c ∨ n ≤ x) w (w1.setCell ⟨g, o, none⟩ v) ∧ n ≤ (w1.setCell ⟨g, o, none⟩ v).heap.size ∧ ∀ k, k < W.heap.size → k ≠ c → k ≠ g → (w1.setCell ⟨g, o, none⟩ v).heap[k]? = W.heap[k]? := by
  have h1 := h.on ho hc1
  have hO2 : Only (fun x => x = c ∨ n ≤ x) w (w1.setCell ⟨g, o, none⟩ v) := (hO.trans (ho.mono fun x hx => by rcases hx with e | e; exact Or.inl e; exact Or.inr (Nat.le_trans hn e))).setCell (p := ⟨g, o, none⟩) (Or.inr hg) v
  have hb : Below 0 w1 (w1.setCell ⟨g, o, none⟩ v) := (Below.refl 0 w1).setCell (p := ⟨g, o, none⟩) (Nat.zero_le _) v
  refine ⟨h1.set (by omega) (fun e => by have := hT g e; omega) (by omega), hO2, Nat.le_trans hn (Nat.le_trans ho.size hb.size), fun k hk hkc hkg => ?_⟩
  rw [heap_setCell_other w1 ⟨g, o, none⟩ k v hkg, ho.block k (by rintro (e | e); exact hkc e; omega)]

section
variable {T : Nat → Prop} {c : Nat} {bs : List Int} {w : World}
set_option maxHeartbeats 1600000 in
set_option maxRecDepth 100000 in
theorem caction_any (h : Rc T w c bs) : Calls Tryz.prog 126 #[ptr c] w (RdP T c (rdAc true bs) VA w) := by
  obtain ⟨W, HW, hb, hz, h0, h1⟩ := two_new w (.cells z93 93) (.cells z93 93)
  have hR := h.new hb
  have hcw := h.cur.lt
  have h2c := h.two
  have HB := hid hb
  have HR := hid hR
  have H0 := hid h0
  have H1 := hid h1
  have hTo := h.old
  have HTo : Hid (∀ x, T x → x < w.heap.size) := hTo
  have hpos : 2 ≤ w.heap.size := by have := h.tab.pos; omega
  have HO0 := hid (Only.of (S := fun x => x = c ∨ w.heap.size ≤ x) hb fun x hx => Or.inr hx)
  have HN := hid (csmall_any c bs W hR.cur hR.out)
  have hB := h.cur.isB
  unfold rdI8 at HN
  obtain ⟨sp, HSp⟩ : ∃ o, Hid (rdAc true bs = o) := ⟨_, rfl⟩
  rw [HSp.out]
  unfold rdAc at HSp
  clear hb h0 h1 hTo
  go_enter Tryz.func126, Tryz.ntmps126
  go_upto_region 2 with fail
  rw [show (w.alloc (.cells z93 93)).alloc (.cells z93 93) = W from HW.out.symm]
  cases ht : tk 1 bs with
  | none =>
    rw [ht] at HN HSp
    clear h hB ht hR
    go_wp2_with (go_at_call 41; refine (HN.out).mono ?_; intro e w1 h9; obtain ⟨rfl, hq⟩ := RdP.bad h9; have H9 := hid hq; clear hq h9)
    exact ⟨rfl, RdP.no (only_new HB.out H9.out) HSp.out.symm⟩
  | some p =>
    obtain ⟨n, r⟩ := p
    rw [ht] at HN HSp
    simp only [Option.map_some] at HN
    simp only [Option.bind_some] at HSp
    obtain ⟨-, n0, n1, hBr⟩ := tk_inv hB ht
    rw [pw1] at n1
    have hi := i8_bd n0 n1
    generalize i8 n = x at HN hi HSp
    obtain ⟨i0, i1, -⟩ := hi
    clear h hB ht hR n0 n1
    go_upto_region 3 with (go_at_call 41; refine (HN.out).mono ?_; intro e w1 h9; obtain ⟨v, rfl, h1, h2, rfl⟩ := RdP.get h9; have HX := hid (And.intro h1 h2)
                           have hb1 : w1.heap[w.heap.size + 1]? = some (.cells z93 93 (0, 0)) := by
                             rw [h1.block _ (by rintro (e | e) <;> omega)]; exact H1.out
                           have HB1 := hid hb1
                           obtain ⟨a0, a1, a2⟩ := three_cells hb1
                           have hfz := three_free hb1
                           clear h1 h2 h9 hb1)
    obtain ⟨hR2, hO2, hn2, hk2⟩ := rd_set (g := w.heap.size + 1) (o := 0) (v := .int .i8 x) HR.out HO0.out (by omega) (by omega) HTo.out hcw hpos HX.out.1 HX.out.2
    have HG2 : Hid ((w1.setCell ⟨w.heap.size + 1, 0, none⟩ (.int .i8 x)).heap[w.heap.size + 1]? = some (.cells #[.int .i8 x, .int .i8 0, .int .u64 0] 93 (0, 0))) := three_set0 HB1.out
    have HF2 : Hid ((w1.setCell ⟨w.heap.size + 1, 0, none⟩ (.int .i8 x)).heap[w.heap.size]? = some (.cells z93 93 (0, 0))) := (hk2 w.heap.size (by omega) (by omega) (by omega)).trans H0.out
    have hz2 : w.heap.size + 2 ≤ (w1.setCell ⟨w.heap.size + 1, 0, none⟩ (.int .i8 x)).heap.size := by
      have := HX.out.1.size
      have : w1.heap.size ≤ (w1.setCell ⟨w.heap.size + 1, 0, none⟩ (.int .i8 x)).heap.size := ((Below.refl 0 w1).setCell (p := ⟨w.heap.size + 1, 0, none⟩) (Nat.zero_le _) _).size
      omega
    have HR2 := hid hR2
    have HO2 := hid hO2
    clear hR2 hO2 hk2 a0 a1 a2 hfz HX HB1 H0 H1 HR HO0 HN
    generalize w1.setCell ⟨w.heap.size + 1, 0, none⟩ (.int .i8 x) = V2 at HR2 HO2 hn2 HG2 HF2 hz2 ⊢
    clear w1
    have HN := hid (csmall_any c r V2 HR2.out.cur HR2.out.out)
    unfold rdI8 at HN
    cases ht2 : tk 1 r with
    | none =>
      rw [ht2] at HN HSp
      clear ht2
      go_wp2_with (go_at_call 41; refine (HN.out).mono ?_; intro e w1 h9; obtain ⟨rfl, hq⟩ := RdP.bad h9; have H9 := hid hq; clear hq h9)
      exact ⟨rfl, RdP.no (HO2.out.trans (H9.out.mono fun x hx => by rcases hx with e | e; exact Or.inl e; exact Or.inr (by omega))) HSp.out.symm⟩
    | some p =>
      obtain ⟨n, r2⟩ := p
      rw [ht2] at HN HSp
      simp only [Option.map_some] at HN
      simp only [Option.bind_some] at HSp
      obtain ⟨-, n0, n1, hBr2⟩ := tk_inv hBr ht2
      rw [pw1] at n1
      have hi := i8_bd n0 n1
      generalize i8 n = y at HN hi HSp
      obtain ⟨j0, j1, -⟩ := hi
      clear ht2 n0 n1
      go_upto_region 4 with (go_at_call 41; refine (HN.out).mono ?_; intro e w1 h9; obtain ⟨v, rfl, h1, h2, rfl⟩ := RdP.get h9; have HX := hid (And.intro h1 h2)
                             have hb1 : w1.heap[w.heap.size + 1]? = some (.cells #[.int .i8 x, .int .i8 0, .int .u64 0] 93 (0, 0)) := by
                               rw [h1.block _ (by rintro (e | e) <;> omega)]; exact HG2.out
                             have HB1 := hid hb1
                             obtain ⟨a0, a1, a2⟩ := three_cells hb1
                             have hfz := three_free hb1
                             clear h1 h2 h9 hb1)
      obtain ⟨hR3, hO3, hn3, hk3⟩ := rd_set (g := w.heap.size + 1) (o := 1) (v := .int .i8 y) HR2.out HO2.out (by omega) (by omega) HTo.out hcw hpos HX.out.1 HX.out.2
      have HG3 : Hid ((w1.setCell ⟨w.heap.size + 1, 1, none⟩ (.int .i8 y)).heap[w.heap.size + 1]? = some (.cells #[.int .i8 x, .int .i8 y, .int .u64 0] 93 (0, 0))) := three_set1 HB1.out
      have HF3 : Hid ((w1.setCell ⟨w.heap.size + 1, 1, none⟩ (.int .i8 y)).heap[w.heap.size]? = some (.cells z93 93 (0, 0))) := (hk3 w.heap.size (by omega) (by omega) (by omega)).trans HF2.out
      have hz3 : w.heap.size + 2 ≤ (w1.setCell ⟨w.heap.size + 1, 1, none⟩ (.int .i8 y)).heap.size := by
        have := HX.out.1.size
        have : w1.heap.size ≤ (w1.setCell ⟨w.heap.size + 1, 1, none⟩ (.int .i8 y)).heap.size := ((Below.refl 0 w1).setCell (p := ⟨w.heap.size + 1, 1, none⟩) (Nat.zero_le _) _).size
        omega
      have HR3 := hid hR3
      have HO3 := hid hO3
      clear hR3 hO3 hk3 a0 a1 a2 hfz HX HB1 HG2 HF2 HR2 HO2 HN
      generalize w1.setCell ⟨w.heap.size + 1, 1, none⟩ (.int .i8 y) = V3 at HR3 HO3 hn3 HG3 HF3 hz3 ⊢
      clear w1
      have HN := hid (cnumber_any c 8 r2 V3 HR3.out.cur HR3.out.out (by omega) (by omega))
      cases ht3 : tk 8 r2 with
      | none =>
        rw [ht3] at HN HSp
        clear ht3
        go_wp2_with (go_at_call 40; refine (HN.out).mono ?_; intro e w1 h9; obtain ⟨rfl, hq⟩ := RdP.bad h9; have H9 := hid hq; clear hq h9)
        exact ⟨rfl, RdP.no (HO3.out.trans (H9.out.mono fun x hx => by rcases hx with e | e; exact Or.inl e; exact Or.inr (by omega))) HSp.out.symm⟩
      | some p =>
        obtain ⟨z, r3⟩ := p
        rw [ht3] at HN HSp
        simp only [Option.bind_some] at HSp
        obtain ⟨-, z0, z1, -⟩ := tk_inv hBr2 ht3
        rw [pw8] at z1
        clear ht3
        go_upto_region 5 with (go_at_call 40; refine (HN.out).mono ?_; intro e w1 h9; obtain ⟨v, rfl, h1, h2, rfl⟩ := RdP.get h9; have HX := hid (And.intro h1 h2)
                               have hb1 : w1.heap[w.heap.size + 1]? = some (.cells #[.int .i8 x, .int .i8 y, .int .u64 0] 93 (0, 0)) := by
                                 rw [h1.block _ (by rintro (e | e) <;> omega)]; exact HG3.out
                               have HB1 := hid hb1
                               obtain ⟨a0, a1, a2⟩ := three_cells hb1
                               have hfz := three_free hb1
                               clear h1 h2 h9 hb1)
        obtain ⟨hR4, hO4, hn4, hk4⟩ := rd_set (g := w.heap.size + 1) (o := 2) (v := .int .u64 z) HR3.out HO3.out (by omega) (by omega) HTo.out hcw hpos HX.out.1 HX.out.2
        have hG4 : (w1.setCell ⟨w.heap.size + 1, 2, none⟩ (.int .u64 z)).heap[w.heap.size + 1]? = some (.cells #[.int .i8 x, .int .i8 y, .int .u64 z] 93 (0, 0)) := three_set2 HB1.out
        have HF4 : Hid ((w1.setCell ⟨w.heap.size + 1, 2, none⟩ (.int .u64 z)).heap[w.heap.size]? = some (.cells z93 93 (0, 0))) := (hk4 w.heap.size (by omega) (by omega) (by omega)).trans HF3.out
        have hz4 : w.heap.size + 2 ≤ (w1.setCell ⟨w.heap.size + 1, 2, none⟩ (.int .u64 z)).heap.size := by
          have := HX.out.1.size
          have : w1.heap.size ≤ (w1.setCell ⟨w.heap.size + 1, 2, none⟩ (.int .u64 z)).heap.size := ((Below.refl 0 w1).setCell (p := ⟨w.heap.size + 1, 2, none⟩) (Nat.zero_le _) _).size
          omega
        have HR4 := hid hR4
        have HO4 := hid hO4
        have HG4 := hid hG4
        clear hR4 hO4 hk4 a0 a1 a2 hfz HX HB1 HG3 HF3 HR3 HO3 HN hG4
        generalize w1.setCell ⟨w.heap.size + 1, 2, none⟩ (.int .u64 z) = V4 at HR4 HO4 hn4 HG4 HF4 hz4 ⊢
        clear w1
        have HA := hid (isAction_any ⟨x, y, z⟩ V4)
        obtain ⟨a0, a1, a2⟩ := three_cells HG4.out
        cases ho : okAc ⟨x, y, z⟩ with
        | false =>
          rw [ho] at HA HSp
          clear ho
          go_wp2_with (first
            | (go_at_call 128; refine (HA.out).mono ?_; rintro e w5 ⟨rfl, hb⟩; have H5 := hid hb; clear hb)
            | (go_at_call 30; refine (must_false _).mono ?_; rintro e w' ⟨rfl, hw⟩; rw [hw]; clear hw w'))
          exact ⟨rfl, RdP.no (HO4.out.trans (Only.of H5.out fun x hx => Or.inr (by omega))) (HSp.out.symm.trans kp_no)⟩
        | true =>
          rw [ho] at HA HSp
          clear ho
          go_upto_region 6 with (first
            | (go_at_call 128; refine (HA.out).mono ?_; rintro e w5 ⟨rfl, hb⟩; have H5 := hid hb; clear hb)
            | (go_at_call 30; refine (must_true _).mono ?_; rintro e w' ⟨rfl, hw⟩; rw [hw]; clear hw w'))
          have hG5 : w5.heap[w.heap.size + 1]? = some (.cells #[.int .i8 x, .int .i8 y, .int .u64 z] 93 (0, 0)) := (H5.out.block _ (by omega)).trans HG4.out
          have hF5 : w5.heap[w.heap.size]? = some (.cells z93 93 (0, 0)) := (H5.out.block _ (by omega)).trans HF4.out
          have HF5 := hid hF5
          have hsz5 := H5.out.size
          obtain ⟨b0, b1, b2⟩ := three_cells hG5
          clear hG5 hF5 a0 a1 a2
          go_wp2_with (refine stRow 93 (.tmp 2) (.tmp 16) rfl rfl w.heap.size #[.int .i8 x, .int .i8 y, .int .u64 z] rfl rfl 93 z93 HF5.out (by kernel_rfl) rfl (by simp [oneI]) ?_)
          have hRF := setRow_heap w5 w.heap.size z93 #[.int .i8 x, .int .i8 y, .int .u64 z] 93 _ HF5.out
          refine bodyPost_ret (v := av ⟨x, y, z⟩) (resAct _ _ w.heap.size _ rfl hRF (by kernel_rfl)) rfl (RdP.yes ?_ (HSp.out.symm.trans kp_true) ?_ ⟨rfl, ⟨i0, i1⟩, ⟨j0, j1⟩, z0, z1⟩)
          · refine (HO4.out.trans (Only.of H5.out fun x hx => Or.inr (by omega))).trans ⟨rfl, rfl, rfl, by simp [World.setRow], fun k hk => setRow_other w5 w.heap.size k _ (fun e => hk (Or.inr (by omega)))⟩
          · have hR5 := HR4.out.new H5.out
            exact hR5.cur.carry (setRow_other w5 w.heap.size c _ (by omega)) fun k _ hT => ⟨hT, setRow_other w5 w.heap.size k _ (by have := HTo.out k hT; omega)⟩
end
end Go.Proofs.YtllbbbfkdgjffaaGreatDoor
