/-
  Proved here: CacheStays' body says true. No condition.
-/
import Derived.Test.YtpmdgockiblkaaaOA
import Derived.Test.YtpmdgockiblkaaaPI
namespace Go.Proofs.Ytpmdgockiblkaaa
open Go.RowKit

/-- The other headers' cells, wherever they lie. -/
theorem Lst.hdr {T : Nat → Prop} {w : World} {v : Value} {l : List Hdr} (h : Lst T 11 RHd w v l) {q : Nat} (hq : q < l.length) : ∃ b o cap, v = .slice (some ⟨b, o, none⟩) l.length cap ∧ l.length ≤ cap ∧ T b ∧ b < w.heap.size ∧ ∀ j (hj : j < l.length), w.rangeAt b (o + j * 11) (row 11 l[j].f).toList := by
  obtain ⟨ao, cap, h1, h2, h3, h4, h5⟩ := h
  obtain ⟨b, o, hb, rfl, hc⟩ := h5 (fun e => by rw [e] at hq; simp at hq)
  have h0 := hc q hq 0 (by omega)
  refine ⟨b, o, cap, h1, h2, hb, cell_lt h0, fun j hj => range_of fun i hi => ?_⟩
  rw [row_size] at hi
  rw [row_at 11 _ _ hi]
  exact hc j hj i hi
theorem runNeH {o : Oper} {a : Act} {w : World} (x y : Operand) (ho : o.op = .binOp .neq 30 x y 30) (p q : Nat → Int) (hx : a.eval x = hv p) (hy : a.eval y = hv q) : (execOp a.eval o).run Try.prog w = .ok (.value (.bool (!eqR 11 p q))) w := by
  unfold execOp
  simp only [ho, hx, hy, Sem.run_bind, Sem.run_pure, Result.andThen_ok, run_eqGuard_agg w _ _ _ _ _ _ guardH, run_neq_struct, show (10000 : Nat) = 9998 + 2 from rfl, eqA_run]
theorem w64 (n : Int) (h : -9223372036854775808 ≤ n ∧ n ≤ 9223372036854775807) : wrap64 n = n := by unfold wrap64; omega
theorem tm39 (t : Int) : -39 < t.tmod 39 ∧ t.tmod 39 < 39 := by
  constructor
  · have := Int.lt_tmod_of_pos t (b := 39) (by omega); omega
  · exact Int.tmod_lt_of_pos t (by omega)
theorem size39 (size : Int) : 2 ≤ wrap64 (2 + (wrap64 (size.tmod 39 + 39)).tmod 39) ∧ wrap64 (2 + (wrap64 (size.tmod 39 + 39)).tmod 39) ≤ 40 := by
  have h1 := tm39 size
  have h2 : wrap64 (size.tmod 39 + 39) = size.tmod 39 + 39 := w64 _ (by omega)
  rw [h2]
  have h3 := tm39 (size.tmod 39 + 39)
  have h4 : 0 ≤ (size.tmod 39 + 39).tmod 39 := Int.tmod_nonneg _ (by omega)
  rw [w64 _ (by omega)]
  omega
theorem St.weak {c : Cs} {h : Hdr} {m : Bool} (hS : St c h m) : St c h false := by
  obtain ⟨p, e, h1, h2, h3, h4, _, h6⟩ := hS.ex
  exact ⟨hS.two, p, e, h1, h2, h3, h4, (fun h => by cases h), h6⟩
/-- What is compared. -/
structure Hw (b p : Nat) (x : Nat → Int) (b' p' : Nat) (y : Nat → Int) (w : World) : Prop where
  rA : w.rangeAt b p (row 11 x).toList
  rB : w.rangeAt b' p' (row 11 y).toList
theorem range_on {w w' : World} {b p : Nat} {vs : List Value} (h : w.rangeAt b p vs) (hb : w'.heap[b]? = w.heap[b]?) : w'.rangeAt b p vs := fun j v hj => (cell_same hb).trans (h j v hj)
theorem range_blk {w : World} {b t : Nat} {f : Nat → Int} (h : Blk w b 11 t f) : w.rangeAt b 0 (row 11 f).toList := range_of fun i hi => by
  rw [row_size] at hi
  rw [Nat.zero_add, h.cell i hi, row_at 11 f i hi]
set_option maxHeartbeats 3200000 in
set_option maxRecDepth 100000 in
theorem stays_any (w : World) (v : Value) (size : Int) (h : Hdr) (l : List Hdr) (_hs : (Lit.int .i64 size).wf = true) (hl : Lst (fun b => b < w.heap.size) 11 RHd w v l) : Calls Try.prog 7 #[.int .i64 size, hv h.f, v] w fun e w' => e = .returned (.bool true) ∧ Below w.heap.size w w' := by
  obtain ⟨ao, cap, rfl, hcap⟩ := hl.form
  obtain ⟨W0, hW0⟩ : ∃ W0, W0 = w.alloc (.cells (row 11 h.f) 30) := ⟨_, rfl⟩
  have hB0 : Below w.heap.size w W0 := by rw [hW0]; exact (Below.refl _ _).alloc (Nat.le_refl _) _
  have hs0 : W0.heap.size = w.heap.size + 1 := by rw [hW0]; simp
  have hG0 : Blk W0 w.heap.size 11 30 h.f := by rw [hW0]; exact Blk.new w 11 30 h.f
  obtain ⟨S, hS⟩ : ∃ S : Nat → Prop, S = fun b => W0.heap.size ≤ b := ⟨_, rfl⟩
  have hkeep : ∀ x, Only S W0 x → Blk x w.heap.size 11 30 h.f := fun x hO => (hO.block _ (by rw [hS]; omega)).trans hG0
  have hfr : ∀ x, Only S W0 x → Fresh S x := fun x h b hb => by rw [hS]; exact Nat.le_trans h.size hb
  have bel : ∀ x y, Only S W0 x → Below x.heap.size x y → Only S W0 y := fun x y h hb => h.trans (Only.of hb (hfr x h))
  have fin : ∀ x, Only S W0 x → Below w.heap.size w x := fun x hO => hB0.trans (hO.below fun k hk => by rw [hS] at hk; show w.heap.size ≤ k; omega)
  have hlist : ∀ z, Only S W0 z → ∀ q (hq : q < l.length), ∃ b o, ao = some ⟨b, o, none⟩ ∧ z.rangeAt b (o + q * 11) (row 11 l[q].f).toList := fun z hO q hq => by
    obtain ⟨b, o, cap', e1, _, _, hbl, hr⟩ := hl.hdr hq
    simp at e1
    refine ⟨b, o, e1.1, range_on (hr q hq) ((hO.block b (by rw [hS]; omega)).trans (hB0.block b hbl))⟩
  have HKp := hid hkeep
  have HLs := hid hlist
  obtain ⟨x, hx⟩ : ∃ z, z = h.f := ⟨_, rfl⟩
  obtain ⟨N, hN⟩ : ∃ N, N = wrap64 (2 + (wrap64 (size.tmod 39 + 39)).tmod 39) := ⟨_, rfl⟩
  have hNb := size39 size
  rw [← hN] at hNb
  have HNw : Hid (Calls Try.prog 9 #[.int .i64 N] W0 fun r y => ∃ g, r = .returned (pv g) ∧ Only S W0 y ∧ Ca S y (pv g) (newC N.toNat) ∧ Blk y w.heap.size 11 30 x) := (new_any W0 N (WalkArith.wf_i64 (by omega))).mono fun r y ⟨v, a1, a2, a3⟩ => by
    obtain ⟨g, rfl⟩ := a3.form
    have : szN N = N.toNat := by unfold szN; omega
    rw [this] at a3
    exact ⟨g, a1, bel W0 y (Only.refl _ _) a2, a3.carry fun b _ hb => ⟨by rw [hS]; exact hb, rfl⟩, hx ▸ hkeep _ (bel _ _ (Only.refl _ _) a2)⟩
  have HP : Hid (∀ z g c x' id, Only S W0 z → Ca S z (pv g) c → Hk c → Calls Try.prog 13 #[pv g, hv (Hdr.f x'), .int .i64 id] z fun r y => r = .returned (.tuple #[]) ∧ Only S W0 y ∧ Ca S y (pv g) (putS c x' id) ∧ Hk (putS c x' id)) := fun z g c x' id hO hC hk => (put_any z _ c x' id hC (hfr z hO) (by have := hk.2; omega) hk.1).mono fun r y ⟨a1, a2, a3⟩ => ⟨a1, hO.trans a2, a3, hk.put x' id⟩
  have HG : Hid (∀ z g c m, Only S W0 z → Ca S z (pv g) c → Hk c → St c h m → Calls Try.prog 11 #[pv g, hv x] z fun r y => r = .returned (.tuple #[.int .i64 7, .bool true]) ∧ Only S W0 y ∧ Ca S y (pv g) (getS c h) ∧ Hk (getS c h) ∧ St (getS c h) h true) := fun z g c m hO hC hk hst => by
    rw [hx]
    refine (get_any z _ c h hC (hfr z hO)).mono fun r y ⟨a1, a2, a3⟩ => ?_
    obtain ⟨e1, e2, e3⟩ := hst.get hC.dis
    rw [e1, e2] at a1
    exact ⟨a1, hO.trans a2, a3, hk.get h, e3⟩
  have HW : Hid (∀ z, Only S W0 z → Calls Try.prog 8 #[] z fun e w' => e = .returned (.bool true) ∧ Below w.heap.size w w') := fun z hO => (wakes_any z).mono fun r y ⟨a1, a2⟩ => ⟨a1, fin y (bel z y hO a2)⟩
  have HW0 := hid hW0
  rw [← hx] at HW0
  have HX := hid hx
  have HN := hid hN
  have HSt : Hid (∀ z, Only S W0 z → Blk z w.heap.size 11 30 x) := fun z hO => hx ▸ hkeep z hO
  rw [← hx]
  have hlen := hl.len
  clear hW0 hB0 hs0 hG0 hS hkeep hfr bel fin hx hN hl hlist hcap
  go_enter Try.func7, Try.ntmps7
  go_upto_region 2 with fail
  rw [← HW0.out, ← HN.out]
  clear HW0 HN
  by_cases hgt : 200 < l.length
  · have hd : decide ((200 : Int) < (l.length : Int)) = true := decide_eq_true (by omega)
    have HWk := hid (HW.out W0 (Only.refl _ _))
    clear HW HP HG HNw HSt
    go_wp2_with (go_at_call 8; refine (HWk.out).mono ?_; rintro r y7 ⟨rfl, hb7⟩; have HB7 := hid hb7; clear hb7)
    go_ret
    exact ⟨rfl, HB7.out⟩
  · have hd : decide ((200 : Int) < (l.length : Int)) = false := decide_eq_false (by omega)
    go_upto_region 5 with (go_at_call 9; refine (HNw.out).mono ?_; rintro r y0 ⟨g, rfl, hO0, hC0, b0⟩; have HS0 := hid (And.intro hO0 hC0); clear hO0 hC0 HNw)
    have HP0 := hid (HP.out y0 g _ h 7 HS0.out.1 HS0.out.2 (Hk.new N.toNat (by omega)))
    rw [← HX.out] at HP0
    have HT0 := hid (St.start (n := N.toNat) (by omega) (by omega) h)
    go_upto_region 7 with (first
      | (refine ld24 (.tmp 4) rfl _ rfl rfl x b0 ?_)
      | (go_at_call 13; refine (HP0.out).mono ?_; rintro r y1 ⟨rfl, hO1, hC1, hk1⟩; have HS1 := hid (And.intro hO1 (And.intro hC1 (And.intro hk1 HT0.out))); clear hO1 hC1 hk1 HP0 HT0))
    clear HS0
    go_loopw [8] (fun i wr => ∃ k : Nat, k ≤ l.length ∧ i = .int .i64 k ∧ ∃ c, Only S W0 wr ∧ Ca S wr (pv g) c ∧ Hk c ∧ St c h false) (fun i _ => l.length - (intOf i).toNat)
    case atStart => exact ⟨0, by omega, rfl, _, HS1.out⟩
    case round =>
      obtain ⟨k, hk, rfl, c, hR⟩ := hrel
      generalize wr = wx at *
      have HR := hid hR
      clear hR
      have bx := HSt.out wx HR.out.1
      have HG1 := hid (HG.out wx g c false HR.out.1 HR.out.2.1 HR.out.2.2.1 HR.out.2.2.2)
      by_cases hlt : k < l.length
      · have hdk : decide ((k : Int) < (l.length : Int)) = true := decide_eq_true (by omega)
        go_upto_region 10 with (first
          | (refine ld24 (.tmp 4) rfl _ rfl rfl x bx ?_)
          | (go_at_call 11; refine (HG1.out).mono ?_; rintro r y2 ⟨rfl, hR2⟩; have HR2 := hid hR2; clear hR2 HG1))
        obtain ⟨b, o, hao, hrg⟩ := HLs.out y2 HR2.out.1 k hlt
        subst hao
        have HU : Hid (Hw b (o + k * 11) l[k].f w.heap.size 0 x y2.drew) := ⟨range_on hrg rfl, range_on (range_blk (HSt.out y2 HR2.out.1)) rfl⟩
        obtain ⟨u, hu⟩ : ∃ u, u = l[k].f := ⟨_, rfl⟩
        obtain ⟨lk, hlk⟩ : ∃ lk, lk = l[k] := ⟨_, rfl⟩
        rw [← hu] at HU
        have HRg := hid hrg
        rw [← hu] at HRg
        obtain ⟨be, hbe⟩ : ∃ be, be = eqR 11 u x := ⟨_, rfl⟩
        have HBe : Hid (be = decide (lk = h)) := by show _ = _; rw [hbe, hu, HX.out, ← hlk, eqR_hdr]
        have hw1 : IntKind.i64.wrap ((k : Int) + 1) = (k : Int) + 1 := by rw [IntKind.wrap_i64]; omega
        have HU2 := hid (And.intro hu hlk)
        clear hrg hu hlk bx
        go_upto_region 12 with fail
        refine wp_region_held_drew (S := Hw b (o + k * 11) u w.heap.size 0 x) (by kernel_rfl) HU.out (fun hHeld => ?_)
        refine wpAnyH_take (i := 0) (v := ?_) rfl (by kernel_rfl) (by kernel_rfl) (by kernel_rfl) (fun _ _ _ h => h) (Or.inl ⟨by rfl, ?_⟩) hHeld ?_
        rotate_left
        · intro w' hSw
          clear hSw
          go_simp
          first | done | with_reducible rfl
        simp only [Act.put, List.getElem_toArray, List.getElem_cons_zero, List.setIfInBounds_toArray, List.set_cons_zero, List.set_cons_succ]
        refine wpAnyH_take (i := 1) (v := ?_) rfl (by kernel_rfl) (by kernel_rfl) (by kernel_rfl) (fun _ _ _ h => h) (Or.inl ⟨by rfl, ?_⟩) hHeld ?_
        rotate_left
        · intro w' hSw
          clear hSw
          go_simp
          first | done | with_reducible rfl
        simp only [Act.put, List.getElem_toArray, List.getElem_cons_succ, List.getElem_cons_zero, List.setIfInBounds_toArray, List.set_cons_zero, List.set_cons_succ]
        refine wpAnyH_take (i := 2) (v := ?_) rfl (by kernel_rfl) (by kernel_rfl) (by kernel_rfl) (fun _ _ _ h => h) (Or.inl ⟨by rfl, ?_⟩) hHeld ?_
        rotate_left
        · intro w' hSw
          clear hSw
          go_simp
          first | done | with_reducible rfl
        simp only [Act.put, List.getElem_toArray, List.getElem_cons_succ, List.getElem_cons_zero, List.setIfInBounds_toArray, List.set_cons_zero, List.set_cons_succ]
        refine wpAnyH_take (i := 3) (v := (hv u)) rfl (by kernel_rfl) (by kernel_rfl) (by kernel_rfl) (fun _ _ _ h => h) (Or.inl ⟨by rfl, ?_⟩) hHeld ?_
        · intro w' hSw
          exact runLd 30 (.tmp 47) rfl b (o + k * 11) rfl (row 11 u) _ hSw.rA Try.underlying30 rfl (sizeH u)
        simp only [Act.put, List.getElem_toArray, List.getElem_cons_succ, List.getElem_cons_zero, List.setIfInBounds_toArray, List.set_cons_zero, List.set_cons_succ]
        refine wpAnyH_take (i := 4) (v := (hv x)) rfl (by kernel_rfl) (by kernel_rfl) (by kernel_rfl) (fun _ _ _ h => h) (Or.inl ⟨by rfl, ?_⟩) hHeld ?_
        · intro w' hSw
          exact runLd 30 (.tmp 4) rfl w.heap.size 0 rfl (row 11 x) _ hSw.rB Try.underlying30 rfl (sizeH x)
        simp only [Act.put, List.getElem_toArray, List.getElem_cons_succ, List.getElem_cons_zero, List.setIfInBounds_toArray, List.set_cons_zero, List.set_cons_succ]
        refine wpAnyH_take (i := 5) (v := (.bool (!eqR 11 u x))) rfl (by kernel_rfl) (by kernel_rfl) (by kernel_rfl) (fun _ _ _ h => h) (Or.inl ⟨by rfl, ?_⟩) hHeld ?_
        · intro w' hSw
          exact runNeH (.tmp 48) (.tmp 49) rfl u x rfl rfl
        simp only [Act.put, List.getElem_toArray, List.getElem_cons_succ, List.getElem_cons_zero, List.setIfInBounds_toArray, List.set_cons_zero, List.set_cons_succ]
        refine wpAnyH_done (by kernel_rfl) ?_ _
        rw [← hbe]
        clear hbe
        cases be with
        | true =>
          clear HP
          simp only [Bool.not_true]
          go_wp2
          go_roundw
          case rel => exact ⟨k + 1, by omega, by go_num, _, HR2.out.1.drew, HR2.out.2.1.carry fun b _ hS => ⟨hS, rfl⟩, HR2.out.2.2.1, HR2.out.2.2.2.weak⟩
          case measure => simp [intOf]; omega
        | false =>
          have hne : lk ≠ h := fun e => by have := HBe.out; rw [e] at this; simp at this
          have HP1 := hid (HP.out y2.drew g _ lk (k : Int) HR2.out.1.drew (HR2.out.2.1.carry fun b _ hS => ⟨hS, rfl⟩) HR2.out.2.2.1)
          have hlu : lk.f = u := by rw [HU2.out.1, HU2.out.2]
          rw [hlu] at HP1
          have HT1 := hid (HR2.out.2.2.2.put (id := (k : Int)) HR2.out.2.1.dis HR2.out.2.2.1 hne)
          have hr3 : y2.drew.rangeAt b (o + k * 11) (row 11 u).toList := range_on HRg.out rfl
          have HR3 := hid hr3
          clear hne hlu hr3 HP
          simp only [Bool.not_false]
          go_wp2_with (first
            | (refine ldMid 30 (.tmp 54) rfl rfl b (o + k * 11) rfl (row 11 u) _ Try.underlying30 rfl (sizeH u) HR3.out ?_)
            | (go_at_call 13; refine (HP1.out).mono ?_; rintro r y3 ⟨rfl, hO3, hC3, hk3⟩; have HS3 := hid (And.intro hO3 (And.intro hC3 (And.intro hk3 HT1.out))); clear hO3 hC3 hk3 HP1))
          go_roundw
          case rel => exact ⟨k + 1, by omega, by go_num, _, HS3.out⟩
          case measure => simp [intOf]; omega
      · obtain rfl : k = l.length := by omega
        have hdk : decide ((l.length : Int) < (l.length : Int)) = false := by simp
        clear HP HG
        go_wp2_with (first
          | (refine ld24 (.tmp 4) rfl _ rfl rfl x bx ?_)
          | (go_at_call 11; refine (HG1.out).mono ?_; rintro r y2 ⟨rfl, hR2⟩; have HWk := hid (HW.out y2 hR2.1); clear hR2 HG1)
          | (go_at_call 8; refine (HWk.out).mono ?_; rintro r y7 ⟨rfl, hb7⟩; have HB7 := hid hb7; clear hb7 HWk))
        go_ret
        exact ⟨rfl, HB7.out⟩
end Go.Proofs.Ytpmdgockiblkaaa
