/-
  Proved here: the reader's method not, over what it calls. Conditions: the reader stands at one of its words; what it calls further on is told.
-/
import Derived.Test.YtoncogkamlgjhaaGreatDoorFB6
namespace Go.Proofs.YtoncogkamlgjhaaGreatDoor
set_option maxRecDepth 100000
open Go.RowKit
set_option maxRecDepth 100000

/-- A reading method under way: its answer's block is the first new one. -/
structure InS (W : World) (l : List Wd) (r m : Nat) (ws : Value) (j : Nat) (w : World) : Prop where
  only : Only (Rn r W) W w
  rd : RdM l r m ws j w
  res : w.heap[W.heap.size]? = some (.cells (tmc 0 0 0 nilS) 26 (0, 0))
  lt : r < W.heap.size
section
variable {W : World} {l : List Wd} {r m : Nat} {ws : Value} {i j : Nat} {w w' : World}
theorem InS.size (h : InS W l r m ws j w) : W.heap.size < w.heap.size := (Array.getElem?_eq_some_iff.1 h.res).1
theorem InS.thn (h : InS W l r m ws i w) (ho : Only (Rn r w) w w') (hr : RdM l r m ws j w') : InS W l r m ws j w' := by
  have h1 := h.size
  have h2 := h.lt
  exact ⟨h.only.thn ho, hr, (ho.block _ (by rintro (e | e) <;> omega)).trans h.res, h2⟩
theorem InS.bel (h : InS W l r m ws i w) (hb : Below w.heap.size w w') : InS W l r m ws i w' := h.thn (Only.of hb fun _ hk => Or.inr hk) (h.rd.on hb)
theorem InS.new (h : RdM l r m ws i W) : InS W l r m ws i (W.alloc (.cells (tmc 0 0 0 nilS) 26)) := by
  have hb : Below W.heap.size W (W.alloc (.cells (tmc 0 0 0 nilS) 26)) := (Below.refl _ _).alloc (Nat.le_refl _) _
  exact ⟨Only.of hb fun _ hk => Or.inr hk, h.on hb, heap_alloc_new _ _, h.lt⟩
/-- It is done. -/
theorem InS.fin {t : Tm} {cs : Array Value} (h : InS W l r m ws j w) (ht : TmV (fun b => W.heap.size < b) w t cs) : (w.setRow W.heap.size cs).heap[W.heap.size]? = some (.cells cs 26 (0, 0)) ∧ RdP l r m ws (.ok t j) W (.returned (.agg cs)) (w.setRow W.heap.size cs) := by
  have hF := setRow_heap w W.heap.size (tmc 0 0 0 nilS) cs 26 _ h.res
  have hko : ∀ k, k ≠ W.heap.size → (w.setRow W.heap.size cs).heap[k]? = w.heap[k]? := fun k hk => setRow_other w W.heap.size k _ hk
  have hsz : (w.setRow W.heap.size cs).heap.size = w.heap.size := by simp [World.setRow]
  have hlt := h.lt
  exact ⟨hF, h.only.trans ⟨rfl, rfl, rfl, by omega, fun k hk => hko k (fun e => hk (Or.inr (by omega)))⟩, cs, rfl, h.rd.keep fun b hb => hko b (by omega), tm_on ht fun b _ hS => ⟨by omega, hko b (by omega)⟩⟩
/-- over one kid -/
theorem InS.ov {t : Tm} {cs : Array Value} (h : InS W l r m ws j w) (ht : TmV (fun b => W.heap.size < b) w t cs) (op : Nat) (hb : Below (w.alloc (.cells cs 26)).heap.size (w.alloc (.cells cs 26)) w') :
    InS W l r m ws j w' ∧ TmV (fun b => W.heap.size < b) w' (ov op [t]) (tmc op 0 0 (.slice (some ⟨w.heap.size, 0, none⟩) 1 1)) := by
  have hb1 : Below w.heap.size w (w.alloc (.cells cs 26)) := (Below.refl _ _).alloc (Nat.le_refl _) _
  exact ⟨(h.bel hb1).bel hb, tm_on (ht.bld op fun b hb => by have := h.size; omega) fun b hl hS => ⟨hS, hb.block b hl⟩⟩
theorem InS.bad (h : InS W l r m ws i w) (ho : Only (Rn r w) w w') (hr : RdM l r m ws j w') : RdP l r m ws (.bad j) W (.panicked PC) w' := ⟨h.only.thn ho, rfl, hr⟩
theorem InS.tm (h : InS W l r m ws i w) {t : Tm} {cs : Array Value} (ht : TmV (fun b => w.heap.size ≤ b) w' t cs) : TmV (fun b => W.heap.size < b) w' t cs := tm_on ht fun b _ hS => ⟨by have := h.size; omega, rfl⟩
/-- what a call further on is told by -/
abbrev Say (l : List Wd) (r m : Nat) (ws : Value) (f : FuncId) (P : Nat → Rd Tm) (i : Nat) : Prop := ∀ j w, RdM l r m ws j w → i < j → j < l.length → Calls Tryz.prog f #[ptr r] w (RdP l r m ws (P j) w)
end
theorem Rd.exp_t {α : Type} {l : List Wd} {j : Nat} {q : ByteArray} {x : α} (h : tk l j q = true) : (Rd.ok x j).exp l q = .ok x (j + 1) := by show (if tk l j q = true then _ else _) = _; rw [if_pos h]
theorem Rd.exp_f {α : Type} {l : List Wd} {j : Nat} {q : ByteArray} {x : α} (h : tk l j q = false) : (Rd.ok x j).exp l q = .bad j := by show (if tk l j q = true then _ else _) = _; rw [if_neg (by rw [h]; decide)]
section
variable {l : List Wd} {pred nt : Nat → Rd Tm} {i : Nat}
theorem notF_1 (h : tk l i Snot = true) : notF l pred nt i = (nt (i + 1)).map fun t => ov 3 [t] := by unfold notF; rw [if_pos h]
theorem notF_2 (h1 : tk l i Snot = false) (h : tk l i Qtrue = true) : notF l pred nt i = .ok (ov 1 []) (i + 1) := by unfold notF; rw [h1, if_neg (by decide), if_pos h]
theorem notF_3 (h1 : tk l i Snot = false) (h2 : tk l i Qtrue = false) (h : tk l i Qfalse = true) : notF l pred nt i = .ok (ov 0 []) (i + 1) := by unfold notF; rw [h1, if_neg (by decide), h2, if_neg (by decide), if_pos h]
theorem notF_4 (h1 : tk l i Snot = false) (h2 : tk l i Qtrue = false) (h3 : tk l i Qfalse = false) (h : tk l i Slp = true) : notF l pred nt i = (pred (i + 1)).exp l Srp := by unfold notF; rw [h1, if_neg (by decide), h2, if_neg (by decide), h3, if_neg (by decide), if_pos h]
theorem notF_5 (h1 : tk l i Snot = false) (h2 : tk l i Qtrue = false) (h3 : tk l i Qfalse = false) (h4 : tk l i Slp = false) : notF l pred nt i = pair l 2 Seq i := by unfold notF; rw [h1, if_neg (by decide), h2, if_neg (by decide), h3, if_neg (by decide), h4, if_neg (by decide)]
end
theorem run_bt0 (op : Int) (W : World) : (Instr.build 26 #[(0, .int .i8 op)]).run Tryz.prog W = .ok (.agg #[.int .i8 op, .int .i8 0, .int .u64 0, .slice none 0 0]) W := by kernel_rfl
set_option maxHeartbeats 12800000 in
theorem not_any {l : List Wd} {r m : Nat} {ws : Value} {i : Nat} {W : World} (h : RdM l r m ws i W) (hi : i < l.length) (hb : l.length ≤ 100000) (hcl : Cl l) (hts : ∀ k, (wat l k).t.size ≤ 65536) (pred nt : Nat → Rd Tm) (hap : Adv l pred)
    (hN : Say l r m ws 61 nt i) (hP : Say l r m ws 33 pred i) : Calls Tryz.prog 61 #[ptr r] W (RdP l r m ws (notF l pred nt i) W) := by
  obtain ⟨iR, hiR, hiz, his, -⟩ := info_parts infoTM
  have HI0 := hid (InS.new h)
  obtain ⟨W1, hW1⟩ : ∃ W1, W1 = W.alloc (.cells (tmc 0 0 0 nilS) 26) := ⟨_, rfl⟩
  rw [← hW1] at HI0
  have HE : Hid (W.alloc (.cells #[.int .i8 0, .int .i8 0, .int .u64 0, .slice none 0 0] 26) = W1) := hW1.symm
  have HN := hid hN
  have HP := hid hP
  have HCl := hid hcl
  have HTs := hid hts
  have HAp := hid hap
  clear h hN hP hcl hts hW1 hap
  have hb' : l.length ≤ 2147483648 := by omega
  go_enter Tryz.func61, Tryz.ntmps61
  go_upto_region 1 with fail
  rw [show W.alloc (.cells #[.int .i8 0, .int .i8 0, .int .u64 0, .slice none 0 0] 26) = W1 from HE.out]
  clear HE
  cases h1 : tk l i Snot with
  | true =>
    have hil := tk_lt HCl.out hi (by decide) h1
    have HT := hid (takes_yes HI0.out.rd hi hb' h1)
    have HJ := hid (notF_1 (pred := pred) (nt := nt) h1)
    clear h1
    go_upto_region 2 with (go_at_call 30; refine (HT.out).mono ?_; rintro e w2 ⟨rfl, a1, a2⟩; have HI2 := hid (HI0.out.thn a1 a2); clear a1 a2 HT)
    have HC := hid (HN.out (i + 1) w2 HI2.out.rd (by omega) hil)
    cases hp : nt (i + 1) with
    | bad j =>
      rw [hp] at HC HJ
      clear hp
      go_wp2_with (go_at_call 61; refine (HC.out).mono ?_; intro e w3 h9; obtain ⟨rfl, a1, a2⟩ := h9.isBad; have HX := hid (HI2.out.bad a1 a2); clear a1 a2 h9)
      refine ⟨rfl, (show RdP l r m ws (notF l pred nt i) W _ _ from ?_)⟩
      rw [HJ.out]; exact HX.out
    | ok t j =>
      rw [hp] at HC HJ
      clear hp
      go_wp2_with (first
        | (go_at_call 61; refine (HC.out).mono ?_; intro e w3 h9; obtain ⟨cs, rfl, a1, a2, a3⟩ := h9.isOk; have HI3 := hid (HI2.out.thn a1 a2); have HT3 := hid (HI2.out.tm a3); clear a1 a2 a3 h9)
        | (refine bldSl 24 26 (.tmp 8) rfl rfl cs rfl Tryz.underlying24 iR _ 4 hiR hiz his HT3.out.size (by omega) (by omega) ?_)
        | (go_at_call 83; refine (over_any 3 (some ⟨w3.heap.size, 0, none⟩) 1 1 _).mono ?_; rintro e w4 ⟨rfl, hw⟩; have HX := hid (HI3.out.ov HT3.out 3 hw); clear hw)
        | (refine stRow 26 (.tmp 2) (.tmp 10) rfl rfl W.heap.size _ rfl rfl 26 _ HX.out.1.res HX.out.2.info (by rw [HX.out.2.size]; rfl) HX.out.2.one ?_))
      have hF := HX.out.1.fin HX.out.2
      refine bodyPost_ret (res_tm Tryz.results61 _ _ W.heap.size _ HX.out.2.info rfl hF.1) rfl (show RdP l r m ws (notF l pred nt i) W _ _ from ?_)
      rw [HJ.out]; exact hF.2
  | false =>
    have HT1 := hid (takes_no HI0.out.rd hi hb' h1)
    go_upto_region 3 with (go_at_call 30; refine (HT1.out).mono ?_; rintro e w2 ⟨rfl, a1, a2⟩; have HI2 := hid (HI0.out.thn a1 a2); clear a1 a2 HT1)
    cases h2 : tk l i Qtrue with
    | true =>
      have HT := hid (takes_yes HI2.out.rd hi hb' h2)
      have HJ := hid (notF_2 (pred := pred) (nt := nt) h1 h2)
      have hbt := fun W => run_bt0 1 W
      clear h1 h2
      go_upto_region 4 with (go_at_call 30; refine (HT.out).mono ?_; rintro e w3 ⟨rfl, a1, a2⟩; have HI3 := hid (HI2.out.thn a1 a2); clear a1 a2 HT)
      have HX : Hid (TmV (fun b => W.heap.size < b) w3 (ov 1 []) (tmc 1 0 0 nilS)) := TmV.leaf _ _ _ _ _
      go_wp2_with (refine stRow 26 (.tmp 2) (.tmp 14) rfl rfl W.heap.size (tmc 1 0 0 nilS) rfl rfl 26 _ HI3.out.res HX.out.info rfl HX.out.one ?_)
      have hF := HI3.out.fin HX.out
      refine bodyPost_ret (res_tm Tryz.results61 _ _ W.heap.size _ HX.out.info rfl hF.1) rfl (show RdP l r m ws (notF l pred nt i) W _ _ from ?_)
      rw [HJ.out]; exact hF.2
    | false =>
      have HT2 := hid (takes_no HI2.out.rd hi hb' h2)
      go_upto_region 5 with (go_at_call 30; refine (HT2.out).mono ?_; rintro e w3 ⟨rfl, a1, a2⟩; have HI3 := hid (HI2.out.thn a1 a2); clear a1 a2 HT2)
      cases h3 : tk l i Qfalse with
      | true =>
        have HT := hid (takes_yes HI3.out.rd hi hb' h3)
        have HJ := hid (notF_3 (pred := pred) (nt := nt) h1 h2 h3)
        have hbt := fun W => run_bt0 0 W
        clear h1 h2 h3
        go_upto_region 6 with (go_at_call 30; refine (HT.out).mono ?_; rintro e w4 ⟨rfl, a1, a2⟩; have HI4 := hid (HI3.out.thn a1 a2); clear a1 a2 HT)
        have HX : Hid (TmV (fun b => W.heap.size < b) w4 (ov 0 []) (tmc 0 0 0 nilS)) := TmV.leaf _ _ _ _ _
        go_wp2_with (refine stRow 26 (.tmp 2) (.tmp 18) rfl rfl W.heap.size (tmc 0 0 0 nilS) rfl rfl 26 _ HI4.out.res HX.out.info rfl HX.out.one ?_)
        have hF := HI4.out.fin HX.out
        refine bodyPost_ret (res_tm Tryz.results61 _ _ W.heap.size _ HX.out.info rfl hF.1) rfl (show RdP l r m ws (notF l pred nt i) W _ _ from ?_)
        rw [HJ.out]; exact hF.2
      | false =>
        have HT3 := hid (takes_no HI3.out.rd hi hb' h3)
        go_upto_region 7 with (go_at_call 30; refine (HT3.out).mono ?_; rintro e w4 ⟨rfl, a1, a2⟩; have HI4 := hid (HI3.out.thn a1 a2); clear a1 a2 HT3)
        cases h4 : tk l i Slp with
        | true =>
          have hil := tk_lt HCl.out hi (by decide) h4
          have HT := hid (takes_yes HI4.out.rd hi hb' h4)
          have HJ := hid (notF_4 (pred := pred) (nt := nt) h1 h2 h3 h4)
          clear h1 h2 h3 h4
          go_upto_region 8 with (go_at_call 30; refine (HT.out).mono ?_; rintro e w5 ⟨rfl, a1, a2⟩; have HI5 := hid (HI4.out.thn a1 a2); clear a1 a2 HT)
          have HC := hid (HP.out (i + 1) w5 HI5.out.rd (by omega) hil)
          cases hp : pred (i + 1) with
          | bad j =>
            rw [hp] at HC HJ
            clear hp
            go_wp2_with (go_at_call 33; refine (HC.out).mono ?_; intro e w6 h9; obtain ⟨rfl, a1, a2⟩ := h9.isBad; have HX := hid (HI5.out.bad a1 a2); clear a1 a2 h9)
            refine ⟨rfl, (show RdP l r m ws (notF l pred nt i) W _ _ from ?_)⟩
            rw [HJ.out]; exact HX.out
          | ok t j =>
            have hj := (HAp.out _ hil).1 t j hp
            rw [hp] at HC HJ
            clear hp
            go_upto_region 9 with (first
              | (go_at_call 33; refine (HC.out).mono ?_; intro e w6 h9; obtain ⟨cs, rfl, a1, a2, a3⟩ := h9.isOk; have HI6 := hid (HI5.out.thn a1 a2); have HT6 := hid (HI5.out.tm a3); clear a1 a2 a3 h9)
              | (refine stNew 26 (.tmp 3) (.tmp 23) rfl rfl w6 26 (tmc 0 0 0 nilS) cs rfl rfl rfl HT6.out.info (by rw [HT6.out.size]; rfl) HT6.out.one ?_))
            have hb7 : Below w6.heap.size w6 (w6.alloc (.cells cs 26)) := (Below.refl _ _).alloc (Nat.le_refl _) _
            have HI7 := hid (HI6.out.bel hb7)
            have HT7 : Hid (TmV (fun b => W.heap.size < b) (w6.alloc (.cells cs 26)) t cs) := tm_on HT6.out fun b hl hS => ⟨hS, hb7.block b hl⟩
            have HN7 : Hid ((w6.alloc (.cells cs 26)).heap[w6.heap.size]? = some (.cells cs 26 (0, 0))) := heap_alloc_new _ _
            have hz7 := HI6.out.size
            clear hb7 HI6 HT6 HC
            generalize w6.alloc (.cells cs 26) = w7 at HI7 HT7 HN7 ⊢
            generalize w6.heap.size = G at HN7 hz7 ⊢
            cases h5 : tk l j Srp with
            | true =>
              have HX5 := hid (exp_yes HI7.out.rd hj.2 hb' h5)
              have HJ2 : Hid (notF l pred nt i = .ok t (j + 1)) := by rw [HJ.out]; exact Rd.exp_t h5
              have hGl := (Array.getElem?_eq_some_iff.1 HN7.out).1
              have hrl := HI7.out.lt
              clear h5 HJ
              go_wp2_with (first
                | (go_at_call 32; refine (HX5.out).mono ?_; rintro e w8 ⟨rfl, a1, a2⟩
                   have HI8 := hid (HI7.out.thn a1 a2)
                   have HN8 : Hid (w8.heap[G]? = some (.cells cs 26 (0, 0))) := (a1.block _ (by rintro (e | e) <;> omega)).trans HN7.out
                   have HT8 : Hid (TmV (fun b => W.heap.size < b) w8 t cs) := tm_on HT7.out fun b hl hS => ⟨hS, a1.block b (by rintro (e | e) <;> omega)⟩
                   clear a1 a2)
                | (refine ldRow 26 (.tmp 3) rfl rfl G rfl 26 cs _ Tryz.underlying26 rfl HT8.out.info HN8.out ?_)
                | (refine stRow 26 (.tmp 2) (.tmp 26) rfl rfl W.heap.size cs rfl rfl 26 _ HI8.out.res HT8.out.info (by rw [HT8.out.size]; rfl) HT8.out.one ?_))
              have hF := HI8.out.fin HT8.out
              refine bodyPost_ret (res_tm Tryz.results61 _ _ W.heap.size _ HT8.out.info rfl hF.1) rfl (show RdP l r m ws (notF l pred nt i) W _ _ from ?_)
              rw [HJ2.out]; exact hF.2
            | false =>
              have HX5 := hid (exp_no HI7.out.rd hj.2 hb' h5)
              have HJ2 : Hid (notF l pred nt i = .bad j) := by rw [HJ.out]; exact Rd.exp_f h5
              clear h5 HJ
              go_wp2_with (go_at_call 32; refine (HX5.out).mono ?_; rintro e w8 ⟨rfl, a1, a2⟩; have HX := hid (HI7.out.bad a1 a2); clear a1 a2)
              refine ⟨rfl, (show RdP l r m ws (notF l pred nt i) W _ _ from ?_)⟩
              rw [HJ2.out]; exact HX.out
        | false =>
          have HT4 := hid (takes_no HI4.out.rd hi hb' h4)
          have HJ := hid (notF_5 (pred := pred) (nt := nt) h1 h2 h3 h4)
          clear h1 h2 h3 h4
          go_upto_region 11 with (go_at_call 30; refine (HT4.out).mono ?_; rintro e w5 ⟨rfl, a1, a2⟩; have HI5 := hid (HI4.out.thn a1 a2); clear a1 a2 HT4)
          have HC := hid (pair_any HI5.out.rd hi hb HCl.out HTs.out 2 Seq (by decide))
          cases hp : pair l 2 Seq i with
          | bad j =>
            rw [hp] at HC HJ
            clear hp
            go_wp2_with (go_at_call 84; refine (HC.out).mono ?_; intro e w6 h9; obtain ⟨rfl, a1, a2⟩ := h9.isBad; have HX := hid (HI5.out.bad a1 a2); clear a1 a2 h9)
            refine ⟨rfl, (show RdP l r m ws (notF l pred nt i) W _ _ from ?_)⟩
            rw [HJ.out]; exact HX.out
          | ok t j =>
            rw [hp] at HC HJ
            clear hp
            go_wp2_with (first
              | (go_at_call 84; refine (HC.out).mono ?_; intro e w6 h9; obtain ⟨cs, rfl, a1, a2, a3⟩ := h9.isOk; have HI6 := hid (HI5.out.thn a1 a2); have HT6 := hid (HI5.out.tm a3); clear a1 a2 a3 h9)
              | (refine stRow 26 (.tmp 2) (.tmp 28) rfl rfl W.heap.size cs rfl rfl 26 _ HI6.out.res HT6.out.info (by rw [HT6.out.size]; rfl) HT6.out.one ?_))
            have hF := HI6.out.fin HT6.out
            refine bodyPost_ret (res_tm Tryz.results61 _ _ W.heap.size _ HT6.out.info rfl hF.1) rfl (show RdP l r m ws (notF l pred nt i) W _ _ from ?_)
            rw [HJ.out]; exact hF.2
end Go.Proofs.YtoncogkamlgjhaaGreatDoor
