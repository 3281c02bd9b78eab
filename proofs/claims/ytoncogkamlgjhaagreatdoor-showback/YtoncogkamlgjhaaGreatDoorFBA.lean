/-
  Proved here: the reader's method choice, over what it calls. Conditions: the reader stands at one of its words; what it calls is told.
-/
import Derived.Test.YtoncogkamlgjhaaGreatDoorFB9
namespace Go.Proofs.YtoncogkamlgjhaaGreatDoor
set_option maxRecDepth 100000
open Go.RowKit
set_option maxRecDepth 100000

def chF (l : List Wd) (pol pred : Nat → Rd Tm) (i : Nat) : Rd Tm := ((pred i).exp l Qthen).bind fun p j => ((pol j).exp l Qelse).bind fun a k => (pol k).map fun b => iteT p a b
/-- variables with terms -/
structure VrS (W : World) (l : List Wd) (r m : Nat) (ws : Value) (j : Nat) (L : List (Nat × Tm × Array Value)) (w : World) : Prop where
  i : InS W l r m ws j w
  vs : ∀ x ∈ L, w.heap[x.1]? = some (.cells x.2.2 26 (0, 0)) ∧ W.heap.size < x.1 ∧ TmV (fun b => W.heap.size < b) w x.2.1 x.2.2
section
variable {W : World} {l : List Wd} {r m : Nat} {ws : Value} {j k : Nat} {L : List (Nat × Tm × Array Value)} {w w' : World}
theorem VrS.thn (h : VrS W l r m ws j L w) (ho : Only (Rn r w) w w') (hr : RdM l r m ws k w') : VrS W l r m ws k L w' := by
  have h2 := h.i.lt
  refine ⟨h.i.thn ho hr, fun x hx => ?_⟩
  obtain ⟨a1, a2, a3⟩ := h.vs x hx
  have h1 := (Array.getElem?_eq_some_iff.1 a1).1
  exact ⟨(ho.block _ (by rintro (e | e) <;> omega)).trans a1, a2, tm_on a3 fun b hb hS => ⟨hS, ho.block b (by rintro (e | e) <;> omega)⟩⟩
theorem VrS.new (h : VrS W l r m ws j L w) {t : Tm} {c : Array Value} (ht : TmV (fun b => W.heap.size < b) w t c) : VrS W l r m ws j ((w.heap.size, t, c) :: L) (w.alloc (.cells c 26)) := by
  have hb : Below w.heap.size w (w.alloc (.cells c 26)) := (Below.refl _ _).alloc (Nat.le_refl _) _
  have hq := h.thn (Only.of hb fun _ hk => Or.inr hk) (h.i.rd.on hb)
  refine ⟨hq.i, fun x hx => ?_⟩
  rcases List.mem_cons.1 hx with rfl | hx
  · exact ⟨heap_alloc_new _ _, h.i.size, tm_on ht fun b hl hS => ⟨hS, hb.block b hl⟩⟩
  · exact hq.vs x hx
theorem VrS.nil (h : InS W l r m ws j w) : VrS W l r m ws j [] w := ⟨h, fun x hx => by cases hx⟩
theorem VrS.tm (h : VrS W l r m ws j L w) {t : Tm} {cs : Array Value} (ht : TmV (fun b => w.heap.size ≤ b) w' t cs) : TmV (fun b => W.heap.size < b) w' t cs := h.i.tm ht
theorem Vs.row {V4 V5 V6 V7 B : Nat} {c4 c5 c6 c7 z cs : Array Value} {t : Nat} (h : Vs V4 V5 V6 V7 c4 c5 c6 c7 w) (_hz : w.heap[B]? = some (.cells z t (0, 0))) (h4 : B < V4) (h5 : B < V5) (h6 : B < V6) (h7 : B < V7) : Vs V4 V5 V6 V7 c4 c5 c6 c7 (w.setRow B cs) :=
  ⟨(setRow_other w B V4 _ (by omega)).trans h.v4, (setRow_other w B V5 _ (by omega)).trans h.v5, (setRow_other w B V6 _ (by omega)).trans h.v6, (setRow_other w B V7 _ (by omega)).trans h.v7⟩
end
/-- what a call from here on is told by -/
abbrev SayE (l : List Wd) (r m : Nat) (ws : Value) (f : FuncId) (P : Nat → Rd Tm) (i : Nat) : Prop := ∀ j w, RdM l r m ws j w → i ≤ j → j < l.length → Calls Tryz.prog f #[ptr r] w (RdP l r m ws (P j) w)
set_option maxHeartbeats 25600000 in
theorem choice_any {l : List Wd} {r m : Nat} {ws : Value} {i : Nat} {W : World} (h : RdM l r m ws i W) (hi : i < l.length) (hb : l.length ≤ 100000) (hcl : Cl l) (pol pred : Nat → Rd Tm) (hap : Adv l pred) (hao : Adv l pol)
    (hO : SayE l r m ws 29 pol i) (hP : SayE l r m ws 33 pred i) : Calls Tryz.prog 91 #[ptr r] W (RdP l r m ws (chF l pol pred i) W) := by
  have HI0 := hid (InS.new h)
  obtain ⟨W1, hW1⟩ : ∃ W1, W1 = W.alloc (.cells (tmc 0 0 0 nilS) 26) := ⟨_, rfl⟩
  rw [← hW1] at HI0
  have HE : Hid (W.alloc (.cells #[.int .i8 0, .int .i8 0, .int .u64 0, .slice none 0 0] 26) = W1) := hW1.symm
  have HO := hid hO
  have HP := hid hP
  have HCl := hid hcl
  have HAp := hid hap
  have HAo := hid hao
  have hc0 := HI0.out.rd.c1
  clear h hO hP hcl hW1 hap hao
  have hb' : l.length ≤ 2147483648 := by omega
  have HC := hid (HP.out i W1 HI0.out.rd (Nat.le_refl _) hi)
  have HV0 := hid (VrS.nil HI0.out)
  clear HI0
  go_enter Tryz.func91, Tryz.ntmps91
  go_upto_region 1 with fail
  rw [show W.alloc (.cells #[.int .i8 0, .int .i8 0, .int .u64 0, .slice none 0 0] 26) = W1 from HE.out]
  clear HE
  go_upto_region 2 with fail
  clear hc0
  cases hp : pred i with
  | bad j =>
    have HJ : Hid (chF l pol pred i = .bad j) := by show _ = _; unfold chF; rw [hp]; rfl
    rw [hp] at HC
    clear hp
    go_wp2_with (go_at_call 33; refine (HC.out).mono ?_; intro e w3 h9; obtain ⟨rfl, a1, a2⟩ := h9.isBad; have HX := hid (HV0.out.i.bad a1 a2); clear a1 a2 h9)
    refine ⟨rfl, (show RdP l r m ws (chF l pol pred i) W _ _ from ?_)⟩
    rw [HJ.out]; exact HX.out
  | ok p j =>
    have HJ : Hid (chF l pol pred i = ((Rd.ok p j).exp l Qthen).bind fun p j => ((pol j).exp l Qelse).bind fun a k => (pol k).map fun b => iteT p a b) := by show _ = _; unfold chF; rw [hp]
    have HPi := hid hp
    have hj := (HAp.out i hi).1 p j hp
    rw [hp] at HC
    clear hp
    go_upto_region 3 with (first
      | (go_at_call 33; refine (HC.out).mono ?_; intro e w2 h9; obtain ⟨c4, rfl, a1, a2, a3⟩ := h9.isOk; have HV2 := hid (HV0.out.thn a1 a2); have HT2 := hid (HV0.out.tm a3); clear a1 a2 a3 h9)
      | (refine stNew 26 (.tmp 4) (.tmp 13) rfl rfl w2 26 (tmc 0 0 0 nilS) c4 rfl rfl rfl HT2.out.info (by rw [HT2.out.size]; rfl) HT2.out.one ?_))
    have HV3 := hid (HV2.out.new HT2.out)
    clear HV2 HT2 HV0 HC
    generalize w2.alloc (.cells c4 26) = w3 at HV3 ⊢
    generalize w2.heap.size = V4 at HV3 ⊢
    have hc1 := HV3.out.i.rd.c1
    have hf1 := HV3.out.i.rd.f1
    have hq := HV3.out.i.rd.go i
    have HV4 := hid (HV3.out.thn hq.2 hq.1)
    clear hq HV3
    go_upto_region 4 with fail
    clear hc1 hf1
    generalize w3.setCell ⟨r, 1, none⟩ (.int .i64 ((i : Nat) : Int)) = w4 at HV4 ⊢
    have HC := hid (HP.out i w4 HV4.out.i.rd (Nat.le_refl _) hi)
    rw [HPi.out] at HC
    go_upto_region 5 with (first
      | (go_at_call 33; refine (HC.out).mono ?_; intro e w5 h9; obtain ⟨c5, rfl, a1, a2, a3⟩ := h9.isOk; have HV5 := hid (HV4.out.thn a1 a2); have HT5 := hid (HV4.out.tm a3); clear a1 a2 a3 h9)
      | (refine stNew 26 (.tmp 5) (.tmp 19) rfl rfl w5 26 (tmc 0 0 0 nilS) c5 rfl rfl rfl HT5.out.info (by rw [HT5.out.size]; rfl) HT5.out.one ?_))
    have HV6 := hid (HV5.out.new HT5.out)
    clear HV5 HT5 HV4 HC
    generalize w5.alloc (.cells c5 26) = w6 at HV6 ⊢
    generalize w5.heap.size = V5 at HV6 ⊢
    cases h5 : tk l j Qthen with
    | false =>
      have HX5 := hid (exp_no HV6.out.i.rd hj.2 hb' h5)
      have HJ2 : Hid (chF l pol pred i = .bad j) := by rw [HJ.out, Rd.exp_f h5]; rfl
      clear h5 HJ
      go_wp2_with (go_at_call 32; refine (HX5.out).mono ?_; rintro e w8 ⟨rfl, a1, a2⟩; have HX := hid (HV6.out.i.bad a1 a2); clear a1 a2)
      refine ⟨rfl, (show RdP l r m ws (chF l pol pred i) W _ _ from ?_)⟩
      rw [HJ2.out]; exact HX.out
    | true =>
      have HX5 := hid (exp_yes HV6.out.i.rd hj.2 hb' h5)
      have hj1 := tk_lt HCl.out hj.2 (by decide) h5
      have HJ2 : Hid (chF l pol pred i = ((pol (j + 1)).exp l Qelse).bind fun a k => (pol k).map fun b => iteT p a b) := by rw [HJ.out, Rd.exp_t h5]; rfl
      clear h5 HJ
      go_upto_region 6 with (go_at_call 32; refine (HX5.out).mono ?_; rintro e w7 ⟨rfl, a1, a2⟩; have HV7 := hid (HV6.out.thn a1 a2); clear a1 a2)
      have HC := hid (HO.out (j + 1) w7 HV7.out.i.rd (by omega) hj1)
      clear HX5 HV6
      cases hp : pol (j + 1) with
      | bad k =>
        have HJ3 : Hid (chF l pol pred i = .bad k) := by rw [HJ2.out, hp]; rfl
        rw [hp] at HC
        clear hp HJ2
        go_wp2_with (go_at_call 29; refine (HC.out).mono ?_; intro e w8 h9; obtain ⟨rfl, a1, a2⟩ := h9.isBad; have HX := hid (HV7.out.i.bad a1 a2); clear a1 a2 h9)
        refine ⟨rfl, (show RdP l r m ws (chF l pol pred i) W _ _ from ?_)⟩
        rw [HJ3.out]; exact HX.out
      | ok a k =>
        have HJ3 : Hid (chF l pol pred i = ((Rd.ok a k).exp l Qelse).bind fun a k => (pol k).map fun b => iteT p a b) := by rw [HJ2.out, hp]; rfl
        have hk := (HAo.out _ hj1).1 a k hp
        rw [hp] at HC
        clear hp HJ2
        go_upto_region 7 with (first
          | (go_at_call 29; refine (HC.out).mono ?_; intro e w8 h9; obtain ⟨c6, rfl, a1, a2, a3⟩ := h9.isOk; have HV8 := hid (HV7.out.thn a1 a2); have HT8 := hid (HV7.out.tm a3); clear a1 a2 a3 h9)
          | (refine stNew 26 (.tmp 6) (.tmp 23) rfl rfl w8 26 (tmc 0 0 0 nilS) c6 rfl rfl rfl HT8.out.info (by rw [HT8.out.size]; rfl) HT8.out.one ?_))
        have HV9 := hid (HV8.out.new HT8.out)
        clear HV8 HT8 HV7 HC
        generalize w8.alloc (.cells c6 26) = w9 at HV9 ⊢
        generalize w8.heap.size = V6 at HV9 ⊢
        cases h5 : tk l k Qelse with
        | false =>
          have HX5 := hid (exp_no HV9.out.i.rd hk.2 hb' h5)
          have HJ4 : Hid (chF l pol pred i = .bad k) := by rw [HJ3.out, Rd.exp_f h5]; rfl
          clear h5 HJ3
          go_wp2_with (go_at_call 32; refine (HX5.out).mono ?_; rintro e w10 ⟨rfl, a1, a2⟩; have HX := hid (HV9.out.i.bad a1 a2); clear a1 a2)
          refine ⟨rfl, (show RdP l r m ws (chF l pol pred i) W _ _ from ?_)⟩
          rw [HJ4.out]; exact HX.out
        | true =>
          have HX5 := hid (exp_yes HV9.out.i.rd hk.2 hb' h5)
          have hk1 := tk_lt HCl.out hk.2 (by decide) h5
          have HJ4 : Hid (chF l pol pred i = (pol (k + 1)).map fun b => iteT p a b) := by rw [HJ3.out, Rd.exp_t h5]; rfl
          clear h5 HJ3
          go_upto_region 8 with (go_at_call 32; refine (HX5.out).mono ?_; rintro e w10 ⟨rfl, a1, a2⟩; have HV10 := hid (HV9.out.thn a1 a2); clear a1 a2)
          have HC := hid (HO.out (k + 1) w10 HV10.out.i.rd (by omega) hk1)
          clear HX5 HV9
          cases hp : pol (k + 1) with
          | bad q =>
            have HJ5 : Hid (chF l pol pred i = .bad q) := by rw [HJ4.out, hp]; rfl
            rw [hp] at HC
            clear hp HJ4
            go_wp2_with (go_at_call 29; refine (HC.out).mono ?_; intro e w11 h9; obtain ⟨rfl, a1, a2⟩ := h9.isBad; have HX := hid (HV10.out.i.bad a1 a2); clear a1 a2 h9)
            refine ⟨rfl, (show RdP l r m ws (chF l pol pred i) W _ _ from ?_)⟩
            rw [HJ5.out]; exact HX.out
          | ok b q =>
            have HJF : Hid (chF l pol pred i = .ok (iteT p a b) q) := by rw [HJ4.out, hp]; rfl
            rw [hp] at HC
            clear hp HJ4
            go_upto_region 9 with (first
              | (go_at_call 29; refine (HC.out).mono ?_; intro e w11 h9; obtain ⟨c7, rfl, a1, a2, a3⟩ := h9.isOk; have HV11 := hid (HV10.out.thn a1 a2); have HT11 := hid (HV10.out.tm a3); clear a1 a2 a3 h9)
              | (refine stNew 26 (.tmp 7) (.tmp 27) rfl rfl w11 26 (tmc 0 0 0 nilS) c7 rfl rfl rfl HT11.out.info (by rw [HT11.out.size]; rfl) HT11.out.one ?_))
            have HV12 := hid (HV11.out.new HT11.out)
            clear HV11 HT11 HV10 HC
            generalize w11.alloc (.cells c7 26) = w12 at HV12 ⊢
            generalize w11.heap.size = V7 at HV12 ⊢
            have g7 := HV12.out.vs _ (List.Mem.head _)
            have g6 := HV12.out.vs _ (List.Mem.tail _ (List.Mem.head _))
            have g5 := HV12.out.vs _ (List.Mem.tail _ (List.Mem.tail _ (List.Mem.head _)))
            have g4 := HV12.out.vs _ (List.Mem.tail _ (List.Mem.tail _ (List.Mem.tail _ (List.Mem.head _))))
            simp only at g4 g5 g6 g7
            have HC0 : Hid (ChS W l r m ws q V4 V5 V6 V7 c4 c5 c6 c7 [(p, c4), (p, c5), (a, c6), (b, c7)] w12.drew) := by
              have hI : InS W l r m ws q w12.drew := HV12.out.i.bel (bel_drew (Below.refl _ _))
              refine ⟨hI, ⟨g4.1, g5.1, g6.1, g7.1⟩, fun x hx => ?_⟩
              have hcar : ∀ b, b < w12.heap.size → W.heap.size < b → W.heap.size < b ∧ w12.drew.heap[b]? = w12.heap[b]? := fun b _ hS => ⟨hS, rfl⟩
              simp only [List.mem_cons, List.not_mem_nil, or_false] at hx
              rcases hx with rfl | rfl | rfl | rfl
              · exact tm_on g4.2.2 hcar
              · exact tm_on g5.2.2 hcar
              · exact tm_on g6.2.2 hcar
              · exact tm_on g7.2.2 hcar
            have HG4 := hid g4.2.1
            have HG5 := hid g5.2.1
            have HG6 := hid g6.2.1
            have HG7 := hid g7.2.1
            have HS4 : Hid ((Tryz.prog.info? 26).map (·.size) = some c4.size) := g4.2.2.info
            have HS5 : Hid ((Tryz.prog.info? 26).map (·.size) = some c5.size) := g5.2.2.info
            have HS6 : Hid ((Tryz.prog.info? 26).map (·.size) = some c6.size) := g6.2.2.info
            have HS7 : Hid ((Tryz.prog.info? 26).map (·.size) = some c7.size) := g7.2.2.info
            clear HV12 g4 g5 g6 g7
            simp only [Act.put]
            refine wp_region_held_drew (S := Vs V4 V5 V6 V7 c4 c5 c6 c7) (by kernel_rfl) HC0.out.s (fun hHeld => ?_)
            refine wpAnyH_take (i := 0) (v := .agg c4) rfl (by kernel_rfl) (by kernel_rfl) (by kernel_rfl) (fun _ _ _ h => h) (Or.inl ⟨by rfl, ?_⟩) hHeld ?_
            · intro w' hSw
              exact runLd 26 (.tmp 4) rfl V4 0 rfl c4 _ (range_blk hSw.v4) Tryz.underlying26 rfl HS4.out
            simp only [Act.put, List.getElem_toArray, List.getElem_cons_zero, List.setIfInBounds_toArray, List.set_cons_zero, List.set_cons_succ]
            refine wpAnyH_take (i := 3) (v := .agg c6) rfl (by kernel_rfl) (by kernel_rfl) (by kernel_rfl) (fun _ _ _ h => h) (Or.inl ⟨by rfl, ?_⟩) hHeld ?_
            · intro w' hSw
              exact runLd 26 (.tmp 6) rfl V6 0 rfl c6 _ (range_blk hSw.v6) Tryz.underlying26 rfl HS6.out
            simp only [Act.put, List.getElem_toArray, List.getElem_cons_succ, List.getElem_cons_zero, List.setIfInBounds_toArray, List.set_cons_zero, List.set_cons_succ]
            refine wpAnyH_take (i := 6) (v := .agg c5) rfl (by kernel_rfl) (by kernel_rfl) (by kernel_rfl) (fun _ _ _ h => h) (Or.inl ⟨by rfl, ?_⟩) hHeld ?_
            · intro w' hSw
              exact runLd 26 (.tmp 5) rfl V5 0 rfl c5 _ (range_blk hSw.v5) Tryz.underlying26 rfl HS5.out
            simp only [Act.put, List.getElem_toArray, List.getElem_cons_succ, List.getElem_cons_zero, List.setIfInBounds_toArray, List.set_cons_zero, List.set_cons_succ]
            refine wpAnyH_take (i := 11) (v := .agg c7) rfl (by kernel_rfl) (by kernel_rfl) (by kernel_rfl) (fun _ _ _ h => h) (Or.inl ⟨by rfl, ?_⟩) hHeld ?_
            · intro w' hSw
              exact runLd 26 (.tmp 7) rfl V7 0 rfl c7 _ (range_blk hSw.v7) Tryz.underlying26 rfl HS7.out
            simp only [Act.put, List.getElem_toArray, List.getElem_cons_succ, List.getElem_cons_zero, List.setIfInBounds_toArray, List.set_cons_zero, List.set_cons_succ]
            refine an2 1 7 _ _ (by kernel_rfl) rfl rfl ?_ ?_
            · skip
              refine Sp.cbs 6 HC0.out (by repeat (first | exact List.Mem.head _ | apply List.Mem.tail)) (.tmp 28) rfl rfl rfl ?_
              intro g1 w1 hc
              have HC1 := hid hc
              refine ⟨hc.s, ?_⟩
              clear hc HC0
              simp only [Act.put, List.getElem_toArray, List.getElem_cons_succ, List.getElem_cons_zero, List.setIfInBounds_toArray, List.set_cons_zero, List.set_cons_succ]
              refine an2 2 7 _ _ (by kernel_rfl) rfl rfl ?_ ?_
              · skip
                refine Sp.cov 6 HC1.out (.tmp 29) _ rfl rfl (some ⟨g1, 0, none⟩) 1 1 rfl ?_
                intro w2 hc
                have HC2 := hid hc
                refine ⟨hc.s, ?_⟩
                clear hc HC1
                simp only [Act.put, List.getElem_toArray, List.getElem_cons_succ, List.getElem_cons_zero, List.setIfInBounds_toArray, List.set_cons_zero, List.set_cons_succ]
                refine an2 4 7 _ _ (by kernel_rfl) rfl rfl ?_ ?_
                · skip
                  refine Sp.cbs2 9 HC2.out (by repeat (first | exact List.Mem.head _ | apply List.Mem.tail)) (by repeat (first | exact List.Mem.head _ | apply List.Mem.tail)) (.tmp 30) (.tmp 31) rfl rfl rfl rfl ?_
                  intro g4 w3 hc
                  have HC3 := hid hc
                  refine ⟨hc.s, ?_⟩
                  clear hc HC2
                  simp only [Act.put, List.getElem_toArray, List.getElem_cons_succ, List.getElem_cons_zero, List.setIfInBounds_toArray, List.set_cons_zero, List.set_cons_succ]
                  refine an2 5 7 _ _ (by kernel_rfl) rfl rfl ?_ ?_
                  · skip
                    refine Sp.cov 9 HC3.out (.tmp 32) _ rfl rfl (some ⟨g4, 0, none⟩) 2 2 rfl ?_
                    intro w4 hc
                    have HC4 := hid hc
                    refine ⟨hc.s, ?_⟩
                    clear hc HC3
                    simp only [Act.put, List.getElem_toArray, List.getElem_cons_succ, List.getElem_cons_zero, List.setIfInBounds_toArray, List.set_cons_zero, List.set_cons_succ]
                    refine an1 7 _ (by kernel_rfl) rfl ?_
                    refine Sp.cbs 3 HC4.out (by repeat (first | exact List.Mem.head _ | apply List.Mem.tail)) (.tmp 34) rfl rfl rfl ?_
                    intro g7 w5 hc
                    have HC5 := hid hc
                    refine ⟨hc.s, ?_⟩
                    clear hc HC4
                    simp only [Act.put, List.getElem_toArray, List.getElem_cons_succ, List.getElem_cons_zero, List.setIfInBounds_toArray, List.set_cons_zero, List.set_cons_succ]
                    refine an1 8 _ (by kernel_rfl) rfl ?_
                    refine Sp.cov 3 HC5.out (.tmp 35) _ rfl rfl (some ⟨g7, 0, none⟩) 1 1 rfl ?_
                    intro w6 hc
                    have HC6 := hid hc
                    refine ⟨hc.s, ?_⟩
                    clear hc HC5
                    simp only [Act.put, List.getElem_toArray, List.getElem_cons_succ, List.getElem_cons_zero, List.setIfInBounds_toArray, List.set_cons_zero, List.set_cons_succ]
                    refine an1 9 _ (by kernel_rfl) rfl ?_
                    refine Sp.cbs 6 HC6.out (by repeat (first | exact List.Mem.head _ | apply List.Mem.tail)) (.tmp 36) rfl rfl rfl ?_
                    intro g9 w7 hc
                    have HC7 := hid hc
                    refine ⟨hc.s, ?_⟩
                    clear hc HC6
                    simp only [Act.put, List.getElem_toArray, List.getElem_cons_succ, List.getElem_cons_zero, List.setIfInBounds_toArray, List.set_cons_zero, List.set_cons_succ]
                    refine an1 10 _ (by kernel_rfl) rfl ?_
                    refine Sp.cov 6 HC7.out (.tmp 37) _ rfl rfl (some ⟨g9, 0, none⟩) 1 1 rfl ?_
                    intro w8 hc
                    have HC8 := hid hc
                    refine ⟨hc.s, ?_⟩
                    clear hc HC7
                    simp only [Act.put, List.getElem_toArray, List.getElem_cons_succ, List.getElem_cons_zero, List.setIfInBounds_toArray, List.set_cons_zero, List.set_cons_succ]
                    refine an1 12 _ (by kernel_rfl) rfl ?_
                    refine Sp.cbs2 9 HC8.out (by repeat (first | exact List.Mem.head _ | apply List.Mem.tail)) (by repeat (first | exact List.Mem.head _ | apply List.Mem.tail)) (.tmp 38) (.tmp 39) rfl rfl rfl rfl ?_
                    intro g12 w9 hc
                    have HC9 := hid hc
                    refine ⟨hc.s, ?_⟩
                    clear hc HC8
                    simp only [Act.put, List.getElem_toArray, List.getElem_cons_succ, List.getElem_cons_zero, List.setIfInBounds_toArray, List.set_cons_zero, List.set_cons_succ]
                    refine an1 13 _ (by kernel_rfl) rfl ?_
                    refine Sp.cov 9 HC9.out (.tmp 40) _ rfl rfl (some ⟨g12, 0, none⟩) 2 2 rfl ?_
                    intro w10 hc
                    have HC10 := hid hc
                    refine ⟨hc.s, ?_⟩
                    clear hc HC9
                    simp only [Act.put, List.getElem_toArray, List.getElem_cons_succ, List.getElem_cons_zero, List.setIfInBounds_toArray, List.set_cons_zero, List.set_cons_succ]
                    refine an1 14 _ (by kernel_rfl) rfl ?_
                    refine Sp.cbs2 8 HC10.out (by repeat (first | exact List.Mem.head _ | apply List.Mem.tail)) (by repeat (first | exact List.Mem.head _ | apply List.Mem.tail)) (.tmp 33) (.tmp 41) rfl rfl rfl rfl ?_
                    intro g14 w11 hc
                    have HC11 := hid hc
                    refine ⟨hc.s, ?_⟩
                    clear hc HC10
                    simp only [Act.put, List.getElem_toArray, List.getElem_cons_succ, List.getElem_cons_zero, List.setIfInBounds_toArray, List.set_cons_zero, List.set_cons_succ]
                    refine an1 15 _ (by kernel_rfl) rfl ?_
                    refine Sp.cov 8 HC11.out (.tmp 42) _ rfl rfl (some ⟨g14, 0, none⟩) 2 2 rfl ?_
                    intro w12 hc
                    have HC12 := hid hc
                    refine ⟨hc.s, ?_⟩
                    clear hc HC11
                    simp only [Act.put, List.getElem_toArray, List.getElem_cons_succ, List.getElem_cons_zero, List.setIfInBounds_toArray, List.set_cons_zero, List.set_cons_succ]
                    have HTF : Hid (TmV (fun b => W.heap.size < b) w12 (iteT p a b) (tmc 8 0 0 (.slice (some ⟨g14, 0, none⟩) 2 2))) := HC12.out.ts (iteT p a b, _) (List.Mem.head _)
                    refine ready_stt 16 _ (by kernel_rfl) rfl 26 (.tmp 2) (.tmp 43) rfl rfl W.heap.size (tmc 8 0 0 (.slice (some ⟨g14, 0, none⟩) 2 2)) rfl rfl 26 _ HC12.out.i.res HTF.out.info rfl HTF.out.one ?_
                    refine ⟨(HC12.out.s.row HC12.out.i.res HG4.out HG5.out HG6.out HG7.out), ?_⟩
                    simp only [Act.put, List.getElem_toArray, List.getElem_cons_succ, List.getElem_cons_zero]
                    refine wpAnyH_done (by kernel_rfl) ?_ _
                    have hF := HC12.out.i.fin HTF.out
                    go_wp2
                    refine bodyPost_ret (res_tm Tryz.results91 _ _ W.heap.size _ HTF.out.info rfl hF.1) rfl (show RdP l r m ws (chF l pol pred i) W _ _ from ?_)
                    rw [HJF.out]; exact hF.2
                  · skip
                    refine Sp.cbs 3 HC3.out (by repeat (first | exact List.Mem.head _ | apply List.Mem.tail)) (.tmp 34) rfl rfl rfl ?_
                    intro g7 w4 hc
                    have HC4 := hid hc
                    refine ⟨hc.s, ?_⟩
                    clear hc HC3
                    simp only [Act.put, List.getElem_toArray, List.getElem_cons_succ, List.getElem_cons_zero, List.setIfInBounds_toArray, List.set_cons_zero, List.set_cons_succ]
                    refine an1 5 _ (by kernel_rfl) rfl ?_
                    refine Sp.cov 9 HC4.out (.tmp 32) _ rfl rfl (some ⟨g4, 0, none⟩) 2 2 rfl ?_
                    intro w5 hc
                    have HC5 := hid hc
                    refine ⟨hc.s, ?_⟩
                    clear hc HC4
                    simp only [Act.put, List.getElem_toArray, List.getElem_cons_succ, List.getElem_cons_zero, List.setIfInBounds_toArray, List.set_cons_zero, List.set_cons_succ]
                    refine an1 8 _ (by kernel_rfl) rfl ?_
                    refine Sp.cov 3 HC5.out (.tmp 35) _ rfl rfl (some ⟨g7, 0, none⟩) 1 1 rfl ?_
                    intro w6 hc
                    have HC6 := hid hc
                    refine ⟨hc.s, ?_⟩
                    clear hc HC5
                    simp only [Act.put, List.getElem_toArray, List.getElem_cons_succ, List.getElem_cons_zero, List.setIfInBounds_toArray, List.set_cons_zero, List.set_cons_succ]
                    refine an1 9 _ (by kernel_rfl) rfl ?_
                    refine Sp.cbs 6 HC6.out (by repeat (first | exact List.Mem.head _ | apply List.Mem.tail)) (.tmp 36) rfl rfl rfl ?_
                    intro g9 w7 hc
                    have HC7 := hid hc
                    refine ⟨hc.s, ?_⟩
                    clear hc HC6
                    simp only [Act.put, List.getElem_toArray, List.getElem_cons_succ, List.getElem_cons_zero, List.setIfInBounds_toArray, List.set_cons_zero, List.set_cons_succ]
                    refine an1 10 _ (by kernel_rfl) rfl ?_
                    refine Sp.cov 6 HC7.out (.tmp 37) _ rfl rfl (some ⟨g9, 0, none⟩) 1 1 rfl ?_
                    intro w8 hc
                    have HC8 := hid hc
                    refine ⟨hc.s, ?_⟩
                    clear hc HC7
                    simp only [Act.put, List.getElem_toArray, List.getElem_cons_succ, List.getElem_cons_zero, List.setIfInBounds_toArray, List.set_cons_zero, List.set_cons_succ]
                    refine an1 12 _ (by kernel_rfl) rfl ?_
                    refine Sp.cbs2 9 HC8.out (by repeat (first | exact List.Mem.head _ | apply List.Mem.tail)) (by repeat (first | exact List.Mem.head _ | apply List.Mem.tail)) (.tmp 38) (.tmp 39) rfl rfl rfl rfl ?_
                    intro g12 w9 hc
                    have HC9 := hid hc
                    refine ⟨hc.s, ?_⟩
                    clear hc HC8
                    simp only [Act.put, List.getElem_toArray, List.getElem_cons_succ, List.getElem_cons_zero, List.setIfInBounds_toArray, List.set_cons_zero, List.set_cons_succ]
                    refine an1 13 _ (by kernel_rfl) rfl ?_
                    refine Sp.cov 9 HC9.out (.tmp 40) _ rfl rfl (some ⟨g12, 0, none⟩) 2 2 rfl ?_
                    intro w10 hc
                    have HC10 := hid hc
                    refine ⟨hc.s, ?_⟩
                    clear hc HC9
                    simp only [Act.put, List.getElem_toArray, List.getElem_cons_succ, List.getElem_cons_zero, List.setIfInBounds_toArray, List.set_cons_zero, List.set_cons_succ]
                    refine an1 14 _ (by kernel_rfl) rfl ?_
                    refine Sp.cbs2 8 HC10.out (by repeat (first | exact List.Mem.head _ | apply List.Mem.tail)) (by repeat (first | exact List.Mem.head _ | apply List.Mem.tail)) (.tmp 33) (.tmp 41) rfl rfl rfl rfl ?_
                    intro g14 w11 hc
                    have HC11 := hid hc
                    refine ⟨hc.s, ?_⟩
                    clear hc HC10
                    simp only [Act.put, List.getElem_toArray, List.getElem_cons_succ, List.getElem_cons_zero, List.setIfInBounds_toArray, List.set_cons_zero, List.set_cons_succ]
                    refine an1 15 _ (by kernel_rfl) rfl ?_
                    refine Sp.cov 8 HC11.out (.tmp 42) _ rfl rfl (some ⟨g14, 0, none⟩) 2 2 rfl ?_
                    intro w12 hc
                    have HC12 := hid hc
                    refine ⟨hc.s, ?_⟩
                    clear hc HC11
                    simp only [Act.put, List.getElem_toArray, List.getElem_cons_succ, List.getElem_cons_zero, List.setIfInBounds_toArray, List.set_cons_zero, List.set_cons_succ]
                    have HTF : Hid (TmV (fun b => W.heap.size < b) w12 (iteT p a b) (tmc 8 0 0 (.slice (some ⟨g14, 0, none⟩) 2 2))) := HC12.out.ts (iteT p a b, _) (List.Mem.head _)
                    refine ready_stt 16 _ (by kernel_rfl) rfl 26 (.tmp 2) (.tmp 43) rfl rfl W.heap.size (tmc 8 0 0 (.slice (some ⟨g14, 0, none⟩) 2 2)) rfl rfl 26 _ HC12.out.i.res HTF.out.info rfl HTF.out.one ?_
                    refine ⟨(HC12.out.s.row HC12.out.i.res HG4.out HG5.out HG6.out HG7.out), ?_⟩
                    simp only [Act.put, List.getElem_toArray, List.getElem_cons_succ, List.getElem_cons_zero]
                    refine wpAnyH_done (by kernel_rfl) ?_ _
                    have hF := HC12.out.i.fin HTF.out
                    go_wp2
                    refine bodyPost_ret (res_tm Tryz.results91 _ _ W.heap.size _ HTF.out.info rfl hF.1) rfl (show RdP l r m ws (chF l pol pred i) W _ _ from ?_)
                    rw [HJF.out]; exact hF.2
                · skip
                  refine Sp.cbs 3 HC2.out (by repeat (first | exact List.Mem.head _ | apply List.Mem.tail)) (.tmp 34) rfl rfl rfl ?_
                  intro g7 w3 hc
                  have HC3 := hid hc
                  refine ⟨hc.s, ?_⟩
                  clear hc HC2
                  simp only [Act.put, List.getElem_toArray, List.getElem_cons_succ, List.getElem_cons_zero, List.setIfInBounds_toArray, List.set_cons_zero, List.set_cons_succ]
                  refine an1 4 _ (by kernel_rfl) rfl ?_
                  refine Sp.cbs2 9 HC3.out (by repeat (first | exact List.Mem.head _ | apply List.Mem.tail)) (by repeat (first | exact List.Mem.head _ | apply List.Mem.tail)) (.tmp 30) (.tmp 31) rfl rfl rfl rfl ?_
                  intro g4 w4 hc
                  have HC4 := hid hc
                  refine ⟨hc.s, ?_⟩
                  clear hc HC3
                  simp only [Act.put, List.getElem_toArray, List.getElem_cons_succ, List.getElem_cons_zero, List.setIfInBounds_toArray, List.set_cons_zero, List.set_cons_succ]
                  refine an1 5 _ (by kernel_rfl) rfl ?_
                  refine Sp.cov 9 HC4.out (.tmp 32) _ rfl rfl (some ⟨g4, 0, none⟩) 2 2 rfl ?_
                  intro w5 hc
                  have HC5 := hid hc
                  refine ⟨hc.s, ?_⟩
                  clear hc HC4
                  simp only [Act.put, List.getElem_toArray, List.getElem_cons_succ, List.getElem_cons_zero, List.setIfInBounds_toArray, List.set_cons_zero, List.set_cons_succ]
                  refine an1 8 _ (by kernel_rfl) rfl ?_
                  refine Sp.cov 3 HC5.out (.tmp 35) _ rfl rfl (some ⟨g7, 0, none⟩) 1 1 rfl ?_
                  intro w6 hc
                  have HC6 := hid hc
                  refine ⟨hc.s, ?_⟩
                  clear hc HC5
                  simp only [Act.put, List.getElem_toArray, List.getElem_cons_succ, List.getElem_cons_zero, List.setIfInBounds_toArray, List.set_cons_zero, List.set_cons_succ]
                  refine an1 9 _ (by kernel_rfl) rfl ?_
                  refine Sp.cbs 6 HC6.out (by repeat (first | exact List.Mem.head _ | apply List.Mem.tail)) (.tmp 36) rfl rfl rfl ?_
                  intro g9 w7 hc
                  have HC7 := hid hc
                  refine ⟨hc.s, ?_⟩
                  clear hc HC6
                  simp only [Act.put, List.getElem_toArray, List.getElem_cons_succ, List.getElem_cons_zero, List.setIfInBounds_toArray, List.set_cons_zero, List.set_cons_succ]
                  refine an1 10 _ (by kernel_rfl) rfl ?_
                  refine Sp.cov 6 HC7.out (.tmp 37) _ rfl rfl (some ⟨g9, 0, none⟩) 1 1 rfl ?_
                  intro w8 hc
                  have HC8 := hid hc
                  refine ⟨hc.s, ?_⟩
                  clear hc HC7
                  simp only [Act.put, List.getElem_toArray, List.getElem_cons_succ, List.getElem_cons_zero, List.setIfInBounds_toArray, List.set_cons_zero, List.set_cons_succ]
                  refine an1 12 _ (by kernel_rfl) rfl ?_
                  refine Sp.cbs2 9 HC8.out (by repeat (first | exact List.Mem.head _ | apply List.Mem.tail)) (by repeat (first | exact List.Mem.head _ | apply List.Mem.tail)) (.tmp 38) (.tmp 39) rfl rfl rfl rfl ?_
                  intro g12 w9 hc
                  have HC9 := hid hc
                  refine ⟨hc.s, ?_⟩
                  clear hc HC8
                  simp only [Act.put, List.getElem_toArray, List.getElem_cons_succ, List.getElem_cons_zero, List.setIfInBounds_toArray, List.set_cons_zero, List.set_cons_succ]
                  refine an1 13 _ (by kernel_rfl) rfl ?_
                  refine Sp.cov 9 HC9.out (.tmp 40) _ rfl rfl (some ⟨g12, 0, none⟩) 2 2 rfl ?_
                  intro w10 hc
                  have HC10 := hid hc
                  refine ⟨hc.s, ?_⟩
                  clear hc HC9
                  simp only [Act.put, List.getElem_toArray, List.getElem_cons_succ, List.getElem_cons_zero, List.setIfInBounds_toArray, List.set_cons_zero, List.set_cons_succ]
                  refine an1 14 _ (by kernel_rfl) rfl ?_
                  refine Sp.cbs2 8 HC10.out (by repeat (first | exact List.Mem.head _ | apply List.Mem.tail)) (by repeat (first | exact List.Mem.head _ | apply List.Mem.tail)) (.tmp 33) (.tmp 41) rfl rfl rfl rfl ?_
                  intro g14 w11 hc
                  have HC11 := hid hc
                  refine ⟨hc.s, ?_⟩
                  clear hc HC10
                  simp only [Act.put, List.getElem_toArray, List.getElem_cons_succ, List.getElem_cons_zero, List.setIfInBounds_toArray, List.set_cons_zero, List.set_cons_succ]
                  refine an1 15 _ (by kernel_rfl) rfl ?_
                  refine Sp.cov 8 HC11.out (.tmp 42) _ rfl rfl (some ⟨g14, 0, none⟩) 2 2 rfl ?_
                  intro w12 hc
                  have HC12 := hid hc
                  refine ⟨hc.s, ?_⟩
                  clear hc HC11
                  simp only [Act.put, List.getElem_toArray, List.getElem_cons_succ, List.getElem_cons_zero, List.setIfInBounds_toArray, List.set_cons_zero, List.set_cons_succ]
                  have HTF : Hid (TmV (fun b => W.heap.size < b) w12 (iteT p a b) (tmc 8 0 0 (.slice (some ⟨g14, 0, none⟩) 2 2))) := HC12.out.ts (iteT p a b, _) (List.Mem.head _)
                  refine ready_stt 16 _ (by kernel_rfl) rfl 26 (.tmp 2) (.tmp 43) rfl rfl W.heap.size (tmc 8 0 0 (.slice (some ⟨g14, 0, none⟩) 2 2)) rfl rfl 26 _ HC12.out.i.res HTF.out.info rfl HTF.out.one ?_
                  refine ⟨(HC12.out.s.row HC12.out.i.res HG4.out HG5.out HG6.out HG7.out), ?_⟩
                  simp only [Act.put, List.getElem_toArray, List.getElem_cons_succ, List.getElem_cons_zero]
                  refine wpAnyH_done (by kernel_rfl) ?_ _
                  have hF := HC12.out.i.fin HTF.out
                  go_wp2
                  refine bodyPost_ret (res_tm Tryz.results91 _ _ W.heap.size _ HTF.out.info rfl hF.1) rfl (show RdP l r m ws (chF l pol pred i) W _ _ from ?_)
                  rw [HJF.out]; exact hF.2
              · skip
                refine Sp.cbs 3 HC1.out (by repeat (first | exact List.Mem.head _ | apply List.Mem.tail)) (.tmp 34) rfl rfl rfl ?_
                intro g7 w2 hc
                have HC2 := hid hc
                refine ⟨hc.s, ?_⟩
                clear hc HC1
                simp only [Act.put, List.getElem_toArray, List.getElem_cons_succ, List.getElem_cons_zero, List.setIfInBounds_toArray, List.set_cons_zero, List.set_cons_succ]
                refine an1 2 _ (by kernel_rfl) rfl ?_
                refine Sp.cov 6 HC2.out (.tmp 29) _ rfl rfl (some ⟨g1, 0, none⟩) 1 1 rfl ?_
                intro w3 hc
                have HC3 := hid hc
                refine ⟨hc.s, ?_⟩
                clear hc HC2
                simp only [Act.put, List.getElem_toArray, List.getElem_cons_succ, List.getElem_cons_zero, List.setIfInBounds_toArray, List.set_cons_zero, List.set_cons_succ]
                refine an1 4 _ (by kernel_rfl) rfl ?_
                refine Sp.cbs2 9 HC3.out (by repeat (first | exact List.Mem.head _ | apply List.Mem.tail)) (by repeat (first | exact List.Mem.head _ | apply List.Mem.tail)) (.tmp 30) (.tmp 31) rfl rfl rfl rfl ?_
                intro g4 w4 hc
                have HC4 := hid hc
                refine ⟨hc.s, ?_⟩
                clear hc HC3
                simp only [Act.put, List.getElem_toArray, List.getElem_cons_succ, List.getElem_cons_zero, List.setIfInBounds_toArray, List.set_cons_zero, List.set_cons_succ]
                refine an1 5 _ (by kernel_rfl) rfl ?_
                refine Sp.cov 9 HC4.out (.tmp 32) _ rfl rfl (some ⟨g4, 0, none⟩) 2 2 rfl ?_
                intro w5 hc
                have HC5 := hid hc
                refine ⟨hc.s, ?_⟩
                clear hc HC4
                simp only [Act.put, List.getElem_toArray, List.getElem_cons_succ, List.getElem_cons_zero, List.setIfInBounds_toArray, List.set_cons_zero, List.set_cons_succ]
                refine an1 8 _ (by kernel_rfl) rfl ?_
                refine Sp.cov 3 HC5.out (.tmp 35) _ rfl rfl (some ⟨g7, 0, none⟩) 1 1 rfl ?_
                intro w6 hc
                have HC6 := hid hc
                refine ⟨hc.s, ?_⟩
                clear hc HC5
                simp only [Act.put, List.getElem_toArray, List.getElem_cons_succ, List.getElem_cons_zero, List.setIfInBounds_toArray, List.set_cons_zero, List.set_cons_succ]
                refine an1 9 _ (by kernel_rfl) rfl ?_
                refine Sp.cbs 6 HC6.out (by repeat (first | exact List.Mem.head _ | apply List.Mem.tail)) (.tmp 36) rfl rfl rfl ?_
                intro g9 w7 hc
                have HC7 := hid hc
                refine ⟨hc.s, ?_⟩
                clear hc HC6
                simp only [Act.put, List.getElem_toArray, List.getElem_cons_succ, List.getElem_cons_zero, List.setIfInBounds_toArray, List.set_cons_zero, List.set_cons_succ]
                refine an1 10 _ (by kernel_rfl) rfl ?_
                refine Sp.cov 6 HC7.out (.tmp 37) _ rfl rfl (some ⟨g9, 0, none⟩) 1 1 rfl ?_
                intro w8 hc
                have HC8 := hid hc
                refine ⟨hc.s, ?_⟩
                clear hc HC7
                simp only [Act.put, List.getElem_toArray, List.getElem_cons_succ, List.getElem_cons_zero, List.setIfInBounds_toArray, List.set_cons_zero, List.set_cons_succ]
                refine an1 12 _ (by kernel_rfl) rfl ?_
                refine Sp.cbs2 9 HC8.out (by repeat (first | exact List.Mem.head _ | apply List.Mem.tail)) (by repeat (first | exact List.Mem.head _ | apply List.Mem.tail)) (.tmp 38) (.tmp 39) rfl rfl rfl rfl ?_
                intro g12 w9 hc
                have HC9 := hid hc
                refine ⟨hc.s, ?_⟩
                clear hc HC8
                simp only [Act.put, List.getElem_toArray, List.getElem_cons_succ, List.getElem_cons_zero, List.setIfInBounds_toArray, List.set_cons_zero, List.set_cons_succ]
                refine an1 13 _ (by kernel_rfl) rfl ?_
                refine Sp.cov 9 HC9.out (.tmp 40) _ rfl rfl (some ⟨g12, 0, none⟩) 2 2 rfl ?_
                intro w10 hc
                have HC10 := hid hc
                refine ⟨hc.s, ?_⟩
                clear hc HC9
                simp only [Act.put, List.getElem_toArray, List.getElem_cons_succ, List.getElem_cons_zero, List.setIfInBounds_toArray, List.set_cons_zero, List.set_cons_succ]
                refine an1 14 _ (by kernel_rfl) rfl ?_
                refine Sp.cbs2 8 HC10.out (by repeat (first | exact List.Mem.head _ | apply List.Mem.tail)) (by repeat (first | exact List.Mem.head _ | apply List.Mem.tail)) (.tmp 33) (.tmp 41) rfl rfl rfl rfl ?_
                intro g14 w11 hc
                have HC11 := hid hc
                refine ⟨hc.s, ?_⟩
                clear hc HC10
                simp only [Act.put, List.getElem_toArray, List.getElem_cons_succ, List.getElem_cons_zero, List.setIfInBounds_toArray, List.set_cons_zero, List.set_cons_succ]
                refine an1 15 _ (by kernel_rfl) rfl ?_
                refine Sp.cov 8 HC11.out (.tmp 42) _ rfl rfl (some ⟨g14, 0, none⟩) 2 2 rfl ?_
                intro w12 hc
                have HC12 := hid hc
                refine ⟨hc.s, ?_⟩
                clear hc HC11
                simp only [Act.put, List.getElem_toArray, List.getElem_cons_succ, List.getElem_cons_zero, List.setIfInBounds_toArray, List.set_cons_zero, List.set_cons_succ]
                have HTF : Hid (TmV (fun b => W.heap.size < b) w12 (iteT p a b) (tmc 8 0 0 (.slice (some ⟨g14, 0, none⟩) 2 2))) := HC12.out.ts (iteT p a b, _) (List.Mem.head _)
                refine ready_stt 16 _ (by kernel_rfl) rfl 26 (.tmp 2) (.tmp 43) rfl rfl W.heap.size (tmc 8 0 0 (.slice (some ⟨g14, 0, none⟩) 2 2)) rfl rfl 26 _ HC12.out.i.res HTF.out.info rfl HTF.out.one ?_
                refine ⟨(HC12.out.s.row HC12.out.i.res HG4.out HG5.out HG6.out HG7.out), ?_⟩
                simp only [Act.put, List.getElem_toArray, List.getElem_cons_succ, List.getElem_cons_zero]
                refine wpAnyH_done (by kernel_rfl) ?_ _
                have hF := HC12.out.i.fin HTF.out
                go_wp2
                refine bodyPost_ret (res_tm Tryz.results91 _ _ W.heap.size _ HTF.out.info rfl hF.1) rfl (show RdP l r m ws (chF l pol pred i) W _ _ from ?_)
                rw [HJF.out]; exact hF.2
            · skip
              refine Sp.cbs 3 HC0.out (by repeat (first | exact List.Mem.head _ | apply List.Mem.tail)) (.tmp 34) rfl rfl rfl ?_
              intro g7 w1 hc
              have HC1 := hid hc
              refine ⟨hc.s, ?_⟩
              clear hc HC0
              simp only [Act.put, List.getElem_toArray, List.getElem_cons_succ, List.getElem_cons_zero, List.setIfInBounds_toArray, List.set_cons_zero, List.set_cons_succ]
              refine an1 1 _ (by kernel_rfl) rfl ?_
              refine Sp.cbs 6 HC1.out (by repeat (first | exact List.Mem.head _ | apply List.Mem.tail)) (.tmp 28) rfl rfl rfl ?_
              intro g1 w2 hc
              have HC2 := hid hc
              refine ⟨hc.s, ?_⟩
              clear hc HC1
              simp only [Act.put, List.getElem_toArray, List.getElem_cons_succ, List.getElem_cons_zero, List.setIfInBounds_toArray, List.set_cons_zero, List.set_cons_succ]
              refine an1 2 _ (by kernel_rfl) rfl ?_
              refine Sp.cov 6 HC2.out (.tmp 29) _ rfl rfl (some ⟨g1, 0, none⟩) 1 1 rfl ?_
              intro w3 hc
              have HC3 := hid hc
              refine ⟨hc.s, ?_⟩
              clear hc HC2
              simp only [Act.put, List.getElem_toArray, List.getElem_cons_succ, List.getElem_cons_zero, List.setIfInBounds_toArray, List.set_cons_zero, List.set_cons_succ]
              refine an1 4 _ (by kernel_rfl) rfl ?_
              refine Sp.cbs2 9 HC3.out (by repeat (first | exact List.Mem.head _ | apply List.Mem.tail)) (by repeat (first | exact List.Mem.head _ | apply List.Mem.tail)) (.tmp 30) (.tmp 31) rfl rfl rfl rfl ?_
              intro g4 w4 hc
              have HC4 := hid hc
              refine ⟨hc.s, ?_⟩
              clear hc HC3
              simp only [Act.put, List.getElem_toArray, List.getElem_cons_succ, List.getElem_cons_zero, List.setIfInBounds_toArray, List.set_cons_zero, List.set_cons_succ]
              refine an1 5 _ (by kernel_rfl) rfl ?_
              refine Sp.cov 9 HC4.out (.tmp 32) _ rfl rfl (some ⟨g4, 0, none⟩) 2 2 rfl ?_
              intro w5 hc
              have HC5 := hid hc
              refine ⟨hc.s, ?_⟩
              clear hc HC4
              simp only [Act.put, List.getElem_toArray, List.getElem_cons_succ, List.getElem_cons_zero, List.setIfInBounds_toArray, List.set_cons_zero, List.set_cons_succ]
              refine an1 8 _ (by kernel_rfl) rfl ?_
              refine Sp.cov 3 HC5.out (.tmp 35) _ rfl rfl (some ⟨g7, 0, none⟩) 1 1 rfl ?_
              intro w6 hc
              have HC6 := hid hc
              refine ⟨hc.s, ?_⟩
              clear hc HC5
              simp only [Act.put, List.getElem_toArray, List.getElem_cons_succ, List.getElem_cons_zero, List.setIfInBounds_toArray, List.set_cons_zero, List.set_cons_succ]
              refine an1 9 _ (by kernel_rfl) rfl ?_
              refine Sp.cbs 6 HC6.out (by repeat (first | exact List.Mem.head _ | apply List.Mem.tail)) (.tmp 36) rfl rfl rfl ?_
              intro g9 w7 hc
              have HC7 := hid hc
              refine ⟨hc.s, ?_⟩
              clear hc HC6
              simp only [Act.put, List.getElem_toArray, List.getElem_cons_succ, List.getElem_cons_zero, List.setIfInBounds_toArray, List.set_cons_zero, List.set_cons_succ]
              refine an1 10 _ (by kernel_rfl) rfl ?_
              refine Sp.cov 6 HC7.out (.tmp 37) _ rfl rfl (some ⟨g9, 0, none⟩) 1 1 rfl ?_
              intro w8 hc
              have HC8 := hid hc
              refine ⟨hc.s, ?_⟩
              clear hc HC7
              simp only [Act.put, List.getElem_toArray, List.getElem_cons_succ, List.getElem_cons_zero, List.setIfInBounds_toArray, List.set_cons_zero, List.set_cons_succ]
              refine an1 12 _ (by kernel_rfl) rfl ?_
              refine Sp.cbs2 9 HC8.out (by repeat (first | exact List.Mem.head _ | apply List.Mem.tail)) (by repeat (first | exact List.Mem.head _ | apply List.Mem.tail)) (.tmp 38) (.tmp 39) rfl rfl rfl rfl ?_
              intro g12 w9 hc
              have HC9 := hid hc
              refine ⟨hc.s, ?_⟩
              clear hc HC8
              simp only [Act.put, List.getElem_toArray, List.getElem_cons_succ, List.getElem_cons_zero, List.setIfInBounds_toArray, List.set_cons_zero, List.set_cons_succ]
              refine an1 13 _ (by kernel_rfl) rfl ?_
              refine Sp.cov 9 HC9.out (.tmp 40) _ rfl rfl (some ⟨g12, 0, none⟩) 2 2 rfl ?_
              intro w10 hc
              have HC10 := hid hc
              refine ⟨hc.s, ?_⟩
              clear hc HC9
              simp only [Act.put, List.getElem_toArray, List.getElem_cons_succ, List.getElem_cons_zero, List.setIfInBounds_toArray, List.set_cons_zero, List.set_cons_succ]
              refine an1 14 _ (by kernel_rfl) rfl ?_
              refine Sp.cbs2 8 HC10.out (by repeat (first | exact List.Mem.head _ | apply List.Mem.tail)) (by repeat (first | exact List.Mem.head _ | apply List.Mem.tail)) (.tmp 33) (.tmp 41) rfl rfl rfl rfl ?_
              intro g14 w11 hc
              have HC11 := hid hc
              refine ⟨hc.s, ?_⟩
              clear hc HC10
              simp only [Act.put, List.getElem_toArray, List.getElem_cons_succ, List.getElem_cons_zero, List.setIfInBounds_toArray, List.set_cons_zero, List.set_cons_succ]
              refine an1 15 _ (by kernel_rfl) rfl ?_
              refine Sp.cov 8 HC11.out (.tmp 42) _ rfl rfl (some ⟨g14, 0, none⟩) 2 2 rfl ?_
              intro w12 hc
              have HC12 := hid hc
              refine ⟨hc.s, ?_⟩
              clear hc HC11
              simp only [Act.put, List.getElem_toArray, List.getElem_cons_succ, List.getElem_cons_zero, List.setIfInBounds_toArray, List.set_cons_zero, List.set_cons_succ]
              have HTF : Hid (TmV (fun b => W.heap.size < b) w12 (iteT p a b) (tmc 8 0 0 (.slice (some ⟨g14, 0, none⟩) 2 2))) := HC12.out.ts (iteT p a b, _) (List.Mem.head _)
              refine ready_stt 16 _ (by kernel_rfl) rfl 26 (.tmp 2) (.tmp 43) rfl rfl W.heap.size (tmc 8 0 0 (.slice (some ⟨g14, 0, none⟩) 2 2)) rfl rfl 26 _ HC12.out.i.res HTF.out.info rfl HTF.out.one ?_
              refine ⟨(HC12.out.s.row HC12.out.i.res HG4.out HG5.out HG6.out HG7.out), ?_⟩
              simp only [Act.put, List.getElem_toArray, List.getElem_cons_succ, List.getElem_cons_zero]
              refine wpAnyH_done (by kernel_rfl) ?_ _
              have hF := HC12.out.i.fin HTF.out
              go_wp2
              refine bodyPost_ret (res_tm Tryz.results91 _ _ W.heap.size _ HTF.out.info rfl hF.1) rfl (show RdP l r m ws (chF l pol pred i) W _ _ from ?_)
              rw [HJF.out]; exact hF.2
end Go.Proofs.YtoncogkamlgjhaaGreatDoor
