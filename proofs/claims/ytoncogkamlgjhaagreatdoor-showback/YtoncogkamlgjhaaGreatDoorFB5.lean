/-
  Proved here: the reader's method joined: parts with a sign between, by whatever function reads a part. Conditions: the part's reading is told by its contract.
-/
import Derived.Test.YtoncogkamlgjhaaGreatDoorFB4
namespace Go.Proofs.YtoncogkamlgjhaaGreatDoor
set_option maxRecDepth 100000
open Go.RowKit
set_option maxRecDepth 100000

theorem tm_on {S T : Nat → Prop} {w w' : World} {t : Tm} {cs : Array Value} (h : TmV S w t cs) (hc : ∀ b, b < w.heap.size → S b → T b ∧ w'.heap[b]? = w.heap[b]?) : TmV T w' t cs := TmV.carry hc t cs h
/-- a part more -/
theorem JnS.app {W : World} {l : List Wd} {r m : Nat} {ws : Value} {K : World → Prop} {acc : List Tm} {v v' : Value} {j k : Nat} {wr w1 w2 w3 : World} {t : Tm} {cs : Array Value} (hK : ∀ w w', K w → Only (Rn r W) w w' → K w') (h : JnS W l r m ws K acc v j wr) (hlt : r < W.heap.size)
    (ho : Only (Rn r wr) wr w1) (hr : RdM l r m ws k w1) (ht : TmV (fun b => wr.heap.size ≤ b) w1 t cs) (h2 : w2 = w1.alloc (.cells cs 26)) (hA : Apd w2 v w3)
    {xs : List Value} (g1 : Rw (fun b => W.heap.size < b) 4 26 w2 v acc.length xs) (g2 : TmL (fun b => W.heap.size < b ∧ v.ownBlock ≠ some b) w2 acc xs)
    (hw : ∀ S, Rw S 4 26 w2 v acc.length xs → Rw (fun b => S b ∨ w2.heap.size ≤ b) 4 26 w3 v' (acc.length + 1) (xs ++ cs.toList)) : JnS W l r m ws K (acc ++ [t]) v' k w3 := by
  have hz := h.only.size
  have hlt2 := (Array.getElem?_eq_some_iff.1 h.res).1
  have hz1 := ho.size
  have hJ1 := h.on hK hlt ho hr
  have hb2 : Below w1.heap.size w1 w2 := by rw [h2]; exact (Below.refl _ _).alloc (Nat.le_refl _) _
  have hJ2 := hJ1.on hK hlt (Only.of hb2 fun _ hk => Or.inr hk) (hr.on hb2)
  have hz2 := hb2.size
  have hown : ∀ b, v.ownBlock = some b → W.heap.size < b := fun b hb => g1.own b hb
  have hownlt : ∀ b, v.ownBlock = some b → b < wr.heap.size := fun b hb => by
    obtain ⟨ys, q1, -⟩ := h.ks
    exact q1.ownLt b hb
  have ho3 : Only (Rn r W) w2 w3 := hA.only (fun b hb => Or.inr (by omega)) (fun b hb => Or.inr (by have := hown b hb; omega))
  have hR3 : RdM l r m ws k w3 := hJ2.rd.keep fun b hb => hA.block b (by omega) (fun e => by have := hown b e; omega)
  have hself := hw (fun b => v.ownBlock = some b) (g1.self.carry fun b _ hS => ⟨hS.2, rfl⟩)
  have hv' : ∀ b, v'.ownBlock = some b → v.ownBlock = some b ∨ w2.heap.size ≤ b := fun b hb => hself.own b hb
  have hne : ∀ b, b < w2.heap.size → v.ownBlock ≠ some b → v'.ownBlock ≠ some b := fun b hb hn e => by
    rcases hv' b e with q | q
    · exact hn q
    · omega
  refine ⟨hJ2.only.trans ho3, hR3, (hA.block _ (by omega) (fun e => by have := hown _ e; omega)).trans hJ2.res, ⟨xs ++ cs.toList, ?_, ?_⟩, hK _ _ hJ2.k ho3⟩
  · rw [List.length_append]
    exact (hw _ g1).carry fun b _ hS => ⟨by rcases hS with q | q <;> omega, rfl⟩
  · refine TmL.snoc (tm_on (w := w1) (S := fun b => wr.heap.size ≤ b) ht fun b hb hS => ?_) _ _ (TmL.carry (fun b hb hS => ⟨⟨hS.1, hne b hb hS.2⟩, hA.block b hb hS.2⟩) _ _ g2)
    have hn : v.ownBlock ≠ some b := fun e => by have := hownlt b e; omega
    exact ⟨⟨by omega, hne b (by omega) hn⟩, (hA.block b (by omega) hn).trans (hb2.block b hb)⟩
/-- the first part -/
theorem JnS.one {W : World} {l : List Wd} {r m : Nat} {ws : Value} {K : World → Prop} {j : Nat} {w : World} {t : Tm} {cs : Array Value} {B : Nat} (ho : Only (Rn r W) W w) (hr : RdM l r m ws j w) (hres : w.heap[W.heap.size]? = some (.cells (tmc 0 0 0 nilS) 26 (0, 0))) (ht : TmV (fun b => B ≤ b) w t cs) (hB : W.heap.size < B) (hk : K (w.alloc (.cells cs 26))) :
    JnS W l r m ws K [t] (.slice (some ⟨w.heap.size, 0, none⟩) 1 1) j (w.alloc (.cells cs 26)) := by
  have hb : Below w.heap.size w (w.alloc (.cells cs 26)) := (Below.refl _ _).alloc (Nat.le_refl _) _
  have hlt2 := (Array.getElem?_eq_some_iff.1 hres).1
  have hs := ht.size
  refine ⟨ho.bel hb, hr.on hb, (hb.block _ hlt2).trans hres, ⟨cs.toList, ⟨by simp [hs], Or.inr ⟨w.heap.size, 0, 1, cs, rfl, by omega, heap_alloc_new _ _, Nat.le_refl _, by omega, ?_⟩⟩, TmL.one (tm_on ht fun b hl hS => ⟨⟨by omega, fun e => ?_⟩, hb.block b hl⟩)⟩, hk⟩
  · simp only [List.length_cons, List.length_nil, List.drop_zero]
    rw [List.take_of_length_le (by simp [hs])]
  · simp [Value.ownBlock] at e; omega
theorem jn_bad1 {l : List Wd} {op : Nat} {sg : ByteArray} {part : Nat → Rd Tm} {i j : Nat} (h : part i = .bad j) : jn l op sg part i = .bad j := by unfold jn; rw [h]
theorem jn_one {l : List Wd} {op : Nat} {sg : ByteArray} {part : Nat → Rd Tm} {i j : Nat} {t : Tm} (h : part i = .ok t j) (ht : tk l j sg = false) : jn l op sg part i = .ok t j := by unfold jn; rw [h]; simp [ht]
theorem jn_more {l : List Wd} {op : Nat} {sg : ByteArray} {part : Nat → Rd Tm} {i j : Nat} {t : Tm} (h : part i = .ok t j) (ht : tk l j sg = true) : jn l op sg part i = (jnL l sg part l.length j [t]).map (fun ts => ov op ts) := by
  unfold jn; rw [h]; simp only [ht, if_true]
  cases jnL l sg part l.length j [t] <;> rfl
set_option maxHeartbeats 6400000 in
theorem joined_any {l : List Wd} {r m : Nat} {ws : Value} {i : Nat} {W : World} (h : RdM l r m ws i W) (hi : i < l.length) (hb : l.length ≤ 100000) (hcl : Cl l) (op : Nat) (sg : ByteArray) (hsg : sg ≠ ⟨#[]⟩) (part : Nat → Rd Tm) (hadv : Adv l part) {fv : Value} {f : FuncId} {fi ca A : Array Value} (hf : Pf fv f fi ca A)
    (K : World → Prop) (hK0 : K W) (hKon : ∀ w w', K w → Only (Rn r W) w w' → K w') (hP : ∀ j w, RdM l r m ws j w → i ≤ j → j < l.length → K w → Calls Tryz.prog f A w (RdP l r m ws (part j) w)) :
    Calls Tryz.prog 56 #[ptr r, .int .i8 ((op : Nat) : Int), .string sg, fv] W (RdP l r m ws (jn l op sg part i) W) := by
  obtain ⟨rfl, hfe, hfn⟩ := hf
  obtain ⟨iR, hiR, hiz, his, -⟩ := info_parts infoTM
  have HFE := hid hfe
  have HFN := hid hfn
  have hlt := h.lt
  obtain ⟨W1, hW1⟩ : ∃ W1, W1 = W.alloc (.cells (tmc 0 0 0 nilS) 26) := ⟨_, rfl⟩
  have hB1 : Below W.heap.size W W1 := by rw [hW1]; exact (Below.refl _ _).alloc (Nat.le_refl _) _
  have hZ1 : W1.heap[W.heap.size]? = some (.cells (tmc 0 0 0 nilS) 26 (0, 0)) := by rw [hW1]; exact heap_alloc_new _ _
  have HZ1 := hid hZ1
  have hz1 : W1.heap.size = W.heap.size + 1 := by rw [hW1]; simp
  have HE : Hid (W.alloc (.cells #[.int .i8 0, .int .i8 0, .int .u64 0, .slice none 0 0] 26) = W1) := hW1.symm
  have hR1 := h.on hB1
  have HO1 : Hid (Only (Rn r W) W W1) := Only.of hB1 fun _ hk => Or.inr hk
  have hK1 : K W1 := hKon _ _ hK0 HO1.out
  have HK1 := hid hK1
  have HC1 := hid (hP i W1 hR1 (Nat.le_refl _) hi hK1)
  have HP := hid hP
  have HKon := hid hKon
  have HAd := hid hadv
  have HCl := hid hcl
  have HSg := hid hsg
  clear hP hKon hadv hcl hsg hK0 hK1 hR1 h hW1 hB1 hZ1 hfe hfn
  cases hp : part i with
  | bad j =>
    rw [hp] at HC1
    rw [jn_bad1 hp]
    clear hp
    go_enter Tryz.func56, Tryz.ntmps56
    go_upto_region 1 with fail
    rw [show W.alloc (.cells #[.int .i8 0, .int .i8 0, .int .u64 0, .slice none 0 0] 26) = W1 from HE.out]
    go_wp2_with (refine callF f (.tmp 11) #[] fi ca A rfl rfl rfl HFE.out HFN.out _ HC1.out ?_; intro e w2 h9; obtain ⟨rfl, h91, h92⟩ := h9.isBad; have HX := hid (And.intro h91 h92); clear h9 h91 h92; refine Or.inr ⟨_, rfl, ?_⟩)
    exact ⟨rfl, HO1.out.thn HX.out.1, rfl, HX.out.2⟩
  | ok t j =>
    rw [hp] at HC1
    have hj := (HAd.out i hi).1 t j hp
    have HPi := hid hp
    clear hp
    go_enter Tryz.func56, Tryz.ntmps56
    go_upto_region 1 with fail
    rw [show W.alloc (.cells #[.int .i8 0, .int .i8 0, .int .u64 0, .slice none 0 0] 26) = W1 from HE.out]
    go_upto_region 2 with (first
      | (refine callF f (.tmp 11) #[] fi ca A rfl rfl rfl HFE.out HFN.out _ HC1.out ?_; intro e w2 h9; obtain ⟨cs, rfl, h91, h92, h93⟩ := h9.isOk; have HX := hid (And.intro h91 (And.intro h92 h93)); clear h9 h91 h92 h93; refine Or.inl ⟨_, rfl, ?_⟩)
      | (refine stNew 26 (.tmp 9) (.tmp 12) rfl rfl w2 26 (tmc 0 0 0 nilS) cs rfl rfl rfl (HX.out.2.2.info) (by rw [HX.out.2.2.size]; rfl) HX.out.2.2.one ?_))
    have hb3 : Below w2.heap.size w2 (w2.alloc (.cells cs 26)) := (Below.refl _ _).alloc (Nat.le_refl _) _
    have HF : Hid ((w2.alloc (.cells cs 26)).heap[w2.heap.size]? = some (.cells cs 26 (0, 0))) := heap_alloc_new _ _
    have hz2 := HX.out.1.size
    have HO3 : Hid (Only (Rn r W) W (w2.alloc (.cells cs 26))) := (HO1.out.thn HX.out.1).bel hb3
    have HR3 := hid (HX.out.2.1.on hb3)
    have HT3 : Hid (TmV (fun b => W1.heap.size ≤ b) (w2.alloc (.cells cs 26)) t cs) := tm_on HX.out.2.2 fun b hb hS => ⟨hS, hb3.block b hb⟩
    have hrs2 : w2.heap[W.heap.size]? = some (.cells (tmc 0 0 0 nilS) 26 (0, 0)) := (HX.out.1.block _ (by rintro (e | e) <;> omega)).trans HZ1.out
    have HRes : Hid ((w2.alloc (.cells cs 26)).heap[W.heap.size]? = some (.cells (tmc 0 0 0 nilS) 26 (0, 0))) := (hb3.block _ (by omega)).trans hrs2
    have hzz : W.heap.size < w2.heap.size := by omega
    have hz3 : (w2.alloc (.cells cs 26)).heap.size = w2.heap.size + 1 := by simp
    have HK3 : Hid (K (w2.alloc (.cells cs 26))) := HKon.out _ _ HK1.out (HX.out.1.mono (fun x hx => by rcases hx with e | e; exact Or.inl e; exact Or.inr (by omega)) |>.trans (Only.of hb3 fun x hx => Or.inr (by omega)))
    clear hb3 hrs2 HX HC1
    generalize w2.alloc (.cells cs 26) = W3 at HF HO3 HR3 HT3 HRes hz3 HK3 ⊢
    generalize w2.heap.size = F at HF hzz hz3 hz2 ⊢
    clear w2
    have HWd := hid (word_at HR3.out hj.2 (by omega))
    have hk : ∀ b, tk l j sg = b → ((wat l j).t.toList == sg.toList) = b := fun b hb => str_b hb
    generalize wat l j = x at HWd hk
    obtain ⟨xk, xt, xn, xa⟩ := x
    simp only at HWd hk
    have hfd := fun W => run_w1 (xk : Int) (xn : Int) (xa : Int) xt W
    cases ht : tk l j sg with
    | false =>
      have hs := hk _ ht
      have HJo := hid (jn_one (op := op) HPi.out ht)
      clear ht hk
      go_wp2_with (first
        | (go_at_call 14; refine (HWd.out).mono ?_; rintro e w4 ⟨rfl, hw⟩; have HB4 := hid hw; clear hw)
        | (refine ldRow 26 (.tmp 9) rfl rfl F rfl 26 cs _ Tryz.underlying26 rfl HT3.out.info ((HB4.out.block _ (by omega)).trans HF.out) ?_)
        | (refine stRow 26 (.tmp 8) (.tmp 18) rfl rfl W.heap.size cs rfl rfl 26 _ ((HB4.out.block _ (by omega)).trans HRes.out) HT3.out.info (by rw [HT3.out.size]; rfl) HT3.out.one ?_))
      have hrs : w4.heap[W.heap.size]? = some (.cells (tmc 0 0 0 nilS) 26 (0, 0)) := (HB4.out.block _ (by omega)).trans HRes.out
      have hF := setRow_heap w4 W.heap.size (tmc 0 0 0 nilS) cs 26 _ hrs
      have hko : ∀ k, k ≠ W.heap.size → (w4.setRow W.heap.size cs).heap[k]? = w4.heap[k]? := fun k hk => setRow_other w4 W.heap.size k _ hk
      have ho4 : Only (Rn r W) W w4 := HO3.out.bel HB4.out
      have hsz : (w4.setRow W.heap.size cs).heap.size = w4.heap.size := by simp [World.setRow]
      have ho5 : Only (Rn r W) W (w4.setRow W.heap.size cs) := ho4.trans ⟨rfl, rfl, rfl, by omega, fun k hk => hko k (fun e => hk (Or.inr (by omega)))⟩
      have hz4 := HB4.out.size
      refine bodyPost_ret (v := .agg cs) (res_tm Tryz.results56 _ _ W.heap.size cs HT3.out.info rfl hF) rfl (show RdP l r m ws (jn l op sg part i) W _ _ from ?_)
      rw [HJo.out]
      refine ⟨ho5, cs, rfl, (HR3.out.on HB4.out).keep fun b hb => hko b (by omega), ?_⟩
      exact tm_on HT3.out fun b hb hS => ⟨by omega, (hko b (by omega)).trans (HB4.out.block b hb)⟩
    | true =>
      have hs := hk _ ht
      have HJm := hid (jn_more (op := op) HPi.out ht)
      have HTk := hid ht
      clear ht hk
      go_upto_region 5 with (first
        | (go_at_call 14; refine (HWd.out).mono ?_; rintro e w4 ⟨rfl, hw⟩; have HB4 := hid hw; clear hw)
        | (refine ldRow 26 (.tmp 9) rfl rfl F rfl 26 cs _ Tryz.underlying26 rfl HT3.out.info ((HB4.out.block _ (by omega)).trans HF.out) ?_)
        | (refine bldSl 24 26 (.tmp 19) rfl rfl cs rfl Tryz.underlying24 iR _ 4 hiR hiz his HT3.out.size (by omega) (by omega) ?_))
      have hz4 := HB4.out.size
      have hT4 : TmV (fun b => W1.heap.size ≤ b) w4 t cs := tm_on HT3.out fun b hb hS => ⟨hS, HB4.out.block b hb⟩
      have hbA : Below w4.heap.size w4 (w4.alloc (.cells cs 26)) := (Below.refl _ _).alloc (Nat.le_refl _) _
      have hK4 : K (w4.alloc (.cells cs 26)) := HKon.out _ _ HK3.out ((Only.of HB4.out (S := Rn r W) fun x hx => Or.inr (by omega)).trans (Only.of hbA fun x hx => Or.inr (by omega)))
      have HS0 : Hid (JnS W l r m ws K [t] (.slice (some ⟨w4.heap.size, 0, none⟩) 1 1) j (w4.alloc (.cells cs 26))) := JnS.one (B := W1.heap.size) (HO3.out.bel HB4.out) (HR3.out.on HB4.out) ((HB4.out.block _ (by omega)).trans HRes.out) hT4 (by omega) hK4
      have hj1 := hj.1
      have hj2 := hj.2
      clear hT4 hbA hK4 HWd HRes HT3 HR3 HO3 HK3 HF hz4 HB4 HZ1 HE HO1 HK1 hfd hs hj
      generalize w4.alloc (.cells cs 26) = W5 at HS0 ⊢
      generalize w4.heap.size = G at HS0 ⊢
      clear w4
      go_loopw [10] (fun v wr => ∃ (acc : List Tm) (ao : Option Addr) (cap k fu : Nat), v = .slice ao acc.length cap ∧ k < l.length ∧ l.length - k ≤ fu ∧ i ≤ k ∧ acc.length ≤ k ∧ 0 < acc.length ∧ Hid (JnS W l r m ws K acc (.slice ao acc.length cap) k wr) ∧ Hid (jnL l sg part fu k acc = jnL l sg part l.length j [t])) (fun _ wr => l.length - rAt r wr)
      case atStart => exact ⟨[t], _, 1, j, l.length, rfl, hj2, by omega, by omega, by simp; omega, by simp, HS0, rfl⟩
      case round =>
        clear HS0
        obtain ⟨acc, ao, cap, k, fu, rfl, hk1, hk2, hk3, hk4, hk5, HS, HJ⟩ := hrel
        obtain ⟨fu, rfl⟩ : ∃ f', fu = f' + 1 := ⟨fu - 1, by omega⟩
        have HRA := hid HS.out.rd.rAt
        cases ht : tk l k sg with
        | true =>
          have HTy := hid (takes_yes HS.out.rd hk1 (by omega) ht)
          have hkk := tk_lt HCl.out hk1 HSg.out ht
          have HJ2 : Hid (jnL l sg part l.length j [t] = match part (k + 1) with | .bad q => .bad q | .ok t q => jnL l sg part fu q (acc ++ [t])) := by
            show _ = _
            rw [← HJ.out, jnL, if_pos ht]
            cases part (k + 1) <;> rfl
          clear ht HJ
          go_upto_region 6 with (go_at_call 30; refine (HTy.out).mono ?_; rintro e w5 ⟨rfl, h1, h2⟩; have HX := hid (And.intro h1 h2); clear h1 h2)
          have HS5 := hid (HS.out.on HKon.out hlt HX.out.1 HX.out.2)
          have HC5 := hid (HP.out (k + 1) w5 HX.out.2 (by omega) hkk HS5.out.k)
          clear HTy HS HX
          cases hp : part (k + 1) with
          | bad q =>
            rw [hp] at HC5 HJ2
            clear hp
            go_wp2_with (refine callF f (.tmp 25) #[] fi ca A rfl rfl rfl HFE.out HFN.out _ HC5.out ?_; intro e w6 h9; obtain ⟨rfl, h91, h92⟩ := h9.isBad; have HX := hid (And.intro h91 h92); clear h9 h91 h92; refine Or.inr ⟨_, rfl, ?_⟩)
            refine ⟨rfl, (show RdP l r m ws (jn l op sg part i) W _ _ from ?_)⟩
            rw [HJm.out, HJ2.out]
            exact ⟨HS5.out.only.thn HX.out.1, rfl, HX.out.2⟩
          | ok t' q =>
            rw [hp] at HC5 HJ2
            have hq := (HAd.out _ hkk).1 t' q hp
            clear hp
            go_wp2_with (first
              | (refine callF f (.tmp 25) #[] fi ca A rfl rfl rfl HFE.out HFN.out _ HC5.out ?_; intro e w6 h9; obtain ⟨ds, rfl, h91, h92, h93⟩ := h9.isOk; have HX := hid (And.intro h91 (And.intro h92 h93)); clear h9 h91 h92 h93; refine Or.inl ⟨_, rfl, ?_⟩)
              | (refine bldSl 24 26 (.tmp 26) rfl rfl ds rfl Tryz.underlying24 iR _ 4 hiR hiz his HX.out.2.2.size (by omega) (by omega) ?_)
              | (have hJ6 := HS5.out.on HKon.out hlt HX.out.1 HX.out.2.1
                 have hbB : Below w6.heap.size w6 (w6.alloc (.cells ds 26)) := (Below.refl _ _).alloc (Nat.le_refl _) _
                 obtain ⟨ys, hy1, hy2⟩ := (hJ6.on HKon.out hlt (Only.of hbB fun _ hk => Or.inr hk) (hJ6.rd.on hbB)).ks
                 refine appRw (.tmp 24) (.tmp 27) 24 rfl rfl rfl rfl Tryz.underlying24 infoTM rfl (by omega) (by omega) hy1 (by simp [HX.out.2.2.size]) (us := ds.toList) (fun jj x hx => by rw [Addr.add_lit, Nat.zero_add, cell_of_row _ _ _ _ _ _ (heap_alloc_new _ _)]; simpa using hx) (fun x hx => by have h1 := HX.out.2.2.one; rw [Array.all_eq_true_iff_forall_mem] at h1; exact h1 x (by simpa using hx)) (by omega) (Or.inl (by omega)) ?_
                 intro v' w7 hA hW
                 obtain ⟨ao', cap', rfl⟩ := (hW _ hy1).form
                 have HS7 : Hid (JnS W l r m ws K (acc ++ [t']) (.slice ao' (acc ++ [t']).length cap') q w7) := by
                   have := HS5.out.app HKon.out hlt HX.out.1 HX.out.2.1 HX.out.2.2 rfl hA hy1 hy2 hW
                   rw [List.length_append]; exact this
                 clear hJ6 hbB hy1 hy2 hA hW))
            have hl1 : (acc ++ [t']).length = acc.length + 1 := by simp
            refine ⟨?_, ?_⟩
            · first
                | exact ⟨acc ++ [t'], ao', cap', q, fu, by rw [hl1], hq.2, by omega, by omega, by omega, by omega, HS7, HJ2.out.symm⟩
                | ((repeat apply Exists.intro); refine ⟨?_, rfl⟩; exact ⟨acc ++ [t'], ao', cap', q, fu, by rw [hl1], hq.2, by omega, by omega, by omega, by omega, HS7, HJ2.out.symm⟩)
            · show l.length - rAt r w7 < l.length - rAt r wr
              rw [HS7.out.rd.rAt, HRA.out]; omega
        | false =>
          have HTn := hid (takes_no HS.out.rd hk1 (by omega) ht)
          have HJ2 : Hid (jnL l sg part l.length j [t] = .ok acc k) := by
            show _ = _
            rw [← HJ.out, jnL, if_neg (by rw [ht]; decide)]
          have hbt := fun W => run_bt03 ((op : Nat) : Int) ao acc.length cap W
          clear ht HJ
          go_upto_region 7 with (go_at_call 30; refine (HTn.out).mono ?_; rintro e w5 ⟨rfl, h1, h2⟩; have HX := hid (And.intro h1 h2); clear h1 h2)
          have HS5 := hid (HS.out.on HKon.out hlt HX.out.1 HX.out.2)
          clear HTn HS HX
          go_wp2_with (refine stRow 26 (.tmp 8) (.tmp 31) rfl rfl W.heap.size (tmc op 0 0 (.slice ao acc.length cap)) rfl rfl 26 _ HS5.out.res rfl rfl (by simp [Value.oneCell']) ?_)
          have hF := setRow_heap w5 W.heap.size (tmc 0 0 0 nilS) (tmc op 0 0 (.slice ao acc.length cap)) 26 _ HS5.out.res
          have hko : ∀ k, k ≠ W.heap.size → (w5.setRow W.heap.size (tmc op 0 0 (.slice ao acc.length cap))).heap[k]? = w5.heap[k]? := fun k hk => setRow_other w5 W.heap.size k _ hk
          have hsz : (w5.setRow W.heap.size (tmc op 0 0 (.slice ao acc.length cap))).heap.size = w5.heap.size := by simp [World.setRow]
          refine bodyPost_ret (v := .agg (tmc op 0 0 (.slice ao acc.length cap))) (res_tm Tryz.results56 _ _ W.heap.size _ rfl rfl hF) rfl (show RdP l r m ws (jn l op sg part i) W _ _ from ?_)
          rw [HJm.out, HJ2.out]
          obtain ⟨ys, hy1, hy2⟩ := HS5.out.ks
          refine ⟨HS5.out.only.trans ⟨rfl, rfl, rfl, by omega, fun k hk => hko k (fun e => hk (Or.inr (by omega)))⟩, _, rfl, HS5.out.rd.keep fun b hb => hko b (by omega), ?_⟩
          exact TmV.of (hy1.carry fun b _ hS => ⟨by omega, hko b (by omega)⟩) (TmL.carry (fun b _ hS => ⟨by omega, hko b (by omega)⟩) _ _ hy2)
end Go.Proofs.YtoncogkamlgjhaaGreatDoor
