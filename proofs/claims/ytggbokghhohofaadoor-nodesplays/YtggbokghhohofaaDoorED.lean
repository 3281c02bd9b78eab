/-
  Proved here: the document's own answer for layer 20: rows in order, each once, or none. Condition: the rows lie where they are said to.
-/
import Derived.Test.YtggbokghhohofaaDoorEC
namespace Go.Proofs.YtggbokghhohofaaDoor
open Go.RowKit
set_option maxRecDepth 100000

theorem Rw.cellR {S : Nat → Prop} {t : Nat} {w : World} {v : Value} {n : Nat} {xs : List Value} (h : Rw S 1 t w v n xs) (j : Nat) (hj : j < n) : ∃ g o cap, v = .slice (some ⟨g, o, none⟩) n cap ∧ n ≤ cap ∧ w.cell? ⟨g, o + j, none⟩ = xs[j]? := by
  have hl := h.len
  rcases h.2 with ⟨rfl, h0⟩ | ⟨g, o, cap, cur, rfl, h2, h3, h4, h5, h6⟩
  · omega
  · exact ⟨g, o, cap, rfl, h4, by rw [cell_of_row _ _ _ _ _ _ h3, cells_at h6 (by omega)]⟩
/-- The list with a row put in. -/
theorem LrS.ins {w w3 w' : World} {d : List Rv} {v v' : Value} (h : LrS w d v w3) (k : Nat) (u : Value) (r : List Ac) (hu : Acs (fun b => w.heap.size ≤ b) w3 u r) (hb : Below w3.heap.size w3 w') (hr : Rw (fun b => w3.heap.size ≤ b) 1 52 w' v' (d.length + 1) ((d.map (·.1)).take k ++ [u] ++ (d.map (·.1)).drop k)) : LrS w (d.take k ++ [(u, r)] ++ d.drop k) v' w' := by
  have hz := h.low.size
  have hc : ∀ b, b < w3.heap.size → w.heap.size ≤ b → (w.heap.size ≤ b ∧ v'.ownBlock ≠ some b) ∧ w'.heap[b]? = w3.heap[b]? := fun b hlt hS => ⟨⟨hS, fun e => by have := hr.own b e; omega⟩, hb.block b hlt⟩
  refine ⟨h.low.trans (hb.mono hz), ?_, fun x hx => ?_⟩
  · have e : (d.take k ++ [((u, r) : Rv)] ++ d.drop k).length = d.length + 1 := by simp; omega
    rw [e, List.map_append, List.map_append, List.map_take, List.map_drop, List.map_cons, List.map_nil]
    exact hr.carry fun b _ hS => ⟨by omega, rfl⟩
  · have hx' : x ∈ d ∨ x = (u, r) := by
      simp only [List.mem_append, List.mem_singleton] at hx
      rcases hx with (hx | hx) | hx
      · exact Or.inl (List.mem_of_mem_take hx)
      · exact Or.inr hx
      · exact Or.inl (List.mem_of_mem_drop hx)
    rcases hx' with hx | rfl
    · exact Acs.carry (fun b hb' hT => hc b hb' hT.1) (h.ac x hx)
    · exact Acs.carry (fun b hb' hT => hc b hb' hT) hu
set_option maxHeartbeats 25600000 in
theorem rRows_any {T : Nat → Prop} (w : World) (u : Value) (l : List (List Ac)) (h : Cps T w u l) (_hTl : ∀ b, T b → b < w.heap.size) (hl : l.length ≤ 10000) (hr : ∀ r ∈ l, r.length ≤ 40000) : Calls Tryd.prog 25 #[u] w fun e w' => Below w.heap.size w w' ∧ ((nrows l = none ∧ ∃ v', e = .returned (.tuple #[v', .bool false])) ∨ ∃ v' K, nrows l = some K ∧ e = .returned (.tuple #[v', .bool true]) ∧ Cps (fun b => w.heap.size ≤ b) w' v' K) := by
  obtain ⟨a0, c0, rfl, hc0⟩ := h.form
  have HA := hid h
  have HRl := hid hr
  clear h hr
  have HS0 : Hid (LrS w [] nilS w) := ⟨Below.refl _ _, Rw.nil _ _ _ _, fun x hx => by cases hx⟩
  go_enter Tryd.func25, Tryd.ntmps25
  go_upto_region 3 with fail
  go_loopw [4, 5] (fun so si wr => ∃ (i : Nat) (v : Value) (d : List Rv), v = so ∧ si = .int .i64 ((i : Nat) : Int) ∧ i ≤ l.length ∧ d.length ≤ i ∧ Hid ((l.take i).all rowOk = true) ∧ Hid (d.map (·.2) = canon ((l.take i).map srt)) ∧ Hid (LrS w d v wr)) (fun _ si _ => l.length - (intOf si).toNat)
  case atStart => exact ⟨0, _, [], rfl, rfl, Nat.zero_le _, Nat.le_refl _, by show _ = _; simp, by show _ = _; simp [canon], HS0.out⟩
  case round =>
    clear HS0
    obtain ⟨i, v, d, rfl, rfl, hi1, hdi, HO, HD, HS⟩ := hrel
    by_cases hi : i < l.length
    · have hd : decide ((i : Int) < (l.length : Int)) = true := by simp; omega
      have hiw : IntKind.i64.wrap ((i : Int) + 1) = (i : Int) + 1 := by rw [IntKind.wrap_i64]; omega
      have hic : i < c0 := by omega
      have hcw : Cps (fun b => b < w.heap.size) wr (.slice a0 l.length c0) l := HA.out.carry fun b hb hT => ⟨hb, HS.out.low.block b hb⟩
      obtain ⟨b, o, u1, rfl, hTb, hu, hac⟩ := hcw.cell1 i hi
      have hrr := row_any wr u1 l[i] hac (fun b hb => Nat.lt_of_lt_of_le hb HS.out.low.size) (HRl.out _ (List.getElem_mem hi))
      have hmem := List.getElem_mem hi
      have HTk : Hid (l.take (i + 1) = l.take i ++ [l[i]]) := by show _ = _; simp
      clear hac hcw
      cases hok : rowOk l[i]
      · have HR : Hid (Calls Tryd.prog 39 #[u1] wr fun e w' => Below wr.heap.size wr w' ∧ ∃ v', e = .returned (.tuple #[v', .bool false])) := hrr.mono fun e w' ⟨h1, h2⟩ => ⟨h1, by
          rcases h2 with ⟨_, h2⟩ | ⟨h2, _⟩
          · exact h2
          · rw [hok] at h2; cases h2⟩
        have HN := hid (nrows_none hmem hok)
        clear hrr hok hmem
        go_wp2_with (go_at_call 39; refine (HR.out).mono ?_; rintro e W2 ⟨hb, v2, rfl⟩; have HB := hid (HS.out.low.trans (hb.mono HS.out.low.size)); clear hb HR)
        refine bodyPost_ret (results_tmp2 rfl _ _ _) rfl ?_
        exact ⟨HB.out, Or.inl ⟨HN.out, _, rfl⟩⟩
      · have HR : Hid (Calls Tryd.prog 39 #[u1] wr fun e w' => Below wr.heap.size wr w' ∧ ∃ a n c, e = .returned (.tuple #[.slice a n c, .bool true]) ∧ Acs (fun b => wr.heap.size ≤ b) w' (.slice a n c) (srt l[i])) := hrr.mono fun e w' ⟨h1, h2⟩ => ⟨h1, by
          rcases h2 with ⟨h2, _⟩ | ⟨_, v', h2, h3⟩
          · rw [hok] at h2; cases h2
          · obtain ⟨a, c, rfl, -⟩ := h3.form
            exact ⟨a, _, c, h2, h3⟩⟩
        have HO2 : Hid ((l.take (i + 1)).all rowOk = true) := by show _ = _; rw [HTk.out, List.all_append, HO.out]; simp [hok]
        have HCn : Hid (canon ((l.take (i + 1)).map srt) = insR (srt l[i]) (d.map (·.2))) := by show _ = _; rw [HTk.out, List.map_append, List.map_cons, List.map_nil, canon_snoc, HD.out]
        clear hrr hok hmem
        generalize srt l[i] = r at HR HCn
        go_upto_region 9 with (go_at_call 39; refine (HR.out).mono ?_; rintro e W2 ⟨hb, a3, n3, c3, rfl, hac⟩; have HS2 := hid (HS.out.more hb); have HAr : Hid (Acs (fun b => w.heap.size ≤ b) W2 (.slice a3 n3 c3) r) := hac.carry (fun b _ hS => ⟨Nat.le_trans HS.out.low.size hS, rfl⟩); clear hb hac HR HS)
        go_loopw [8] (fun sk wr => ∃ k : Nat, sk = .int .i64 ((k : Nat) : Int) ∧ k ≤ d.length ∧ Hid (∀ j (h : j < d.length), j < k → cmpR d[j].2 r < 0) ∧ Hid (Below W2.heap.size W2 wr)) (fun sk _ => d.length - (intOf sk).toNat)
        case atStart => exact ⟨0, rfl, Nat.zero_le _, fun j _ h => by omega, Below.refl _ _⟩
        case round =>
          obtain ⟨k, rfl, hk1, HLt, HB⟩ := hrel
          have HS3 := hid (HS2.out.more HB.out)
          have HA3 := hid (HAr.out.on HB.out)
          have HI : Hid (((∃ h : k < d.length, cmpR d[k].2 r = 0) → insR r (d.map (·.2)) = d.map (·.2)) ∧ ((∀ h : k < d.length, 0 < cmpR d[k].2 r) → insR r (d.map (·.2)) = (d.map (·.2)).take k ++ [r] ++ (d.map (·.2)).drop k)) := by
            have := insR_at r (d.map (·.2)) k (fun j hj hjk => by rw [List.getElem_map]; exact HLt.out j (by simpa using hj) hjk) (by simpa using hk1)
            show _ ∧ _
            simpa using this
          have hkw : IntKind.i64.wrap ((k : Int) + 1) = (k : Int) + 1 := by rw [IntKind.wrap_i64]; omega
          by_cases hk : k < d.length
          · have hdk : decide ((k : Int) < (d.length : Int)) = true := by simp; omega
            obtain ⟨g, og, cg, rfl, hcg, hcell⟩ := HS3.out.rw.cellR k hk
            rw [List.getElem?_map, List.getElem?_eq_getElem hk] at hcell
            simp only [Option.map_some] at hcell
            have hkcg : k < cg := by omega
            have HOr := hid (fun w' (hb : Below wr.heap.size wr w') => order_any w' d[k].1 (.slice a3 n3 c3) d[k].2 r ((HS3.out.ac _ (List.getElem_mem hk)).on hb) (HA3.out.on hb))
            have HG : Hid (g < wr.heap.size) := cell_lt hcell
            by_cases hc : cmpR d[k].2 r < 0
            · have HLt2 : Hid (∀ j (h : j < d.length), j < k + 1 → cmpR d[j].2 r < 0) := fun j hj hjk => by
                by_cases h : j < k
                · exact HLt.out j hj h
                · obtain rfl : j = k := by omega
                  exact hc
              have HC := hid hc
              clear hc
              go_wp2_with (go_at_call 40; refine (HOr.out _ (Below.refl _ _)).mono ?_; rintro e W4 ⟨z, rfl, hz, -, hb⟩; have tz : decide (z < 0) = true := decide_eq_true (hz.2 HC.out); have HB4 := hid (HB.out.trans (hb.mono HB.out.size)); clear hz hb HOr)
              go_roundw
              case rel => exact ⟨k + 1, by rw [show (((k + 1 : Nat) : Nat) : Int) = (k : Int) + 1 by omega], hk, HLt2, HB4⟩
              case measure => simp [intOf]; omega
            · by_cases he : cmpR d[k].2 r = 0
              · have HE := hid he
                have HD2 : Hid (d.map (·.2) = canon ((l.take (i + 1)).map srt)) := by show _ = _; rw [HCn.out, HI.out.1 ⟨hk, he⟩]
                clear he hc
                go_wp2_with (go_at_call 40; first
                  | (refine (HOr.out _ (Below.refl _ _)).mono ?_; rintro e W4 ⟨z, rfl, hz, -, hb⟩; have tz : decide (z < 0) = false := decide_eq_false (fun h => by have := hz.1 h; have := HE.out; omega); have HB4 := hid hb; have hcell4 : W4.cell? ⟨g, og + k, none⟩ = some d[k].1 := (cell_same (hb.block _ HG.out)).trans hcell; clear hz hb hcell)
                  | (refine (HOr.out _ HB4.out).mono ?_; rintro e W5 ⟨z2, rfl, -, hz, hb⟩; have tz2 : (z2 == 0) = true := beq_iff_eq.2 (hz.2 HE.out); have HB5 := hid (HB4.out.trans (hb.mono HB4.out.size)); clear hz hb))
                go_roundw
                case rel => exact ⟨i + 1, _, d, rfl, by rw [show (((i + 1 : Nat) : Nat) : Int) = (i : Int) + 1 by omega], hi, by omega, HO2, HD2, HS3.out.more HB5.out⟩
                case measure => simp [intOf]; omega
              · have HNe : Hid (¬ cmpR d[k].2 r < 0 ∧ ¬ cmpR d[k].2 r = 0) := ⟨hc, he⟩
                have hkcv : k ≤ cg := by omega
                clear he hc
                go_upto_region 13 with (go_at_call 40; first
                  | (refine (HOr.out _ (Below.refl _ _)).mono ?_; rintro e W4 ⟨z, rfl, hz, -, hb⟩; have tz : decide (z < 0) = false := decide_eq_false (fun h => HNe.out.1 (hz.1 h)); have HB4 := hid hb; have hcell4 : W4.cell? ⟨g, og + k, none⟩ = some d[k].1 := (cell_same (hb.block _ HG.out)).trans hcell; clear hz hb hcell)
                  | (refine (HOr.out _ HB4.out).mono ?_; rintro e W5 ⟨z2, rfl, -, hz, hb⟩; have tz2 : (z2 == 0) = false := beq_eq_false_iff_ne.2 (fun h => HNe.out.2 (hz.1 h)); have HB5 := hid (HB4.out.trans (hb.mono HB4.out.size)); clear hz hb))
                clear tz tz2 hcell4
                have HS5 := hid (HS3.out.more HB5.out)
                have HA5 := hid (HA3.out.on HB5.out)
                have HSrc : Hid (∀ j x, ((d.map (·.1)).take k)[j]? = some x → W5.cell? (Addr.add ⟨g, og, none⟩ j) = some x) := fun j x hx => by
                  have hjk : j < k := by
                    have := (List.getElem?_eq_some_iff.1 hx).1
                    rw [List.length_take] at this; omega
                  rw [List.getElem?_take_of_lt hjk] at hx
                  obtain ⟨g', o', c', e, -, e2⟩ := HS5.out.rw.cellR j (by omega)
                  simp only [Value.slice.injEq, Option.some.injEq, Addr.mk.injEq] at e
                  rw [Addr.add_lit, e.1.1, e.1.2.1, e2, hx]
                have HSrD : Hid (∀ j x, ((d.map (·.1)).drop k)[j]? = some x → W5.cell? (Addr.add ⟨g, og + k, none⟩ j) = some x) := fun j x hx => by
                  rw [List.getElem?_drop] at hx
                  have hjl : k + j < d.length := by
                    have := (List.getElem?_eq_some_iff.1 hx).1
                    rw [List.length_map] at this; exact this
                  obtain ⟨g', o', c', e, -, e2⟩ := HS5.out.rw.cellR (k + j) hjl
                  simp only [Value.slice.injEq, Option.some.injEq, Addr.mk.injEq] at e
                  rw [Addr.add_lit, e.1.1, e.1.2.1, Nat.add_assoc, e2, hx]
                have HOne : Hid (∀ x ∈ d.map (·.1), x.oneCell' = true) := fun x hx => by
                  obtain ⟨y, hy, rfl⟩ := List.mem_map.1 hx
                  obtain ⟨a9, c9, e9, -⟩ := (HS5.out.ac y hy).form
                  rw [e9]; rfl
                have hdl : d.length < 100000 := by omega
                have HIns : Hid (insR r (d.map (·.2)) = (d.map (·.2)).take k ++ [r] ++ (d.map (·.2)).drop k) := HI.out.2 (fun _ => by have := HNe.out; omega)
                refine wp_region_list ?_
                show wpList _ _ _ (_ :: _ :: _ :: _ :: _ :: _ :: []) _ _
                refine stepVal nilS rfl rfl ?_
                refine stepVal (.slice (some ⟨g, og, none⟩) d.length cg) rfl rfl ?_
                refine stepVal (.int .i64 ((k : Nat) : Int)) rfl rfl ?_
                refine stepVal (.slice (some ⟨g, og, none⟩) k cg) rfl (by go_simp) ?_
                refine appAll (v := nilS) (S := fun b => W5.heap.size ≤ b) (k := 1) (t := 52) (n := 0) (m := k) (c := cg) (xs := []) (us := (d.map (·.1)).take k) (ao := some ⟨g, og, none⟩) (.tmp 54) (.tmp 57) 31 rfl rfl rfl rfl Tryd.underlying31 infACTS rfl (by omega) (by omega) (Rw.nil _ _ _ _) (by rw [List.length_take, List.length_map]; omega) (fun _ => ⟨_, rfl, HSrc.out⟩) (fun x hx => HOne.out x (List.mem_of_mem_take hx)) (by omega) ?_
                intro va wa hap hrw
                have HBa : Hid (Below W5.heap.size W5 wa) := below_of (Rw.nil (fun b => W5.heap.size ≤ b) 1 52 W5) (fun b h => h) hap (Nat.le_refl _)
                have HRa : Hid (Rw (fun b => W5.heap.size ≤ b) 1 52 wa va k ((d.map (·.1)).take k)) := by
                  have := hrw
                  rw [Nat.zero_add, List.nil_append] at this
                  exact this.carry fun b _ hS => ⟨by omega, rfl⟩
                clear hap hrw
                refine stepVal va rfl rfl ?_
                simp only [Act.put, List.setIfInBounds_toArray, List.set_cons_zero, List.set_cons_succ]
                have hal : Below wa.heap.size wa (wa.alloc (.cells #[.slice a3 n3 c3] 52)) := (Below.refl _ _).alloc (Nat.le_refl _) _
                have HBb := hid (HBa.out.trans (hal.mono HBa.out.size))
                have HRb : Hid (Rw (fun b => W5.heap.size ≤ b) 1 52 (wa.alloc (.cells #[.slice a3 n3 c3] 52)) va k ((d.map (·.1)).take k)) := HRa.out.carry fun b hb hS => ⟨hS, hal.block b hb⟩
                have HC4 : Hid (∀ (i : Nat) (x : Value), ([Value.slice a3 n3 c3] : List Value)[i]? = some x → (wa.alloc (.cells #[.slice a3 n3 c3] 52)).cell? (Addr.add ⟨wa.heap.size, 0, none⟩ i) = some x) := (fun i x hx => by rw [Addr.add_lit, Nat.zero_add, cell_of_row _ _ _ _ _ _ (heap_alloc_new _ _), ← hx]; simp)
                clear hal HRa
                go_upto_region 15 with (refine appRw (v := va) (S := fun b => W5.heap.size ≤ b) (k := 1) (t := 52) (n := k) (m := 1) (c := 1) (xs := (d.map (·.1)).take k) (us := [.slice a3 n3 c3]) (ad := ⟨wa.heap.size, 0, none⟩) (.tmp 59) (.tmp 61) 31 rfl rfl rfl rfl Tryd.underlying31 infACTS rfl (by omega) (by omega) HRb.out (by simp) HC4.out (by intro x hx; obtain rfl := List.mem_singleton.1 hx; rfl) (by omega) (Or.inl (by omega)) ?_; intro vb wb hap hrw; have HBc : Hid (Below W5.heap.size W5 wb) := HBb.out.trans (below_of HRb.out (fun b h => h) hap HBb.out.size); have HRc : Hid (Rw (fun b => W5.heap.size ≤ b) 1 52 wb vb (k + 1) ((d.map (·.1)).take k ++ [.slice a3 n3 c3])) := (hrw _ HRb.out).carry (fun b _ hS => ⟨by have := HBb.out.size; omega, rfl⟩); clear hap hrw HRb HC4 HBb)
                have HSr2 : Hid (∀ j x, ((d.map (·.1)).drop k)[j]? = some x → wb.cell? (Addr.add ⟨g, og + k, none⟩ j) = some x) := fun j x hx => by
                  have h1 := HSrD.out j x hx
                  rw [Addr.add_lit] at h1 ⊢
                  exact (cell_same (HBc.out.block g (cell_lt h1))).trans h1
                obtain ⟨oj, hoj1, hoj2⟩ : ∃ oj, (cg = k → oj = og) ∧ (cg ≠ k → oj = og + k) := by
                  by_cases h : cg = k
                  · exact ⟨og, fun _ => rfl, fun h' => absurd h h'⟩
                  · exact ⟨og + k, fun h' => absurd h' h, fun _ => rfl⟩
                refine wp_region_list ?_
                show wpList _ _ _ (_ :: _ :: _ :: _ :: _ :: _ :: []) _ _
                refine stepVal vb rfl rfl ?_
                refine stepVal (.slice (some ⟨g, og, none⟩) d.length cg) rfl rfl ?_
                refine stepVal (.int .i64 ((k : Nat) : Int)) rfl rfl ?_
                refine stepVal (.slice (some ⟨g, oj, none⟩) (d.length - k) (cg - k)) rfl ?sl2 ?_
                case sl2 =>
                  by_cases h : cg = k
                  · rw [hoj1 h]
                    go_simp
                    all_goals (intro h2; omega)
                  · rw [hoj2 h]
                    go_simp
                    all_goals (intro h2; omega)
                refine appAll (v := vb) (S := fun b => W5.heap.size ≤ b) (k := 1) (t := 52) (n := k + 1) (m := d.length - k) (c := cg - k) (xs := (d.map (·.1)).take k ++ [.slice a3 n3 c3]) (us := (d.map (·.1)).drop k) (ao := some ⟨g, oj, none⟩) (.tmp 63) (.tmp 66) 31 rfl rfl rfl rfl Tryd.underlying31 infACTS rfl (by omega) (by omega) HRc.out (by rw [List.length_drop, List.length_map]; omega) (fun hne => ⟨_, rfl, by rw [hoj2 (by omega)]; exact HSr2.out⟩) (fun x hx => HOne.out x (List.mem_of_mem_drop hx)) (by omega) ?_
                intro vc wc hap hrw
                have HBe : Hid (Below W5.heap.size W5 wc) := HBc.out.trans (below_of HRc.out (fun b h => h) hap HBc.out.size)
                have HRe : Hid (Rw (fun b => W5.heap.size ≤ b) 1 52 wc vc (d.length + 1) ((d.map (·.1)).take k ++ [.slice a3 n3 c3] ++ (d.map (·.1)).drop k)) := by
                  have := hrw
                  rw [show k + 1 + (d.length - k) = d.length + 1 by omega] at this
                  exact this.carry fun b _ hS => ⟨by have := HBc.out.size; omega, rfl⟩
                clear hap hrw HRc HBc
                refine stepVal vc rfl rfl ?_
                simp only [Act.put, List.setIfInBounds_toArray, List.set_cons_zero, List.set_cons_succ]
                have HS6 := hid (HS5.out.ins k (.slice a3 n3 c3) r HA5.out HBe.out HRe.out)
                have HD6 : Hid ((d.take k ++ [((Value.slice a3 n3 c3, r) : Rv)] ++ d.drop k).map (·.2) = canon ((l.take (i + 1)).map srt)) := by show _ = _; rw [HCn.out, HIns.out, List.map_append, List.map_append, List.map_take, List.map_drop]; rfl
                go_wp2
                go_roundw
                case rel => exact ⟨i + 1, vc, d.take k ++ [(.slice a3 n3 c3, r)] ++ d.drop k, rfl, by rw [show (((i + 1 : Nat) : Nat) : Int) = (i : Int) + 1 by omega], hi, by simp; omega, HO2, HD6, HS6⟩
                case measure => simp [intOf]; omega
          · have hdk : decide ((k : Int) < (d.length : Int)) = false := by simp; omega
            rcases HS3.out.rw.ge with ⟨hv, hn0⟩ | ⟨g, og, cg, cu, hv, -, -, -⟩
            · subst hv
              obtain rfl : k = 0 := by omega
              go_upto_region 13 with fail
              have HOne : Hid (∀ x ∈ d.map (·.1), x.oneCell' = true) := fun x hx => by
                obtain ⟨y, hy, rfl⟩ := List.mem_map.1 hx
                obtain ⟨a9, c9, e9, -⟩ := (HS3.out.ac y hy).form
                rw [e9]; rfl
              have hdl : d.length < 100000 := by omega
              have HIns : Hid (insR r (d.map (·.2)) = (d.map (·.2)).take 0 ++ [r] ++ (d.map (·.2)).drop 0) := HI.out.2 (fun h => absurd h hk)
              refine wp_region_list ?_
              show wpList _ _ _ (_ :: _ :: _ :: _ :: _ :: _ :: []) _ _
              refine stepVal nilS rfl rfl ?_
              refine stepVal (nilS) rfl rfl ?_
              refine stepVal (.int .i64 0) rfl rfl ?_
              refine stepVal (.slice none 0 0) rfl (by go_simp) ?_
              refine appAll (v := nilS) (S := fun b => wr.heap.size ≤ b) (k := 1) (t := 52) (n := 0) (m := 0) (c := 0) (xs := []) (us := (d.map (·.1)).take 0) (ao := none) (.tmp 54) (.tmp 57) 31 rfl rfl rfl rfl Tryd.underlying31 infACTS rfl (by omega) (by omega) (Rw.nil _ _ _ _) (by rw [List.length_take, List.length_map]; omega) (fun h => absurd rfl h) (fun x hx => HOne.out x (List.mem_of_mem_take hx)) (by omega) ?_
              intro va wa hap hrw
              have HBa : Hid (Below wr.heap.size wr wa) := below_of (Rw.nil (fun b => wr.heap.size ≤ b) 1 52 wr) (fun b h => h) hap (Nat.le_refl _)
              have HRa : Hid (Rw (fun b => wr.heap.size ≤ b) 1 52 wa va 0 ((d.map (·.1)).take 0)) := by
                have := hrw
                rw [Nat.zero_add, List.nil_append] at this
                exact this.carry fun b _ hS => ⟨by omega, rfl⟩
              clear hap hrw
              refine stepVal va rfl rfl ?_
              simp only [Act.put, List.setIfInBounds_toArray, List.set_cons_zero, List.set_cons_succ]
              have hal : Below wa.heap.size wa (wa.alloc (.cells #[.slice a3 n3 c3] 52)) := (Below.refl _ _).alloc (Nat.le_refl _) _
              have HBb := hid (HBa.out.trans (hal.mono HBa.out.size))
              have HRb : Hid (Rw (fun b => wr.heap.size ≤ b) 1 52 (wa.alloc (.cells #[.slice a3 n3 c3] 52)) va 0 ((d.map (·.1)).take 0)) := HRa.out.carry fun b hb hS => ⟨hS, hal.block b hb⟩
              have HC4 : Hid (∀ (i : Nat) (x : Value), ([Value.slice a3 n3 c3] : List Value)[i]? = some x → (wa.alloc (.cells #[.slice a3 n3 c3] 52)).cell? (Addr.add ⟨wa.heap.size, 0, none⟩ i) = some x) := (fun i x hx => by rw [Addr.add_lit, Nat.zero_add, cell_of_row _ _ _ _ _ _ (heap_alloc_new _ _), ← hx]; simp)
              clear hal HRa
              go_upto_region 15 with (refine appRw (v := va) (S := fun b => wr.heap.size ≤ b) (k := 1) (t := 52) (n := 0) (m := 1) (c := 1) (xs := (d.map (·.1)).take 0) (us := [.slice a3 n3 c3]) (ad := ⟨wa.heap.size, 0, none⟩) (.tmp 59) (.tmp 61) 31 rfl rfl rfl rfl Tryd.underlying31 infACTS rfl (by omega) (by omega) HRb.out (by simp) HC4.out (by intro x hx; obtain rfl := List.mem_singleton.1 hx; rfl) (by omega) (Or.inl (by omega)) ?_; intro vb wb hap hrw; have HBc : Hid (Below wr.heap.size wr wb) := HBb.out.trans (below_of HRb.out (fun b h => h) hap HBb.out.size); have HRc : Hid (Rw (fun b => wr.heap.size ≤ b) 1 52 wb vb (0 + 1) ((d.map (·.1)).take 0 ++ [.slice a3 n3 c3])) := (hrw _ HRb.out).carry (fun b _ hS => ⟨by have := HBb.out.size; omega, rfl⟩); clear hap hrw HRb HC4 HBb)
              refine wp_region_list ?_
              show wpList _ _ _ (_ :: _ :: _ :: _ :: _ :: _ :: []) _ _
              refine stepVal vb rfl rfl ?_
              refine stepVal (nilS) rfl rfl ?_
              refine stepVal (.int .i64 0) rfl rfl ?_
              refine stepVal (.slice none 0 0) rfl (by go_simp) ?_
              refine appAll (v := vb) (S := fun b => wr.heap.size ≤ b) (k := 1) (t := 52) (n := 0 + 1) (m := 0) (c := 0) (xs := (d.map (·.1)).take 0 ++ [.slice a3 n3 c3]) (us := (d.map (·.1)).drop 0) (ao := none) (.tmp 63) (.tmp 66) 31 rfl rfl rfl rfl Tryd.underlying31 infACTS rfl (by omega) (by omega) HRc.out (by rw [List.length_drop, List.length_map]; omega) (fun h => absurd rfl h) (fun x hx => HOne.out x (List.mem_of_mem_drop hx)) (by omega) ?_
              intro vc wc hap hrw
              have HBe : Hid (Below wr.heap.size wr wc) := HBc.out.trans (below_of HRc.out (fun b h => h) hap HBc.out.size)
              have HRe : Hid (Rw (fun b => wr.heap.size ≤ b) 1 52 wc vc (d.length + 1) ((d.map (·.1)).take 0 ++ [.slice a3 n3 c3] ++ (d.map (·.1)).drop 0)) := by
                have := hrw
                rw [show 0 + 1 + (0) = d.length + 1 by omega] at this
                exact this.carry fun b _ hS => ⟨by have := HBc.out.size; omega, rfl⟩
              clear hap hrw HRc HBc
              refine stepVal vc rfl rfl ?_
              simp only [Act.put, List.setIfInBounds_toArray, List.set_cons_zero, List.set_cons_succ]
              have HS6 := hid (HS3.out.ins 0 (.slice a3 n3 c3) r HA3.out HBe.out HRe.out)
              have HD6 : Hid ((d.take 0 ++ [((Value.slice a3 n3 c3, r) : Rv)] ++ d.drop 0).map (·.2) = canon ((l.take (i + 1)).map srt)) := by show _ = _; rw [HCn.out, HIns.out, List.map_append, List.map_append, List.map_take, List.map_drop]; rfl
              go_wp2
              go_roundw
              case rel => exact ⟨i + 1, vc, d.take 0 ++ [(.slice a3 n3 c3, r)] ++ d.drop 0, rfl, by rw [show (((i + 1 : Nat) : Nat) : Int) = (i : Int) + 1 by omega], hi, by simp; omega, HO2, HD6, HS6⟩
              case measure => simp [intOf]; omega
            · subst hv
              have hcg : d.length ≤ cg := by have := HS3.out.rw.room; obtain ⟨_, _, e, h⟩ := this; simp at e; omega
              have hkcv : k ≤ cg := by omega
              go_upto_region 13 with fail
              have HSrc : Hid (∀ j x, ((d.map (·.1)).take k)[j]? = some x → wr.cell? (Addr.add ⟨g, og, none⟩ j) = some x) := fun j x hx => by
                have hjk : j < k := by
                  have := (List.getElem?_eq_some_iff.1 hx).1
                  rw [List.length_take] at this; omega
                rw [List.getElem?_take_of_lt hjk] at hx
                obtain ⟨g', o', c', e, -, e2⟩ := HS3.out.rw.cellR j (by omega)
                simp only [Value.slice.injEq, Option.some.injEq, Addr.mk.injEq] at e
                rw [Addr.add_lit, e.1.1, e.1.2.1, e2, hx]
              have HSrD : Hid (∀ j x, ((d.map (·.1)).drop k)[j]? = some x → wr.cell? (Addr.add ⟨g, og + k, none⟩ j) = some x) := fun j x hx => by
                rw [List.getElem?_drop] at hx
                have hjl : k + j < d.length := by
                  have := (List.getElem?_eq_some_iff.1 hx).1
                  rw [List.length_map] at this; exact this
                obtain ⟨g', o', c', e, -, e2⟩ := HS3.out.rw.cellR (k + j) hjl
                simp only [Value.slice.injEq, Option.some.injEq, Addr.mk.injEq] at e
                rw [Addr.add_lit, e.1.1, e.1.2.1, Nat.add_assoc, e2, hx]
              have HOne : Hid (∀ x ∈ d.map (·.1), x.oneCell' = true) := fun x hx => by
                obtain ⟨y, hy, rfl⟩ := List.mem_map.1 hx
                obtain ⟨a9, c9, e9, -⟩ := (HS3.out.ac y hy).form
                rw [e9]; rfl
              have hdl : d.length < 100000 := by omega
              have HIns : Hid (insR r (d.map (·.2)) = (d.map (·.2)).take k ++ [r] ++ (d.map (·.2)).drop k) := HI.out.2 (fun h => absurd h hk)
              refine wp_region_list ?_
              show wpList _ _ _ (_ :: _ :: _ :: _ :: _ :: _ :: []) _ _
              refine stepVal nilS rfl rfl ?_
              refine stepVal (.slice (some ⟨g, og, none⟩) d.length cg) rfl rfl ?_
              refine stepVal (.int .i64 ((k : Nat) : Int)) rfl rfl ?_
              refine stepVal (.slice (some ⟨g, og, none⟩) k cg) rfl (by go_simp) ?_
              refine appAll (v := nilS) (S := fun b => wr.heap.size ≤ b) (k := 1) (t := 52) (n := 0) (m := k) (c := cg) (xs := []) (us := (d.map (·.1)).take k) (ao := some ⟨g, og, none⟩) (.tmp 54) (.tmp 57) 31 rfl rfl rfl rfl Tryd.underlying31 infACTS rfl (by omega) (by omega) (Rw.nil _ _ _ _) (by rw [List.length_take, List.length_map]; omega) (fun _ => ⟨_, rfl, HSrc.out⟩) (fun x hx => HOne.out x (List.mem_of_mem_take hx)) (by omega) ?_
              intro va wa hap hrw
              have HBa : Hid (Below wr.heap.size wr wa) := below_of (Rw.nil (fun b => wr.heap.size ≤ b) 1 52 wr) (fun b h => h) hap (Nat.le_refl _)
              have HRa : Hid (Rw (fun b => wr.heap.size ≤ b) 1 52 wa va k ((d.map (·.1)).take k)) := by
                have := hrw
                rw [Nat.zero_add, List.nil_append] at this
                exact this.carry fun b _ hS => ⟨by omega, rfl⟩
              clear hap hrw
              refine stepVal va rfl rfl ?_
              simp only [Act.put, List.setIfInBounds_toArray, List.set_cons_zero, List.set_cons_succ]
              have hal : Below wa.heap.size wa (wa.alloc (.cells #[.slice a3 n3 c3] 52)) := (Below.refl _ _).alloc (Nat.le_refl _) _
              have HBb := hid (HBa.out.trans (hal.mono HBa.out.size))
              have HRb : Hid (Rw (fun b => wr.heap.size ≤ b) 1 52 (wa.alloc (.cells #[.slice a3 n3 c3] 52)) va k ((d.map (·.1)).take k)) := HRa.out.carry fun b hb hS => ⟨hS, hal.block b hb⟩
              have HC4 : Hid (∀ (i : Nat) (x : Value), ([Value.slice a3 n3 c3] : List Value)[i]? = some x → (wa.alloc (.cells #[.slice a3 n3 c3] 52)).cell? (Addr.add ⟨wa.heap.size, 0, none⟩ i) = some x) := (fun i x hx => by rw [Addr.add_lit, Nat.zero_add, cell_of_row _ _ _ _ _ _ (heap_alloc_new _ _), ← hx]; simp)
              clear hal HRa
              go_upto_region 15 with (refine appRw (v := va) (S := fun b => wr.heap.size ≤ b) (k := 1) (t := 52) (n := k) (m := 1) (c := 1) (xs := (d.map (·.1)).take k) (us := [.slice a3 n3 c3]) (ad := ⟨wa.heap.size, 0, none⟩) (.tmp 59) (.tmp 61) 31 rfl rfl rfl rfl Tryd.underlying31 infACTS rfl (by omega) (by omega) HRb.out (by simp) HC4.out (by intro x hx; obtain rfl := List.mem_singleton.1 hx; rfl) (by omega) (Or.inl (by omega)) ?_; intro vb wb hap hrw; have HBc : Hid (Below wr.heap.size wr wb) := HBb.out.trans (below_of HRb.out (fun b h => h) hap HBb.out.size); have HRc : Hid (Rw (fun b => wr.heap.size ≤ b) 1 52 wb vb (k + 1) ((d.map (·.1)).take k ++ [.slice a3 n3 c3])) := (hrw _ HRb.out).carry (fun b _ hS => ⟨by have := HBb.out.size; omega, rfl⟩); clear hap hrw HRb HC4 HBb)
              have HSr2 : Hid (∀ j x, ((d.map (·.1)).drop k)[j]? = some x → wb.cell? (Addr.add ⟨g, og + k, none⟩ j) = some x) := fun j x hx => by
                have h1 := HSrD.out j x hx
                rw [Addr.add_lit] at h1 ⊢
                exact (cell_same (HBc.out.block g (cell_lt h1))).trans h1
              obtain ⟨oj, hoj1, hoj2⟩ : ∃ oj, (cg = k → oj = og) ∧ (cg ≠ k → oj = og + k) := by
                by_cases h : cg = k
                · exact ⟨og, fun _ => rfl, fun h' => absurd h h'⟩
                · exact ⟨og + k, fun h' => absurd h' h, fun _ => rfl⟩
              refine wp_region_list ?_
              show wpList _ _ _ (_ :: _ :: _ :: _ :: _ :: _ :: []) _ _
              refine stepVal vb rfl rfl ?_
              refine stepVal (.slice (some ⟨g, og, none⟩) d.length cg) rfl rfl ?_
              refine stepVal (.int .i64 ((k : Nat) : Int)) rfl rfl ?_
              refine stepVal (.slice (some ⟨g, oj, none⟩) (d.length - k) (cg - k)) rfl ?sl2 ?_
              case sl2 =>
                by_cases h : cg = k
                · rw [hoj1 h]
                  go_simp
                  all_goals (intro h2; omega)
                · rw [hoj2 h]
                  go_simp
                  all_goals (intro h2; omega)
              refine appAll (v := vb) (S := fun b => wr.heap.size ≤ b) (k := 1) (t := 52) (n := k + 1) (m := d.length - k) (c := cg - k) (xs := (d.map (·.1)).take k ++ [.slice a3 n3 c3]) (us := (d.map (·.1)).drop k) (ao := some ⟨g, oj, none⟩) (.tmp 63) (.tmp 66) 31 rfl rfl rfl rfl Tryd.underlying31 infACTS rfl (by omega) (by omega) HRc.out (by rw [List.length_drop, List.length_map]; omega) (fun hne => ⟨_, rfl, by rw [hoj2 (by omega)]; exact HSr2.out⟩) (fun x hx => HOne.out x (List.mem_of_mem_drop hx)) (by omega) ?_
              intro vc wc hap hrw
              have HBe : Hid (Below wr.heap.size wr wc) := HBc.out.trans (below_of HRc.out (fun b h => h) hap HBc.out.size)
              have HRe : Hid (Rw (fun b => wr.heap.size ≤ b) 1 52 wc vc (d.length + 1) ((d.map (·.1)).take k ++ [.slice a3 n3 c3] ++ (d.map (·.1)).drop k)) := by
                have := hrw
                rw [show k + 1 + (d.length - k) = d.length + 1 by omega] at this
                exact this.carry fun b _ hS => ⟨by have := HBc.out.size; omega, rfl⟩
              clear hap hrw HRc HBc
              refine stepVal vc rfl rfl ?_
              simp only [Act.put, List.setIfInBounds_toArray, List.set_cons_zero, List.set_cons_succ]
              have HS6 := hid (HS3.out.ins k (.slice a3 n3 c3) r HA3.out HBe.out HRe.out)
              have HD6 : Hid ((d.take k ++ [((Value.slice a3 n3 c3, r) : Rv)] ++ d.drop k).map (·.2) = canon ((l.take (i + 1)).map srt)) := by show _ = _; rw [HCn.out, HIns.out, List.map_append, List.map_append, List.map_take, List.map_drop]; rfl
              go_wp2
              go_roundw
              case rel => exact ⟨i + 1, vc, d.take k ++ [(.slice a3 n3 c3, r)] ++ d.drop k, rfl, by rw [show (((i + 1 : Nat) : Nat) : Int) = (i : Int) + 1 by omega], hi, by simp; omega, HO2, HD6, HS6⟩
              case measure => simp [intOf]; omega
    · have hd : decide ((i : Int) < (l.length : Int)) = false := by simp; omega
      obtain rfl : i = l.length := by omega
      have HN : Hid (nrows l = some (d.map (·.2))) := by
        have h1 := HO.out
        have h2 := HD.out
        rw [List.take_length] at h1 h2
        show _ = _
        unfold nrows
        rw [if_pos h1, h2]
      go_wp2
      refine bodyPost_ret (results_tmp2 rfl _ _ _) rfl ?_
      exact ⟨HS.out.low, Or.inr ⟨_, _, HN.out, rfl, cps_rv HS.out.rw (fun x hx => (HS.out.ac x hx).carry fun b _ hS => ⟨hS.1, rfl⟩) (by omega)⟩⟩
end Go.Proofs.YtggbokghhohofaaDoor
