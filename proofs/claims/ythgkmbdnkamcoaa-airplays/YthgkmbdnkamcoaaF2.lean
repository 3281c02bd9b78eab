/-
  Proved here: a datagram is cut out of an air's row (cut). Conditions: the place is one of the row; fewer than 2 to 31 datagrams.
-/
import Derived.Test.YthgkmbdnkamcoaaG1
namespace Go.Proofs.Ythgkmbdnkamcoaa
open Go.RowKit

theorem two_cells {w : World} {g t : Nat} {x y : Value} (h : w.heap[g]? = some (.cells #[x, y] t (0, 0))) : w.cell? ⟨g, 0, none⟩ = some x ∧ w.cell? ⟨g, 1, none⟩ = some y ∧ w.frozen? ⟨g, 0, none⟩ = false ∧ w.frozen? ⟨g, 1, none⟩ = false :=
  ⟨by rw [cell_of_row w g _ _ _ _ h]; rfl, by rw [cell_of_row w g _ _ _ _ h]; rfl, by simp [World.frozen?, h], by simp [World.frozen?, h]⟩
abbrev z3 : Array Value := #[.slice none 0 0, .bool false, .int .i64 0]
theorem size3 (x y z : Value) : (Try.prog.info? 50).map (·.size) = some (#[x, y, z] : Array Value).size := by kernel_rfl
/-- What is left to say when a datagram is cut out. -/
theorem cut_fin {S : Nat → Prop} {f : Nat → Nat} {w X : World} {g b o n cap o' cap' : Nat} {vc : Value} {ps qs : List (Value × Dg)} {cur' : Array Value} (h : ARf S f w g (.slice (some ⟨b, o, none⟩) n cap) vc ps qs) (hf : Fresh S w) (p : Nat) (hp : p < ps.length) (hbl : b < w.heap.size)
    (h1 : ∀ k, k < w.heap.size → k ≠ b → k ≠ g → X.heap[k]? = w.heap[k]?) (h2 : X.heap[g]? = some (.cells #[.slice (some ⟨b, o', none⟩) (ps.length - 1) cap', vc] 47 (0, 0))) (h3 : X.heap[b]? = some (.cells cur' 50 (0, 0))) (h4 : ps.length - 1 ≤ cap') (h5 : o' + cap' * 3 ≤ cur'.size)
    (h6 : (cur'.toList.drop o').take ((ps.length - 1) * 3) = c3s (ps.eraseIdx p)) (hB : Below 0 w X) :
    Only S w X ∧ ARf S f X g (.slice (some ⟨b, o', none⟩) (ps.length - 1) cap') vc (ps.eraseIdx p) qs ∧ SlC (fun k => S k ∧ f k = 3) X ps[p].1 ps[p].2.b := by
  have hb1 : S b ∧ f b = 1 := h.row.own b rfl
  have hl : (ps.eraseIdx p).length = ps.length - 1 := List.length_eraseIdx_of_lt hp
  have hc : ∀ i, i ≠ 0 → i ≠ 1 → ∀ k, k < w.heap.size → (S k ∧ f k = i) → (S k ∧ f k = i) ∧ X.heap[k]? = w.heap[k]? := fun i h0 h1' k hk hS => ⟨hS, h1 k hk (fun e => by have := hb1.2; have := hS.2; subst e; omega) (fun e => by have := h.fg; have := hS.2; subst e; omega)⟩
  refine ⟨⟨hB.os, hB.tape, hB.output, hB.size, fun k hk => ?_⟩, ⟨h.sg, h.fg, h2, ⟨by rw [c3s_len], Or.inr ⟨b, o', cap', cur', by rw [hl], hb1, h3, by rw [hl]; exact h4, h5, by rw [hl]; exact h6⟩⟩, h.came.carry (hc 2 (by omega) (by omega)), (h.pr.carry (hc 3 (by omega) (by omega))).sub fun q hq => List.mem_of_mem_eraseIdx hq, h.pc.carry (hc 3 (by omega) (by omega))⟩, ((h.pr _ (List.getElem_mem hp)).1).carry (hc 3 (by omega) (by omega))⟩
  rcases Nat.lt_or_ge k w.heap.size with hlt | hge
  · exact h1 k hlt (fun e => hk (e ▸ hb1.1)) (fun e => hk (e ▸ h.sg))
  · exact absurd (hf k hge) hk
theorem there_of {w : World} {b t n o : Nat} {cur : Array Value} (h : w.heap[b]? = some (.cells cur t (0, 0))) (hn : o + n ≤ cur.size) : w.there b o n := fun j hj => ⟨by rw [cell_of_row w b _ cur t (0, 0) h, Array.getElem?_eq_getElem (by omega)]; rfl, by simp [World.frozen?, h]⟩
theorem one3 {u : Value} (h : u.oneCell' = true) (x : Bool) (y : Int) : (#[u, .bool x, .int .i64 y] : Array Value).all (·.oneCell') = true := by
  have h1 : (Value.bool x).oneCell' = true := rfl
  have h2 : (Value.int .i64 y).oneCell' = true := rfl
  simp [h, h1, h2]
set_option maxHeartbeats 1600000 in
set_option maxRecDepth 100000 in
theorem cut_any {S : Nat → Prop} {f : Nat → Nat} (w : World) (g : Nat) (vr vc : Value) (ps qs : List (Value × Dg)) (p : Nat) (h : ARf S f w g vr vc ps qs) (hf : Fresh S w) (hp : p < ps.length) (hl : ps.length < 2147483648) :
    Calls Try.prog 23 #[.pointer (some ⟨g, 0, none⟩), .int .i64 (p : Nat)] w fun e w' => ∃ vr', e = .returned (.agg #[ps[p].1, .bool ps[p].2.ch, .int .i64 (ps[p].2.pl : Nat)]) ∧ Only S w w' ∧ ARf S f w' g vr' vc (ps.eraseIdx p) qs ∧ SlC (fun k => S k ∧ f k = 3) w' ps[p].1 ps[p].2.b := by
  have H := hid h
  have hgl := (Array.getElem?_eq_some_iff.1 h.hg).1
  have hr := h.row
  rcases hr with ⟨hx, ⟨_, h0⟩ | ⟨b, o, cap, cur, rfl, hb1, hb2, hb3, hb4, hb5⟩⟩
  · omega
  have hbl := (Array.getElem?_eq_some_iff.1 hb2).1
  have hbg : b ≠ g := fun e => by have := hb1.2; have := h.fg; subst e; omega
  obtain ⟨u, hu⟩ : ∃ u, u = ps[p].1 := ⟨_, rfl⟩
  obtain ⟨d, hd⟩ : ∃ d, d = ps[p].2 := ⟨_, rfl⟩
  rw [← hu, ← hd]
  have hone : u.oneCell' = true := hu ▸ (h.pr _ (List.getElem_mem hp)).1.one
  obtain ⟨W1, hW1⟩ : ∃ W1, W1 = w.alloc (.cells z3 50) := ⟨_, rfl⟩
  have hWs : W1.heap.size = w.heap.size + 1 := by rw [hW1]; simp
  have hWo : ∀ k, k < w.heap.size → W1.heap[k]? = w.heap[k]? := fun k hk => by rw [hW1, heap_alloc_old _ _ hk]
  have hWn : W1.heap[w.heap.size]? = some (.cells z3 50 (0, 0)) := by rw [hW1]; exact heap_alloc_new _ _
  obtain ⟨V, hV⟩ : ∃ V, V = W1.alloc (.cells #[u, .bool d.ch, .int .i64 (d.pl : Nat)] 50) := ⟨_, rfl⟩
  have hVs : V.heap.size = W1.heap.size + 1 := by rw [hV]; simp
  have hVo : ∀ k, k < w.heap.size → V.heap[k]? = w.heap[k]? := fun k hk => by
    rw [hV, heap_alloc_old _ _ (by omega), hWo k hk]
  have hV4 : V.heap[w.heap.size]? = some (.cells z3 50 (0, 0)) := by
    rw [hV, heap_alloc_old _ _ (by omega)]; exact hWn
  have hV5 : V.heap[W1.heap.size]? = some (.cells #[u, .bool d.ch, .int .i64 (d.pl : Nat)] 50 (0, 0)) := by
    rw [hV]; exact heap_alloc_new _ _
  have hVb : Below w.heap.size w V := by
    rw [hV, hW1]; exact ((Below.refl _ _).alloc (Nat.le_refl _) _).alloc (by simp) _
  have hat : ∀ i, i < 3 → cur[o + (p * 3 + i)]? = (#[u, .bool d.ch, .int .i64 (d.pl : Nat)] : Array Value)[i]? := by
    intro i hi
    rw [cells_at hb5 (by omega), c3s_at ps p i hp hi, hu, hd]
    have : i = 0 ∨ i = 1 ∨ i = 2 := by omega
    rcases this with rfl | rfl | rfl <;> rfl
  have HR : Hid (W1.rangeAt b (o + p * 3) (#[u, .bool d.ch, .int .i64 (d.pl : Nat)] : Array Value).toList) := range_of fun i hi => by
    rw [cell_of_row _ b _ cur 50 (0, 0) ((hWo b hbl).trans hb2), Nat.add_assoc]
    exact hat i hi
  have hV1 := hid hV
  have HW1 := hid hW1
  obtain ⟨c0, -⟩ := two_cells h.hg
  obtain ⟨e0, e1, e2, -⟩ := two_cells ((hVo g hgl).trans h.hg)
  have hbp : decide ((p : Int) < (ps.length : Int)) = true := by simp; omega
  have cw1 : W1.cell? ⟨g, 0, none⟩ = some (.slice (some ⟨b, o, none⟩) ps.length cap) := by rw [cell_same (hWo g hgl)]; exact c0
  have HU := hid hu
  have HD := hid hd
  have HH : Hid (V.heap[b]? = some (.cells cur 50 (0, 0)) ∧ V.heap[g]? = some (.cells #[.slice (some ⟨b, o, none⟩) ps.length cap, vc] 47 (0, 0)) ∧ V.heap[w.heap.size]? = some (.cells z3 50 (0, 0)) ∧ V.heap[W1.heap.size]? = some (.cells #[u, .bool d.ch, .int .i64 (d.pl : Nat)] 50 (0, 0))) := ⟨(hVo b hbl).trans hb2, (hVo g hgl).trans h.hg, hV4, hV5⟩
  have HVb := hid hVb
  have HVo := hid hVo
  have HB5 := hid hb5
  have HWs := hid hWs
  have HVs := hid hVs
  clear hat hx hu hd hV hWs hVs hW1 hWo hWn hV4 hV5 hVb hVo hb5 hb2 h
  go_enter Try.func23, Try.ntmps23
  go_upto_region 1 with fail
  rw [← HW1.out]
  go_upto_region 2 with (first
    | (refine ldMid 50 (.tmp 12) rfl rfl b (o + p * 3) rfl #[u, .bool d.ch, .int .i64 (d.pl : Nat)] _ Try.underlying50 rfl (size3 _ _ _) HR.out ?_)
    | (refine stNew 50 (.tmp 5) (.tmp 13) rfl rfl W1 50 z3 #[u, .bool d.ch, .int .i64 (d.pl : Nat)] rfl rfl rfl (size3 _ _ _) rfl (one3 hone _ _) ?_; rw [← hV1.out]))
  clear HR cw1 hV1 HW1
  have hn1 : (1 : Int) ≤ (ps.length : Int) := by omega
  have hpn : (p : Int) ≤ (ps.length : Int) := by omega
  have hpn1 : (p : Int) + 1 ≤ (ps.length : Int) := by omega
  obtain ⟨HHb, HHg, HH4, HH5⟩ := HH.out
  by_cases hlow : (p : Int) < (ps.length : Int) - 1 - (p : Int)
  · have hd : decide ((p : Int) < (ps.length : Int) - 1 - (p : Int)) = true := decide_eq_true hlow
    have hpc : p ≤ cap := by omega
    have hc1 : ¬ cap = 1 := by omega
    have hcl : (c3s (ps.take p)).length = p * 3 := by rw [c3s_len]; simp; omega
    have hsrc : Hid (∀ j v, (c3s (ps.take p))[j]? = some v → V.drew.cell? (Addr.add ⟨b, o, none⟩ j) = some v) := by
      intro j v hv
      have hj : j < p * 3 := by have := (List.getElem?_eq_some_iff.1 hv).1; omega
      rw [Addr.add_lit]
      show V.cell? _ = _
      rw [cell_of_row V b _ cur 50 (0, 0) HHb, cells_at HB5.out (by omega), ← hv, ← c3s_take, List.getElem?_take, if_pos hj]
    have HN : Hid ((c3s (ps.take p)).length = Nat.min p (ps.length - 1) * 3) := by
      have e : Nat.min p (ps.length - 1) = p := Nat.min_eq_left (by omega)
      show _ = _
      rw [hcl, e]
    have HO : Hid (∀ v ∈ c3s (ps.take p), v.oneCell' = true) := fun v hv => c3_ones (H.out.pr.sub (m := ps.take p) fun q hq => List.mem_of_mem_take hq) v hv
    have HC : Hid (∀ j, j < (c3s (ps.take p)).length → (V.drew.cell? ⟨b, o + 3 + j, none⟩).isSome = true ∧ V.drew.frozen? ⟨b, o + 3 + j, none⟩ = false) := by
      intro j hj
      refine ⟨?_, by show V.frozen? _ = _; simp [World.frozen?, HHb]⟩
      show (V.cell? _).isSome = true
      rw [cell_of_row V b _ cur 50 (0, 0) HHb, Array.getElem?_eq_getElem (by omega)]; rfl
    obtain ⟨X1, hX1⟩ : ∃ X1, X1 = V.drew.setCells b (o + 3) (c3s (ps.take p)) := ⟨_, rfl⟩
    obtain ⟨cur1, f1, f2, f3, f4, f5, f6⟩ := setCells_all b (c3s (ps.take p)) (o + 3) V.drew cur 50 HHb
    rw [← hX1] at f1 f5 f6
    have HX1 := hid hX1
    obtain ⟨X2, hX2⟩ : ∃ X2, X2 = X1.setCells b (o) z3.toList := ⟨_, rfl⟩
    have hzl : z3.toList.length = 3 := rfl
    obtain ⟨cur2, g1, g2, g3, g4, g5, g6⟩ := setCells_all b z3.toList (o) X1 cur1 50 f1
    rw [← hX2] at g1 g5 g6
    rw [hzl] at g3
    have HX2 := hid hX2
    have hg2 : ∀ k, k ≠ b → X2.heap[k]? = V.heap[k]? := fun k hk => (g5 k hk).trans (f5 k hk)
    have hgX1 : X1.heap[g]? = _ := (f5 g (Ne.symm hbg)).trans HHg
    have hgX2 : X2.heap[g]? = _ := (hg2 g (Ne.symm hbg)).trans HHg
    obtain ⟨X3, hX3⟩ : ∃ X3, X3 = X2.setCell ⟨g, 0, none⟩ (.slice (some ⟨b, o + 3, none⟩) (ps.length - 1) (cap - 1)) := ⟨_, rfl⟩
    have h3g : X3.heap[g]? = some (.cells #[.slice (some ⟨b, o + 3, none⟩) (ps.length - 1) (cap - 1), vc] 47 (0, 0)) := by
      rw [hX3, heap_setCell_same X2 g 0 _ _ _ hgX2]; rfl
    have h3o : ∀ k, k ≠ g → X3.heap[k]? = X2.heap[k]? := fun k hk => by rw [hX3]; exact heap_setCell_other X2 ⟨g, 0, none⟩ k _ hk
    have h34 : X3.heap[w.heap.size]? = some (.cells z3 50 (0, 0)) := (h3o _ (by omega)).trans ((hg2 _ (by omega)).trans HH4)
    have hWs := HWs.out
    have h35 : X3.heap[W1.heap.size]? = some (.cells #[u, .bool d.ch, .int .i64 (d.pl : Nat)] 50 (0, 0)) := (h3o _ (by omega)).trans ((hg2 _ (by omega)).trans HH5)
    have HT : Hid (X2.there b (o) z3.size) := by
      have e : z3.size = 3 := rfl
      rw [e]
      exact there_of (cur := cur2) g1 (by omega)
    have HT1 : Hid (X1.there b (o) z3.size) := by
      have e : z3.size = 3 := rfl
      rw [e]
      exact there_of (cur := cur1) f1 (by omega)
    have HF : Hid (Only S w (X3.setRow w.heap.size #[u, .bool d.ch, .int .i64 (d.pl : Nat)]) ∧ ARf S f (X3.setRow w.heap.size #[u, .bool d.ch, .int .i64 (d.pl : Nat)]) g (.slice (some ⟨b, o + 3, none⟩) (ps.length - 1) (cap - 1)) vc (ps.eraseIdx p) qs ∧ SlC (fun k => S k ∧ f k = 3) (X3.setRow w.heap.size #[u, .bool d.ch, .int .i64 (d.pl : Nat)]) ps[p].1 ps[p].2.b) := by
      have hr4 : ∀ k, k ≠ w.heap.size → (X3.setRow w.heap.size #[u, .bool d.ch, .int .i64 (d.pl : Nat)]).heap[k]? = X3.heap[k]? := fun k hk => setRow_other X3 w.heap.size k _ hk
      have hbel : Below 0 w (X3.setRow w.heap.size #[u, .bool d.ch, .int .i64 (d.pl : Nat)]) := below_setRow (by rw [hX3]; exact ((((HVb.out.mono (Nat.zero_le _)).drew).trans f6).trans g6).setCell (p := ⟨g, 0, none⟩) (Nat.zero_le _) _) (Nat.zero_le _) _
      refine cut_fin (cur' := cur2) H.out hf p hp hbl (fun k hk h1 h2 => ?_) ((hr4 g (by omega)).trans h3g) ((hr4 b (by omega)).trans ((h3o b hbg).trans g1)) (by omega) (by omega) ?_ hbel
      · rw [hr4 k (by omega), h3o k h2, hg2 k h1, HVo.out k hk]
      apply List.ext_getElem?
      intro j
      rw [List.getElem?_take]
      by_cases hj : j < (ps.length - 1) * 3
      · rw [if_pos hj, List.getElem?_drop, Array.getElem?_toList, g3 (o + 3 + j) (by right; show o + 3 ≤ _; omega), c3s_erase]
        by_cases hjp : j < p * 3
        · rw [f4 j (by omega) (by omega), List.getElem?_append_left (by omega)]
        · rw [f3 (o + 3 + j) (by right; omega), List.getElem?_append_right (by omega), hcl, Nat.add_assoc, cells_at HB5.out (by omega), ← c3s_drop, List.getElem?_drop, show (p + 1) * 3 + (j - p * 3) = 3 + j by omega]
      · rw [if_neg hj, List.getElem?_eq_none]
        rw [c3s_len, List.length_eraseIdx_of_lt hp]; omega
    have HX3 := hid hX3
    have HH35 := hid h35
    have HH34 := hid h34
    obtain ⟨y0, -, y2, -⟩ := two_cells hgX1
    obtain ⟨x0, -, x2, -⟩ := two_cells hgX2
    clear hX1 hX2 hX3 f1 f2 f3 f4 f5 f6 g1 g2 g3 g4 g5 g6 hg2 hgX1 hgX2 h3g h3o h34 h35 hWs hcl hzl HHb HHg HH4 HH5 hf
    go_upto_region 4 with fail
    go_region_law (refine stepCopy rfl (.tmp 29) (.tmp 35) 45 45 rfl 50 3 b (o + 3) (ps.length - 1) (cap - 1) ⟨b, o, none⟩ p cap (c3s (ps.take p)) (by simp [Act.eval, Act.put]) (by simp [Act.eval, Act.put]) Try.underlying45 (by kernel_rfl) HN.out hsrc.out HC.out HO.out ?_; rw [← HX1.out])
    all_goals (
      go_upto_region 6 with (refine stMid 50 (.tmp 42) (.tmp 41) rfl rfl b (o) z3 (by first | rfl | simp [Act.eval]) rfl HT1.out (size3 _ _ _) (one3 rfl _ _) ?_; rw [← HX2.out])
      clear HT1 HT HC HO HN
      go_upto_region 10 with fail
      rw [← HX3.out]
      go_wp2_with (first
        | (refine ldRow 50 (.tmp 5) rfl rfl W1.heap.size rfl 50 #[u, .bool d.ch, .int .i64 (d.pl : Nat)] _ Try.underlying50 rfl (size3 _ _ _) HH35.out ?_)
        | (refine stRow 50 (.tmp 4) (.tmp 81) rfl rfl w.heap.size #[u, .bool d.ch, .int .i64 (d.pl : Nat)] rfl rfl 50 z3 HH34.out (size3 _ _ _) rfl (one3 hone _ _) ?_))
      refine bodyPost_ret (results_cell_row Try.results23 _ _ w.heap.size 50 _ (0, 0) _ rfl (setRow_heap _ _ _ _ _ _ HH34.out) Try.underlying50 rfl (size3 _ _ _)) rfl ?_
      have h3 := HF.out.2.2
      rw [← HU.out, ← HD.out] at h3
      first
        | exact ⟨rfl, HF.out.1, ⟨_, HF.out.2.1⟩, h3⟩
        | exact ⟨_, rfl, HF.out.1, HF.out.2.1, h3⟩)
  · have hd : decide ((p : Int) < (ps.length : Int) - 1 - (p : Int)) = false := decide_eq_false hlow
    have hpc : p ≤ cap := by omega
    have hpc1 : p + 1 ≤ cap := by omega
    have hpn2 : p + 1 ≤ ps.length := by omega
    have hp0 : (0 : Int) ≤ (p : Int) + 1 := by omega
    have hwr : IntKind.i64.wrap ((p : Int) + 1) = (p : Int) + 1 := by rw [IntKind.wrap_i64]; omega
    have hc1 : ¬ cap = p := by omega
    have hcl : (c3s (ps.drop (p + 1))).length = (ps.length - (p + 1)) * 3 := by rw [c3s_len]; simp
    obtain ⟨A, hA, hsrc⟩ : ∃ A : Addr, (if cap = p + 1 then some (⟨b, o, none⟩ : Addr) else some ⟨b, o + (p + 1) * 3, none⟩) = some A ∧ Hid (∀ j v, (c3s (ps.drop (p + 1)))[j]? = some v → V.drew.cell? (A.add j) = some v) := by
      by_cases h : cap = p + 1
      · refine ⟨⟨b, o, none⟩, by simp [h], fun j v hv => ?_⟩
        have := (List.getElem?_eq_some_iff.1 hv).1
        omega
      · refine ⟨⟨b, o + (p + 1) * 3, none⟩, by simp [h], fun j v hv => ?_⟩
        have hj : j < (ps.length - (p + 1)) * 3 := by have := (List.getElem?_eq_some_iff.1 hv).1; omega
        rw [Addr.add_lit]
        show V.cell? _ = _
        rw [cell_of_row V b _ cur 50 (0, 0) HHb, Nat.add_assoc, cells_at HB5.out (by omega), ← hv, ← c3s_drop, List.getElem?_drop]
    have HN : Hid ((c3s (ps.drop (p + 1))).length = Nat.min (ps.length - (p + 1)) (ps.length - p) * 3) := by
      have e : Nat.min (ps.length - (p + 1)) (ps.length - p) = ps.length - (p + 1) := Nat.min_eq_left (by omega)
      show _ = _
      rw [hcl, e]
    have HO : Hid (∀ v ∈ c3s (ps.drop (p + 1)), v.oneCell' = true) := fun v hv => c3_ones (H.out.pr.sub (m := ps.drop (p + 1)) fun q hq => List.mem_of_mem_drop hq) v hv
    have HC : Hid (∀ j, j < (c3s (ps.drop (p + 1))).length → (V.drew.cell? ⟨b, o + p * 3 + j, none⟩).isSome = true ∧ V.drew.frozen? ⟨b, o + p * 3 + j, none⟩ = false) := by
      intro j hj
      refine ⟨?_, by show V.frozen? _ = _; simp [World.frozen?, HHb]⟩
      show (V.cell? _).isSome = true
      rw [cell_of_row V b _ cur 50 (0, 0) HHb, Array.getElem?_eq_getElem (by omega)]; rfl
    obtain ⟨X1, hX1⟩ : ∃ X1, X1 = V.drew.setCells b (o + p * 3) (c3s (ps.drop (p + 1))) := ⟨_, rfl⟩
    obtain ⟨cur1, f1, f2, f3, f4, f5, f6⟩ := setCells_all b (c3s (ps.drop (p + 1))) (o + p * 3) V.drew cur 50 HHb
    rw [← hX1] at f1 f5 f6
    have HX1 := hid hX1
    obtain ⟨X2, hX2⟩ : ∃ X2, X2 = X1.setCells b (o + (ps.length - 1) * 3) z3.toList := ⟨_, rfl⟩
    have hzl : z3.toList.length = 3 := rfl
    obtain ⟨cur2, g1, g2, g3, g4, g5, g6⟩ := setCells_all b z3.toList (o + (ps.length - 1) * 3) X1 cur1 50 f1
    rw [← hX2] at g1 g5 g6
    rw [hzl] at g3
    have HX2 := hid hX2
    have hg2 : ∀ k, k ≠ b → X2.heap[k]? = V.heap[k]? := fun k hk => (g5 k hk).trans (f5 k hk)
    have hgX1 : X1.heap[g]? = _ := (f5 g (Ne.symm hbg)).trans HHg
    have hgX2 : X2.heap[g]? = _ := (hg2 g (Ne.symm hbg)).trans HHg
    obtain ⟨X3, hX3⟩ : ∃ X3, X3 = X2.setCell ⟨g, 0, none⟩ (.slice (some ⟨b, o, none⟩) (ps.length - 1) (cap)) := ⟨_, rfl⟩
    have h3g : X3.heap[g]? = some (.cells #[.slice (some ⟨b, o, none⟩) (ps.length - 1) (cap), vc] 47 (0, 0)) := by
      rw [hX3, heap_setCell_same X2 g 0 _ _ _ hgX2]; rfl
    have h3o : ∀ k, k ≠ g → X3.heap[k]? = X2.heap[k]? := fun k hk => by rw [hX3]; exact heap_setCell_other X2 ⟨g, 0, none⟩ k _ hk
    have h34 : X3.heap[w.heap.size]? = some (.cells z3 50 (0, 0)) := (h3o _ (by omega)).trans ((hg2 _ (by omega)).trans HH4)
    have hWs := HWs.out
    have h35 : X3.heap[W1.heap.size]? = some (.cells #[u, .bool d.ch, .int .i64 (d.pl : Nat)] 50 (0, 0)) := (h3o _ (by omega)).trans ((hg2 _ (by omega)).trans HH5)
    have HT : Hid (X2.there b (o + (ps.length - 1) * 3) z3.size) := by
      have e : z3.size = 3 := rfl
      rw [e]
      exact there_of (cur := cur2) g1 (by omega)
    have HT1 : Hid (X1.there b (o + (ps.length - 1) * 3) z3.size) := by
      have e : z3.size = 3 := rfl
      rw [e]
      exact there_of (cur := cur1) f1 (by omega)
    have HF : Hid (Only S w (X3.setRow w.heap.size #[u, .bool d.ch, .int .i64 (d.pl : Nat)]) ∧ ARf S f (X3.setRow w.heap.size #[u, .bool d.ch, .int .i64 (d.pl : Nat)]) g (.slice (some ⟨b, o, none⟩) (ps.length - 1) (cap)) vc (ps.eraseIdx p) qs ∧ SlC (fun k => S k ∧ f k = 3) (X3.setRow w.heap.size #[u, .bool d.ch, .int .i64 (d.pl : Nat)]) ps[p].1 ps[p].2.b) := by
      have hr4 : ∀ k, k ≠ w.heap.size → (X3.setRow w.heap.size #[u, .bool d.ch, .int .i64 (d.pl : Nat)]).heap[k]? = X3.heap[k]? := fun k hk => setRow_other X3 w.heap.size k _ hk
      have hbel : Below 0 w (X3.setRow w.heap.size #[u, .bool d.ch, .int .i64 (d.pl : Nat)]) := below_setRow (by rw [hX3]; exact ((((HVb.out.mono (Nat.zero_le _)).drew).trans f6).trans g6).setCell (p := ⟨g, 0, none⟩) (Nat.zero_le _) _) (Nat.zero_le _) _
      refine cut_fin (cur' := cur2) H.out hf p hp hbl (fun k hk h1 h2 => ?_) ((hr4 g (by omega)).trans h3g) ((hr4 b (by omega)).trans ((h3o b hbg).trans g1)) (by omega) (by omega) ?_ hbel
      · rw [hr4 k (by omega), h3o k h2, hg2 k h1, HVo.out k hk]
      apply List.ext_getElem?
      intro j
      rw [List.getElem?_take]
      by_cases hj : j < (ps.length - 1) * 3
      · rw [if_pos hj, List.getElem?_drop, Array.getElem?_toList, g3 (o + j) (by left; omega), c3s_erase]
        have htl : (c3s (ps.take p)).length = p * 3 := by rw [c3s_len]; simp; omega
        by_cases hjp : j < p * 3
        · rw [f3 (o + j) (by left; omega), List.getElem?_append_left (by omega), cells_at HB5.out (by omega), ← c3s_take, List.getElem?_take, if_pos hjp]
        · have := f4 (j - p * 3) (by omega) (by omega)
          rw [show o + p * 3 + (j - p * 3) = o + j by omega] at this
          rw [this, List.getElem?_append_right (by omega), htl]
      · rw [if_neg hj, List.getElem?_eq_none]
        rw [c3s_len, List.length_eraseIdx_of_lt hp]; omega
    have HX3 := hid hX3
    have HH35 := hid h35
    have HH34 := hid h34
    obtain ⟨y0, -, y2, -⟩ := two_cells hgX1
    obtain ⟨x0, -, x2, -⟩ := two_cells hgX2
    clear hX1 hX2 hX3 f1 f2 f3 f4 f5 f6 g1 g2 g3 g4 g5 g6 hg2 hgX1 hgX2 h3g h3o h34 h35 hWs hcl hzl HHb HHg HH4 HH5 hf
    go_upto_region 4 with fail
    go_region_law (refine stepCopy rfl (.tmp 56) (.tmp 63) 45 45 rfl 50 3 b (o + p * 3) (ps.length - p) (cap - p) A (ps.length - (p + 1)) (cap - (p + 1)) (c3s (ps.drop (p + 1))) (by simp [Act.eval, Act.put]) (by simp [Act.eval, Act.put]) Try.underlying45 (by kernel_rfl) HN.out hsrc.out HC.out HO.out ?_; rw [← HX1.out])
    all_goals (
      go_upto_region 9 with (refine stMid 50 (.tmp 71) (.tmp 70) rfl rfl b (o + (ps.length - 1) * 3) z3 (by first | rfl | simp [Act.eval]) rfl HT1.out (size3 _ _ _) (one3 rfl _ _) ?_; rw [← HX2.out])
      clear HT1 HT HC HO HN
      go_upto_region 10 with fail
      rw [← HX3.out]
      go_wp2_with (first
        | (refine ldRow 50 (.tmp 5) rfl rfl W1.heap.size rfl 50 #[u, .bool d.ch, .int .i64 (d.pl : Nat)] _ Try.underlying50 rfl (size3 _ _ _) HH35.out ?_)
        | (refine stRow 50 (.tmp 4) (.tmp 81) rfl rfl w.heap.size #[u, .bool d.ch, .int .i64 (d.pl : Nat)] rfl rfl 50 z3 HH34.out (size3 _ _ _) rfl (one3 hone _ _) ?_))
      refine bodyPost_ret (results_cell_row Try.results23 _ _ w.heap.size 50 _ (0, 0) _ rfl (setRow_heap _ _ _ _ _ _ HH34.out) Try.underlying50 rfl (size3 _ _ _)) rfl ?_
      have h3 := HF.out.2.2
      rw [← HU.out, ← HD.out] at h3
      first
        | exact ⟨rfl, HF.out.1, ⟨_, HF.out.2.1⟩, h3⟩
        | exact ⟨_, rfl, HF.out.1, HF.out.2.1, h3⟩)
end Go.Proofs.Ythgkmbdnkamcoaa
