/-
  Proved here: plain of package policy gives a term's plain form, in new memory. Conditions: the tables; the term is one of its side, of at most 4096 terms, in old memory.
-/
import Derived.Test.YtjallmncajhamaaDoorTF
namespace Go.Proofs.YtjallmncajhamaaDoor
open Go.RowKit
set_option maxRecDepth 100000

theorem run_btA (op f n : Int) (ao : Option Addr) (l c : Nat) (W : World) : (Instr.build 26 #[(0, .int .i8 op), (1, .int .i8 f), (2, .int .u64 n), (3, .slice ao l c)]).run Tryd.prog W = .ok (.agg #[.int .i8 op, .int .i8 f, .int .u64 n, .slice ao l c]) W := by kernel_rfl
/-- kids of what is one -/
theorem oneT_kids {b : Bool} {k : Tm} (h : oneT b k = true) : (k.op = 6 → k.ks ≠ []) ∧ (k.op = 3 → k.ks ≠ []) ∧ (isRow k.op = true → k.ks ≠ []) ∧ (k.op = 10 → k.ks ≠ []) ∧ hd k ≤ 10 := by
  obtain ⟨op, fd, n, ks⟩ := k
  obtain ⟨s1, l1, l2, -, o⟩ := oneT_iff.1 h
  have hne : 1 ≤ lst1 op → ks ≠ [] := fun h1 e => by subst e; simp at l1; omega
  have hop : op ≤ 10 := by cases b; exact (sideT_f.1 s1).2; have := sideT_t.1 s1; omega
  refine ⟨fun e => hne (by rw [show op = 6 from e]; decide), fun e => hne (by rw [show op = 3 from e]; decide), fun e => hne ?_, fun e => hne (by rw [show op = 10 from e]; decide), ?_⟩
  · rcases isRow_iff.1 (show isRow op = true from e) with rfl | rfl | rfl | rfl <;> decide
  · by_cases e : op = 6
    · subst e
      obtain ⟨k, ks', rfl⟩ := List.exists_cons_of_ne_nil (hne (by decide))
      have h2 := o k (List.mem_cons_self ..)
      have := sideT_t.1 (oneT_side h2)
      show k.op ≤ 10
      omega
    · rw [hd_not (show (Tm.mk op fd n ks).op ≠ 6 from e)]; exact hop
/-- where plain's loop is -/
structure PnS (w : World) (cs : Array Value) (ks : List Tm) (kv : Value) (j : Nat) (v : Value) (wr : World) : Prop where
  sz : w.heap.size + 1 + 1 ≤ wr.heap.size
  low : Below w.heap.size w wr
  n : wr.heap[w.heap.size]? = some (.cells cs 26 (0, 0))
  r : wr.heap[w.heap.size + 1]? = some (.cells (tmc 0 0 0 nilS) 26 (0, 0))
  l : ∃ W1, w.heap.size + 1 + 1 ≤ W1.heap.size ∧ TlS (fun b => w.heap.size + 1 + 1 ≤ b) W1 (tis (pls (ks.take j))) v wr
  q : LqS (fun _ => True) w ks kv wr
theorem PnS.on {w : World} {cs : Array Value} {ks : List Tm} {kv : Value} {j : Nat} {v : Value} {wr w' : World} (h : PnS w cs ks kv j v wr) (hb : Below wr.heap.size wr w') : PnS w cs ks kv j v w' := by
  obtain ⟨W1, l1, l2⟩ := h.l
  have hs := h.sz
  have hz := hb.size
  exact ⟨by omega, h.low.trans (hb.mono h.low.size), (hb.block _ (by omega)).trans h.n, (hb.block _ (by omega)).trans h.r, ⟨W1, l1, l2.on hb⟩, h.q.on hb⟩
theorem pls_take {ks : List Tm} {j : Nat} (hj : j < ks.length) : pls (ks.take (j + 1)) = pls (ks.take j) ++ [pl ks[j]] := by
  rw [List.take_add_one, List.getElem?_eq_getElem hj, pls_map, pls_map, List.map_append]
  rfl
theorem pls_len (ks : List Tm) : (pls ks).length = ks.length := by rw [pls_map, List.length_map]
/-- the result, stored -/
theorem PnS.put {w w3 : World} {cs ds : Array Value} {ks : List Tm} {kv v : Value} {j : Nat} {W : World} (h : PnS w cs ks kv j v W) (hb : Below W.heap.size W w3) {t : Tm} (ht : UmV (fun b => w.heap.size + 1 + 1 ≤ b) w3 t ds) : Below w.heap.size w (w3.setRow (w.heap.size + 1) ds) ∧ UmV (fun b => w.heap.size ≤ b) (w3.setRow (w.heap.size + 1) ds) t ds :=
  ⟨bel_row (h.low.trans (hb.mono h.low.size)) (by omega) _, um_on ht fun b _ hS => ⟨by omega, setRow_other w3 _ b _ (by omega)⟩⟩
theorem PnS.next {w : World} {cs : Array Value} {ks : List Tm} {kv : Value} {j : Nat} {vo : Option Addr} {vc : Nat} {w3 w4 : World} {ds : Array Value} (h : PnS w cs ks kv j (.slice vo j vc) w3) (hj : j < ks.length) (htl : (tis (pls (ks.take j))).length = j) (hw : Below w3.heap.size w3 w4) (hu : UmV (fun b => w3.heap.size ≤ b) w4 (pl ks[j]) ds) :
    ∃ (S : Nat → Prop) (xs : List Value), Hid (Rw S 4 26 (w4.alloc (.cells ds 26)) (.slice vo j vc) j xs) ∧ Hid (ds.toList.length = 1 * 4) ∧ Hid (∀ (jj : Nat) (x : Value), ds.toList[jj]? = some x → (w4.alloc (.cells ds 26)).cell? ((⟨w4.heap.size, 0, none⟩ : Addr).add jj) = some x) ∧ Hid (∀ x ∈ ds.toList, x.oneCell' = true) ∧
      Hid (∀ (v5 : Value) (w5 : World), Apd (w4.alloc (.cells ds 26)) (.slice vo j vc) w5 → (∀ S, Rw S 4 26 (w4.alloc (.cells ds 26)) (.slice vo j vc) j xs → Rw (fun b => S b ∨ (w4.alloc (.cells ds 26)).heap.size ≤ b) 4 26 w5 v5 (j + 1) (xs ++ ds.toList)) → PnS w cs ks kv (j + 1) v5 w5) := by
  obtain ⟨W1, l1, l2⟩ := h.l
  have hs := h.sz
  have hb4 : Below w4.heap.size w4 (w4.alloc (.cells ds 26)) := (Below.refl _ _).alloc (Nat.le_refl _) _
  have hz := hw.size
  have hb34 : Below w3.heap.size w3 (w4.alloc (.cells ds 26)) := hw.trans (hb4.mono hz)
  obtain ⟨xs, q1, q2⟩ := (l2.on hb34).ks
  have hN : (w4.alloc (.cells ds 26)).heap[w4.heap.size]? = some (.cells ds 26 (0, 0)) := heap_alloc_new _ _
  have q1' := q1
  rw [htl] at q1'
  refine ⟨_, xs, q1', ?_, ?_, ?_, ?_⟩
  · show _ = _; simp [hu.size]
  · intro jj x hx
    rw [Addr.add_lit, Nat.zero_add, cell_of_row _ _ _ _ _ _ hN, ← Array.getElem?_toList]; exact hx
  · intro x hx
    have h1 := hu.one
    rw [Array.all_eq_true_iff_forall_mem] at h1
    exact h1 x (by simpa using hx)
  · intro v5 w5 hA hR
    have hl5 : TlS (fun b => w.heap.size + 1 + 1 ≤ b) W1 (tis (pls (ks.take j)) ++ [ti (pl ks[j])]) v5 w5 :=
      l2.app1 hw q1 q2 (um_on hu fun b hb hS => ⟨⟨⟨by omega, fun e => by have := (l2.own b e).2; omega⟩, hb⟩, rfl⟩) hA (by rw [htl]; exact hR)
    have hlow5 : Below w.heap.size w w5 := by
      have h1 : Below w.heap.size w (w4.alloc (.cells ds 26)) := h.low.trans (hb34.mono h.low.size)
      have hz4 := hb34.size
      exact h1.trans ((hA.only (S := fun b => w.heap.size + 1 + 1 ≤ b) (fun b hb => by omega) (fun b hb => by have := (l2.own b hb).1; omega)).below fun b hb => by omega)
    have hkeep : ∀ b, b < w.heap.size + 1 + 1 → w5.heap[b]? = w3.heap[b]? := fun b hb => by
      have hz4 := hb34.size
      exact (hA.block b (by omega) (fun e => by have := (l2.own b e).1; omega)).trans (hb34.block b (by omega))
    have hz5 := hA.size
    have hz4 := hb34.size
    refine ⟨by omega, hlow5, (hkeep _ (by omega)).trans h.n, (hkeep _ (by omega)).trans h.r, ⟨W1, l1, ?_⟩, h.q.keep hlow5⟩
    rw [pls_take hj, tis_app, show tis [pl ks[j]] = [ti (pl ks[j])] by rw [tis, tis]]
    exact hl5
set_option maxHeartbeats 25600000 in
theorem plain8_any : ∀ (N : Nat) (t : Tm) (cs : Array Value) (b : Bool) (w : World), sz t ≤ N → N ≤ 4096 → oneT b t = true → UmV (fun b => b < w.heap.size) w t cs → TabP w → 3 ≤ w.heap.size → Calls Tryd.prog 46 #[.agg cs] w fun e w' => ∃ ds, e = .returned (.agg ds) ∧ Below w.heap.size w w' ∧ UmV (fun b => w.heap.size ≤ b) w' (pl t) ds
  | 0, t, cs, b, w, hN, _, _, _, _, _ => by have := sz_pos t; omega
  | N + 1, .mk op fd n ks, cs, b, w, hN, hsm, h1, ht, hT, hz => by
    have HIH := hid (plain8_any N)
    have HTw := hid hT
    obtain ⟨v, xs, rfl, h2, h3⟩ := ht.get
    obtain ⟨ao, cap, rfl⟩ := h2.form
    obtain ⟨s1, l1, l2, w1, ok⟩ := oneT_iff.1 h1
    rw [sz] at hN
    have hkl : ks.length ≤ 4096 := by have := len_le_szs ks; omega
    obtain ⟨g1, g2, -⟩ := gd_pls _ ks ok (by omega)
    have HOK := hid ok
    have HG1 := hid g1
    have HG2 : Hid (szs (pls ks) ≤ 4096) := by show _ ≤ _; omega
    have HL1 := hid l1
    have HM1 := hid l2
    have HPl := hid (show pl (.mk op fd n ks) = plK op fd n (pls ks) by rw [pl])
    obtain ⟨W1, hW1⟩ : ∃ W1, W1 = (w.alloc (.cells (tmc op fd n (.slice ao ks.length cap)) 26)).alloc (.cells (tmc 0 0 0 nilS) 26) := ⟨_, rfl⟩
    have HE : Hid ((w.alloc (.cells #[.int .i8 ((op : Nat) : Int), .int .i8 ((fd : Nat) : Int), .int .u64 ((n : Nat) : Int), .slice ao ks.length cap] 26)).alloc (.cells #[.int .i8 0, .int .i8 0, .int .u64 0, .slice none 0 0] 26) = W1) := hW1.symm
    have hTw : Tw w (tmc op fd n (.slice ao ks.length cap)) W1 := by rw [hW1]; exact Tw.new _ _
    have hq0 : LqS (fun _ => True) w ks (.slice ao ks.length cap) w := ⟨Below.refl _ _, xs, h2.carry fun b hb hS => ⟨⟨trivial, hb⟩, rfl⟩, UmL.carry (fun b hb hS => ⟨⟨trivial, hb⟩, rfl⟩) _ _ h3⟩
    have HS0 : Hid (PnS w (tmc op fd n (.slice ao ks.length cap)) ks (.slice ao ks.length cap) 0 nilS W1) := ⟨by have := hTw.sz; omega, hTw.b, hTw.n, hTw.r, ⟨W1, by have := hTw.sz; omega, by rw [List.take_zero, pls, tis]; exact TlS.nil _ (Below.refl _ _)⟩, hq0.keep hTw.b⟩
    have c3 := (four_cells hTw.n).2.2.2
    clear ht h2 h3 g1 g2 ok hW1 hTw hq0 hT l1 l2 h1
    go_enter Tryd.func46, Tryd.ntmps46
    go_upto_region 1 with fail
    rw [show (w.alloc (.cells #[.int .i8 ((op : Nat) : Int), .int .i8 ((fd : Nat) : Int), .int .u64 ((n : Nat) : Int), .slice ao ks.length cap] 26)).alloc (.cells #[.int .i8 0, .int .i8 0, .int .u64 0, .slice none 0 0] 26) = W1 from HE.out]
    clear HE
    go_upto_region 3 with fail
    clear c3
    go_loopw [3, 9] (fun lv v wr => ∃ (j : Nat) (vo : Option Addr) (vc : Nat), v = .int .i64 ((j : Nat) : Int) ∧ lv = .slice vo j vc ∧ j ≤ ks.length ∧ Hid (PnS w (tmc op fd n (.slice ao ks.length cap)) ks (.slice ao ks.length cap) j lv wr)) (fun _ v _ => ks.length - (intOf v).toNat)
    case atStart => exact ⟨0, none, 0, rfl, rfl, Nat.zero_le _, HS0⟩
    case round =>
      clear HS0
      obtain ⟨j, vo, vc, rfl, rfl, hj1, HS⟩ := hrel
      by_cases hj : j < ks.length
      · obtain ⟨g, o, rfl, hcap, hgS, x0, x1, x2, x3, hkv, hra⟩ := HS.out.q.kid hj
        have hs3 : decide ((j : Int) < (ks.length : Int)) = true := by simp; omega
        have hjc : j < cap := by omega
        have hw3 : IntKind.i64.wrap ((j : Int) + 1) = (j : Int) + 1 := by rw [IntKind.wrap_i64]; omega
        have hb3 : Below wr.heap.size wr (wr.alloc (.cells #[x0, x1, x2, x3] 26)) := (Below.refl _ _).alloc (Nat.le_refl _) _
        have HN3 : Hid ((wr.alloc (.cells #[x0, x1, x2, x3] 26)).heap[wr.heap.size]? = some (.cells #[x0, x1, x2, x3] 26 (0, 0))) := heap_alloc_new _ _
        have HS3 := hid (HS.out.on hb3)
        have HO3 := hid hkv.one
        have HRA := hid hra
        have HC := hid (HIH.out ks[j] #[x0, x1, x2, x3] (decide (op ≤ 6)) (wr.alloc (.cells #[x0, x1, x2, x3] 26)) (by have := szs_mem (List.getElem_mem hj); omega) (by omega) (HOK.out _ (List.getElem_mem hj)) (um_on hkv fun b hb hS => ⟨by have := hb3.size; omega, hb3.block b hb⟩) (HTw.out.on HS3.out.low hz) (by have := HS3.out.sz; omega))
        clear hb3 hkv hra hgS HS
        go_upto_region 5 with (first
          | (refine ldMid 26 (.tmp 11) rfl rfl g (o + j * 4) rfl #[x0, x1, x2, x3] _ Tryd.underlying26 rfl sizeTM HRA.out ?_)
          | (refine stNew 26 (.tmp 5) (.tmp 12) rfl rfl wr 26 (tmc 0 0 0 nilS) #[x0, x1, x2, x3] rfl rfl rfl sizeTM rfl HO3.out ?_))
        generalize wr.alloc (.cells #[x0, x1, x2, x3] 26) = w3 at HN3 HS3 HC ⊢
        have hjl : j + 1 ≤ 4096 := by omega
        have htl : (tis (pls (ks.take j))).length = j := by rw [tis_len, pls_len, List.length_take]; omega
        have HTL := hid htl
        clear htl
        go_wp2_with (first
          | (refine ldRow 26 (.tmp 5) rfl rfl wr.heap.size rfl 26 #[x0, x1, x2, x3] _ Tryd.underlying26 rfl sizeTM HN3.out ?_)
          | (refine bldSl 24 26 (.tmp 15) rfl rfl ds rfl Tryd.underlying24 _ _ _ rfl rfl rfl HD4.out (by decide) (by decide) ?_)
          | (refine appRw (.tmp 13) (.tmp 16) 24 rfl rfl (k := 4) (t := 26) (n := j) (m := 1) (c := 1) (us := ds.toList) (ad := ⟨w4.heap.size, 0, none⟩) rfl rfl Tryd.underlying24 infoTM rfl (by omega) (by omega) HG4.out HE4.out HX4.out HY4.out (by omega) (Or.inl (by omega)) ?_; intro v5 w5 hA5 hR5; obtain ⟨ao5, cap5, rfl⟩ := (hR5 _ HG4.out).form; have HS5 := hid (HK4.out _ _ hA5 hR5); clear hA5 hR5)
          | (go_at_call 46; refine (HC.out).mono ?_; rintro e w4 ⟨ds, rfl, hw, hu⟩; have HD4 := hid hu.size; obtain ⟨S4, xs4, HG4, HE4, HX4, HY4, HK4⟩ := PnS.next HS3.out hj HTL.out hw hu; clear hw hu HC))
        have hX : ∃ (m : Nat) (vo : Option Addr) (vc : Nat), Value.int .i64 ((j : Int) + 1) = .int .i64 ((m : Nat) : Int) ∧ Value.slice ao5 (j + 1) cap5 = .slice vo m vc ∧ m ≤ ks.length ∧ Hid (PnS w (tmc op fd n (.slice (some ⟨g, o, none⟩) ks.length cap)) ks (.slice (some ⟨g, o, none⟩) ks.length cap) m (.slice ao5 (j + 1) cap5) w5) := ⟨j + 1, ao5, cap5, by rw [show (((j + 1 : Nat) : Nat) : Int) = (j : Int) + 1 by omega], rfl, hj, HS5⟩
        refine ⟨?_, ?_⟩
        · first
            | exact hX
            | ((repeat apply Exists.intro); refine ⟨?_, rfl⟩; exact hX)
        · simp [intOf]; omega
      · have hs3 : decide ((j : Int) < (ks.length : Int)) = false := by simp; omega
        obtain rfl : j = ks.length := by omega
        have c0 := (four_cells HS.out.n).1
        have c1 := (four_cells HS.out.n).2.1
        have c2 := (four_cells HS.out.n).2.2.1
        have HTr := hid (HTw.out.on HS.out.low hz)
        have hzr : 3 ≤ wr.heap.size := by have := HS.out.sz; omega
        obtain ⟨zs, z1, z2⟩ : ∃ zs, Rx (fun b => w.heap.size + 1 + 1 ≤ b) 4 wr (.slice vo ks.length vc) ks.length zs ∧ UmL (fun b => w.heap.size + 1 + 1 ≤ b) wr (pls ks) zs := by
          obtain ⟨W, q1, q2⟩ := HS.out.l
          rw [List.take_length] at q2
          obtain ⟨zs, q3, q4⟩ := q2.um (T := fun b => w.heap.size + 1 + 1 ≤ b) (fun b hb => by omega) (fun b h => h)
          rw [pls_len] at q3
          exact ⟨zs, q3, q4⟩
        have HZ : Hid (Rx (fun b => w.heap.size + 1 + 1 ≤ b) 4 wr (.slice vo ks.length vc) ks.length zs ∧ UmL (fun b => w.heap.size + 1 + 1 ≤ b) wr (pls ks) zs) := ⟨z1, z2⟩
        have HLq : Hid (LqS (fun b => w.heap.size + 1 + 1 ≤ b) wr (pls ks) (.slice vo (pls ks).length vc) wr) := ⟨Below.refl _ _, zs, by rw [pls_len]; exact z1.carry fun b hb hS => ⟨⟨hS, hb⟩, rfl⟩, UmL.carry (fun b hb hS => ⟨⟨hS, hb⟩, rfl⟩) _ _ z2⟩
        clear z1 z2 HIH
        by_cases n3 : op = 3
        · have e := n3
          clear n3
          have d3 : (((op : Nat) : Int) == 3) = true := by rw [e]; rfl
          have hlen : 0 < ks.length := by have := HL1.out; rw [e] at this; exact this
          have hl0 : decide ((0 : Int) < (ks.length : Int)) = true := by simp; omega
          obtain ⟨k, hk⟩ : ∃ k, ks = [k] := by
            have hm := HM1.out
            rw [e] at hm
            exact len_one hlen hm
          have HPk : Hid (plK op fd n (pls ks) = plN (pl k)) := by
            show _ = _
            rw [hk, e]; rfl
          have hlp : 0 < (pls ks).length := by rw [pls_len]; exact hlen
          have hz1' : Rx (fun b => w.heap.size + 1 + 1 ≤ b) 4 wr (.slice vo (pls ks).length vc) (pls ks).length zs := by rw [pls_len]; exact HZ.out.1
          obtain ⟨g, o, rfl, hc, hgS, hgl, x0, x1, x2, x3, hkv, hra⟩ := UmL.kid hz1' HZ.out.2 (j := 0) hlp
          have hk0 : (pls ks)[0] = pl k := by simp only [hk, pls, List.getElem_cons_zero]
          rw [hk0] at hkv
          rw [Nat.zero_mul, Nat.add_zero] at hra
          have hcp : 0 < vc := by rw [pls_len] at hc; omega
          have HRA := hid hra
          have HO := hid hkv.one
          have hpk := HG1.out (pl k) (by rw [hk, pls]; exact List.mem_cons_self ..)
          have HC := hid (plNot8_any (w.heap.size + 1 + 1) (pl k) #[x0, x1, x2, x3] wr HS.out.sz (um_on hkv fun b hb hS => ⟨⟨hS, hb⟩, rfl⟩) (oneT_kids hpk.1).2.1)
          clear e hk hk0 hpk hz1' hlp hkv hra hgS hgl hc HZ HLq
          go_wp2_with (first
            | (refine ldMid 26 (.tmp 24) rfl rfl g o rfl #[x0, x1, x2, x3] _ Tryd.underlying26 rfl sizeTM HRA.out ?_)
            | (refine stRow 26 (.tmp 2) (.tmp 26) rfl rfl (w.heap.size + 1) ds rfl rfl 26 (tmc 0 0 0 nilS) HR4.out HI4.out HZ4.out HO4.out ?_)
            | (go_at_call 68; refine (HC.out).mono ?_; rintro e w4 ⟨ds, rfl, hw, hu⟩; have HU4 := hid hu; have HB4 := hid hw; have HI4 := hid hu.info; have HO4 := hid hu.one; have HZ4 : Hid ((tmc 0 0 0 nilS).size = ds.size) := (by show _ = _; rw [hu.size]; rfl); have HR4 := hid ((hw.block (w.heap.size + 1) (by have := HS.out.sz; omega)).trans HS.out.r); clear hw hu HC))
          refine bodyPost_ret (v := .agg ds) (res_tm Tryd.results46 _ _ (w.heap.size + 1) _ HI4.out rfl (setRow_heap w4 _ _ _ _ _ HR4.out)) rfl ?_
          obtain ⟨q1, q2⟩ := HS.out.put HB4.out HU4.out
          exact ⟨_, rfl, q1, by rw [HPl.out, HPk.out]; exact q2⟩
        by_cases n4 : op = 4
        · have e := n4
          clear n4
          have d3 : (((op : Nat) : Int) == 3) = false := by rw [e]; rfl
          have d4 : (((op : Nat) : Int) == 4) = true := by rw [e]; rfl
          have HPk : Hid (plK op fd n (pls ks) = jnd op (pls ks)) := by show _ = _; rw [e]; rfl
          have hC := joined8_any (w.heap.size + 1 + 1) op (by rw [e]; rfl) (pls ks) vo vc wr HS.out.sz HLq.out (fun k hk => ⟨(oneT_kids (HG1.out k hk).1).1, fun e2 => (oneT_kids (HG1.out k hk).1).2.2.1 (by rw [e2, e]; rfl)⟩) (fun k hk => (oneT_kids (HG1.out k hk).1).2.2.2.2) HG2.out HTr.out hzr
          rw [pls_len] at hC
          have HC := hid hC
          clear e hC HZ HLq
          go_wp2_with (first
            | (refine stRow 26 (.tmp 2) (.tmp 35) rfl rfl (w.heap.size + 1) ds rfl rfl 26 (tmc 0 0 0 nilS) HR4.out HI4.out HZ4.out HO4.out ?_)
            | (go_at_call 69; refine (HC.out).mono ?_; rintro e w4 ⟨ds, rfl, hw, hu⟩; have HU4 := hid hu; have HB4 := hid hw; have HI4 := hid hu.info; have HO4 := hid hu.one; have HZ4 : Hid ((tmc 0 0 0 nilS).size = ds.size) := (by show _ = _; rw [hu.size]; rfl); have HR4 := hid ((hw.block (w.heap.size + 1) (by have := HS.out.sz; omega)).trans HS.out.r); clear hw hu HC))
          refine bodyPost_ret (v := .agg ds) (res_tm Tryd.results46 _ _ (w.heap.size + 1) _ HI4.out rfl (setRow_heap w4 _ _ _ _ _ HR4.out)) rfl ?_
          obtain ⟨q1, q2⟩ := HS.out.put HB4.out HU4.out
          exact ⟨_, rfl, q1, by rw [HPl.out, HPk.out]; exact q2⟩
        by_cases n5 : op = 5
        · have e := n5
          clear n5
          have d3 : (((op : Nat) : Int) == 3) = false := by rw [e]; rfl
          have d4 : (((op : Nat) : Int) == 4) = false := by rw [e]; rfl
          have d5 : (((op : Nat) : Int) == 5) = true := by rw [e]; rfl
          have HPk : Hid (plK op fd n (pls ks) = jnd op (pls ks)) := by show _ = _; rw [e]; rfl
          have hC := joined8_any (w.heap.size + 1 + 1) op (by rw [e]; rfl) (pls ks) vo vc wr HS.out.sz HLq.out (fun k hk => ⟨(oneT_kids (HG1.out k hk).1).1, fun e2 => (oneT_kids (HG1.out k hk).1).2.2.1 (by rw [e2, e]; rfl)⟩) (fun k hk => (oneT_kids (HG1.out k hk).1).2.2.2.2) HG2.out HTr.out hzr
          rw [pls_len] at hC
          have HC := hid hC
          clear e hC HZ HLq
          go_wp2_with (first
            | (refine stRow 26 (.tmp 2) (.tmp 35) rfl rfl (w.heap.size + 1) ds rfl rfl 26 (tmc 0 0 0 nilS) HR4.out HI4.out HZ4.out HO4.out ?_)
            | (go_at_call 69; refine (HC.out).mono ?_; rintro e w4 ⟨ds, rfl, hw, hu⟩; have HU4 := hid hu; have HB4 := hid hw; have HI4 := hid hu.info; have HO4 := hid hu.one; have HZ4 : Hid ((tmc 0 0 0 nilS).size = ds.size) := (by show _ = _; rw [hu.size]; rfl); have HR4 := hid ((hw.block (w.heap.size + 1) (by have := HS.out.sz; omega)).trans HS.out.r); clear hw hu HC))
          refine bodyPost_ret (v := .agg ds) (res_tm Tryd.results46 _ _ (w.heap.size + 1) _ HI4.out rfl (setRow_heap w4 _ _ _ _ _ HR4.out)) rfl ?_
          obtain ⟨q1, q2⟩ := HS.out.put HB4.out HU4.out
          exact ⟨_, rfl, q1, by rw [HPl.out, HPk.out]; exact q2⟩
        by_cases n8 : op = 8
        · have e := n8
          clear n8
          have d3 : (((op : Nat) : Int) == 3) = false := by rw [e]; rfl
          have d4 : (((op : Nat) : Int) == 4) = false := by rw [e]; rfl
          have d5 : (((op : Nat) : Int) == 5) = false := by rw [e]; rfl
          have d8 : (((op : Nat) : Int) == 8) = true := by rw [e]; rfl
          have HPk : Hid (plK op fd n (pls ks) = jnd op (pls ks)) := by show _ = _; rw [e]; rfl
          have hC := joined8_any (w.heap.size + 1 + 1) op (by rw [e]; rfl) (pls ks) vo vc wr HS.out.sz HLq.out (fun k hk => ⟨(oneT_kids (HG1.out k hk).1).1, fun e2 => (oneT_kids (HG1.out k hk).1).2.2.1 (by rw [e2, e]; rfl)⟩) (fun k hk => (oneT_kids (HG1.out k hk).1).2.2.2.2) HG2.out HTr.out hzr
          rw [pls_len] at hC
          have HC := hid hC
          clear e hC HZ HLq
          go_wp2_with (first
            | (refine stRow 26 (.tmp 2) (.tmp 35) rfl rfl (w.heap.size + 1) ds rfl rfl 26 (tmc 0 0 0 nilS) HR4.out HI4.out HZ4.out HO4.out ?_)
            | (go_at_call 69; refine (HC.out).mono ?_; rintro e w4 ⟨ds, rfl, hw, hu⟩; have HU4 := hid hu; have HB4 := hid hw; have HI4 := hid hu.info; have HO4 := hid hu.one; have HZ4 : Hid ((tmc 0 0 0 nilS).size = ds.size) := (by show _ = _; rw [hu.size]; rfl); have HR4 := hid ((hw.block (w.heap.size + 1) (by have := HS.out.sz; omega)).trans HS.out.r); clear hw hu HC))
          refine bodyPost_ret (v := .agg ds) (res_tm Tryd.results46 _ _ (w.heap.size + 1) _ HI4.out rfl (setRow_heap w4 _ _ _ _ _ HR4.out)) rfl ?_
          obtain ⟨q1, q2⟩ := HS.out.put HB4.out HU4.out
          exact ⟨_, rfl, q1, by rw [HPl.out, HPk.out]; exact q2⟩
        by_cases n9 : op = 9
        · have e := n9
          clear n9
          have d3 : (((op : Nat) : Int) == 3) = false := by rw [e]; rfl
          have d4 : (((op : Nat) : Int) == 4) = false := by rw [e]; rfl
          have d5 : (((op : Nat) : Int) == 5) = false := by rw [e]; rfl
          have d8 : (((op : Nat) : Int) == 8) = false := by rw [e]; rfl
          have d9 : (((op : Nat) : Int) == 9) = true := by rw [e]; rfl
          have HPk : Hid (plK op fd n (pls ks) = jnd op (pls ks)) := by show _ = _; rw [e]; rfl
          have hC := joined8_any (w.heap.size + 1 + 1) op (by rw [e]; rfl) (pls ks) vo vc wr HS.out.sz HLq.out (fun k hk => ⟨(oneT_kids (HG1.out k hk).1).1, fun e2 => (oneT_kids (HG1.out k hk).1).2.2.1 (by rw [e2, e]; rfl)⟩) (fun k hk => (oneT_kids (HG1.out k hk).1).2.2.2.2) HG2.out HTr.out hzr
          rw [pls_len] at hC
          have HC := hid hC
          clear e hC HZ HLq
          go_wp2_with (first
            | (refine stRow 26 (.tmp 2) (.tmp 35) rfl rfl (w.heap.size + 1) ds rfl rfl 26 (tmc 0 0 0 nilS) HR4.out HI4.out HZ4.out HO4.out ?_)
            | (go_at_call 69; refine (HC.out).mono ?_; rintro e w4 ⟨ds, rfl, hw, hu⟩; have HU4 := hid hu; have HB4 := hid hw; have HI4 := hid hu.info; have HO4 := hid hu.one; have HZ4 : Hid ((tmc 0 0 0 nilS).size = ds.size) := (by show _ = _; rw [hu.size]; rfl); have HR4 := hid ((hw.block (w.heap.size + 1) (by have := HS.out.sz; omega)).trans HS.out.r); clear hw hu HC))
          refine bodyPost_ret (v := .agg ds) (res_tm Tryd.results46 _ _ (w.heap.size + 1) _ HI4.out rfl (setRow_heap w4 _ _ _ _ _ HR4.out)) rfl ?_
          obtain ⟨q1, q2⟩ := HS.out.put HB4.out HU4.out
          exact ⟨_, rfl, q1, by rw [HPl.out, HPk.out]; exact q2⟩
        by_cases n10 : op = 10
        · have e := n10
          clear n10
          have d3 : (((op : Nat) : Int) == 3) = false := by rw [e]; rfl
          have d4 : (((op : Nat) : Int) == 4) = false := by rw [e]; rfl
          have d5 : (((op : Nat) : Int) == 5) = false := by rw [e]; rfl
          have d8 : (((op : Nat) : Int) == 8) = false := by rw [e]; rfl
          have d9 : (((op : Nat) : Int) == 9) = false := by rw [e]; rfl
          have d10 : (((op : Nat) : Int) == 10) = true := by rw [e]; rfl
          have hlen : 0 < ks.length := by have := HL1.out; rw [e] at this; exact this
          have hl0 : decide ((0 : Int) < (ks.length : Int)) = true := by simp; omega
          obtain ⟨k, hk⟩ : ∃ k, ks = [k] := by
            have hm := HM1.out
            rw [e] at hm
            exact len_one hlen hm
          have HPk : Hid (plK op fd n (pls ks) = plS (pl k)) := by
            show _ = _
            rw [hk, e]; rfl
          have hlp : 0 < (pls ks).length := by rw [pls_len]; exact hlen
          have hz1' : Rx (fun b => w.heap.size + 1 + 1 ≤ b) 4 wr (.slice vo (pls ks).length vc) (pls ks).length zs := by rw [pls_len]; exact HZ.out.1
          obtain ⟨g, o, rfl, hc, hgS, hgl, x0, x1, x2, x3, hkv, hra⟩ := UmL.kid hz1' HZ.out.2 (j := 0) hlp
          have hk0 : (pls ks)[0] = pl k := by simp only [hk, pls, List.getElem_cons_zero]
          rw [hk0] at hkv
          rw [Nat.zero_mul, Nat.add_zero] at hra
          have hcp : 0 < vc := by rw [pls_len] at hc; omega
          have HRA := hid hra
          have HO := hid hkv.one
          have hpk := HG1.out (pl k) (by rw [hk, pls]; exact List.mem_cons_self ..)
          have HC := hid (plStar8_any (w.heap.size + 1 + 1) (pl k) #[x0, x1, x2, x3] wr HS.out.sz (um_on hkv fun b hb hS => ⟨⟨hS, hb⟩, rfl⟩))
          clear e hk hk0 hpk hz1' hlp hkv hra hgS hgl hc HZ HLq
          go_wp2_with (first
            | (refine ldMid 26 (.tmp 39) rfl rfl g o rfl #[x0, x1, x2, x3] _ Tryd.underlying26 rfl sizeTM HRA.out ?_)
            | (refine stRow 26 (.tmp 2) (.tmp 41) rfl rfl (w.heap.size + 1) ds rfl rfl 26 (tmc 0 0 0 nilS) HR4.out HI4.out HZ4.out HO4.out ?_)
            | (go_at_call 70; refine (HC.out).mono ?_; rintro e w4 ⟨ds, rfl, hw, hu⟩; have HU4 := hid hu; have HB4 := hid hw; have HI4 := hid hu.info; have HO4 := hid hu.one; have HZ4 : Hid ((tmc 0 0 0 nilS).size = ds.size) := (by show _ = _; rw [hu.size]; rfl); have HR4 := hid ((hw.block (w.heap.size + 1) (by have := HS.out.sz; omega)).trans HS.out.r); clear hw hu HC))
          refine bodyPost_ret (v := .agg ds) (res_tm Tryd.results46 _ _ (w.heap.size + 1) _ HI4.out rfl (setRow_heap w4 _ _ _ _ _ HR4.out)) rfl ?_
          obtain ⟨q1, q2⟩ := HS.out.put HB4.out HU4.out
          exact ⟨_, rfl, q1, by rw [HPl.out, HPk.out]; exact q2⟩
        have HPk : Hid (plK op fd n (pls ks) = .mk op fd n (pls ks)) := by
          show _ = _
          unfold plK
          rw [if_neg n3, if_neg (fun hr => by rcases isRow_iff.1 hr with h | h | h | h; exact n4 h; exact n5 h; exact n8 h; exact n9 h), if_neg n10]
        have d3 : (((op : Nat) : Int) == 3) = false := beq_eq_false_iff_ne.2 (by omega)
        have d4 : (((op : Nat) : Int) == 4) = false := beq_eq_false_iff_ne.2 (by omega)
        have d5 : (((op : Nat) : Int) == 5) = false := beq_eq_false_iff_ne.2 (by omega)
        have d8 : (((op : Nat) : Int) == 8) = false := beq_eq_false_iff_ne.2 (by omega)
        have d9 : (((op : Nat) : Int) == 9) = false := beq_eq_false_iff_ne.2 (by omega)
        have d10 : (((op : Nat) : Int) == 10) = false := beq_eq_false_iff_ne.2 (by omega)
        have hbt := fun W => run_btA ((op : Nat) : Int) ((fd : Nat) : Int) ((n : Nat) : Int) vo ks.length vc W
        have HU : Hid (UmV (fun b => w.heap.size + 1 + 1 ≤ b) wr (.mk op fd n (pls ks)) (tmc op fd n (.slice vo ks.length vc))) := UmV.of (by rw [pls_len]; exact HZ.out.1) HZ.out.2
        have HR4 := hid HS.out.r
        clear n3 n4 n5 n8 n9 n10 HZ HLq
        go_wp2_with (refine stRow 26 (.tmp 2) (.tmp 49) rfl rfl (w.heap.size + 1) (tmc op fd n (.slice vo ks.length vc)) rfl rfl 26 (tmc 0 0 0 nilS) HR4.out sizeTM rfl (tic_one _ _ _ _ _ _) ?_)
        refine bodyPost_ret (v := .agg (tmc op fd n (.slice vo ks.length vc))) (res_tm Tryd.results46 _ _ (w.heap.size + 1) _ sizeTM rfl (setRow_heap wr _ _ _ _ _ HR4.out)) rfl ?_
        obtain ⟨q1, q2⟩ := HS.out.put (Below.refl _ _) HU.out
        exact ⟨_, rfl, q1, by rw [HPl.out, HPk.out]; exact q2⟩
end Go.Proofs.YtjallmncajhamaaDoor
