/-
  Proved here: replaced of the statements gives the term with the part replaced. Conditions: at most 4096 terms, a path of at most 200 numbers; both can be read in memory.
-/
import Derived.Test.YtjallmncajhamaaDoorVA
import Derived.Test.YtjallmncajhamaaDoorWE
namespace Go.Proofs.YtjallmncajhamaaDoor
open Go.RowKit
set_option maxRecDepth 100000

theorem bel_cells {B g : Nat} (hg : B ≤ g) : ∀ (l : List Value) (p : Nat) {w w' : World}, Below B w w' → Below B w (w'.setCells g p l)
  | [], p, w, w', h => by rw [World.setCells]; exact h
  | v :: r, p, w, w', h => by rw [World.setCells]; exact bel_cells hg r _ (h.setCell (p := ⟨g, p, none⟩) hg v)
theorem cells_oth {g b : Nat} (hb : b ≠ g) : ∀ (l : List Value) (p : Nat) (w : World), (w.setCells g p l).heap[b]? = w.heap[b]?
  | [], p, w => by rw [World.setCells]
  | v :: r, p, w => by rw [World.setCells, cells_oth hb r]; exact heap_setCell_other w ⟨g, p, none⟩ b v hb
theorem cells_size (g : Nat) : ∀ (l : List Value) (p : Nat) (w : World), (w.setCells g p l).heap.size = w.heap.size
  | [], p, w => by rw [World.setCells]
  | v :: r, p, w => by rw [World.setCells, cells_size g r]; simp
section
variable {ops : Array Oper} {Q : Exit → Act → World → Prop} {o : Oper} {a : Act} {w : World} {K : Act → World → Prop}
theorem row_frozen8 {W : World} {b t j : Nat} {cs : Array Value} (h : W.heap[b]? = some (.cells cs t (0, 0))) : W.frozen? ⟨b, j, none⟩ = false := by simp [World.frozen?, h]
theorem Sp.stM (ty : TypeId) (x y : Operand) (hop : o.op = .store ty x y) (hg : o.guard = none) (g p : Nat) (cs : Array Value) (hx : a.eval x = .pointer (some ⟨g, p, none⟩)) (hy : a.eval y = .agg cs) (ht : w.there g p cs.size) (hi : (Tryd.prog.info? ty).map (·.size) = some cs.size) (h1 : cs.all (·.oneCell') = true) (hk : K (a.put o.dst undef) (w.setCells g p cs.toList)) : Sp ops Q o a w K :=
  ⟨by simp [Region.wanted, hg], wp_store_mid ty x y hop g p cs hx hy ht hi h1 hk⟩
theorem runSl1 {W : World} (x : Operand) (ho : o.op = .slice 42 x (some (.const (.int .i64 1))) none none) (g p m c : Nat) (hx : a.eval x = .slice (some ⟨g, p, none⟩) (m + 1) c) (hc : m + 1 ≤ c) (pa : Addr) (hpa : pa = if c = 1 then ⟨g, p, none⟩ else ⟨g, p + 1, none⟩) : (execOp a.eval o).run Tryd.prog W = .ok (.value (.slice (some pa) m (c - 1))) W := by
  subst hpa
  unfold execOp
  simp only [ho, hx]
  have e1 : decide ((1 : Int) ≤ ((m + 1 : Nat) : Int)) = true := decide_eq_true (by omega)
  have e2 : decide (((m + 1 : Nat) : Int) ≤ (c : Int)) = true := decide_eq_true (by omega)
  by_cases h1 : c = 1
  · subst h1
    obtain rfl : m = 0 := by omega
    rfl
  · go_simp
    intro h
    omega
end
theorem run_bt00 (W : World) : (Instr.build 26 #[(0, .int .i8 1)]).run Tryd.prog W = .ok (.agg #[.int .i8 1, .int .i8 0, .int .u64 0, .slice none 0 0]) W := by kernel_rfl
theorem ti_leaf (op : Nat) : ti (leaf op) = .mk (op : Int) 0 0 [] := by rw [ti, tis]; rfl
theorem ti_fil1 : ti (.mk 6 0 0 [leaf 1]) = .mk 6 0 0 [.mk 1 0 0 []] := by rw [ti, tis, tis, ti_leaf]; rfl
set_option maxHeartbeats 12800000 in
/-- a part that is cut off -/
theorem rep_cut (S : Nat → Prop) (p : List Int) (op fd n : Nat) (ks : List Tm) (pv ao : Option Addr) (pc cap : Nat) (w : World) (hp : p = [] ∨ ks = []) (hl : p.length ≤ 200) (hkl : ks.length ≤ 4096) : Calls Tryd.prog 23 #[.agg (tmc op fd n (.slice ao ks.length cap)), .slice pv p.length pc] w fun e w' => ∃ ds, e = .returned (.agg ds) ∧ Below w.heap.size w w' ∧ UmV (fun b => (b < w.heap.size ∧ S b) ∨ w.heap.size ≤ b) w' (cutT op) ds := by
  obtain ⟨W1, hW1⟩ : ∃ W1, W1 = (w.alloc (.cells (tmc op fd n (.slice ao ks.length cap)) 26)).alloc (.cells (tmc 0 0 0 nilS) 26) := ⟨_, rfl⟩
  have HE : Hid ((w.alloc (.cells #[.int .i8 ((op : Nat) : Int), .int .i8 ((fd : Nat) : Int), .int .u64 ((n : Nat) : Int), .slice ao ks.length cap] 26)).alloc (.cells #[.int .i8 0, .int .i8 0, .int .u64 0, .slice none 0 0] 26) = W1) := hW1.symm
  have HT : Hid (Tw w (tmc op fd n (.slice ao ks.length cap)) W1) := by show Tw _ _ _; rw [hW1]; exact Tw.new _ _
  have c0 := (four_cells HT.out.n).1
  have c3 := (four_cells HT.out.n).2.2.2
  clear hW1
  have g1 : (((p.length : Nat) : Int) == 0) = decide (p = []) := by cases p <;> simp <;> omega
  have g2 : (((ks.length : Nat) : Int) == 0) = decide (ks = []) := by cases ks <;> simp <;> omega
  have HG : Hid (∀ W : World, True) := fun _ => trivial
  clear HG
  go_enter Tryd.func23, Tryd.ntmps23
  go_upto_region 1 with fail
  rw [show (w.alloc (.cells #[.int .i8 ((op : Nat) : Int), .int .i8 ((fd : Nat) : Int), .int .u64 ((n : Nat) : Int), .slice ao ks.length cap] 26)).alloc (.cells #[.int .i8 0, .int .i8 0, .int .u64 0, .slice none 0 0] 26) = W1 from HE.out]
  clear HE
  go_cut [15] from 16 (fun s15 wc => s15 = .bool true ∧ wc = W1)
  case first =>
    by_cases e1 : p = []
    · subst e1
      go_wp2_with fail
      go_meet
      case rel => exact ⟨rfl, rfl⟩
    · have e2 : ks = [] := hp.resolve_left e1
      subst e2
      have d1 : (((p.length : Nat) : Int) == 0) = false := by rw [g1]; exact decide_eq_false e1
      have d1' : decide (((p.length : Nat) : Int) = 0) = false := by simpa using d1
      clear g1 g2 hp
      go_wp2_with fail
      go_meet
      case rel => exact ⟨rfl, rfl⟩
  case rest =>
  obtain ⟨rfl, hwc⟩ := hcut
  rw [hwc]
  clear hwc wc g1 g2 hp
  have hbt := fun W => run_bt00 W
  by_cases h5 : op ≤ 5
  · have d5 : decide (((op : Nat) : Int) ≤ 5) = true := decide_eq_true (by omega)
    have d5' : decide (op ≤ 5) = true := decide_eq_true h5
    have HCt : Hid (cutT op = leaf 1) := if_pos h5
    go_wp2_with (refine stRow 26 (.tmp 4) (.tmp 19) rfl rfl (w.heap.size + 1) (tmc 1 0 0 nilS) rfl rfl 26 (tmc 0 0 0 nilS) HT.out.r sizeTM rfl (tic_one _ _ _ _ _ _) ?_)
    refine bodyPost_ret (v := .agg (tmc 1 0 0 nilS)) (res_tm Tryd.results23 _ _ (w.heap.size + 1) _ sizeTM rfl (setRow_heap _ _ _ _ _ _ HT.out.r)) rfl ?_
    refine ⟨_, rfl, bel_row HT.out.b (by omega) _, ?_⟩
    rw [HCt.out]
    unfold UmV
    rw [ti_leaf]
    exact TiV.leaf _ _ _ _ _
  · have d5 : decide (((op : Nat) : Int) ≤ 5) = false := decide_eq_false (by omega)
    have d5' : decide (op ≤ 5) = false := decide_eq_false h5
    have HCt : Hid (cutT op = .mk 6 0 0 [leaf 1]) := if_neg h5
    have HF := hid (filterI_any (fun _ => False) (.mk 1 0 0 []) (tmc 1 0 0 nilS) W1 (TiV.leaf _ _ _ _ _))
    go_wp2_with (first
      | (refine stRow 26 (.tmp 4) (.tmp 21) rfl rfl (w.heap.size + 1) ds rfl rfl 26 (tmc 0 0 0 nilS) HR3.out HU3.out.info (by rw [HU3.out.size]; rfl) HU3.out.one ?_)
      | (go_at_call 43; refine (HF.out).mono ?_; rintro e w3 ⟨ds, rfl, hw, hu⟩; have HW3 := hid hw; have HR3 := hid ((hw.block _ (Array.getElem?_eq_some_iff.1 HT.out.r).1).trans HT.out.r); have HU3 := hid hu; clear hw hu HF))
    refine bodyPost_ret (v := .agg ds) (res_tm Tryd.results23 _ _ (w.heap.size + 1) _ HU3.out.info rfl (setRow_heap _ _ _ _ _ _ HR3.out)) rfl ?_
    have hz := HT.out.sz
    refine ⟨_, rfl, bel_row (HT.out.b.trans (HW3.out.mono HT.out.b.size)) (by omega) _, ?_⟩
    rw [HCt.out]
    unfold UmV
    rw [ti_fil1]
    refine ti_on HU3.out fun b hb hS => ?_
    rcases hS with ⟨-, hS⟩ | hS
    · exact hS.elim
    · exact ⟨Or.inr (by omega), setRow_other _ _ b _ (by omega)⟩
theorem um_set {S : Nat → Prop} {w : World} {g o cap op fd n i : Nat} {ks : List Tm} {r : Tm} (hcap : ks.length ≤ cap) (hS : S g) (hg : g < w.heap.size) (hr : ∃ ds, UmV S w r ds ∧ w.rangeAt g (o + i * 4) ds.toList) (hk : ∀ q (hq : q < ks.length), q ≠ i → ∃ ds, UmV S w ks[q] ds ∧ w.rangeAt g (o + q * 4) ds.toList) : UmV S w (.mk op fd n (ks.set i r)) (tmc op fd n (.slice (some ⟨g, o, none⟩) ks.length cap)) := by
  obtain ⟨xs, h1, h2, h3⟩ := til_of (S := S) (w := w) (g := g) (tis (ks.set i r)) o fun q hq => by
    have hq1 : q < (ks.set i r).length := by rwa [tis_len] at hq
    have hq2 : q < ks.length := by rwa [List.length_set] at hq1
    rw [tis_at _ q hq1]
    by_cases e : q = i
    · subst e
      rw [List.getElem_set_self]
      exact hr
    · rw [List.getElem_set_ne (fun h => e h.symm)]
      exact hk q hq2 e
  rw [tis_len, List.length_set] at h1
  unfold UmV
  rw [ti, TiV]
  refine ⟨.slice (some ⟨g, o, none⟩) ks.length cap, xs, rfl, ?_, h2⟩
  rw [tis_len, List.length_set]
  exact ⟨h1, _, _, rfl, hcap, fun _ => ⟨g, o, rfl, hS, hg, h3⟩⟩
/-- what the two drawn regions read -/
structure Rp5 (A : Nat) (v : Value) (g o : Nat) (a : Int) (W : World) : Prop where
  c3 : W.cell? ⟨A, 3, none⟩ = some v
  pc : W.cell? ⟨g, o, none⟩ = some (.int .i64 a)
structure Rp7 (A : Nat) (v : Value) (g o : Nat) (cs : Array Value) (W : World) : Prop where
  c3 : W.cell? ⟨A, 3, none⟩ = some v
  rk : W.rangeAt g o cs.toList
set_option maxHeartbeats 25600000 in
theorem rep_step (p : List Int) (a : Int) (HIH : Hid (∀ (S : Nat → Prop) (t : Tm) (cs : Array Value) (pv : Value) (w : World), sz t ≤ 4096 → p.length ≤ 200 → UmV S w t cs → Rx (fun b => b < w.heap.size) 1 w pv p.length (p.map (Value.int .i64)) → Calls Tryd.prog 23 #[.agg cs, pv] w fun e w' => ∃ ds, e = .returned (.agg ds) ∧ Below w.heap.size w w' ∧ UmV (fun b => (b < w.heap.size ∧ S b) ∨ w.heap.size ≤ b) w' (repT p t) ds)) :
    ∀ (S : Nat → Prop) (t : Tm) (cs : Array Value) (pv : Value) (w : World), sz t ≤ 4096 → (a :: p).length ≤ 200 → UmV S w t cs → Rx (fun b => b < w.heap.size) 1 w pv (a :: p).length ((a :: p).map (Value.int .i64)) → Calls Tryd.prog 23 #[.agg cs, pv] w fun e w' => ∃ ds, e = .returned (.agg ds) ∧ Below w.heap.size w w' ∧ UmV (fun b => (b < w.heap.size ∧ S b) ∨ w.heap.size ≤ b) w' (repT (a :: p) t) ds := by
  rintro S ⟨op, fd, n, ks⟩ cs pv w hs hl ht hp
  obtain ⟨v, xs, rfl, h2, h3⟩ := ht.get
  obtain ⟨ao, cap, rfl⟩ := h2.form
  rw [sz] at hs
  have hkl : ks.length ≤ 4096 := by have := len_szs ks ks.length (Nat.le_refl _); rw [List.take_length] at this; omega
  obtain ⟨pao, pc, rfl⟩ := hp.form
  by_cases hn : ks = []
  · subst hn
    rw [repT_no]
    exact rep_cut S (a :: p) op fd n [] pao ao pc cap w (Or.inr rfl) hl (by simp)
  have hn0 : 0 < ks.length := List.length_pos_iff.2 hn
  obtain ⟨pg, po, rfl, hpc, hpg, hpgl, hpr⟩ := hp.at (j := 0) (by simp)
  obtain ⟨i, hi⟩ : ∃ i, pix a ks.length = i := ⟨_, rfl⟩
  have hpx := pix_lt a hn0
  rw [hi] at hpx
  obtain ⟨hil, hie⟩ := hpx
  rw [repT_at a p op fd n i hil hi]
  obtain ⟨g, o, rfl, hcap, hgS, hgl, hra⟩ := h2.at hil
  obtain ⟨kcs, hkv, hka⟩ := UmL.at ks xs i hil h3
  have hk4 := hkv.size
  obtain ⟨x0, x1, x2, x3, rfl⟩ := arr4 hk4
  have hra2 := hra (#[x0, x1, x2, x3] : Array Value).toList (fun q hq => by
    have hi4 : q < 4 := by simpa using hq
    rw [hka q hi4]; simp)
  have HSzk : Hid (sz ks[i] ≤ 4096) := by have := szs_mem (List.getElem_mem hil); show _ ≤ _; omega
  obtain ⟨W1, hW1⟩ : ∃ W1, W1 = (w.alloc (.cells (tmc op fd n (.slice (some ⟨g, o, none⟩) ks.length cap)) 26)).alloc (.cells (tmc 0 0 0 nilS) 26) := ⟨_, rfl⟩
  have HE : Hid ((w.alloc (.cells #[.int .i8 ((op : Nat) : Int), .int .i8 ((fd : Nat) : Int), .int .u64 ((n : Nat) : Int), .slice (some ⟨g, o, none⟩) ks.length cap] 26)).alloc (.cells #[.int .i8 0, .int .i8 0, .int .u64 0, .slice none 0 0] 26) = W1) := hW1.symm
  have HT : Hid (Tw w (tmc op fd n (.slice (some ⟨g, o, none⟩) ks.length cap)) W1) := by show Tw _ _ _; rw [hW1]; exact Tw.new _ _
  have c3 := (four_cells HT.out.n).2.2.2
  have hpcell : w.cell? ⟨pg, po, none⟩ = some (.int .i64 a) := by
    have := hpr [Value.int .i64 a] (fun q hq => by
      have : q = 0 := by simpa using hq
      subst this
      simp) 0 (.int .i64 a) (by simp)
    simpa using this
  have HR5 : Hid (Rp5 w.heap.size (.slice (some ⟨g, o, none⟩) ks.length cap) pg po a W1.drew) := ⟨c3, (cell_same (HT.out.b.block _ hpgl)).trans hpcell⟩
  have HM := hid h2
  have HK := hid h3
  have HPx := hid hp
  have HRA := hid hra2
  have HKV := hid hkv
  have HPG := hid (And.intro hpgl hgl)
  clear hW1 h2 h3 ht hp hpr hra hra2 hka hkv hpcell hpgl hgl
  obtain ⟨m, hm⟩ : ∃ m, m = p.length := ⟨_, rfl⟩
  have hm200 : m ≤ 200 := by simp at hl; omega
  have hl1 : (a :: p).length = m + 1 := by rw [hm]; simp
  rw [hl1] at hpc ⊢
  have HMp := hid hm
  have HPx2 : Hid (Rx (fun b => b < w.heap.size) 1 w (.slice (some ⟨pg, po, none⟩) (m + 1) pc) (m + 1) ((a :: p).map (Value.int .i64))) := by show Rx _ _ _ _ _ _; rw [← hl1]; exact HPx.out
  clear hm hl1 HPx
  have g1 : (((m + 1 : Nat) : Int) == 0) = false := by simp; omega
  have g2 : (((ks.length : Nat) : Int) == 0) = false := by simp; exact hn
  have g2' : decide (((ks.length : Nat) : Int) = 0) = false := by simp; exact hn
  go_enter Tryd.func23, Tryd.ntmps23
  go_upto_region 1 with fail
  rw [show (w.alloc (.cells #[.int .i8 ((op : Nat) : Int), .int .i8 ((fd : Nat) : Int), .int .u64 ((n : Nat) : Int), .slice (some ⟨g, o, none⟩) ks.length cap] 26)).alloc (.cells #[.int .i8 0, .int .i8 0, .int .u64 0, .slice none 0 0] 26) = W1 from HE.out]
  clear HE
  go_upto_region 5 with fail
  have d1 : decide (0 < m + 1) = true := decide_eq_true (by omega)
  have dm : 0 < m + 1 := by omega
  have hnz : ¬ ((ks.length : Nat) : Int) = 0 := by omega
  have hr1 := tmod_rng a hn0
  have hw6 : IntKind.i64.wrap (a.tmod ((ks.length : Nat) : Int)) = a.tmod ((ks.length : Nat) : Int) := by rw [IntKind.wrap_i64]; omega
  have hw10 : IntKind.i64.wrap (a.tmod ((ks.length : Nat) : Int) + ((ks.length : Nat) : Int)) = a.tmod ((ks.length : Nat) : Int) + ((ks.length : Nat) : Int) := by rw [IntKind.wrap_i64]; omega
  have hw14 : IntKind.i64.wrap ((i : Nat) : Int) = ((i : Nat) : Int) := by rw [IntKind.wrap_i64]; omega
  have HIE := hid hie
  clear hr1 hie
  refine wp_region_held_drew (S := Rp5 w.heap.size (.slice (some ⟨g, o, none⟩) ks.length cap) pg po a) (by kernel_rfl) HR5.out (fun hHeld => ?_)
  refine wpAnyH_take (i := 0) (v := ?_) rfl (by kernel_rfl) (by kernel_rfl) (by kernel_rfl) (fun _ _ _ h => h) (Or.inl ⟨by rfl, ?_⟩) hHeld ?_
  rotate_left
  · intro w' hSw
    have c3 := hSw.c3
    have pc := hSw.pc
    clear hSw
    go_simp
    first | done | with_reducible rfl
  simp only [Act.put, List.getElem_toArray, List.getElem_cons_zero, List.setIfInBounds_toArray, List.set_cons_zero, List.set_cons_succ]
  refine wpAnyH_take (i := 1) (v := ?_) rfl (by kernel_rfl) (by kernel_rfl) (by kernel_rfl) (fun _ _ _ h => h) (Or.inl ⟨by rfl, ?_⟩) hHeld ?_
  rotate_left
  · intro w' hSw
    have c3 := hSw.c3
    have pc := hSw.pc
    clear hSw
    go_simp
    first | done | with_reducible rfl
  simp only [Act.put, List.getElem_toArray, List.getElem_cons_succ, List.getElem_cons_zero, List.setIfInBounds_toArray, List.set_cons_zero, List.set_cons_succ]
  refine wpAnyH_take (i := 2) (v := ?_) rfl (by kernel_rfl) (by kernel_rfl) (by kernel_rfl) (fun _ _ _ h => h) (Or.inl ⟨by rfl, ?_⟩) hHeld ?_
  rotate_left
  · intro w' hSw
    have c3 := hSw.c3
    have pc := hSw.pc
    clear hSw
    go_simp
    first | done | with_reducible rfl
  simp only [Act.put, List.getElem_toArray, List.getElem_cons_succ, List.getElem_cons_zero, List.setIfInBounds_toArray, List.set_cons_zero, List.set_cons_succ]
  refine wpAnyH_take (i := 3) (v := ?_) rfl (by kernel_rfl) (by kernel_rfl) (by kernel_rfl) (fun _ _ _ h => h) (Or.inl ⟨by rfl, ?_⟩) hHeld ?_
  rotate_left
  · intro w' hSw
    have c3 := hSw.c3
    have pc := hSw.pc
    clear hSw
    go_simp
    first | done | with_reducible rfl
  simp only [Act.put, List.getElem_toArray, List.getElem_cons_succ, List.getElem_cons_zero, List.setIfInBounds_toArray, List.set_cons_zero, List.set_cons_succ]
  refine wpAnyH_take (i := 4) (v := ?_) rfl (by kernel_rfl) (by kernel_rfl) (by kernel_rfl) (fun _ _ _ h => h) (Or.inl ⟨by rfl, ?_⟩) hHeld ?_
  rotate_left
  · intro w' hSw
    have c3 := hSw.c3
    have pc := hSw.pc
    clear hSw
    go_simp
    first | done | with_reducible rfl
  simp only [Act.put, List.getElem_toArray, List.getElem_cons_succ, List.getElem_cons_zero, List.setIfInBounds_toArray, List.set_cons_zero, List.set_cons_succ]
  refine wpAnyH_take (i := 5) (v := ?_) rfl (by kernel_rfl) (by kernel_rfl) (by kernel_rfl) (fun _ _ _ h => h) (Or.inl ⟨by rfl, ?_⟩) hHeld ?_
  rotate_left
  · intro w' hSw
    have c3 := hSw.c3
    have pc := hSw.pc
    clear hSw
    go_simp
    first | done | with_reducible rfl
  simp only [Act.put, List.getElem_toArray, List.getElem_cons_succ, List.getElem_cons_zero, List.setIfInBounds_toArray, List.set_cons_zero, List.set_cons_succ]
  refine wpAnyH_take (i := 6) (v := ?_) rfl (by kernel_rfl) (by kernel_rfl) (by kernel_rfl) (fun _ _ _ h => h) (Or.inl ⟨by rfl, ?_⟩) hHeld ?_
  rotate_left
  · intro w' hSw
    clear hSw
    go_simp
    first | done | with_reducible rfl
  simp only [Act.put, List.getElem_toArray, List.getElem_cons_succ, List.getElem_cons_zero, List.setIfInBounds_toArray, List.set_cons_zero, List.set_cons_succ]
  refine wpAnyH_take (i := 7) (v := ?_) rfl (by kernel_rfl) (by kernel_rfl) (by kernel_rfl) (fun _ _ _ h => h) (Or.inl ⟨by rfl, ?_⟩) hHeld ?_
  rotate_left
  · intro w' hSw
    have c3 := hSw.c3
    clear hSw
    go_simp
    first | done | with_reducible rfl
  simp only [Act.put, List.getElem_toArray, List.getElem_cons_succ, List.getElem_cons_zero, List.setIfInBounds_toArray, List.set_cons_zero, List.set_cons_succ]
  refine wpAnyH_take (i := 8) (v := ?_) rfl (by kernel_rfl) (by kernel_rfl) (by kernel_rfl) (fun _ _ _ h => h) (Or.inl ⟨by rfl, ?_⟩) hHeld ?_
  rotate_left
  · intro w' hSw
    have c3 := hSw.c3
    clear hSw
    go_simp
    first | done | with_reducible rfl
  simp only [Act.put, List.getElem_toArray, List.getElem_cons_succ, List.getElem_cons_zero, List.setIfInBounds_toArray, List.set_cons_zero, List.set_cons_succ]
  refine wpAnyH_take (i := 9) (v := ?_) rfl (by kernel_rfl) (by kernel_rfl) (by kernel_rfl) (fun _ _ _ h => h) (Or.inl ⟨by rfl, ?_⟩) hHeld ?_
  rotate_left
  · intro w' hSw
    have c3 := hSw.c3
    clear hSw
    go_simp
    first | done | with_reducible rfl
  simp only [Act.put, List.getElem_toArray, List.getElem_cons_succ, List.getElem_cons_zero, List.setIfInBounds_toArray, List.set_cons_zero, List.set_cons_succ]
  refine wpAnyH_take (i := 10) (v := ?_) rfl (by kernel_rfl) (by kernel_rfl) (by kernel_rfl) (fun _ _ _ h => h) (Or.inl ⟨by rfl, ?_⟩) hHeld ?_
  rotate_left
  · intro w' hSw
    have c3 := hSw.c3
    clear hSw
    go_simp
    first | done | with_reducible rfl
  simp only [Act.put, List.getElem_toArray, List.getElem_cons_succ, List.getElem_cons_zero, List.setIfInBounds_toArray, List.set_cons_zero, List.set_cons_succ]
  refine wpAnyH_take (i := 11) (v := ?_) rfl (by kernel_rfl) (by kernel_rfl) (by kernel_rfl) (fun _ _ _ h => h) (Or.inl ⟨by rfl, ?_⟩) hHeld ?_
  rotate_left
  · intro w' hSw
    have c3 := hSw.c3
    clear hSw
    go_simp
    first | done | with_reducible rfl
  simp only [Act.put, List.getElem_toArray, List.getElem_cons_succ, List.getElem_cons_zero, List.setIfInBounds_toArray, List.set_cons_zero, List.set_cons_succ]
  refine wpAnyH_take (i := 12) (v := ?_) rfl (by kernel_rfl) (by kernel_rfl) (by kernel_rfl) (fun _ _ _ h => h) (Or.inl ⟨by rfl, ?_⟩) hHeld ?_
  rotate_left
  · intro w' hSw
    have c3 := hSw.c3
    clear hSw
    go_simp
    first | done | with_reducible rfl
  simp only [Act.put, List.getElem_toArray, List.getElem_cons_succ, List.getElem_cons_zero, List.setIfInBounds_toArray, List.set_cons_zero, List.set_cons_succ]
  refine wpAnyH_take (i := 13) (v := ?_) rfl (by kernel_rfl) (by kernel_rfl) (by kernel_rfl) (fun _ _ _ h => h) (Or.inl ⟨by rfl, ?_⟩) hHeld ?_
  rotate_left
  · intro w' hSw
    have c3 := hSw.c3
    clear hSw
    go_simp
    first | done | with_reducible rfl
  simp only [Act.put, List.getElem_toArray, List.getElem_cons_succ, List.getElem_cons_zero, List.setIfInBounds_toArray, List.set_cons_zero, List.set_cons_succ]
  refine wpAnyH_take (i := 14) (v := ?_) rfl (by kernel_rfl) (by kernel_rfl) (by kernel_rfl) (fun _ _ _ h => h) (Or.inl ⟨by rfl, ?_⟩) hHeld ?_
  rotate_left
  · intro w' hSw
    clear hSw
    go_simp
    first | done | with_reducible rfl
  simp only [Act.put, List.getElem_toArray, List.getElem_cons_succ, List.getElem_cons_zero, List.setIfInBounds_toArray, List.set_cons_zero, List.set_cons_succ]
  refine wpAnyH_take (i := 15) (v := ?_) rfl (by kernel_rfl) (by kernel_rfl) (by kernel_rfl) (fun _ _ _ h => h) (Or.inl ⟨by rfl, ?_⟩) hHeld ?_
  rotate_left
  · intro w' hSw
    clear hSw
    go_simp
    first | done | with_reducible rfl
  simp only [Act.put, List.getElem_toArray, List.getElem_cons_succ, List.getElem_cons_zero, List.setIfInBounds_toArray, List.set_cons_zero, List.set_cons_succ]
  rw [HIE.out]
  refine wpAnyH_done (by kernel_rfl) ?_ _
  clear hHeld HR5 hw6 hw10 hw14 hnz c3
  have HT2 : Hid (Tw w (tmc op fd n (.slice (some ⟨g, o, none⟩) ks.length cap)) W1.drew) := ⟨bel_drew HT.out.b, HT.out.n, HT.out.r, HT.out.sz⟩
  clear HT
  generalize W1.drew = W2 at HT2 ⊢
  have HN3 : Hid (Rw (fun b => b = W2.heap.size) 4 26 (W2.alloc (.cells #[] 26)) (.slice (some ⟨W2.heap.size, 0, none⟩) 0 0) 0 []) := ⟨by simp, Or.inr ⟨W2.heap.size, 0, 0, #[], rfl, rfl, heap_alloc_new _ _, by omega, by simp, by simp⟩⟩
  have hb3 : Below W2.heap.size W2 (W2.alloc (.cells #[] 26)) := (Below.refl _ _).alloc (Nat.le_refl _) _
  have HB3 := hid (HT2.out.b.trans (hb3.mono HT2.out.b.size))
  have HZ2 := hid HT2.out.sz
  have HA3 : Hid ((W2.alloc (.cells #[] 26)).heap[w.heap.size]? = some (.cells (tmc op fd n (.slice (some ⟨g, o, none⟩) ks.length cap)) 26 (0, 0))) := (hb3.block _ (by have := HZ2.out; omega)).trans HT2.out.n
  have HR3 : Hid ((W2.alloc (.cells #[] 26)).heap[w.heap.size + 1]? = some (.cells (tmc 0 0 0 nilS) 26 (0, 0))) := (hb3.block _ (by have := HZ2.out; omega)).trans HT2.out.r
  have hz3 : (W2.alloc (.cells #[] 26)).heap.size = W2.heap.size + 1 := by simp
  have HZ3 := hid hz3
  have c3 : (W2.alloc (.cells #[] 26)).cell? ⟨w.heap.size, 3, none⟩ = some (.slice (some ⟨g, o, none⟩) ks.length cap) := (four_cells HA3.out).2.2.2
  clear hb3 HT2 hz3
  have HXs : Hid (xs.length = ks.length * 4 ∧ (∀ x ∈ xs, x.oneCell' = true) ∧ w.rangeAt g o xs) := by
    obtain ⟨q1, ao', cap', q2, q3, q4⟩ := HM.out
    obtain ⟨g', o', q5, -, -, q6⟩ := q4 (by omega)
    cases q2
    cases q5
    exact ⟨q1, TiL.one (tis ks) xs HK.out, q6⟩
  go_upto_region 7 with (refine appRw (.tmp 37) (.tmp 39) 24 rfl rfl (v := .slice (some ⟨W2.heap.size, 0, none⟩) 0 0) (k := 4) (t := 26) (n := 0) (m := ks.length) (c := cap) (us := xs) (ad := ⟨g, o, none⟩) rfl rfl Tryd.underlying24 infoTM rfl (by omega) (by omega) HN3.out HXs.out.1 (fun jj x hx => by rw [Addr.add_lit]; exact (cell_same (HB3.out.block _ HPG.out.2)).trans (HXs.out.2.2 jj x hx)) HXs.out.2.1 (by omega) (Or.inl (by omega)) ?_; intro v' w5 hA hW; have HA := hid hA; have HW := hid (hW _ HN3.out); clear hA hW)
  generalize W2.alloc (.cells #[] 26) = W3 at HN3 HB3 HA3 HR3 HZ3 HA HW c3
  have HW1 := HW.out
  rw [Nat.zero_add, List.nil_append] at HW1
  obtain ⟨-, hwv⟩ := HW1
  rcases hwv with ⟨-, h0⟩ | ⟨g', o', cap', cur, rfl, hgS', hcur, hnc, hsz', hcx⟩
  · omega
  have hgn : w.heap.size + 1 < g' := by have := HZ2.out; have := HZ3.out; rcases hgS' with q | q <;> omega
  have hown5 : ∀ b, (Value.slice (some ⟨W2.heap.size, 0, none⟩) 0 0).ownBlock = some b → w.heap.size + 2 ≤ b := fun b hb => by
    have h9 : W2.heap.size = b := by simpa [Value.ownBlock] using hb
    have := HZ2.out
    omega
  have hb5 : Below (w.heap.size + 2) W3 w5 := (HA.out.only (S := fun b => w.heap.size + 2 ≤ b) (fun b hb => by have := HZ2.out; have := HZ3.out; show w.heap.size + 2 ≤ b; omega) hown5).below fun k hk => hk
  clear hown5
  have HB5 := hid (HB3.out.trans (hb5.mono (by omega)))
  have HA5 : Hid (w5.heap[w.heap.size]? = some (.cells (tmc op fd n (.slice (some ⟨g, o, none⟩) ks.length cap)) 26 (0, 0))) := (hb5.block _ (by omega)).trans HA3.out
  have HR5 : Hid (w5.heap[w.heap.size + 1]? = some (.cells (tmc 0 0 0 nilS) 26 (0, 0))) := (hb5.block _ (by omega)).trans HR3.out
  have HC5 : Hid (w5.drew.heap[g']? = some (.cells cur 26 (0, 0))) := hcur
  have HH7 : Hid (Rp7 w.heap.size (.slice (some ⟨g, o, none⟩) ks.length cap) g (o + i * 4) #[x0, x1, x2, x3] w5.drew) := ⟨(four_cells HA5.out).2.2.2, fun q v hq => (cell_same (HB5.out.block _ HPG.out.2)).trans (HRA.out q v hq)⟩
  have HBd : Hid (Below w.heap.size w w5.drew) := bel_drew HB5.out
  have HAd : Hid (w5.drew.heap[w.heap.size]? = some (.cells (tmc op fd n (.slice (some ⟨g, o, none⟩) ks.length cap)) 26 (0, 0))) := HA5.out
  have HRd : Hid (w5.drew.heap[w.heap.size + 1]? = some (.cells (tmc 0 0 0 nilS) 26 (0, 0))) := HR5.out
  have HGN := hid hgn
  have HCX : Hid (ks.length ≤ cap' ∧ o' + cap' * 4 ≤ cur.size ∧ (cur.toList.drop o').take (ks.length * 4) = xs) := ⟨hnc, hsz', hcx⟩
  clear HW HA hb5 hcur HA3 HR3 HB3 HB5 HA5 HR5 HZ2 HZ3 HN3 c3 hgn hsz' hcx hgS'
  have hic : i < cap := by omega
  have hic' : i < cap' := by omega
  have hpc1 : 1 ≤ pc := by omega
  obtain ⟨pa, hpa⟩ : ∃ pa : Addr, pa = if pc = 1 then ⟨pg, po, none⟩ else ⟨pg, po + 1, none⟩ := ⟨_, rfl⟩
  have HPa := hid hpa
  clear hpa
  refine wp_region_held_drew (S := Rp7 w.heap.size (.slice (some ⟨g, o, none⟩) ks.length cap) g (o + i * 4) #[x0, x1, x2, x3]) (by kernel_rfl) HH7.out (fun hHeld => ?_)
  generalize w5.drew = w6 at HC5 HH7 HBd HAd HRd hHeld ⊢
  refine wpAnyH_take (i := 0) (v := ?_) rfl (by kernel_rfl) (by kernel_rfl) (by kernel_rfl) (fun _ _ _ h => h) (Or.inl ⟨by rfl, ?_⟩) hHeld ?_
  rotate_left
  · intro w' hSw
    have c3 := hSw.c3
    clear hSw
    go_simp
    first | done | with_reducible rfl
  simp only [Act.put, List.getElem_toArray, List.getElem_cons_zero, List.setIfInBounds_toArray, List.set_cons_zero, List.set_cons_succ]
  refine wpAnyH_take (i := 1) (v := ?_) rfl (by kernel_rfl) (by kernel_rfl) (by kernel_rfl) (fun _ _ _ h => h) (Or.inl ⟨by rfl, ?_⟩) hHeld ?_
  rotate_left
  · intro w' hSw
    have c3 := hSw.c3
    clear hSw
    go_simp
    first | done | with_reducible rfl
  simp only [Act.put, List.getElem_toArray, List.getElem_cons_succ, List.getElem_cons_zero, List.setIfInBounds_toArray, List.set_cons_zero, List.set_cons_succ]
  refine wpAnyH_take (i := 2) (v := ?_) rfl (by kernel_rfl) (by kernel_rfl) (by kernel_rfl) (fun _ _ _ h => h) (Or.inl ⟨by rfl, ?_⟩) hHeld ?_
  rotate_left
  · intro w' hSw
    have c3 := hSw.c3
    clear hSw
    go_simp
    first | done | with_reducible rfl
  simp only [Act.put, List.getElem_toArray, List.getElem_cons_succ, List.getElem_cons_zero, List.setIfInBounds_toArray, List.set_cons_zero, List.set_cons_succ]
  refine wpAnyH_take (i := 3) (v := ?_) rfl (by kernel_rfl) (by kernel_rfl) (by kernel_rfl) (fun _ _ _ h => h) (Or.inl ⟨by rfl, ?_⟩) hHeld ?_
  rotate_left
  · intro w' hSw
    have c3 := hSw.c3
    clear hSw
    go_simp
    first | done | with_reducible rfl
  simp only [Act.put, List.getElem_toArray, List.getElem_cons_succ, List.getElem_cons_zero, List.setIfInBounds_toArray, List.set_cons_zero, List.set_cons_succ]
  refine wpAnyH_take (i := 4) (v := ?_) rfl (by kernel_rfl) (by kernel_rfl) (by kernel_rfl) (fun _ _ _ h => h) (Or.inl ⟨by rfl, ?_⟩) hHeld ?_
  rotate_left
  · intro w' hSw
    have c3 := hSw.c3
    clear hSw
    go_simp
    first | done | with_reducible rfl
  simp only [Act.put, List.getElem_toArray, List.getElem_cons_succ, List.getElem_cons_zero, List.setIfInBounds_toArray, List.set_cons_zero, List.set_cons_succ]
  refine wpAnyH_take (i := 5) (v := ?_) rfl (by kernel_rfl) (by kernel_rfl) (by kernel_rfl) (fun _ _ _ h => h) (Or.inl ⟨by rfl, ?_⟩) hHeld ?_
  rotate_left
  · intro w' hSw
    have c3 := hSw.c3
    clear hSw
    go_simp
    first | done | with_reducible rfl
  simp only [Act.put, List.getElem_toArray, List.getElem_cons_succ, List.getElem_cons_zero, List.setIfInBounds_toArray, List.set_cons_zero, List.set_cons_succ]
  refine wpAnyH_take (i := 6) (v := .agg #[x0, x1, x2, x3]) rfl (by kernel_rfl) (by kernel_rfl) (by kernel_rfl) (fun _ _ _ h => h) (Or.inl ⟨by rfl, ?_⟩) hHeld ?_
  · intro w' hSw
    exact runLd 26 (.tmp 46) rfl g (o + i * 4) rfl #[x0, x1, x2, x3] _ hSw.rk Tryd.underlying26 rfl sizeTM
  simp only [Act.put, List.getElem_toArray, List.getElem_cons_succ, List.getElem_cons_zero, List.setIfInBounds_toArray, List.set_cons_zero, List.set_cons_succ]
  refine wpAnyH_take (i := 7) (v := ?_) rfl (by kernel_rfl) (by kernel_rfl) (by kernel_rfl) (fun _ _ _ h => h) (Or.inl ⟨by rfl, ?_⟩) hHeld ?_
  rotate_left
  · intro w' hSw
    clear hSw
    go_simp
    first | done | with_reducible rfl
  simp only [Act.put, List.getElem_toArray, List.getElem_cons_succ, List.getElem_cons_zero, List.setIfInBounds_toArray, List.set_cons_zero, List.set_cons_succ]
  refine wpAnyH_take (i := 8) (v := .slice (some pa) m (pc - 1)) rfl (by kernel_rfl) (by kernel_rfl) (by kernel_rfl) (fun _ _ _ h => h) (Or.inl ⟨by rfl, ?_⟩) hHeld ?_
  · intro w' hSw
    exact runSl1 (.tmp 48) rfl pg po m pc rfl hpc pa HPa.out
  simp only [Act.put, List.getElem_toArray, List.getElem_cons_succ, List.getElem_cons_zero, List.setIfInBounds_toArray, List.set_cons_zero, List.set_cons_succ]
  have HPt : Hid (Rx (fun b => b < w6.heap.size) 1 w6 (.slice (some pa) p.length (pc - 1)) p.length (p.map (Value.int .i64))) := by
    refine ⟨by simp, _, _, rfl, by have := HMp.out; omega, fun hne => ?_⟩
    have hpc2 : ¬ pc = 1 := by have := HMp.out; omega
    rw [HPa.out, if_neg hpc2]
    have hl2 := HBd.out.size
    refine ⟨pg, po + 1, rfl, by have := HPG.out.1; show pg < w6.heap.size; omega, by have := HPG.out.1; omega, fun q v hq => ?_⟩
    obtain ⟨-, ao9, cap9, q2, q3, q4⟩ := HPx2.out
    obtain ⟨g9, o9, q5, -, -, q6⟩ := q4 (by omega)
    cases q2
    cases q5
    have := q6 (q + 1) v (by simpa using hq)
    rw [show po + 1 + q = po + (q + 1) by omega]
    exact (cell_same (HBd.out.block _ HPG.out.1)).trans this
  have HC := hid (HIH.out (fun b => b < w.heap.size ∧ S b) ks[i] #[x0, x1, x2, x3] _ w6 HSzk.out (by have := HMp.out; omega) (um_on HKV.out fun b hb hS => ⟨⟨hb, hS⟩, HBd.out.block b hb⟩) HPt.out)
  rw [← HMp.out] at HC
  clear HPt
  refine ready_one 9 _ (by kernel_rfl) rfl (stepFnW 23 (.func 23) [.tmp 47, .tmp 49] _ [.agg #[x0, x1, x2, x3], .slice (some pa) m (pc - 1)] rfl rfl rfl rfl (fun _ => rfl) _ HC.out ?_)
  rintro e w7 ⟨ds, rfl, hw, hds⟩
  refine Or.inl ⟨_, rfl, ?_⟩
  have hd4 := hds.size
  have HDS := hid hds
  have HW7 := hid hw
  have hRp : Rp7 w.heap.size (.slice (some ⟨g, o, none⟩) ks.length cap) g (o + i * 4) #[x0, x1, x2, x3] w7 := ⟨(cell_same (hw.block _ (Array.getElem?_eq_some_iff.1 HAd.out).1)).trans HH7.out.c3, fun q v hq => (cell_same (hw.block _ (by have := HBd.out.size; have := HPG.out.2; omega))).trans (HH7.out.rk q v hq)⟩
  have HC7 := hid ((hw.block _ (Array.getElem?_eq_some_iff.1 HC5.out).1).trans HC5.out)
  have HA7 := hid ((hw.block _ (Array.getElem?_eq_some_iff.1 HAd.out).1).trans HAd.out)
  have HR7 := hid ((hw.block _ (Array.getElem?_eq_some_iff.1 HRd.out).1).trans HRd.out)
  have HB7 := hid (HBd.out.trans (hw.mono HBd.out.size))
  clear hw hds HC hHeld
  refine ⟨hRp, ?_⟩
  simp only [Act.put, List.getElem_toArray, List.getElem_cons_succ, List.getElem_cons_zero, List.setIfInBounds_toArray, List.set_cons_zero, List.set_cons_succ]
  have hHeld := hRp
  refine wpAnyH_take (i := 10) (v := ?_) rfl (by kernel_rfl) (by kernel_rfl) (by kernel_rfl) (fun _ _ _ h => h) (Or.inl ⟨by rfl, ?_⟩) hHeld ?_
  rotate_left
  · intro w' hSw
    clear hSw
    go_simp
    first | done | with_reducible rfl
  simp only [Act.put, List.getElem_toArray, List.getElem_cons_succ, List.getElem_cons_zero, List.setIfInBounds_toArray, List.set_cons_zero, List.set_cons_succ]
  have hthere : w7.there g' (o' + i * 4) ds.size := fun j hj => by
    have hj4 : j < 4 := by omega
    have hlt : o' + i * 4 + j < cur.size := by have := HCX.out.2.1; omega
    refine ⟨?_, row_frozen8 HC7.out⟩
    rw [cell_of_row _ _ _ _ _ _ HC7.out, Array.getElem?_eq_getElem hlt]
    rfl
  refine an1 11 _ (by kernel_rfl) rfl (Sp.stM 26 (.tmp 51) (.tmp 50) rfl rfl g' (o' + i * 4) ds rfl rfl hthere (by rw [hd4]; exact sizeTM) HDS.out.one ?_)
  have hgne : w.heap.size ≠ g' ∧ g ≠ g' ∧ w.heap.size + 1 ≠ g' := by have := HGN.out; have := HPG.out.2; omega
  refine ⟨⟨(cell_same (cells_oth hgne.1 _ _ _)).trans hRp.c3, fun q v hq => (cell_same (cells_oth hgne.2.1 _ _ _)).trans (hRp.rk q v hq)⟩, ?_⟩
  simp only [Act.put, List.getElem_toArray, List.getElem_cons_succ, List.getElem_cons_zero]
  refine wpAnyH_done (by kernel_rfl) ?_ _
  have HA8 : Hid ((w7.setCells g' (o' + i * 4) ds.toList).heap[w.heap.size]? = some (.cells (tmc op fd n (.slice (some ⟨g, o, none⟩) ks.length cap)) 26 (0, 0))) := (cells_oth hgne.1 _ _ _).trans HA7.out
  have HR8 : Hid ((w7.setCells g' (o' + i * 4) ds.toList).heap[w.heap.size + 1]? = some (.cells (tmc 0 0 0 nilS) 26 (0, 0))) := (cells_oth hgne.2.2 _ _ _).trans HR7.out
  have HB8 : Hid (Below w.heap.size w (w7.setCells g' (o' + i * 4) ds.toList)) := bel_cells (by have := HGN.out; omega) _ _ HB7.out
  have HO8 : Hid (∀ b, b ≠ g' → (w7.setCells g' (o' + i * 4) ds.toList).heap[b]? = w7.heap[b]?) := fun b hb => cells_oth hb _ _ _
  have HZ8 : Hid ((w7.setCells g' (o' + i * 4) ds.toList).heap.size = w7.heap.size) := cells_size _ _ _ _
  have HD8 : Hid ((w7.setCells g' (o' + i * 4) ds.toList).rangeAt g' (o' + i * 4) ds.toList) := World.rangeAt_setCells_same _ _ _ _ (by simpa using hthere)
  have HK8 : Hid (∀ q (_ : q < ks.length), q ≠ i → ∀ es : List Value, es.length = 4 → w7.rangeAt g' (o' + q * 4) es → (w7.setCells g' (o' + i * 4) ds.toList).rangeAt g' (o' + q * 4) es) := fun q _ hne es h4 hr => World.rangeAt_setCells_apart hr _ _ _ (Or.inr (by simp; omega))
  clear hHeld hRp hthere HA7 HR7 HAd HRd HH7
  generalize w7.setCells g' (o' + i * 4) ds.toList = w8 at HA8 HR8 HB8 HO8 HZ8 HD8 HK8 ⊢
  have c38 : w8.cell? ⟨w.heap.size, 3, none⟩ = some (.slice (some ⟨g, o, none⟩) ks.length cap) := (four_cells HA8.out).2.2.2
  have f38 : w8.frozen? ⟨w.heap.size, 3, none⟩ = false := row_frozen8 HA8.out
  go_upto_region 9 with fail
  clear c38 f38
  have HA9 : Hid ((w8.setCell ⟨w.heap.size, 3, none⟩ (.slice (some ⟨g', o', none⟩) ks.length cap')).heap[w.heap.size]? = some (.cells (tmc op fd n (.slice (some ⟨g', o', none⟩) ks.length cap')) 26 (0, 0))) := heap_setCell_same w8 w.heap.size 3 _ _ _ HA8.out
  have HO9 : Hid (∀ b, b ≠ w.heap.size → (w8.setCell ⟨w.heap.size, 3, none⟩ (.slice (some ⟨g', o', none⟩) ks.length cap')).heap[b]? = w8.heap[b]?) := fun b hb => heap_setCell_other w8 ⟨w.heap.size, 3, none⟩ b _ hb
  have HB9 : Hid (Below w.heap.size w (w8.setCell ⟨w.heap.size, 3, none⟩ (.slice (some ⟨g', o', none⟩) ks.length cap'))) := HB8.out.setCell (p := ⟨w.heap.size, 3, none⟩) (Nat.le_refl _) _
  have HZ9 : Hid ((w8.setCell ⟨w.heap.size, 3, none⟩ (.slice (some ⟨g', o', none⟩) ks.length cap')).heap.size = w8.heap.size) := by show _ = _; simp
  generalize w8.setCell ⟨w.heap.size, 3, none⟩ (.slice (some ⟨g', o', none⟩) ks.length cap') = w9 at HA9 HO9 HB9 HZ9 ⊢
  have HR9 : Hid (w9.heap[w.heap.size + 1]? = some (.cells (tmc 0 0 0 nilS) 26 (0, 0))) := (HO9.out _ (by omega)).trans HR8.out
  go_wp2_with (first
    | (refine ldRow 26 (.tmp 2) rfl rfl w.heap.size rfl 26 (tmc op fd n (.slice (some ⟨g', o', none⟩) ks.length cap')) _ Tryd.underlying26 rfl sizeTM HA9.out ?_)
    | (refine stRow 26 (.tmp 4) (.tmp 54) rfl rfl (w.heap.size + 1) (tmc op fd n (.slice (some ⟨g', o', none⟩) ks.length cap')) rfl rfl 26 (tmc 0 0 0 nilS) HR9.out sizeTM rfl (tic_one _ _ _ _ _ _) ?_))
  refine bodyPost_ret (v := .agg (tmc op fd n (.slice (some ⟨g', o', none⟩) ks.length cap'))) (res_tm Tryd.results23 _ _ (w.heap.size + 1) _ sizeTM rfl (setRow_heap _ _ _ _ _ _ HR9.out)) rfl ?_
  refine ⟨_, rfl, bel_row HB9.out (by omega) _, ?_⟩
  have hall : ∀ b, b ≠ g' → b ≠ w.heap.size → b ≠ w.heap.size + 1 → (w9.setRow (w.heap.size + 1) (tmc op fd n (.slice (some ⟨g', o', none⟩) ks.length cap'))).heap[b]? = w7.heap[b]? := fun b h1 h2 h3 => (setRow_other _ _ b _ h3).trans ((HO9.out b h2).trans (HO8.out b h1))
  have hallg : (w9.setRow (w.heap.size + 1) (tmc op fd n (.slice (some ⟨g', o', none⟩) ks.length cap'))).heap[g']? = w8.heap[g']? := (setRow_other _ _ g' _ (by have := HGN.out; omega)).trans (HO9.out _ (by have := HGN.out; omega))
  have hgl7 : g' < w6.heap.size := (Array.getElem?_eq_some_iff.1 HC5.out).1
  have hs67 := HW7.out.size
  refine um_set HCX.out.1 (Or.inr (by have := HGN.out; omega)) (by have h1 := HZ8.out; have h2 := HZ9.out; simp [World.setRow]; omega) ⟨ds, um_on HDS.out fun b hb hS => ?_, fun q v hq => (cell_same hallg).trans (HD8.out q v hq)⟩ fun q hq hqi => ?_
  · rcases hS with ⟨hl6, hlw, hS⟩ | hS
    · exact ⟨Or.inl ⟨hlw, hS⟩, hall b (by have := HGN.out; omega) (by omega) (by omega)⟩
    · have := HBd.out.size
      have hz9 := (Array.getElem?_eq_some_iff.1 HR9.out).1
      have hw67 : w.heap.size + 1 < w6.heap.size := by have := HGN.out; omega
      exact ⟨Or.inr (by omega), hall b (by omega) (by omega) (by omega)⟩
  · obtain ⟨es, he1, he2⟩ := UmL.at ks xs q hq HK.out
    have he4 := he1.size
    refine ⟨es, um_on he1 fun b hb hS => ⟨Or.inl ⟨hb, hS⟩, (hall b (by have := HGN.out; omega) (by omega) (by omega)).trans (HB7.out.block b hb)⟩, ?_⟩
    have h7 : w7.rangeAt g' (o' + q * 4) es.toList := fun j v hj => by
      have hj4 : j < 4 := by have := (List.getElem?_eq_some_iff.1 hj).1; simp at this; omega
      rw [cell_of_row _ _ _ _ _ _ HC7.out, show o' + q * 4 + j = o' + (q * 4 + j) by omega, cells_at HCX.out.2.2 (by omega), he2 j hj4]
      simpa using hj
    have h8 := HK8.out q hq hqi es.toList (by simpa using he4) h7
    exact fun j v hj => (cell_same hallg).trans (h8 j v hj)
theorem rep_any : ∀ (p : List Int) (S : Nat → Prop) (t : Tm) (cs : Array Value) (pv : Value) (w : World), sz t ≤ 4096 → p.length ≤ 200 → UmV S w t cs → Rx (fun b => b < w.heap.size) 1 w pv p.length (p.map (Value.int .i64)) → Calls Tryd.prog 23 #[.agg cs, pv] w fun e w' => ∃ ds, e = .returned (.agg ds) ∧ Below w.heap.size w w' ∧ UmV (fun b => (b < w.heap.size ∧ S b) ∨ w.heap.size ≤ b) w' (repT p t) ds := by
  intro p
  induction p with
  | nil =>
    rintro S ⟨op, fd, n, ks⟩ cs pv w hs hl ht hp
    obtain ⟨v, xs, rfl, h2, h3⟩ := ht.get
    obtain ⟨ao, cap, rfl⟩ := h2.form
    obtain ⟨pao, pc, rfl⟩ := hp.form
    rw [repT_nil]
    rw [sz] at hs
    exact rep_cut S [] op fd n ks pao ao pc cap w (Or.inl rfl) hl (by have := len_szs ks ks.length (Nat.le_refl _); rw [List.take_length] at this; omega)
  | cons a p ih => exact rep_step p a ih
end Go.Proofs.YtjallmncajhamaaDoor
