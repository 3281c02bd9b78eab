/-
  Proved here: NodesRows answers true; no old memory turns. Conditions: the rows lie where they are said to; the tables hold their numbers.
-/
import Derived.Test.YtokijknidkajhaaDoorDA
import Derived.Test.YtokijknidkajhaaDoorWN
namespace Go.Proofs.YtokijknidkajhaaDoor
open Go.RowKit Go.Maps
set_option maxRecDepth 100000

theorem run_bA (ao : Option Addr) (n c : Nat) (w : World) : (Instr.build 35 #[(1, .slice ao n c)]).run Tryd.prog w = .ok (.agg #[.int .i64 0, .slice ao n c, .int .i8 0, .int .u64 0, .int .i64 0, .int .i64 0]) w := by
  kernel_rfl
theorem putR_one {x : Nd} {id er : Int} {all' : List Nd} (h : PutR [] x id er all') : id = 0 ∧ er = 0 ∧ all' = [x] := by
  simpa using putR_new h (by simp) (by simp)
theorem putR_two {x : Nd} {id er : Int} {all' : List Nd} (h : PutR [x] x id er all') : id = 0 ∧ er = 0 ∧ all' = [x] := by
  simpa using putR_old h (by simp) (by simp) 0 (by simp) rfl
theorem leaf_twice {R M : List (List Ac)} {a e b f : Int} {l1 l2 : List Nd} (h1 : LeafR [] R a e l1) (h2 : LeafR l1 M b f l2) (hM : nrows M = nrows R) : (a = 0 ∧ e = 2 ∧ b = 0 ∧ f = 2 ∧ l2 = []) ∨ ∃ K, nrows R = some K ∧ a = 0 ∧ e = 0 ∧ b = 0 ∧ f = 0 ∧ l2 = [lfN K] := by
  rcases h1 with ⟨q1, rfl, rfl, rfl⟩ | ⟨K, q1, hp⟩
  · rcases h2 with ⟨_, rfl, rfl, rfl⟩ | ⟨K, q2, _⟩
    · exact Or.inl ⟨rfl, rfl, rfl, rfl, rfl⟩
    · rw [hM, q1] at q2; cases q2
  · obtain ⟨rfl, rfl, rfl⟩ := putR_one hp
    rcases h2 with ⟨q2, _⟩ | ⟨K2, q2, hp2⟩
    · rw [hM, q1] at q2; cases q2
    · rw [hM, q1] at q2
      simp only [Option.some.injEq] at q2
      subst q2
      obtain ⟨rfl, rfl, rfl⟩ := putR_two hp2
      exact Or.inr ⟨K, q1, rfl, rfl, rfl, rfl, rfl⟩
/-- where the turning over is -/
structure BkS (w : World) (l : List Ac) (j : Nat) (v : Value) (wr : World) : Prop where
  low : Below w.heap.size w wr
  rw : Rw (fun b => w.heap.size ≤ b) 3 54 wr v j (acL (l.take j))
theorem acL_snoc (l : List Ac) (a : Ac) : acL (l ++ [a]) = acL l ++ (acl a).toList := by simp [acL]
theorem BkS.app {w : World} {l : List Ac} {j : Nat} {v v' : Value} {wr wr1 w' : World} (h : BkS w l j v wr) (hj : j < l.length) (hb : Below wr.heap.size wr wr1) (hA : Apd wr1 v w') (hR : Rw (fun b => w.heap.size ≤ b ∨ wr1.heap.size ≤ b) 3 54 w' v' (j + 1) (acL (l.take j) ++ (acl l[j]).toList)) : BkS w l (j + 1) v' w' := by
  have hz := h.low.size
  have hz1 := hb.size
  refine ⟨(h.low.trans (hb.mono hz)).trans ⟨hA.os, hA.tape, hA.output, hA.size, fun k hk => hA.block k (by omega) fun e => by have := h.rw.own k e; omega⟩, ?_⟩
  have e : acL (l.take (j + 1)) = acL (l.take j) ++ (acl l[j]).toList := by rw [← acL_snoc]; simp
  rw [e]
  exact hR.carry fun b _ hS => ⟨by omega, rfl⟩
/-- What a comparison of two settings of one row reads. -/
structure Hnr (A b1 i1 g1 j1 q1 : Nat) (u v : Value) (x y : Int) (w : World) : Prop where
  c4 : w.cell? ⟨A, 4, none⟩ = some u
  r1 : w.cell? ⟨b1, i1, none⟩ = some v
  f1 : w.cell? ⟨g1, j1, none⟩ = some (.int .i8 x)
  f0 : w.cell? ⟨g1, q1, none⟩ = some (.int .i8 y)
theorem oth_next (R : List (List Ac)) (turn : Int) (i k : Nat) (hk : k < R.length) (h : gI R.length turn i = k) : oth R turn (i + 1) = oth R turn i ++ [R[k].reverse] := by
  unfold oth
  rw [List.range_succ, List.map_append, List.map_cons, List.map_nil, h, List.getD_eq_getElem?_getD, List.getElem?_eq_getElem hk, Option.getD_some]
set_option maxHeartbeats 25600000 in
theorem nodesRows_any {T : Nat → Prop} (w : World) (v : Value) (rows : List (List Ac)) (turn : Int) (hc : Cps T w v rows) (_hTl : ∀ b, T b → b < w.heap.size) (ht : I64 turn) (hT : Tabs w.heap.size w) : Calls Tryd.prog 7 #[v, .int .i64 turn] w fun e w' => e = .returned (.bool true) ∧ Below w.heap.size w w' := by
  obtain ⟨ao, cap, rfl, hcap⟩ := hc.form
  have hlen := hc.len
  have hbA := fun W => run_bA ao rows.length cap W
  obtain ⟨W1, hW1⟩ : ∃ W1, W1 = w.alloc (.cells #[.int .i64 0, .slice ao rows.length cap, .int .i8 0, .int .u64 0, .int .i64 0, .int .i64 0] 35) := ⟨_, rfl⟩
  have hal : Below w.heap.size w W1 := by rw [hW1]; exact (Below.refl _ _).alloc (Nat.le_refl _) _
  have hnew : W1.heap[w.heap.size]? = some (.cells #[.int .i64 0, .slice ao rows.length cap, .int .i8 0, .int .u64 0, .int .i64 0, .int .i64 0] 35 (0, 0)) := by rw [hW1]; exact heap_alloc_new _ _
  have hz1 : W1.heap.size = w.heap.size + 1 := by rw [hW1]; simp
  have HW : Hid (w.alloc (.cells #[.int .i64 0, .slice ao rows.length cap, .int .i8 0, .int .u64 0, .int .i64 0, .int .i64 0] 35) = W1) := hW1.symm
  have hc1 : Cps (fun b => b < W1.heap.size) W1 (.slice ao rows.length cap) rows := hc.carry fun b hb hT => ⟨by omega, hal.block b hb⟩
  have hats : Ats (fun b => b < W1.heap.size) W1 (.slice (some ⟨w.heap.size, 0, none⟩) 1 1) [⟨0, rows, 0, 0, 0, 0⟩] := ⟨_, 1, rfl, Nat.le_refl _, by simp, (fun h => by cases h), fun _ => ⟨w.heap.size, 0, by show w.heap.size < W1.heap.size; omega, rfl, fun j hj => by
    have : j = 0 := by simp at hj; omega
    subst this
    exact ⟨(cell_of_row _ _ _ _ _ _ hnew).trans rfl, ⟨_, (cell_of_row _ _ _ _ _ _ hnew).trans rfl, hc1⟩, (cell_of_row _ _ _ _ _ _ hnew).trans rfl, (cell_of_row _ _ _ _ _ _ hnew).trans rfl, (cell_of_row _ _ _ _ _ _ hnew).trans rfl, (cell_of_row _ _ _ _ _ _ hnew).trans rfl, ⟨by simp, by simp [InB], by simp [I64], by simp [I64]⟩, by simp [I64]⟩⟩⟩
  have hg := great_any W1 _ _ hats
  have HAl := hid hal
  have HT1 : Hid (Tabs W1.heap.size W1) := (hT.on hal).up hal.size
  have HC1 := hid hc1
  clear hW1 hal hnew hats hc hc1 hT
  by_cases hbig : tot rows ≤ 8192
  case neg =>
    have HG : Hid (Calls Tryd.prog 8 #[.slice (some ⟨w.heap.size, 0, none⟩) 1 1] W1 fun e w' => e = .returned (.bool true) ∧ w' = W1) := hg.mono fun e w' ⟨h1, h2⟩ => ⟨by rw [h1, decide_eq_false (by simp only [totA]; omega)]; rfl, h2⟩
    have HWk := hid (wakes_any W1.heap.size W1 HT1.out (Nat.le_refl _))
    clear hg hbig
    go_enter Tryd.func7, Tryd.ntmps7
    go_wp2_with (first
      | (go_at_call 8; rw [show w.alloc (.cells #[.int .i64 0, .slice ao rows.length cap, .int .i8 0, .int .u64 0, .int .i64 0, .int .i64 0] 35) = W1 from HW.out]; refine (HG.out).mono ?_; rintro e w' ⟨rfl, hw⟩; obtain rfl : W1 = w' := hw.symm)
      | (go_at_call 9; refine (HWk.out).mono ?_; rintro e W2 ⟨rfl, hb⟩; have HB := hid (HAl.out.trans (hb.mono HAl.out.size)); clear hb HWk))
    go_ret
    exact ⟨rfl, HB.out⟩
  have HG : Hid (Calls Tryd.prog 8 #[.slice (some ⟨w.heap.size, 0, none⟩) 1 1] W1 fun e w' => e = .returned (.bool false) ∧ w' = W1) := hg.mono fun e w' ⟨h1, h2⟩ => ⟨by rw [h1, decide_eq_true (by simp only [totA, List.length_cons, List.length_nil]; omega)]; rfl, h2⟩
  have HBig := hid hbig
  obtain ⟨hrl, hrr⟩ := tot_len rows
  have hn2 : rows.length ≤ 8192 := by omega
  have HRR := hid hrr
  clear hg hbig hrr
  go_enter Tryd.func7, Tryd.ntmps7
  go_upto_region 4 with (first
    | (go_at_call 8; rw [show w.alloc (.cells #[.int .i64 0, .slice ao rows.length cap, .int .i8 0, .int .u64 0, .int .i64 0, .int .i64 0] 35) = W1 from HW.out]; refine (HG.out).mono ?_; rintro e w' ⟨rfl, hw⟩; obtain rfl : W1 = w' := hw.symm; clear HG HW)
    | (go_at_call 10; refine (new_any _).mono ?_; rintro e W2 ⟨p, rfl, hb, hs⟩; have H2 : Hid (Wk W1 p [] W2) := ⟨hs, hb, HT1.out.on hb⟩; clear hb hs))
  clear hbA
  have C1 := hid (leafW H2.out.st (.slice ao rows.length cap) rows (HC1.out.carry fun b hb hT => ⟨hT, H2.out.low.block b hb⟩) (fun b hb => Nat.lt_of_lt_of_le hb H2.out.low.size) (by have := HBig.out; omega) H2.out.tab H2.out.low.size)
  go_upto_region 8 with (go_at_call 11; refine (C1.out).mono ?_; rintro e W3 ⟨a, er, all1, rfl, hr, hs, _, hb, ht⟩; have HL1 := hid hr; have H3 : Hid (Wk W1 p all1 W3) := ⟨hs, H2.out.low.trans hb, ht⟩; clear hb hs hr ht C1 H2)
  have HS0 : Hid (LrS W3 [] nilS W3) := ⟨Below.refl _ _, Rw.nil _ _ _ _, fun x hx => by cases hx⟩
  go_loopw [8, 10] (fun vo si wr => ∃ (i : Nat) (d : List Rv) (vv : Value), vv = vo ∧ si = .int .i64 ((i : Nat) : Int) ∧ i ≤ 2 * rows.length ∧ d.length = i ∧ Hid (d.map (·.2) = oth rows turn i) ∧ Hid (LrS W3 d vv wr)) (fun _ si _ => 2 * rows.length - (intOf si).toNat)
  case atStart => exact ⟨0, [], _, rfl, rfl, Nat.zero_le _, rfl, by show _ = _; simp [oth], HS0.out⟩
  case round =>
    clear HS0
    obtain ⟨i, d, vv, rfl, rfl, hi1, hdi, HD, HS⟩ := hrel
    have hw0 : IntKind.i64.wrap (2 * (rows.length : Int)) = 2 * (rows.length : Int) := by rw [IntKind.wrap_i64]; omega
    by_cases hi : i < 2 * rows.length
    · have hd : decide ((i : Int) < 2 * (rows.length : Int)) = true := decide_eq_true (by omega)
      have hn0 : 0 < rows.length := by omega
      have g0 : ((rows.length : Int) == 0) = false := beq_eq_false_iff_ne.2 (by omega)
      obtain ⟨x, hx⟩ : ∃ x, IntKind.i64.wrap ((i : Int) + turn) = x := ⟨_, rfl⟩
      obtain ⟨q1, q2, q3, q4⟩ := gI_in hn0 x
      have hr1 : IntKind.i64.wrap (x.tmod (rows.length : Int)) = x.tmod (rows.length : Int) := by rw [IntKind.wrap_i64]; omega
      have hr2 : IntKind.i64.wrap (x.tmod (rows.length : Int) + (rows.length : Int)) = x.tmod (rows.length : Int) + (rows.length : Int) := by rw [IntKind.wrap_i64]; omega
      obtain ⟨k, hk⟩ : ∃ k : Nat, (x.tmod (rows.length : Int) + (rows.length : Int)).tmod (rows.length : Int) = (k : Int) := ⟨_, (Int.toNat_of_nonneg q3).symm⟩
      have hr3 : IntKind.i64.wrap ((k : Nat) : Int) = ((k : Nat) : Int) := by rw [IntKind.wrap_i64]; omega
      have hkl : k < rows.length := by omega
      have hkg : gI rows.length turn i = k := by unfold gI; rw [hx, hk]; simp
      have HOn := hid (oth_next rows turn i k hkl hkg)
      have HLow : Hid (Below W1.heap.size W1 wr) := H3.out.low.trans (HS.out.low.mono H3.out.low.size)
      have hcw : Cps (fun b => b < W1.heap.size) wr (.slice ao rows.length cap) rows := HC1.out.carry fun b hb hT => ⟨hT, HLow.out.block b hb⟩
      obtain ⟨b1, o1, u, rfl, -, hu, hac⟩ := hcw.cell1 k hkl
      obtain ⟨a1, k1, rfl, hk1⟩ := hac.form
      have hrl2 := HRR.out _ (List.getElem_mem hkl)
      have HBg := HBig.out
      have hrl3 : rows[k].length ≤ 8192 := by omega
      have HAC := hid hac
      have HFit := hid hac.fit
      have hi3 : IntKind.i64.wrap ((i : Int) + 1) = (i : Int) + 1 := by rw [IntKind.wrap_i64]; omega
      have hkc : k < cap := by omega
      clear hac hcw hrl2 HBg hkg q1 q2 q3 q4
      generalize rows[k] = r at HOn hu HAC HFit hk1 hrl3
      have hwl : IntKind.i64.wrap ((r.length : Int) - 1) = (r.length : Int) - 1 := by rw [IntKind.wrap_i64]; omega
      go_upto_region 13 with fail
      clear hu hx hk hr1 hr2 hr3
      generalize wr = W4 at HS HLow HAC ⊢
      go_loopw [12, 13] (fun vb sk wr => ∃ (j : Nat) (v2 : Value), v2 = vb ∧ sk = .int .i64 ((r.length : Int) - 1 - (j : Int)) ∧ j ≤ r.length ∧ Hid (BkS W4 r.reverse j v2 wr)) (fun _ sk _ => (intOf sk + 1).toNat)
      case atStart => exact ⟨0, _, rfl, by simp, Nat.zero_le _, ⟨Below.refl _ _, by rw [List.take_zero]; exact Rw.nil _ _ _ _⟩⟩
      case round =>
        obtain ⟨j, vb, rfl, rfl, hj1, HB⟩ := hrel
        by_cases hj : j < r.length
        · obtain ⟨q, hq⟩ : ∃ q : Nat, (r.length : Int) - 1 - (j : Int) = (q : Int) := ⟨r.length - 1 - j, by omega⟩
          have hql : q < r.length := by omega
          have dj : decide ((0 : Int) ≤ (q : Int)) = true := decide_eq_true (by omega)
          have hwq : IntKind.i64.wrap ((q : Int) - 1) = (r.length : Int) - 1 - ((j + 1 : Nat) : Int) := by rw [IntKind.wrap_i64]; omega
          have hjr : j < r.reverse.length := by simpa using hj
          have hrj : r.reverse[j] = r[q] := by rw [List.getElem_reverse]; congr 1; omega
          obtain ⟨g1, j1, rfl, -, -, hra, -⟩ := (HAC.out.on HB.out.low).at q hql
          have HRA := hid hra
          have HAp := fun (v' : Value) (wr1 w' : World) (h1 : Below wr.heap.size wr wr1) (h2 : Apd wr1 vb w') h3 => HB.out.app (v' := v') hjr h1 h2 h3
          rw [hrj] at HAp
          have HAp2 := hid HAp
          have hqc : q < k1 := by omega
          clear hra HAp hrj
          generalize r[q] = a at HRA HAp2
          have hal : Below wr.heap.size wr (wr.alloc (.cells (acl a) 54)) := (Below.refl _ _).alloc (Nat.le_refl _) _
          have HRw : Hid (Rw (fun b => W4.heap.size ≤ b) 3 54 (wr.alloc (.cells (acl a) 54)) vb j (acL (r.reverse.take j))) := HB.out.rw.carry fun b hb hS => ⟨hS, hal.block b hb⟩
          have HC4 : Hid (∀ (i : Nat) (x : Value), ((acl a).toList)[i]? = some x → (wr.alloc (.cells (acl a) 54)).cell? (Addr.add ⟨wr.heap.size, 0, none⟩ i) = some x) := fun i x hx => by
            rw [Addr.add_lit, Nat.zero_add, cell_of_row _ _ _ _ _ _ (heap_alloc_new _ _), ← hx]; simp
          have HAl2 := hid hal
          clear hal
          go_wp2_with (first
            | (refine ldMid 54 (.tmp 62) rfl rfl g1 (j1 + q * 3) rfl (acl a) _ Tryd.underlying54 rfl infoACT HRA.out ?_)
            | (refine appRw (v := vb) (S := fun b => W4.heap.size ≤ b) (k := 3) (t := 54) (n := j) (m := 1) (c := 1) (xs := acL (r.reverse.take j)) (us := (acl a).toList) (ad := ⟨wr.heap.size, 0, none⟩) (.tmp 59) (.tmp 64) 52 rfl rfl rfl rfl Tryd.underlying52 infACT rfl (by omega) (by omega) HRw.out rfl HC4.out (by intro x hx; simp at hx; rcases hx with rfl | rfl | rfl <;> rfl) (by omega) (Or.inl (by omega)) ?_; intro v6 w6 hap hrw; have HB6 := hid (HAp2.out v6 _ w6 HAl2.out hap (hrw _ HRw.out)); clear hap hrw HRw HC4 HAl2 HAp2))
          go_roundw
          case rel => exact ⟨j + 1, v6, rfl, rfl, hj, HB6⟩
          case measure => simp [intOf]; omega
        · have hq : (r.length : Int) - 1 - (j : Int) = -1 := by omega
          obtain rfl : j = r.length := by omega
          have HU0 : Hid (Acs (fun b => W3.heap.size ≤ b ∧ vv.ownBlock ≠ some b) wr vb r.reverse) := by
            have h1 := HB.out.rw
            rw [List.take_of_length_le (by simp)] at h1
            have h2 := HS.out.low.size
            exact (acs_of (by rw [List.length_reverse]; exact h1) (fun a ha => HFit.out a (List.mem_reverse.1 ha)) (by rw [List.length_reverse]; omega)).carry fun b hb hS => ⟨⟨by omega, fun e => by have := HS.out.rw.ownLt b e; omega⟩, rfl⟩
          obtain ⟨a2, c2, hvv, -⟩ := HU0.out.form
          subst hvv
          have HS2 := hid (HS.out.more HB.out.low)
          have hal : Below wr.heap.size wr (wr.alloc (.cells #[.slice a2 r.reverse.length c2] 52)) := (Below.refl _ _).alloc (Nat.le_refl _) _
          have HS4 := hid (HS2.out.more hal)
          have HU4 := hid (HU0.out.on hal)
          have HC4 : Hid (∀ (i : Nat) (x : Value), ([Value.slice a2 r.reverse.length c2] : List Value)[i]? = some x → (wr.alloc (.cells #[.slice a2 r.reverse.length c2] 52)).cell? (Addr.add ⟨wr.heap.size, 0, none⟩ i) = some x) := (fun i x hx => by rw [Addr.add_lit, Nat.zero_add, cell_of_row _ _ _ _ _ _ (heap_alloc_new _ _), ← hx]; simp)
          have hdl : d.length < 2147483647 := by omega
          clear hal HS2 HU0 HB HS
          generalize r.reverse = r2 at HU4 HC4 HS4 HOn ⊢
          go_wp2_with (refine appRw (v := vv) (S := fun b => W3.heap.size ≤ b) (k := 1) (t := 52) (n := d.length) (m := 1) (c := 1) (xs := d.map (·.1)) (us := [.slice a2 r2.length c2]) (ad := ⟨wr.heap.size, 0, none⟩) (.tmp 66) (.tmp 68) 31 rfl rfl rfl rfl Tryd.underlying31 infACTS rfl (by omega) (by omega) HS4.out.rw (by simp) HC4.out (by intro x hx; obtain rfl := List.mem_singleton.1 hx; rfl) (by omega) (Or.inl (by omega)) ?_; intro v6 w6 hap hrw; have HS6 := hid (HS4.out.app _ _ HU4.out hap hrw); clear hap hrw HS4 HU4 HC4)
          have HD2 : Hid ((d ++ [((Value.slice a2 r2.length c2, r2) : Rv)]).map (·.2) = oth rows turn (i + 1)) := by show _ = _; rw [HOn.out, List.map_append, HD.out]; rfl
          go_roundw
          case rel => exact ⟨i + 1, d ++ [(.slice a2 r2.length c2, r2)], v6, rfl, by rw [show (((i + 1 : Nat) : Nat) : Int) = (i : Int) + 1 by omega], by omega, by simp [hdi], HD2, HS6⟩
          case measure => simp [intOf]; omega
    · have hd : decide ((i : Int) < 2 * (rows.length : Int)) = false := decide_eq_false (by omega)
      obtain rfl : i = 2 * rows.length := by omega
      have H4 := hid (H3.out.on HS.out.low)
      have HC2 : Hid (Cps (fun b => b < wr.heap.size) wr vv (oth rows turn (2 * rows.length))) := by
        show Cps _ _ _ _
        rw [← HD.out]
        exact (cps_rv HS.out.rw (fun x hx => (HS.out.ac x hx).carry fun b _ hS => ⟨hS.1, rfl⟩) (by omega)).carry fun b hb _ => ⟨hb, rfl⟩
      have C2 := hid (leafW H4.out.st vv (oth rows turn (2 * rows.length)) HC2.out (fun b hb => hb) (by have := oth_tot rows turn ht hn2; have := HBig.out; omega) H4.out.tab H4.out.low.size)
      clear HS HD HC2
      go_upto_region 18 with (go_at_call 11; refine (C2.out).mono ?_; rintro e W5 ⟨b, f, all2, rfl, hr, hs, _, hb, ht⟩; have HL2 := hid hr; have H5 : Hid (Wk W1 p all2 W5) := ⟨hs, H4.out.low.trans hb, ht⟩; clear hb hs hr ht C2 H4)
      rcases leaf_twice HL1.out HL2.out (oth_rows rows turn ht hn2) with ⟨rfl, rfl, rfl, rfl, rfl⟩ | ⟨K, hK, rfl, rfl, rfl, rfl, rfl⟩
      · have HLn : Hid (Calls Tryd.prog 18 #[ptr p] W5 fun e w' => e = .returned (.int .i64 0) ∧ w' = W5) := len_any H5.out.st
        have HWk := hid (wakes_any W1.heap.size W5 (H5.out.tab) (H5.out.low.size))
        go_wp2_with (first
          | (go_at_call 18; refine (HLn.out).mono ?_; rintro e w' ⟨rfl, hw⟩; obtain rfl : W5 = w' := hw.symm; clear HLn)
          | (go_at_call 9; refine (HWk.out).mono ?_; rintro e W6 ⟨rfl, hb⟩; have HB := hid ((HAl.out.trans (H5.out.low.mono HAl.out.size)).trans (hb.mono (Nat.le_trans HAl.out.size H5.out.low.size))); clear hb HWk))
        go_ret
        exact ⟨rfl, HB.out⟩
      · have CG : Hid (Calls Tryd.prog 15 #[ptr p, .int .i64 0] W5 fun e w' => ∃ a0 k0, e = .returned (.tuple #[.agg (ndc (.slice a0 K.length k0, lfN K)), .bool true]) ∧ Below W5.heap.size W5 w' ∧ Cps (fun b => W5.heap.size ≤ b) w' (.slice a0 K.length k0) K) := (get_ok H5.out.st 0 (by simp)).mono (by
          rintro e w' ⟨u, he, hb, hcp⟩
          obtain ⟨a0, k0, rfl, -⟩ := Lst.form hcp
          exact ⟨a0, k0, he, hb, hcp⟩)
        have HK1 := hid (nrows_rise hK)
        have hK2 := nrows_le hK
        clear hK
        have HZ5 := hid (Nat.le_trans HAl.out.size H5.out.low.size)
        have HB5 : Hid (Below w.heap.size w W5) := HAl.out.trans (H5.out.low.mono HAl.out.size)
        go_upto_region 23 with (first
          | (go_at_call 15; refine (CG.out).mono ?_; rintro e W6 ⟨a0, k0, rfl, hb, hcp⟩; have hal : Below W6.heap.size W6 (W6.alloc (.cells (ndc (.slice a0 K.length k0, lfN K)) 41)) := (Below.refl _ _).alloc (Nat.le_refl _) _; have H7 : Hid (Wk W1 p [lfN K] (W6.alloc (.cells (ndc (.slice a0 K.length k0, lfN K)) 41))) := (H5.out.on hb).on hal; have HB7 := hid ((HB5.out.trans (hb.mono HZ5.out)).trans (hal.mono (Nat.le_trans HZ5.out hb.size))); have HK7 := hid (hcp.on hal); have HN7 : Hid ((W6.alloc (.cells (ndc (.slice a0 K.length k0, lfN K)) 41)).heap[W6.heap.size]? = some (.cells (ndc (.slice a0 K.length k0, lfN K)) 41 (0, 0))) := heap_alloc_new _ _; clear hb hcp hal CG)
          | (refine stNew 41 (.tmp 16) (.tmp 96) rfl rfl _ 41 (ndc (nilS, zNd)) (ndc (.slice a0 K.length k0, lfN K)) rfl rfl rfl (infoNODE _) rfl (ndc_one rfl _) ?_))
        generalize W6.alloc (.cells (ndc (.slice a0 K.length k0, lfN K)) 41) = W7 at H7 HB7 HK7 HN7 ⊢
        generalize W6.heap.size = P7 at HN7 ⊢
        have x0 : W7.cell? ⟨P7, 0, none⟩ = some (.int .i8 (-1)) := (cell_of_row _ _ _ _ _ _ HN7.out).trans rfl
        have x4 : W7.cell? ⟨P7, 4, none⟩ = some (.slice a0 K.length k0) := (cell_of_row _ _ _ _ _ _ HN7.out).trans rfl
        have HX4 := hid x4
        have HLn : Hid (Calls Tryd.prog 18 #[ptr p] W7 fun e w' => e = .returned (.int .i64 1) ∧ w' = W7) := len_any H7.out.st
        have hKd : decide ((rows.length : Int) < (K.length : Int)) = false := decide_eq_false (by omega)
        have hKl := Lst.len HK7.out
        go_upto_region 26 with (go_at_call 18; refine (HLn.out).mono ?_; rintro e w' ⟨rfl, hw⟩; obtain rfl : W7 = w' := hw.symm; clear HLn)
        clear x0 x4 hKd
        obtain ⟨_, k0', hk0, hk1⟩ := Lst.form HK7.out
        obtain ⟨-, -, rfl⟩ : _ = a0 ∧ K.length = K.length ∧ k0' = k0 := by simpa using hk0.symm
        clear hk0
        go_loopw [18] (fun si wr => ∃ i : Nat, si = .int .i64 ((i : Nat) : Int) ∧ i ≤ K.length ∧ Hid (Below W7.heap.size W7 wr)) (fun si _ => K.length - (intOf si).toNat)
        case atStart => exact ⟨0, rfl, Nat.zero_le _, Below.refl _ _⟩
        case round =>
          obtain ⟨i, rfl, hi1, HW⟩ := hrel
          have x4 := cell_on HW.out HX4.out
          by_cases hi : i < K.length
          · have hd : decide ((i : Int) < (K.length : Int)) = true := by simp; omega
            obtain ⟨b1, o1, u1, rfl, -, hu, hac⟩ := (HK7.out.on HW.out).cell1 i hi
            obtain ⟨ax, cx, rfl, hcx⟩ := hac.form
            have hrl := hac.len
            have HU := hid hu
            have HAC := hid hac
            have HPw := hid (HK1.out _ (List.getElem_mem hi))
            have hik : i < k0' := by omega
            have hiw : IntKind.i64.wrap ((i : Int) + 1) = (i : Int) + 1 := by rw [IntKind.wrap_i64]; omega
            clear hac
            generalize K[i] = r at hcx hrl HU HAC HPw hu
            go_upto_region 29 with fail
            clear x4 hu
            generalize wr = W8 at HW HU HAC ⊢
            go_loopw [19] (fun sk wr => ∃ k : Nat, sk = .int .i64 ((k : Nat) : Int) ∧ 1 ≤ k ∧ k ≤ r.length + 1 ∧ Hid (Below W8.heap.size W8 wr)) (fun sk _ => r.length + 1 - (intOf sk).toNat)
            case atStart => exact ⟨1, rfl, Nat.le_refl _, by omega, Below.refl _ _⟩
            case round =>
              obtain ⟨k, rfl, hk1', hk2, HV⟩ := hrel
              have HWV : Hid (Below W7.heap.size W7 wr) := HW.out.trans (HV.out.mono HW.out.size)
              have x4 := cell_on HWV.out HX4.out
              have x5 := cell_on HV.out HU.out
              by_cases hkr : k < r.length
              · have hdk : decide ((k : Int) < (r.length : Int)) = true := by simp; omega
                have hkw : IntKind.i64.wrap ((k : Int) + 1) = (k : Int) + 1 := by rw [IntKind.wrap_i64]; omega
                obtain ⟨q, hq⟩ : ∃ q, k = q + 1 := ⟨k - 1, by omega⟩
                have hkq : IntKind.i64.wrap ((k : Int) - 1) = (q : Int) := by rw [IntKind.wrap_i64]; omega
                have hqr : q < r.length := by omega
                obtain ⟨g1, j1, rfl, -, -, hr1, -⟩ := (HAC.out.on HV.out).at k hkr
                obtain ⟨g2, j2, he, -, -, hr2, -⟩ := (HAC.out.on HV.out).at q hqr
                obtain ⟨rfl, rfl⟩ : g1 = g2 ∧ j1 = j2 := by simpa using he
                have hlt : r[q].fd < r[k].fd := List.pairwise_iff_getElem.1 HPw.out q k hqr hkr (by omega)
                have HM : Hid (Hnr P7 b1 (o1 + i) g1 (j1 + k * 3 + 1) (j1 + q * 3 + 1) (.slice (some ⟨b1, o1, none⟩) K.length k0') (.slice (some ⟨g1, j1, none⟩) r.length cx) r[k].fd r[q].fd wr) := ⟨x4, x5, hr1 1 _ rfl, hr2 1 _ rfl⟩
                have hle : decide (r[k].fd ≤ r[q].fd) = false := decide_eq_false (by omega)
                have hkc : k < cx := by omega
                have hqc : q < cx := by omega
                clear he hr1 hr2 hlt hq
                generalize r[k].fd = f1 at HM hle
                generalize r[q].fd = f0 at HM hle
                go_upto_region 31 with fail
                clear x4 x5
                refine wp_region_held_drew (S := Hnr P7 b1 (o1 + i) g1 (j1 + k * 3 + 1) (j1 + q * 3 + 1) (.slice (some ⟨b1, o1, none⟩) K.length k0') (.slice (some ⟨g1, j1, none⟩) r.length cx) f1 f0) (by kernel_rfl) ⟨HM.out.c4, HM.out.r1, HM.out.f1, HM.out.f0⟩ (fun hHeld => ?_)
                refine wpAnyH_take (i := 0) (v := ?_) rfl (by kernel_rfl) (by kernel_rfl) (by kernel_rfl) (fun _ _ _ h => h) (Or.inl ⟨by rfl, ?_⟩) hHeld ?_
                rotate_left
                · intro w' hSw
                  clear hSw
                  go_simp
                  first | done | with_reducible rfl
                simp only [Act.put, List.getElem_toArray, List.getElem_cons_zero, List.setIfInBounds_toArray, List.set_cons_zero, List.set_cons_succ]
                refine wpAnyH_take (i := 1) (v := ?_) rfl (by kernel_rfl) (by kernel_rfl) (by kernel_rfl) (fun _ _ _ h => h) (Or.inl ⟨by rfl, ?_⟩) hHeld ?_
                rotate_left
                · intro w' hSw
                  have c4 := hSw.c4
                  clear hSw
                  go_simp
                  first | done | with_reducible rfl
                simp only [Act.put, List.getElem_toArray, List.getElem_cons_succ, List.getElem_cons_zero, List.setIfInBounds_toArray, List.set_cons_zero, List.set_cons_succ]
                refine wpAnyH_take (i := 2) (v := ?_) rfl (by kernel_rfl) (by kernel_rfl) (by kernel_rfl) (fun _ _ _ h => h) (Or.inl ⟨by rfl, ?_⟩) hHeld ?_
                rotate_left
                · intro w' hSw
                  clear hSw
                  go_simp
                  first | done | with_reducible rfl
                simp only [Act.put, List.getElem_toArray, List.getElem_cons_succ, List.getElem_cons_zero, List.setIfInBounds_toArray, List.set_cons_zero, List.set_cons_succ]
                refine wpAnyH_take (i := 3) (v := ?_) rfl (by kernel_rfl) (by kernel_rfl) (by kernel_rfl) (fun _ _ _ h => h) (Or.inl ⟨by rfl, ?_⟩) hHeld ?_
                rotate_left
                · intro w' hSw
                  clear hSw
                  go_simp
                  first | done | with_reducible rfl
                simp only [Act.put, List.getElem_toArray, List.getElem_cons_succ, List.getElem_cons_zero, List.setIfInBounds_toArray, List.set_cons_zero, List.set_cons_succ]
                refine wpAnyH_take (i := 4) (v := ?_) rfl (by kernel_rfl) (by kernel_rfl) (by kernel_rfl) (fun _ _ _ h => h) (Or.inl ⟨by rfl, ?_⟩) hHeld ?_
                rotate_left
                · intro w' hSw
                  have r1 := hSw.r1
                  clear hSw
                  go_simp
                  first | done | with_reducible rfl
                simp only [Act.put, List.getElem_toArray, List.getElem_cons_succ, List.getElem_cons_zero, List.setIfInBounds_toArray, List.set_cons_zero, List.set_cons_succ]
                refine wpAnyH_take (i := 5) (v := ?_) rfl (by kernel_rfl) (by kernel_rfl) (by kernel_rfl) (fun _ _ _ h => h) (Or.inl ⟨by rfl, ?_⟩) hHeld ?_
                rotate_left
                · intro w' hSw
                  clear hSw
                  go_simp
                  first | done | with_reducible rfl
                simp only [Act.put, List.getElem_toArray, List.getElem_cons_succ, List.getElem_cons_zero, List.setIfInBounds_toArray, List.set_cons_zero, List.set_cons_succ]
                refine wpAnyH_take (i := 6) (v := ?_) rfl (by kernel_rfl) (by kernel_rfl) (by kernel_rfl) (fun _ _ _ h => h) (Or.inl ⟨by rfl, ?_⟩) hHeld ?_
                rotate_left
                · intro w' hSw
                  clear hSw
                  go_simp
                  first | done | with_reducible rfl
                simp only [Act.put, List.getElem_toArray, List.getElem_cons_succ, List.getElem_cons_zero, List.setIfInBounds_toArray, List.set_cons_zero, List.set_cons_succ]
                refine wpAnyH_take (i := 7) (v := ?_) rfl (by kernel_rfl) (by kernel_rfl) (by kernel_rfl) (fun _ _ _ h => h) (Or.inl ⟨by rfl, ?_⟩) hHeld ?_
                rotate_left
                · intro w' hSw
                  clear hSw
                  go_simp
                  first | done | with_reducible rfl
                simp only [Act.put, List.getElem_toArray, List.getElem_cons_succ, List.getElem_cons_zero, List.setIfInBounds_toArray, List.set_cons_zero, List.set_cons_succ]
                refine wpAnyH_take (i := 8) (v := ?_) rfl (by kernel_rfl) (by kernel_rfl) (by kernel_rfl) (fun _ _ _ h => h) (Or.inl ⟨by rfl, ?_⟩) hHeld ?_
                rotate_left
                · intro w' hSw
                  have f1 := hSw.f1
                  clear hSw
                  go_simp
                  first | done | with_reducible rfl
                simp only [Act.put, List.getElem_toArray, List.getElem_cons_succ, List.getElem_cons_zero, List.setIfInBounds_toArray, List.set_cons_zero, List.set_cons_succ]
                refine wpAnyH_take (i := 9) (v := ?_) rfl (by kernel_rfl) (by kernel_rfl) (by kernel_rfl) (fun _ _ _ h => h) (Or.inl ⟨by rfl, ?_⟩) hHeld ?_
                rotate_left
                · intro w' hSw
                  clear hSw
                  go_simp
                  first | done | with_reducible rfl
                simp only [Act.put, List.getElem_toArray, List.getElem_cons_succ, List.getElem_cons_zero, List.setIfInBounds_toArray, List.set_cons_zero, List.set_cons_succ]
                refine wpAnyH_take (i := 10) (v := ?_) rfl (by kernel_rfl) (by kernel_rfl) (by kernel_rfl) (fun _ _ _ h => h) (Or.inl ⟨by rfl, ?_⟩) hHeld ?_
                rotate_left
                · intro w' hSw
                  have c4 := hSw.c4
                  clear hSw
                  go_simp
                  first | done | with_reducible rfl
                simp only [Act.put, List.getElem_toArray, List.getElem_cons_succ, List.getElem_cons_zero, List.setIfInBounds_toArray, List.set_cons_zero, List.set_cons_succ]
                refine wpAnyH_take (i := 11) (v := ?_) rfl (by kernel_rfl) (by kernel_rfl) (by kernel_rfl) (fun _ _ _ h => h) (Or.inl ⟨by rfl, ?_⟩) hHeld ?_
                rotate_left
                · intro w' hSw
                  clear hSw
                  go_simp
                  first | done | with_reducible rfl
                simp only [Act.put, List.getElem_toArray, List.getElem_cons_succ, List.getElem_cons_zero, List.setIfInBounds_toArray, List.set_cons_zero, List.set_cons_succ]
                refine wpAnyH_take (i := 12) (v := ?_) rfl (by kernel_rfl) (by kernel_rfl) (by kernel_rfl) (fun _ _ _ h => h) (Or.inl ⟨by rfl, ?_⟩) hHeld ?_
                rotate_left
                · intro w' hSw
                  clear hSw
                  go_simp
                  first | done | with_reducible rfl
                simp only [Act.put, List.getElem_toArray, List.getElem_cons_succ, List.getElem_cons_zero, List.setIfInBounds_toArray, List.set_cons_zero, List.set_cons_succ]
                refine wpAnyH_take (i := 13) (v := ?_) rfl (by kernel_rfl) (by kernel_rfl) (by kernel_rfl) (fun _ _ _ h => h) (Or.inl ⟨by rfl, ?_⟩) hHeld ?_
                rotate_left
                · intro w' hSw
                  have r1 := hSw.r1
                  clear hSw
                  go_simp
                  first | done | with_reducible rfl
                simp only [Act.put, List.getElem_toArray, List.getElem_cons_succ, List.getElem_cons_zero, List.setIfInBounds_toArray, List.set_cons_zero, List.set_cons_succ]
                refine wpAnyH_take (i := 14) (v := ?_) rfl (by kernel_rfl) (by kernel_rfl) (by kernel_rfl) (fun _ _ _ h => h) (Or.inl ⟨by rfl, ?_⟩) hHeld ?_
                rotate_left
                · intro w' hSw
                  clear hSw
                  go_simp
                  first | done | with_reducible rfl
                simp only [Act.put, List.getElem_toArray, List.getElem_cons_succ, List.getElem_cons_zero, List.setIfInBounds_toArray, List.set_cons_zero, List.set_cons_succ]
                refine wpAnyH_take (i := 15) (v := ?_) rfl (by kernel_rfl) (by kernel_rfl) (by kernel_rfl) (fun _ _ _ h => h) (Or.inl ⟨by rfl, ?_⟩) hHeld ?_
                rotate_left
                · intro w' hSw
                  clear hSw
                  go_simp
                  first | done | with_reducible rfl
                simp only [Act.put, List.getElem_toArray, List.getElem_cons_succ, List.getElem_cons_zero, List.setIfInBounds_toArray, List.set_cons_zero, List.set_cons_succ]
                refine wpAnyH_take (i := 16) (v := ?_) rfl (by kernel_rfl) (by kernel_rfl) (by kernel_rfl) (fun _ _ _ h => h) (Or.inl ⟨by rfl, ?_⟩) hHeld ?_
                rotate_left
                · intro w' hSw
                  clear hSw
                  go_simp
                  first | done | with_reducible rfl
                simp only [Act.put, List.getElem_toArray, List.getElem_cons_succ, List.getElem_cons_zero, List.setIfInBounds_toArray, List.set_cons_zero, List.set_cons_succ]
                refine wpAnyH_take (i := 17) (v := ?_) rfl (by kernel_rfl) (by kernel_rfl) (by kernel_rfl) (fun _ _ _ h => h) (Or.inl ⟨by rfl, ?_⟩) hHeld ?_
                rotate_left
                · intro w' hSw
                  clear hSw
                  go_simp
                  first | done | with_reducible rfl
                simp only [Act.put, List.getElem_toArray, List.getElem_cons_succ, List.getElem_cons_zero, List.setIfInBounds_toArray, List.set_cons_zero, List.set_cons_succ]
                refine wpAnyH_take (i := 18) (v := ?_) rfl (by kernel_rfl) (by kernel_rfl) (by kernel_rfl) (fun _ _ _ h => h) (Or.inl ⟨by rfl, ?_⟩) hHeld ?_
                rotate_left
                · intro w' hSw
                  have f0 := hSw.f0
                  clear hSw
                  go_simp
                  first | done | with_reducible rfl
                simp only [Act.put, List.getElem_toArray, List.getElem_cons_succ, List.getElem_cons_zero, List.setIfInBounds_toArray, List.set_cons_zero, List.set_cons_succ]
                refine wpAnyH_take (i := 19) (v := ?_) rfl (by kernel_rfl) (by kernel_rfl) (by kernel_rfl) (fun _ _ _ h => h) (Or.inl ⟨by rfl, ?_⟩) hHeld ?_
                rotate_left
                · intro w' hSw
                  clear hSw
                  go_simp
                  first | done | with_reducible rfl
                simp only [Act.put, List.getElem_toArray, List.getElem_cons_succ, List.getElem_cons_zero, List.setIfInBounds_toArray, List.set_cons_zero, List.set_cons_succ]
                refine wpAnyH_done (by kernel_rfl) ?_ _
                clear hHeld
                have HV2 : Hid (Below W8.heap.size W8 wr.drew) := HV.out.trans ((Gro.refl _).drew.below.mono HV.out.size)
                go_wp2
                go_roundw
                case rel => exact ⟨k + 1, by rw [show (((k + 1 : Nat) : Nat) : Int) = (k : Int) + 1 by omega], by omega, by omega, HV2⟩
                case measure => simp [intOf]; omega
              · have hdk : decide ((k : Int) < (r.length : Int)) = false := by simp; omega
                go_wp2
                go_roundw
                case rel => exact ⟨i + 1, by rw [show (((i + 1 : Nat) : Nat) : Int) = (i : Int) + 1 by omega], hi, HWV⟩
                case measure => simp [intOf]; omega
          · have hd : decide ((i : Int) < (K.length : Int)) = false := by simp; omega
            have H9 := hid (H7.out.on HW.out)
            have HWk := hid (wakes_any W1.heap.size wr (H9.out.tab) (H9.out.low.size))
            go_wp2_with (go_at_call 9; refine (HWk.out).mono ?_; rintro e W6 ⟨rfl, hb⟩; have HB := hid ((HAl.out.trans (H9.out.low.mono HAl.out.size)).trans (hb.mono (Nat.le_trans HAl.out.size H9.out.low.size))); clear hb HWk)
            go_ret
            exact ⟨rfl, HB.out⟩
end Go.Proofs.YtokijknidkajhaaDoor
