/-
  Proved here: table makes for each Type the slice of its parts; partsOf answers the Type's, or panics with ErrMessage where there is no such Type; no old memory turns. No condition.
-/
import Derived.Test.YtllbbbfkdgjffaaGreatDoorT1
namespace Go.Proofs.YtllbbbfkdgjffaaGreatDoor
open Go.RowKit

def fn1 : Fk → Nat
  | .sw => 87
  | .ps => 90
  | .ed => 90
  | .dw => 95
  | .rl => 99
  | .po => 87
  | .mo => 87
  | .fr => 108
  | .hs => 112
  | .up => 119
  | .co => 87
def fn2 : Fk → Nat
  | .sw => 88
  | .ps => 91
  | .ed => 91
  | .dw => 96
  | .rl => 100
  | .po => 88
  | .mo => 88
  | .fr => 109
  | .hs => 113
  | .up => 120
  | .co => 88
def fn3 : Fk → Nat
  | .sw => 89
  | .ps => 92
  | .ed => 92
  | .dw => 97
  | .rl => 101
  | .po => 89
  | .mo => 89
  | .fr => 110
  | .hs => 114
  | .up => 121
  | .co => 89
def fnO : Fk → Nat
  | .sw => 54
  | .ps => 58
  | .ed => 61
  | .dw => 63
  | .rl => 67
  | .po => 70
  | .mo => 71
  | .fr => 75
  | .hs => 79
  | .up => 83
  | .co => 86
def fnW : Fk → Nat
  | .sw => 55
  | .ps => 59
  | .ed => 59
  | .dw => 64
  | .rl => 68
  | .po => 55
  | .mo => 72
  | .fr => 76
  | .hs => 80
  | .up => 84
  | .co => 55
def fnR : Fk → Nat
  | .sw => 56
  | .ps => 60
  | .ed => 60
  | .dw => 65
  | .rl => 69
  | .po => 56
  | .mo => 73
  | .fr => 77
  | .hs => 81
  | .up => 85
  | .co => 56
/-- The three cells of a part. -/
def RPt (T : Nat → Prop) : World → (Nat → Option Value) → Fk → Prop := fun w f k => ∃ g1 g2 g3, f 0 = some (.func (.func (fn1 k)) #[] #[ptr g1]) ∧ f 1 = some (.func (.func (fn2 k)) #[] #[ptr g2, ptr g1]) ∧ f 2 = some (.func (.func (fn3 k)) #[] #[ptr g3, ptr g1]) ∧ Pv T w (fnO k) (fnW k) (fnR k) g1 g2 g3
abbrev Pts (T : Nat → Prop) (w : World) (v : Value) (l : List Fk) : Prop := Lst T 3 (RPt T) w v l
theorem Pts.carry {T T' : Nat → Prop} {w w' : World} (hc : ∀ b, b < w.heap.size → T b → T' b ∧ w'.heap[b]? = w.heap[b]?) {v : Value} {l : List Fk} (h : Pts T w v l) : Pts T' w' v l :=
  Lst.carry h hc (fun _ _ ⟨_, _, _, h, _⟩ => ⟨_, h⟩) (fun _ _ ⟨g1, g2, g3, h1, h2, h3, h4⟩ => ⟨g1, g2, g3, h1, h2, h3, h4.carry hc⟩)
/-- Block p holds a part. -/
def At (n : Nat) (W : World) (p : Nat) (k : Fk) : Prop := ∃ g1 g2 g3, W.heap[p]? = some (.cells (ptc (fn1 k) (fn2 k) (fn3 k) g1 g2 g3) 78 (0, 0)) ∧ Pv (fun x => n ≤ x) W (fnO k) (fnW k) (fnR k) g1 g2 g3
theorem At.lt {n : Nat} {W : World} {p : Nat} {k : Fk} (h : At n W p k) : p < W.heap.size := by
  obtain ⟨_, _, _, h, _⟩ := h
  exact (Array.getElem?_eq_some_iff.1 h).1
theorem At.on {n : Nat} {W W' : World} {p : Nat} {k : Fk} (h : At n W p k) (hb : Below W.heap.size W W') : At n W' p k := by
  have hl := h.lt
  obtain ⟨g1, g2, g3, h1, h2⟩ := h
  exact ⟨g1, g2, g3, by rw [hb.block p hl]; exact h1, h2.carry fun b hb' h => ⟨h, hb.block b hb'⟩⟩
theorem At.new {n : Nat} {W W1 : World} {k : Fk} {g1 g2 g3 : Nat} (hn : n ≤ W.heap.size) (hp : Pv (fun x => W.heap.size ≤ x ∧ x < W1.heap.size) W1 (fnO k) (fnW k) (fnR k) g1 g2 g3) : At n (W1.alloc (.cells (ptc (fn1 k) (fn2 k) (fn3 k) g1 g2 g3) 78)) W1.heap.size k :=
  ⟨g1, g2, g3, heap_alloc_new _ _, hp.carry fun _b hb h => ⟨Nat.le_trans hn h.1, heap_alloc_old _ _ hb⟩⟩
/-- Parts in a new block. -/
theorem pts_new {n : Nat} {W : World} {v : Value} {l : List Fk} {b : Nat} {cs : Array Value} {t : TypeId} (hv : v = .slice (some ⟨b, 0, none⟩) l.length l.length) (hn : n ≤ b) (hl : l.length ≤ 3) (hg : W.heap[b]? = some (.cells cs t (0, 0))) (hc : ∀ j (hj : j < l.length), ∃ g1 g2 g3, cs[j * 3]? = some (.func (.func (fn1 l[j])) #[] #[ptr g1]) ∧ cs[j * 3 + 1]? = some (.func (.func (fn2 l[j])) #[] #[ptr g2, ptr g1]) ∧ cs[j * 3 + 2]? = some (.func (.func (fn3 l[j])) #[] #[ptr g3, ptr g1]) ∧ Pv (fun x => n ≤ x) W (fnO l[j]) (fnW l[j]) (fnR l[j]) g1 g2 g3) : Pts (fun x => n ≤ x) W v l := by
  refine ⟨some ⟨b, 0, none⟩, l.length, hv, Nat.le_refl _, by omega, (fun h => by cases h), fun _ => ⟨b, 0, hn, rfl, fun j hj => ?_⟩⟩
  obtain ⟨g1, g2, g3, h1, h2, h3, h4⟩ := hc j hj
  refine ⟨g1, g2, g3, ?_, ?_, ?_, h4⟩
  · simp only [Nat.zero_add, Nat.add_zero]; rw [cell_of_row W b _ _ _ _ hg]; exact h1
  · simp only [Nat.zero_add]; rw [cell_of_row W b _ _ _ _ hg]; exact h2
  · simp only [Nat.zero_add]; rw [cell_of_row W b _ _ _ _ hg]; exact h3

theorem resTab (tmps : Array Value) (w : World) (g : Nat) (cs : Array Value) (hp : tmps.getD 0 undef = .pointer (some ⟨g, 0, none⟩)) (hg : w.heap[g]? = some (.cells cs 95 (0, 0))) (hs : (Tryz.prog.info? 95).map (·.size) = some cs.size) : (results Tryz.f44 tmps).run Tryz.prog w = .ok (.agg cs) w := by
  have hp' : tmps[0]?.getD undef = .pointer (some ⟨g, 0, none⟩) := by simpa using hp
  simp [results, Tryz.results44, hp', asAddr, run_loadVar_row w g 95 95 _ (0, 0) _ hg Tryz.underlying95 rfl hs]
theorem seven (W : World) (o1 o2 o3 o4 o5 o6 o7 : Obj) : ∃ V, Hid (V = ((((((W.alloc o1).alloc o2).alloc o3).alloc o4).alloc o5).alloc o6).alloc o7) ∧ Below W.heap.size W V ∧ V.heap[W.heap.size]? = some o1 ∧ V.heap[W.heap.size + 1]? = some o2 ∧ V.heap[W.heap.size + 1 + 1]? = some o3 ∧ V.heap[W.heap.size + 1 + 1 + 1]? = some o4 ∧ V.heap[W.heap.size + 1 + 1 + 1 + 1]? = some o5 ∧ V.heap[W.heap.size + 1 + 1 + 1 + 1 + 1]? = some o6 ∧ V.heap[W.heap.size + 1 + 1 + 1 + 1 + 1 + 1]? = some o7 := by
  obtain ⟨A, ha, hb, hs, h1, h2, h3, h4⟩ := three_new W o1 o2 o3 o4
  obtain ⟨B, hc, hd, ht, k1, k2, k3, _⟩ := three_new A o5 o6 o7 o7
  have hW : (((A.alloc o5).alloc o6).alloc o7).heap.size = A.heap.size + 3 := by simp
  have hold : ∀ k, k < A.heap.size → (((A.alloc o5).alloc o6).alloc o7).heap[k]? = A.heap[k]? := fun k hk => by
    rw [heap_alloc_old _ _ (by simp; omega), heap_alloc_old _ _ (by simp; omega), heap_alloc_old _ _ hk]
  have hnew : ∀ k, k < A.heap.size + 3 → (((A.alloc o5).alloc o6).alloc o7).heap[k]? = B.heap[k]? := fun k hk => by
    rw [hc.out, heap_alloc_old (((A.alloc o5).alloc o6).alloc o7) o7 (by rw [hW]; exact hk)]
  refine ⟨((A.alloc o5).alloc o6).alloc o7, by show _ = _; rw [ha.out], hb.trans ((((Below.refl _ _).alloc (by omega) _).alloc (by simp; omega) _).alloc (by simp; omega) _), ?_, ?_, ?_, ?_, ?_, ?_, ?_⟩
  · rw [hold _ (by omega)]; exact h1
  · rw [hold _ (by omega)]; exact h2
  · rw [hold _ (by omega)]; exact h3
  · rw [hold _ (by omega)]; exact h4
  · rw [hnew _ (by omega), show W.heap.size + 1 + 1 + 1 + 1 = A.heap.size by omega]; exact k1
  · rw [hnew _ (by omega), show W.heap.size + 1 + 1 + 1 + 1 + 1 = A.heap.size + 1 by omega]; exact k2
  · rw [hnew _ (by omega), show W.heap.size + 1 + 1 + 1 + 1 + 1 + 1 = A.heap.size + 2 by omega]; exact k3

set_option maxHeartbeats 4000000 in
set_option maxRecDepth 100000 in
theorem table_any (w : World) :
    Calls Tryz.prog 44 #[] w fun e w' => ∃ s4 s5 s6 s7 s11 s12 s13, e = .returned (.agg #[nilS, nilS, nilS, nilS, s4, s5, s6, s7, nilS, nilS, nilS, s11, s12, s13]) ∧ Below w.heap.size w w' ∧
      Pts (fun x => w.heap.size ≤ x) w' s4 [.sw, .ps, .ed] ∧ Pts (fun x => w.heap.size ≤ x) w' s5 [.dw, .rl] ∧ Pts (fun x => w.heap.size ≤ x) w' s6 [.po, .fr] ∧ Pts (fun x => w.heap.size ≤ x) w' s7 [.po, .fr] ∧ Pts (fun x => w.heap.size ≤ x) w' s11 [.mo, .hs] ∧ Pts (fun x => w.heap.size ≤ x) w' s12 [.po, .up] ∧ Pts (fun x => w.heap.size ≤ x) w' s13 [.co] := by
  have HB0 := hid ((Below.refl w.heap.size w).alloc (Nat.le_refl _) (.cells #[nilS, nilS, nilS, nilS, nilS, nilS, nilS, nilS, nilS, nilS, nilS, nilS, nilS, nilS] 95))
  have HZ0 := hid (heap_alloc_new w (.cells #[nilS, nilS, nilS, nilS, nilS, nilS, nilS, nilS, nilS, nilS, nilS, nilS, nilS, nilS] 95))
  go_enter Tryz.func44, Tryz.ntmps44
  go_upto_region 1 with fail
  generalize w.alloc (.cells #[nilS, nilS, nilS, nilS, nilS, nilS, nilS, nilS, nilS, nilS, nilS, nilS, nilS, nilS] 95) = W0 at HB0 HZ0 ⊢
  go_upto_region 2 with (go_at_call 53; refine (fdU_any 54 55 56 _).mono ?_; rintro e u1 ⟨x1, y1, z1, rfl, hb, hp⟩; have HX := hid (And.intro hb hp); clear hb hp)
  have hbb : Below W0.heap.size W0 (u1.alloc (.cells (ptc 87 88 89 x1 y1 z1) 78)) := HX.out.1.alloc HX.out.1.size _
  have HA1 : Hid (At (w.heap.size + 1) (u1.alloc (.cells (ptc 87 88 89 x1 y1 z1) 78)) u1.heap.size .sw) := At.new (k := .sw) (Array.getElem?_eq_some_iff.1 HZ0.out).1 HX.out.2
  have HB1 := hid (HB0.out.trans (hbb.mono HB0.out.size))
  have HZ1 := hid ((hbb.block w.heap.size (Array.getElem?_eq_some_iff.1 HZ0.out).1).trans HZ0.out)
  clear HB0 HZ0 hbb HX
  generalize u1.alloc (.cells (ptc 87 88 89 x1 y1 z1) 78) = W1 at HB1 HZ1 HA1 ⊢
  go_upto_region 3 with (go_at_call 57; refine (fdUs_any 58 59 60 _).mono ?_; rintro e u2 ⟨x2, y2, z2, rfl, hb, hp⟩; have HX := hid (And.intro hb hp); clear hb hp)
  have hbb : Below W1.heap.size W1 (u2.alloc (.cells (ptc 90 91 92 x2 y2 z2) 78)) := HX.out.1.alloc HX.out.1.size _
  have HA1' := hid (HA1.out.on hbb)
  clear HA1
  have HA1 := hid HA1'.out
  clear HA1'
  have HA2 : Hid (At (w.heap.size + 1) (u2.alloc (.cells (ptc 90 91 92 x2 y2 z2) 78)) u2.heap.size .ps) := At.new (k := .ps) (Array.getElem?_eq_some_iff.1 HZ1.out).1 HX.out.2
  have HB2 := hid (HB1.out.trans (hbb.mono HB1.out.size))
  have HZ2 := hid ((hbb.block w.heap.size (Array.getElem?_eq_some_iff.1 HZ1.out).1).trans HZ1.out)
  clear HB1 HZ1 hbb HX
  generalize u2.alloc (.cells (ptc 90 91 92 x2 y2 z2) 78) = W2 at HB2 HZ2 HA1 HA2 ⊢
  go_upto_region 4 with (go_at_call 57; refine (fdUs_any 61 59 60 _).mono ?_; rintro e u3 ⟨x3, y3, z3, rfl, hb, hp⟩; have HX := hid (And.intro hb hp); clear hb hp)
  have hbb : Below W2.heap.size W2 (u3.alloc (.cells (ptc 90 91 92 x3 y3 z3) 78)) := HX.out.1.alloc HX.out.1.size _
  have HA1' := hid (HA1.out.on hbb)
  clear HA1
  have HA1 := hid HA1'.out
  clear HA1'
  have HA2' := hid (HA2.out.on hbb)
  clear HA2
  have HA2 := hid HA2'.out
  clear HA2'
  have HA3 : Hid (At (w.heap.size + 1) (u3.alloc (.cells (ptc 90 91 92 x3 y3 z3) 78)) u3.heap.size .ed) := At.new (k := .ed) (Array.getElem?_eq_some_iff.1 HZ2.out).1 HX.out.2
  have HB3 := hid (HB2.out.trans (hbb.mono HB2.out.size))
  have HZ3 := hid ((hbb.block w.heap.size (Array.getElem?_eq_some_iff.1 HZ2.out).1).trans HZ2.out)
  clear HB2 HZ2 hbb HX
  generalize u3.alloc (.cells (ptc 90 91 92 x3 y3 z3) 78) = W3 at HB3 HZ3 HA1 HA2 HA3 ⊢
  go_upto_region 5 with (go_at_call 62; refine (fdI_any 63 64 65 _).mono ?_; rintro e u4 ⟨x4, y4, z4, rfl, hb, hp⟩; have HX := hid (And.intro hb hp); clear hb hp)
  have hbb : Below W3.heap.size W3 (u4.alloc (.cells (ptc 95 96 97 x4 y4 z4) 78)) := HX.out.1.alloc HX.out.1.size _
  have HA1' := hid (HA1.out.on hbb)
  clear HA1
  have HA1 := hid HA1'.out
  clear HA1'
  have HA2' := hid (HA2.out.on hbb)
  clear HA2
  have HA2 := hid HA2'.out
  clear HA2'
  have HA3' := hid (HA3.out.on hbb)
  clear HA3
  have HA3 := hid HA3'.out
  clear HA3'
  have HA4 : Hid (At (w.heap.size + 1) (u4.alloc (.cells (ptc 95 96 97 x4 y4 z4) 78)) u4.heap.size .dw) := At.new (k := .dw) (Array.getElem?_eq_some_iff.1 HZ3.out).1 HX.out.2
  have HB4 := hid (HB3.out.trans (hbb.mono HB3.out.size))
  have HZ4 := hid ((hbb.block w.heap.size (Array.getElem?_eq_some_iff.1 HZ3.out).1).trans HZ3.out)
  clear HB3 HZ3 hbb HX
  generalize u4.alloc (.cells (ptc 95 96 97 x4 y4 z4) 78) = W4 at HB4 HZ4 HA1 HA2 HA3 HA4 ⊢
  go_upto_region 6 with (go_at_call 66; refine (fdR_any 67 68 69 _).mono ?_; rintro e u5 ⟨x5, y5, z5, rfl, hb, hp⟩; have HX := hid (And.intro hb hp); clear hb hp)
  have hbb : Below W4.heap.size W4 (u5.alloc (.cells (ptc 99 100 101 x5 y5 z5) 78)) := HX.out.1.alloc HX.out.1.size _
  have HA1' := hid (HA1.out.on hbb)
  clear HA1
  have HA1 := hid HA1'.out
  clear HA1'
  have HA2' := hid (HA2.out.on hbb)
  clear HA2
  have HA2 := hid HA2'.out
  clear HA2'
  have HA3' := hid (HA3.out.on hbb)
  clear HA3
  have HA3 := hid HA3'.out
  clear HA3'
  have HA4' := hid (HA4.out.on hbb)
  clear HA4
  have HA4 := hid HA4'.out
  clear HA4'
  have HA5 : Hid (At (w.heap.size + 1) (u5.alloc (.cells (ptc 99 100 101 x5 y5 z5) 78)) u5.heap.size .rl) := At.new (k := .rl) (Array.getElem?_eq_some_iff.1 HZ4.out).1 HX.out.2
  have HB5 := hid (HB4.out.trans (hbb.mono HB4.out.size))
  have HZ5 := hid ((hbb.block w.heap.size (Array.getElem?_eq_some_iff.1 HZ4.out).1).trans HZ4.out)
  clear HB4 HZ4 hbb HX
  generalize u5.alloc (.cells (ptc 99 100 101 x5 y5 z5) 78) = W5 at HB5 HZ5 HA1 HA2 HA3 HA4 HA5 ⊢
  go_upto_region 7 with (go_at_call 53; refine (fdU_any 70 55 56 _).mono ?_; rintro e u6 ⟨x6, y6, z6, rfl, hb, hp⟩; have HX := hid (And.intro hb hp); clear hb hp)
  have hbb : Below W5.heap.size W5 (u6.alloc (.cells (ptc 87 88 89 x6 y6 z6) 78)) := HX.out.1.alloc HX.out.1.size _
  have HA1' := hid (HA1.out.on hbb)
  clear HA1
  have HA1 := hid HA1'.out
  clear HA1'
  have HA2' := hid (HA2.out.on hbb)
  clear HA2
  have HA2 := hid HA2'.out
  clear HA2'
  have HA3' := hid (HA3.out.on hbb)
  clear HA3
  have HA3 := hid HA3'.out
  clear HA3'
  have HA4' := hid (HA4.out.on hbb)
  clear HA4
  have HA4 := hid HA4'.out
  clear HA4'
  have HA5' := hid (HA5.out.on hbb)
  clear HA5
  have HA5 := hid HA5'.out
  clear HA5'
  have HA6 : Hid (At (w.heap.size + 1) (u6.alloc (.cells (ptc 87 88 89 x6 y6 z6) 78)) u6.heap.size .po) := At.new (k := .po) (Array.getElem?_eq_some_iff.1 HZ5.out).1 HX.out.2
  have HB6 := hid (HB5.out.trans (hbb.mono HB5.out.size))
  have HZ6 := hid ((hbb.block w.heap.size (Array.getElem?_eq_some_iff.1 HZ5.out).1).trans HZ5.out)
  clear HB5 HZ5 hbb HX
  generalize u6.alloc (.cells (ptc 87 88 89 x6 y6 z6) 78) = W6 at HB6 HZ6 HA1 HA2 HA3 HA4 HA5 HA6 ⊢
  go_upto_region 8 with (go_at_call 53; refine (fdU_any 71 72 73 _).mono ?_; rintro e u7 ⟨x7, y7, z7, rfl, hb, hp⟩; have HX := hid (And.intro hb hp); clear hb hp)
  have hbb : Below W6.heap.size W6 (u7.alloc (.cells (ptc 87 88 89 x7 y7 z7) 78)) := HX.out.1.alloc HX.out.1.size _
  have HA1' := hid (HA1.out.on hbb)
  clear HA1
  have HA1 := hid HA1'.out
  clear HA1'
  have HA2' := hid (HA2.out.on hbb)
  clear HA2
  have HA2 := hid HA2'.out
  clear HA2'
  have HA3' := hid (HA3.out.on hbb)
  clear HA3
  have HA3 := hid HA3'.out
  clear HA3'
  have HA4' := hid (HA4.out.on hbb)
  clear HA4
  have HA4 := hid HA4'.out
  clear HA4'
  have HA5' := hid (HA5.out.on hbb)
  clear HA5
  have HA5 := hid HA5'.out
  clear HA5'
  have HA6' := hid (HA6.out.on hbb)
  clear HA6
  have HA6 := hid HA6'.out
  clear HA6'
  have HA7 : Hid (At (w.heap.size + 1) (u7.alloc (.cells (ptc 87 88 89 x7 y7 z7) 78)) u7.heap.size .mo) := At.new (k := .mo) (Array.getElem?_eq_some_iff.1 HZ6.out).1 HX.out.2
  have HB7 := hid (HB6.out.trans (hbb.mono HB6.out.size))
  have HZ7 := hid ((hbb.block w.heap.size (Array.getElem?_eq_some_iff.1 HZ6.out).1).trans HZ6.out)
  clear HB6 HZ6 hbb HX
  generalize u7.alloc (.cells (ptc 87 88 89 x7 y7 z7) 78) = W7 at HB7 HZ7 HA1 HA2 HA3 HA4 HA5 HA6 HA7 ⊢
  go_upto_region 9 with (go_at_call 74; refine (fdB_any 75 76 77 _).mono ?_; rintro e u8 ⟨x8, y8, z8, rfl, hb, hp⟩; have HX := hid (And.intro hb hp); clear hb hp)
  have hbb : Below W7.heap.size W7 (u8.alloc (.cells (ptc 108 109 110 x8 y8 z8) 78)) := HX.out.1.alloc HX.out.1.size _
  have HA1' := hid (HA1.out.on hbb)
  clear HA1
  have HA1 := hid HA1'.out
  clear HA1'
  have HA2' := hid (HA2.out.on hbb)
  clear HA2
  have HA2 := hid HA2'.out
  clear HA2'
  have HA3' := hid (HA3.out.on hbb)
  clear HA3
  have HA3 := hid HA3'.out
  clear HA3'
  have HA4' := hid (HA4.out.on hbb)
  clear HA4
  have HA4 := hid HA4'.out
  clear HA4'
  have HA5' := hid (HA5.out.on hbb)
  clear HA5
  have HA5 := hid HA5'.out
  clear HA5'
  have HA6' := hid (HA6.out.on hbb)
  clear HA6
  have HA6 := hid HA6'.out
  clear HA6'
  have HA7' := hid (HA7.out.on hbb)
  clear HA7
  have HA7 := hid HA7'.out
  clear HA7'
  have HA8 : Hid (At (w.heap.size + 1) (u8.alloc (.cells (ptc 108 109 110 x8 y8 z8) 78)) u8.heap.size .fr) := At.new (k := .fr) (Array.getElem?_eq_some_iff.1 HZ7.out).1 HX.out.2
  have HB8 := hid (HB7.out.trans (hbb.mono HB7.out.size))
  have HZ8 := hid ((hbb.block w.heap.size (Array.getElem?_eq_some_iff.1 HZ7.out).1).trans HZ7.out)
  clear HB7 HZ7 hbb HX
  generalize u8.alloc (.cells (ptc 108 109 110 x8 y8 z8) 78) = W8 at HB8 HZ8 HA1 HA2 HA3 HA4 HA5 HA6 HA7 HA8 ⊢
  go_upto_region 10 with (go_at_call 78; refine (fdH_any 79 80 81 _).mono ?_; rintro e u9 ⟨x9, y9, z9, rfl, hb, hp⟩; have HX := hid (And.intro hb hp); clear hb hp)
  have hbb : Below W8.heap.size W8 (u9.alloc (.cells (ptc 112 113 114 x9 y9 z9) 78)) := HX.out.1.alloc HX.out.1.size _
  have HA1' := hid (HA1.out.on hbb)
  clear HA1
  have HA1 := hid HA1'.out
  clear HA1'
  have HA2' := hid (HA2.out.on hbb)
  clear HA2
  have HA2 := hid HA2'.out
  clear HA2'
  have HA3' := hid (HA3.out.on hbb)
  clear HA3
  have HA3 := hid HA3'.out
  clear HA3'
  have HA4' := hid (HA4.out.on hbb)
  clear HA4
  have HA4 := hid HA4'.out
  clear HA4'
  have HA5' := hid (HA5.out.on hbb)
  clear HA5
  have HA5 := hid HA5'.out
  clear HA5'
  have HA6' := hid (HA6.out.on hbb)
  clear HA6
  have HA6 := hid HA6'.out
  clear HA6'
  have HA7' := hid (HA7.out.on hbb)
  clear HA7
  have HA7 := hid HA7'.out
  clear HA7'
  have HA8' := hid (HA8.out.on hbb)
  clear HA8
  have HA8 := hid HA8'.out
  clear HA8'
  have HA9 : Hid (At (w.heap.size + 1) (u9.alloc (.cells (ptc 112 113 114 x9 y9 z9) 78)) u9.heap.size .hs) := At.new (k := .hs) (Array.getElem?_eq_some_iff.1 HZ8.out).1 HX.out.2
  have HB9 := hid (HB8.out.trans (hbb.mono HB8.out.size))
  have HZ9 := hid ((hbb.block w.heap.size (Array.getElem?_eq_some_iff.1 HZ8.out).1).trans HZ8.out)
  clear HB8 HZ8 hbb HX
  generalize u9.alloc (.cells (ptc 112 113 114 x9 y9 z9) 78) = W9 at HB9 HZ9 HA1 HA2 HA3 HA4 HA5 HA6 HA7 HA8 HA9 ⊢
  go_upto_region 11 with (go_at_call 82; refine (fdO_any 83 84 85 _).mono ?_; rintro e u10 ⟨x10, y10, z10, rfl, hb, hp⟩; have HX := hid (And.intro hb hp); clear hb hp)
  have hbb : Below W9.heap.size W9 (u10.alloc (.cells (ptc 119 120 121 x10 y10 z10) 78)) := HX.out.1.alloc HX.out.1.size _
  have HA1' := hid (HA1.out.on hbb)
  clear HA1
  have HA1 := hid HA1'.out
  clear HA1'
  have HA2' := hid (HA2.out.on hbb)
  clear HA2
  have HA2 := hid HA2'.out
  clear HA2'
  have HA3' := hid (HA3.out.on hbb)
  clear HA3
  have HA3 := hid HA3'.out
  clear HA3'
  have HA4' := hid (HA4.out.on hbb)
  clear HA4
  have HA4 := hid HA4'.out
  clear HA4'
  have HA5' := hid (HA5.out.on hbb)
  clear HA5
  have HA5 := hid HA5'.out
  clear HA5'
  have HA6' := hid (HA6.out.on hbb)
  clear HA6
  have HA6 := hid HA6'.out
  clear HA6'
  have HA7' := hid (HA7.out.on hbb)
  clear HA7
  have HA7 := hid HA7'.out
  clear HA7'
  have HA8' := hid (HA8.out.on hbb)
  clear HA8
  have HA8 := hid HA8'.out
  clear HA8'
  have HA9' := hid (HA9.out.on hbb)
  clear HA9
  have HA9 := hid HA9'.out
  clear HA9'
  have HA10 : Hid (At (w.heap.size + 1) (u10.alloc (.cells (ptc 119 120 121 x10 y10 z10) 78)) u10.heap.size .up) := At.new (k := .up) (Array.getElem?_eq_some_iff.1 HZ9.out).1 HX.out.2
  have HB10 := hid (HB9.out.trans (hbb.mono HB9.out.size))
  have HZ10 := hid ((hbb.block w.heap.size (Array.getElem?_eq_some_iff.1 HZ9.out).1).trans HZ9.out)
  clear HB9 HZ9 hbb HX
  generalize u10.alloc (.cells (ptc 119 120 121 x10 y10 z10) 78) = W10 at HB10 HZ10 HA1 HA2 HA3 HA4 HA5 HA6 HA7 HA8 HA9 HA10 ⊢
  go_upto_region 12 with (go_at_call 53; refine (fdU_any 86 55 56 _).mono ?_; rintro e u11 ⟨x11, y11, z11, rfl, hb, hp⟩; have HX := hid (And.intro hb hp); clear hb hp)
  have hbb : Below W10.heap.size W10 (u11.alloc (.cells (ptc 87 88 89 x11 y11 z11) 78)) := HX.out.1.alloc HX.out.1.size _
  have HA1' := hid (HA1.out.on hbb)
  clear HA1
  have HA1 := hid HA1'.out
  clear HA1'
  have HA2' := hid (HA2.out.on hbb)
  clear HA2
  have HA2 := hid HA2'.out
  clear HA2'
  have HA3' := hid (HA3.out.on hbb)
  clear HA3
  have HA3 := hid HA3'.out
  clear HA3'
  have HA4' := hid (HA4.out.on hbb)
  clear HA4
  have HA4 := hid HA4'.out
  clear HA4'
  have HA5' := hid (HA5.out.on hbb)
  clear HA5
  have HA5 := hid HA5'.out
  clear HA5'
  have HA6' := hid (HA6.out.on hbb)
  clear HA6
  have HA6 := hid HA6'.out
  clear HA6'
  have HA7' := hid (HA7.out.on hbb)
  clear HA7
  have HA7 := hid HA7'.out
  clear HA7'
  have HA8' := hid (HA8.out.on hbb)
  clear HA8
  have HA8 := hid HA8'.out
  clear HA8'
  have HA9' := hid (HA9.out.on hbb)
  clear HA9
  have HA9 := hid HA9'.out
  clear HA9'
  have HA10' := hid (HA10.out.on hbb)
  clear HA10
  have HA10 := hid HA10'.out
  clear HA10'
  have HA11 : Hid (At (w.heap.size + 1) (u11.alloc (.cells (ptc 87 88 89 x11 y11 z11) 78)) u11.heap.size .co) := At.new (k := .co) (Array.getElem?_eq_some_iff.1 HZ10.out).1 HX.out.2
  have HB11 := hid (HB10.out.trans (hbb.mono HB10.out.size))
  have HZ11 := hid ((hbb.block w.heap.size (Array.getElem?_eq_some_iff.1 HZ10.out).1).trans HZ10.out)
  clear HB10 HZ10 hbb HX
  generalize u11.alloc (.cells (ptc 87 88 89 x11 y11 z11) 78) = W11 at HB11 HZ11 HA1 HA2 HA3 HA4 HA5 HA6 HA7 HA8 HA9 HA10 HA11 ⊢
  have l1 := HA1.out.lt
  obtain ⟨a1, b1, d1, h1, p1⟩ := HA1.out
  have P1 := hid p1
  obtain ⟨c10, c11, c12⟩ := three_cells h1
  clear h1 p1 HA1
  generalize u1.heap.size = q1 at l1 c10 c11 c12 ⊢
  have l2 := HA2.out.lt
  obtain ⟨a2, b2, d2, h2, p2⟩ := HA2.out
  have P2 := hid p2
  obtain ⟨c20, c21, c22⟩ := three_cells h2
  clear h2 p2 HA2
  generalize u2.heap.size = q2 at l2 c20 c21 c22 ⊢
  have l3 := HA3.out.lt
  obtain ⟨a3, b3, d3, h3, p3⟩ := HA3.out
  have P3 := hid p3
  obtain ⟨c30, c31, c32⟩ := three_cells h3
  clear h3 p3 HA3
  generalize u3.heap.size = q3 at l3 c30 c31 c32 ⊢
  have l4 := HA4.out.lt
  obtain ⟨a4, b4, d4, h4, p4⟩ := HA4.out
  have P4 := hid p4
  obtain ⟨c40, c41, c42⟩ := three_cells h4
  clear h4 p4 HA4
  generalize u4.heap.size = q4 at l4 c40 c41 c42 ⊢
  have l5 := HA5.out.lt
  obtain ⟨a5, b5, d5, h5, p5⟩ := HA5.out
  have P5 := hid p5
  obtain ⟨c50, c51, c52⟩ := three_cells h5
  clear h5 p5 HA5
  generalize u5.heap.size = q5 at l5 c50 c51 c52 ⊢
  have l6 := HA6.out.lt
  obtain ⟨a6, b6, d6, h6, p6⟩ := HA6.out
  have P6 := hid p6
  obtain ⟨c60, c61, c62⟩ := three_cells h6
  clear h6 p6 HA6
  generalize u6.heap.size = q6 at l6 c60 c61 c62 ⊢
  have l7 := HA7.out.lt
  obtain ⟨a7, b7, d7, h7, p7⟩ := HA7.out
  have P7 := hid p7
  obtain ⟨c70, c71, c72⟩ := three_cells h7
  clear h7 p7 HA7
  generalize u7.heap.size = q7 at l7 c70 c71 c72 ⊢
  have l8 := HA8.out.lt
  obtain ⟨a8, b8, d8, h8, p8⟩ := HA8.out
  have P8 := hid p8
  obtain ⟨c80, c81, c82⟩ := three_cells h8
  clear h8 p8 HA8
  generalize u8.heap.size = q8 at l8 c80 c81 c82 ⊢
  have l9 := HA9.out.lt
  obtain ⟨a9, b9, d9, h9, p9⟩ := HA9.out
  have P9 := hid p9
  obtain ⟨c90, c91, c92⟩ := three_cells h9
  clear h9 p9 HA9
  generalize u9.heap.size = q9 at l9 c90 c91 c92 ⊢
  have l10 := HA10.out.lt
  obtain ⟨a10, b10, d10, h10, p10⟩ := HA10.out
  have P10 := hid p10
  obtain ⟨c100, c101, c102⟩ := three_cells h10
  clear h10 p10 HA10
  generalize u10.heap.size = q10 at l10 c100 c101 c102 ⊢
  have l11 := HA11.out.lt
  obtain ⟨a11, b11, d11, h11, p11⟩ := HA11.out
  have P11 := hid p11
  obtain ⟨c110, c111, c112⟩ := three_cells h11
  clear h11 p11 HA11
  generalize u11.heap.size = q11 at l11 c110 c111 c112 ⊢
  have e6_3_1 : q6 < W11.heap.size + 1 := by omega
  have e6_3_2 : q6 < W11.heap.size + 1 + 1 := by omega
  have e6_3_3 : q6 < W11.heap.size + 1 + 1 + 1 := by omega
  have e8_3_1 : q8 < W11.heap.size + 1 := by omega
  have e8_3_2 : q8 < W11.heap.size + 1 + 1 := by omega
  have e8_3_3 : q8 < W11.heap.size + 1 + 1 + 1 := by omega
  have e7_4_1 : q7 < W11.heap.size + 1 := by omega
  have e7_4_2 : q7 < W11.heap.size + 1 + 1 := by omega
  have e7_4_3 : q7 < W11.heap.size + 1 + 1 + 1 := by omega
  have e7_4_4 : q7 < W11.heap.size + 1 + 1 + 1 + 1 := by omega
  have e9_4_1 : q9 < W11.heap.size + 1 := by omega
  have e9_4_2 : q9 < W11.heap.size + 1 + 1 := by omega
  have e9_4_3 : q9 < W11.heap.size + 1 + 1 + 1 := by omega
  have e9_4_4 : q9 < W11.heap.size + 1 + 1 + 1 + 1 := by omega
  have e6_5_1 : q6 < W11.heap.size + 1 := by omega
  have e6_5_2 : q6 < W11.heap.size + 1 + 1 := by omega
  have e6_5_3 : q6 < W11.heap.size + 1 + 1 + 1 := by omega
  have e6_5_4 : q6 < W11.heap.size + 1 + 1 + 1 + 1 := by omega
  have e6_5_5 : q6 < W11.heap.size + 1 + 1 + 1 + 1 + 1 := by omega
  have e10_5_1 : q10 < W11.heap.size + 1 := by omega
  have e10_5_2 : q10 < W11.heap.size + 1 + 1 := by omega
  have e10_5_3 : q10 < W11.heap.size + 1 + 1 + 1 := by omega
  have e10_5_4 : q10 < W11.heap.size + 1 + 1 + 1 + 1 := by omega
  have e10_5_5 : q10 < W11.heap.size + 1 + 1 + 1 + 1 + 1 := by omega
  have e11_6_1 : q11 < W11.heap.size + 1 := by omega
  have e11_6_2 : q11 < W11.heap.size + 1 + 1 := by omega
  have e11_6_3 : q11 < W11.heap.size + 1 + 1 + 1 := by omega
  have e11_6_4 : q11 < W11.heap.size + 1 + 1 + 1 + 1 := by omega
  have e11_6_5 : q11 < W11.heap.size + 1 + 1 + 1 + 1 + 1 := by omega
  have e11_6_6 : q11 < W11.heap.size + 1 + 1 + 1 + 1 + 1 + 1 := by omega
  have lz := (Array.getElem?_eq_some_iff.1 HZ11.out).1
  obtain ⟨V, HV, vb, v0, v1, v2, v3, v4, v5, v6⟩ := seven W11 (.cells #[.func (.func (fn1 .sw)) #[] #[ptr a1], .func (.func (fn2 .sw)) #[] #[ptr b1, ptr a1], .func (.func (fn3 .sw)) #[] #[ptr d1, ptr a1], .func (.func (fn1 .ps)) #[] #[ptr a2], .func (.func (fn2 .ps)) #[] #[ptr b2, ptr a2], .func (.func (fn3 .ps)) #[] #[ptr d2, ptr a2], .func (.func (fn1 .ed)) #[] #[ptr a3], .func (.func (fn2 .ed)) #[] #[ptr b3, ptr a3], .func (.func (fn3 .ed)) #[] #[ptr d3, ptr a3]] 78) (.cells #[.func (.func (fn1 .dw)) #[] #[ptr a4], .func (.func (fn2 .dw)) #[] #[ptr b4, ptr a4], .func (.func (fn3 .dw)) #[] #[ptr d4, ptr a4], .func (.func (fn1 .rl)) #[] #[ptr a5], .func (.func (fn2 .rl)) #[] #[ptr b5, ptr a5], .func (.func (fn3 .rl)) #[] #[ptr d5, ptr a5]] 78) (.cells #[.func (.func (fn1 .po)) #[] #[ptr a6], .func (.func (fn2 .po)) #[] #[ptr b6, ptr a6], .func (.func (fn3 .po)) #[] #[ptr d6, ptr a6], .func (.func (fn1 .fr)) #[] #[ptr a8], .func (.func (fn2 .fr)) #[] #[ptr b8, ptr a8], .func (.func (fn3 .fr)) #[] #[ptr d8, ptr a8]] 78) (.cells #[.func (.func (fn1 .po)) #[] #[ptr a6], .func (.func (fn2 .po)) #[] #[ptr b6, ptr a6], .func (.func (fn3 .po)) #[] #[ptr d6, ptr a6], .func (.func (fn1 .fr)) #[] #[ptr a8], .func (.func (fn2 .fr)) #[] #[ptr b8, ptr a8], .func (.func (fn3 .fr)) #[] #[ptr d8, ptr a8]] 78) (.cells #[.func (.func (fn1 .mo)) #[] #[ptr a7], .func (.func (fn2 .mo)) #[] #[ptr b7, ptr a7], .func (.func (fn3 .mo)) #[] #[ptr d7, ptr a7], .func (.func (fn1 .hs)) #[] #[ptr a9], .func (.func (fn2 .hs)) #[] #[ptr b9, ptr a9], .func (.func (fn3 .hs)) #[] #[ptr d9, ptr a9]] 78) (.cells #[.func (.func (fn1 .po)) #[] #[ptr a6], .func (.func (fn2 .po)) #[] #[ptr b6, ptr a6], .func (.func (fn3 .po)) #[] #[ptr d6, ptr a6], .func (.func (fn1 .up)) #[] #[ptr a10], .func (.func (fn2 .up)) #[] #[ptr b10, ptr a10], .func (.func (fn3 .up)) #[] #[ptr d10, ptr a10]] 78) (.cells #[.func (.func (fn1 .co)) #[] #[ptr a11], .func (.func (fn2 .co)) #[] #[ptr b11, ptr a11], .func (.func (fn3 .co)) #[] #[ptr d11, ptr a11]] 78)
  have HVB := hid vb
  have HVs := hid (And.intro v0 (And.intro v1 (And.intro v2 (And.intro v3 (And.intro v4 (And.intro v5 v6))))))
  clear vb v0 v1 v2 v3 v4 v5 v6
  have HZV : Hid (V.heap[w.heap.size]? = _) := (HVB.out.block w.heap.size lz).trans HZ11.out
  have HEq : Hid ((((((((W11.alloc (.cells #[.func (.func (fn1 .sw)) #[] #[ptr a1], .func (.func (fn2 .sw)) #[] #[ptr b1, ptr a1], .func (.func (fn3 .sw)) #[] #[ptr d1, ptr a1], .func (.func (fn1 .ps)) #[] #[ptr a2], .func (.func (fn2 .ps)) #[] #[ptr b2, ptr a2], .func (.func (fn3 .ps)) #[] #[ptr d2, ptr a2], .func (.func (fn1 .ed)) #[] #[ptr a3], .func (.func (fn2 .ed)) #[] #[ptr b3, ptr a3], .func (.func (fn3 .ed)) #[] #[ptr d3, ptr a3]] 78)).alloc (.cells #[.func (.func (fn1 .dw)) #[] #[ptr a4], .func (.func (fn2 .dw)) #[] #[ptr b4, ptr a4], .func (.func (fn3 .dw)) #[] #[ptr d4, ptr a4], .func (.func (fn1 .rl)) #[] #[ptr a5], .func (.func (fn2 .rl)) #[] #[ptr b5, ptr a5], .func (.func (fn3 .rl)) #[] #[ptr d5, ptr a5]] 78)).alloc (.cells #[.func (.func (fn1 .po)) #[] #[ptr a6], .func (.func (fn2 .po)) #[] #[ptr b6, ptr a6], .func (.func (fn3 .po)) #[] #[ptr d6, ptr a6], .func (.func (fn1 .fr)) #[] #[ptr a8], .func (.func (fn2 .fr)) #[] #[ptr b8, ptr a8], .func (.func (fn3 .fr)) #[] #[ptr d8, ptr a8]] 78)).alloc (.cells #[.func (.func (fn1 .po)) #[] #[ptr a6], .func (.func (fn2 .po)) #[] #[ptr b6, ptr a6], .func (.func (fn3 .po)) #[] #[ptr d6, ptr a6], .func (.func (fn1 .fr)) #[] #[ptr a8], .func (.func (fn2 .fr)) #[] #[ptr b8, ptr a8], .func (.func (fn3 .fr)) #[] #[ptr d8, ptr a8]] 78)).alloc (.cells #[.func (.func (fn1 .mo)) #[] #[ptr a7], .func (.func (fn2 .mo)) #[] #[ptr b7, ptr a7], .func (.func (fn3 .mo)) #[] #[ptr d7, ptr a7], .func (.func (fn1 .hs)) #[] #[ptr a9], .func (.func (fn2 .hs)) #[] #[ptr b9, ptr a9], .func (.func (fn3 .hs)) #[] #[ptr d9, ptr a9]] 78)).alloc (.cells #[.func (.func (fn1 .po)) #[] #[ptr a6], .func (.func (fn2 .po)) #[] #[ptr b6, ptr a6], .func (.func (fn3 .po)) #[] #[ptr d6, ptr a6], .func (.func (fn1 .up)) #[] #[ptr a10], .func (.func (fn2 .up)) #[] #[ptr b10, ptr a10], .func (.func (fn3 .up)) #[] #[ptr d10, ptr a10]] 78)).alloc (.cells #[.func (.func (fn1 .co)) #[] #[ptr a11], .func (.func (fn2 .co)) #[] #[ptr b11, ptr a11], .func (.func (fn3 .co)) #[] #[ptr d11, ptr a11]] 78)) = V) := HV.out.symm
  have HOne : Hid ((#[nilS, nilS, nilS, nilS, (.slice (some ⟨W11.heap.size, 0, none⟩) 3 3), (.slice (some ⟨W11.heap.size + 1, 0, none⟩) 2 2), (.slice (some ⟨W11.heap.size + 1 + 1, 0, none⟩) 2 2), (.slice (some ⟨W11.heap.size + 1 + 1 + 1, 0, none⟩) 2 2), nilS, nilS, nilS, (.slice (some ⟨W11.heap.size + 1 + 1 + 1 + 1, 0, none⟩) 2 2), (.slice (some ⟨W11.heap.size + 1 + 1 + 1 + 1 + 1, 0, none⟩) 2 2), (.slice (some ⟨W11.heap.size + 1 + 1 + 1 + 1 + 1 + 1, 0, none⟩) 1 1)] : Array Value).all (·.oneCell') = true) := by show _ = _; simp [Value.oneCell']
  have HZW : Hid ((((((((W11.alloc (.cells #[.func (.func (fn1 .sw)) #[] #[ptr a1], .func (.func (fn2 .sw)) #[] #[ptr b1, ptr a1], .func (.func (fn3 .sw)) #[] #[ptr d1, ptr a1], .func (.func (fn1 .ps)) #[] #[ptr a2], .func (.func (fn2 .ps)) #[] #[ptr b2, ptr a2], .func (.func (fn3 .ps)) #[] #[ptr d2, ptr a2], .func (.func (fn1 .ed)) #[] #[ptr a3], .func (.func (fn2 .ed)) #[] #[ptr b3, ptr a3], .func (.func (fn3 .ed)) #[] #[ptr d3, ptr a3]] 78)).alloc (.cells #[.func (.func (fn1 .dw)) #[] #[ptr a4], .func (.func (fn2 .dw)) #[] #[ptr b4, ptr a4], .func (.func (fn3 .dw)) #[] #[ptr d4, ptr a4], .func (.func (fn1 .rl)) #[] #[ptr a5], .func (.func (fn2 .rl)) #[] #[ptr b5, ptr a5], .func (.func (fn3 .rl)) #[] #[ptr d5, ptr a5]] 78)).alloc (.cells #[.func (.func (fn1 .po)) #[] #[ptr a6], .func (.func (fn2 .po)) #[] #[ptr b6, ptr a6], .func (.func (fn3 .po)) #[] #[ptr d6, ptr a6], .func (.func (fn1 .fr)) #[] #[ptr a8], .func (.func (fn2 .fr)) #[] #[ptr b8, ptr a8], .func (.func (fn3 .fr)) #[] #[ptr d8, ptr a8]] 78)).alloc (.cells #[.func (.func (fn1 .po)) #[] #[ptr a6], .func (.func (fn2 .po)) #[] #[ptr b6, ptr a6], .func (.func (fn3 .po)) #[] #[ptr d6, ptr a6], .func (.func (fn1 .fr)) #[] #[ptr a8], .func (.func (fn2 .fr)) #[] #[ptr b8, ptr a8], .func (.func (fn3 .fr)) #[] #[ptr d8, ptr a8]] 78)).alloc (.cells #[.func (.func (fn1 .mo)) #[] #[ptr a7], .func (.func (fn2 .mo)) #[] #[ptr b7, ptr a7], .func (.func (fn3 .mo)) #[] #[ptr d7, ptr a7], .func (.func (fn1 .hs)) #[] #[ptr a9], .func (.func (fn2 .hs)) #[] #[ptr b9, ptr a9], .func (.func (fn3 .hs)) #[] #[ptr d9, ptr a9]] 78)).alloc (.cells #[.func (.func (fn1 .po)) #[] #[ptr a6], .func (.func (fn2 .po)) #[] #[ptr b6, ptr a6], .func (.func (fn3 .po)) #[] #[ptr d6, ptr a6], .func (.func (fn1 .up)) #[] #[ptr a10], .func (.func (fn2 .up)) #[] #[ptr b10, ptr a10], .func (.func (fn3 .up)) #[] #[ptr d10, ptr a10]] 78)).alloc (.cells #[.func (.func (fn1 .co)) #[] #[ptr a11], .func (.func (fn2 .co)) #[] #[ptr b11, ptr a11], .func (.func (fn3 .co)) #[] #[ptr d11, ptr a11]] 78)).heap[w.heap.size]? = some (.cells #[nilS, nilS, nilS, nilS, nilS, nilS, nilS, nilS, nilS, nilS, nilS, nilS, nilS, nilS] 95 (0, 0))) := by
    show _ = _
    rw [HEq.out]; exact HZV.out
  go_wp2_with ((refine stRow 95 (.tmp 0) (.tmp 44) rfl rfl w.heap.size #[nilS, nilS, nilS, nilS, (.slice (some ⟨W11.heap.size, 0, none⟩) 3 3), (.slice (some ⟨W11.heap.size + 1, 0, none⟩) 2 2), (.slice (some ⟨W11.heap.size + 1 + 1, 0, none⟩) 2 2), (.slice (some ⟨W11.heap.size + 1 + 1 + 1, 0, none⟩) 2 2), nilS, nilS, nilS, (.slice (some ⟨W11.heap.size + 1 + 1 + 1 + 1, 0, none⟩) 2 2), (.slice (some ⟨W11.heap.size + 1 + 1 + 1 + 1 + 1, 0, none⟩) 2 2), (.slice (some ⟨W11.heap.size + 1 + 1 + 1 + 1 + 1 + 1, 0, none⟩) 1 1)] rfl rfl 95 #[nilS, nilS, nilS, nilS, nilS, nilS, nilS, nilS, nilS, nilS, nilS, nilS, nilS, nilS] (by exact HZW.out) (by kernel_rfl) (by rfl) (by exact HOne.out) ?_))
  rw [HEq.out]
  have hcar : ∀ b, b < V.heap.size → w.heap.size + 1 ≤ b → w.heap.size ≤ b ∧ (V.setRow w.heap.size #[nilS, nilS, nilS, nilS, (.slice (some ⟨W11.heap.size, 0, none⟩) 3 3), (.slice (some ⟨W11.heap.size + 1, 0, none⟩) 2 2), (.slice (some ⟨W11.heap.size + 1 + 1, 0, none⟩) 2 2), (.slice (some ⟨W11.heap.size + 1 + 1 + 1, 0, none⟩) 2 2), nilS, nilS, nilS, (.slice (some ⟨W11.heap.size + 1 + 1 + 1 + 1, 0, none⟩) 2 2), (.slice (some ⟨W11.heap.size + 1 + 1 + 1 + 1 + 1, 0, none⟩) 2 2), (.slice (some ⟨W11.heap.size + 1 + 1 + 1 + 1 + 1 + 1, 0, none⟩) 1 1)]).heap[b]? = V.heap[b]? := fun b _ hb => ⟨by omega, setRow_other V w.heap.size b _ (by omega)⟩
  have f0 : Pts (fun x => w.heap.size + 1 ≤ x) V (.slice (some ⟨W11.heap.size, 0, none⟩) 3 3) [.sw, .ps, .ed] := by
    refine pts_new (b := W11.heap.size) rfl (by omega) (by simp) HVs.out.1 fun j hj => ?_
    have hj' : j = 0 ∨ j = 1 ∨ j = 2 := by simp at hj; omega
    rcases hj' with rfl | rfl | rfl
    · exact ⟨a1, b1, d1, rfl, rfl, rfl, P1.out.carry fun b hb h => ⟨h, HVB.out.block b hb⟩⟩
    · exact ⟨a2, b2, d2, rfl, rfl, rfl, P2.out.carry fun b hb h => ⟨h, HVB.out.block b hb⟩⟩
    · exact ⟨a3, b3, d3, rfl, rfl, rfl, P3.out.carry fun b hb h => ⟨h, HVB.out.block b hb⟩⟩
  have f1 : Pts (fun x => w.heap.size + 1 ≤ x) V (.slice (some ⟨W11.heap.size + 1, 0, none⟩) 2 2) [.dw, .rl] := by
    refine pts_new (b := W11.heap.size + 1) rfl (by omega) (by simp) HVs.out.2.1 fun j hj => ?_
    have hj' : j = 0 ∨ j = 1 := by simp at hj; omega
    rcases hj' with rfl | rfl
    · exact ⟨a4, b4, d4, rfl, rfl, rfl, P4.out.carry fun b hb h => ⟨h, HVB.out.block b hb⟩⟩
    · exact ⟨a5, b5, d5, rfl, rfl, rfl, P5.out.carry fun b hb h => ⟨h, HVB.out.block b hb⟩⟩
  have f2 : Pts (fun x => w.heap.size + 1 ≤ x) V (.slice (some ⟨W11.heap.size + 1 + 1, 0, none⟩) 2 2) [.po, .fr] := by
    refine pts_new (b := W11.heap.size + 1 + 1) rfl (by omega) (by simp) HVs.out.2.2.1 fun j hj => ?_
    have hj' : j = 0 ∨ j = 1 := by simp at hj; omega
    rcases hj' with rfl | rfl
    · exact ⟨a6, b6, d6, rfl, rfl, rfl, P6.out.carry fun b hb h => ⟨h, HVB.out.block b hb⟩⟩
    · exact ⟨a8, b8, d8, rfl, rfl, rfl, P8.out.carry fun b hb h => ⟨h, HVB.out.block b hb⟩⟩
  have f3 : Pts (fun x => w.heap.size + 1 ≤ x) V (.slice (some ⟨W11.heap.size + 1 + 1 + 1, 0, none⟩) 2 2) [.po, .fr] := by
    refine pts_new (b := W11.heap.size + 1 + 1 + 1) rfl (by omega) (by simp) HVs.out.2.2.2.1 fun j hj => ?_
    have hj' : j = 0 ∨ j = 1 := by simp at hj; omega
    rcases hj' with rfl | rfl
    · exact ⟨a6, b6, d6, rfl, rfl, rfl, P6.out.carry fun b hb h => ⟨h, HVB.out.block b hb⟩⟩
    · exact ⟨a8, b8, d8, rfl, rfl, rfl, P8.out.carry fun b hb h => ⟨h, HVB.out.block b hb⟩⟩
  have f4 : Pts (fun x => w.heap.size + 1 ≤ x) V (.slice (some ⟨W11.heap.size + 1 + 1 + 1 + 1, 0, none⟩) 2 2) [.mo, .hs] := by
    refine pts_new (b := W11.heap.size + 1 + 1 + 1 + 1) rfl (by omega) (by simp) HVs.out.2.2.2.2.1 fun j hj => ?_
    have hj' : j = 0 ∨ j = 1 := by simp at hj; omega
    rcases hj' with rfl | rfl
    · exact ⟨a7, b7, d7, rfl, rfl, rfl, P7.out.carry fun b hb h => ⟨h, HVB.out.block b hb⟩⟩
    · exact ⟨a9, b9, d9, rfl, rfl, rfl, P9.out.carry fun b hb h => ⟨h, HVB.out.block b hb⟩⟩
  have f5 : Pts (fun x => w.heap.size + 1 ≤ x) V (.slice (some ⟨W11.heap.size + 1 + 1 + 1 + 1 + 1, 0, none⟩) 2 2) [.po, .up] := by
    refine pts_new (b := W11.heap.size + 1 + 1 + 1 + 1 + 1) rfl (by omega) (by simp) HVs.out.2.2.2.2.2.1 fun j hj => ?_
    have hj' : j = 0 ∨ j = 1 := by simp at hj; omega
    rcases hj' with rfl | rfl
    · exact ⟨a6, b6, d6, rfl, rfl, rfl, P6.out.carry fun b hb h => ⟨h, HVB.out.block b hb⟩⟩
    · exact ⟨a10, b10, d10, rfl, rfl, rfl, P10.out.carry fun b hb h => ⟨h, HVB.out.block b hb⟩⟩
  have f6 : Pts (fun x => w.heap.size + 1 ≤ x) V (.slice (some ⟨W11.heap.size + 1 + 1 + 1 + 1 + 1 + 1, 0, none⟩) 1 1) [.co] := by
    refine pts_new (b := W11.heap.size + 1 + 1 + 1 + 1 + 1 + 1) rfl (by omega) (by simp) HVs.out.2.2.2.2.2.2 fun j hj => ?_
    have hj' : j = 0 := by simp at hj; omega
    rcases hj' with rfl
    · exact ⟨a11, b11, d11, rfl, rfl, rfl, P11.out.carry fun b hb h => ⟨h, HVB.out.block b hb⟩⟩

  refine bodyPost_ret (v := .agg #[nilS, nilS, nilS, nilS, (.slice (some ⟨W11.heap.size, 0, none⟩) 3 3), (.slice (some ⟨W11.heap.size + 1, 0, none⟩) 2 2), (.slice (some ⟨W11.heap.size + 1 + 1, 0, none⟩) 2 2), (.slice (some ⟨W11.heap.size + 1 + 1 + 1, 0, none⟩) 2 2), nilS, nilS, nilS, (.slice (some ⟨W11.heap.size + 1 + 1 + 1 + 1, 0, none⟩) 2 2), (.slice (some ⟨W11.heap.size + 1 + 1 + 1 + 1 + 1, 0, none⟩) 2 2), (.slice (some ⟨W11.heap.size + 1 + 1 + 1 + 1 + 1 + 1, 0, none⟩) 1 1)]) ?_ rfl ⟨_, _, _, _, _, _, _, rfl, ?_, Pts.carry hcar f0, Pts.carry hcar f1, Pts.carry hcar f2, Pts.carry hcar f3, Pts.carry hcar f4, Pts.carry hcar f5, Pts.carry hcar f6⟩
  · exact resTab _ _ w.heap.size #[nilS, nilS, nilS, nilS, (.slice (some ⟨W11.heap.size, 0, none⟩) 3 3), (.slice (some ⟨W11.heap.size + 1, 0, none⟩) 2 2), (.slice (some ⟨W11.heap.size + 1 + 1, 0, none⟩) 2 2), (.slice (some ⟨W11.heap.size + 1 + 1 + 1, 0, none⟩) 2 2), nilS, nilS, nilS, (.slice (some ⟨W11.heap.size + 1 + 1 + 1 + 1, 0, none⟩) 2 2), (.slice (some ⟨W11.heap.size + 1 + 1 + 1 + 1 + 1, 0, none⟩) 2 2), (.slice (some ⟨W11.heap.size + 1 + 1 + 1 + 1 + 1 + 1, 0, none⟩) 1 1)] (by rfl) (setRow_heap V w.heap.size _ #[nilS, nilS, nilS, nilS, (.slice (some ⟨W11.heap.size, 0, none⟩) 3 3), (.slice (some ⟨W11.heap.size + 1, 0, none⟩) 2 2), (.slice (some ⟨W11.heap.size + 1 + 1, 0, none⟩) 2 2), (.slice (some ⟨W11.heap.size + 1 + 1 + 1, 0, none⟩) 2 2), nilS, nilS, nilS, (.slice (some ⟨W11.heap.size + 1 + 1 + 1 + 1, 0, none⟩) 2 2), (.slice (some ⟨W11.heap.size + 1 + 1 + 1 + 1 + 1, 0, none⟩) 2 2), (.slice (some ⟨W11.heap.size + 1 + 1 + 1 + 1 + 1 + 1, 0, none⟩) 1 1)] 95 _ HZV.out) (by kernel_rfl)
  · have hbV := HB11.out.trans (HVB.out.mono HB11.out.size)
    exact ⟨hbV.os, hbV.tape, hbV.output, by have := hbV.size; simpa [World.setRow] using this, fun k hk => (setRow_other V w.heap.size k _ (by omega)).trans (hbV.block k hk)⟩
end Go.Proofs.YtllbbbfkdgjffaaGreatDoor
