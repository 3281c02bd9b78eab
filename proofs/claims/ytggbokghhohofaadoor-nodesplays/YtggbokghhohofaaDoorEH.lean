/-
  Proved here: the document's put: a node's number, if it stands; else it comes behind the others, where there is room. Condition: no more nodes than there may be; the rows are settings.
-/
import Derived.Test.YtggbokghhohofaaDoorEG
import Derived.Test.YtggbokghhohofaaDoorDB
namespace Go.Proofs.YtggbokghhohofaaDoor
open Go.RowKit Go.Maps
set_option maxRecDepth 100000

/-- A store of the document's, its own list named. -/
structure RQ (D : Nat → Prop) (p : Nat) (va : Value) (d : List Nv) (w : World) : Prop where
  hp : w.heap[p]? = some (.cells #[va] 30 (0, 0))
  rw : Rw D 5 41 w va d.length (fl flN d)
  lf : ∀ x ∈ d, Cps (fun b => D b ∧ b ≠ p ∧ va.ownBlock ≠ some b) w x.1 x.2.lf
theorem RQ.on {D : Nat → Prop} {p : Nat} {va : Value} {d : List Nv} {w w' : World} (h : RQ D p va d w) (hb : Below w.heap.size w w') : RQ D p va d w' :=
  ⟨(hb.block p (Array.getElem?_eq_some_iff.1 h.hp).1).trans h.hp, h.rw.carry fun b hlt hS => ⟨hS, hb.block b hlt⟩, fun x hx => (h.lf x hx).on hb⟩
theorem RQ.st {D D' : Nat → Prop} {p : Nat} {va : Value} {d : List Nv} {w : World} (h : RQ D p va d w) (hp : D p) (hv : va.ownBlock ≠ some p) (hD : ∀ b, D b → D' b) : RSt D' p w (d.map (·.2)) :=
  ⟨va, d, rfl, h.hp, hD p hp, h.rw.carry fun b _ hS => ⟨hD b hS, rfl⟩, hv, fun x hx => (h.lf x hx).carry fun b _ hS => ⟨⟨hD b hS.1, hS.2⟩, rfl⟩⟩
theorem only_of {S : Nat → Prop} {w w' : World} (h : Below w.heap.size w w') (hS : ∀ b, w.heap.size ≤ b → S b) : Only S w w' := ⟨h.os, h.tape, h.output, h.size, fun k hk => h.block k (by
  rcases Nat.lt_or_ge k w.heap.size with h1 | h1
  · exact h1
  · exact absurd (hS k h1) hk)⟩
/-- What the append of a node makes. -/
theorem radd_of {D : Nat → Prop} {p N P : Nat} {Wd W3 w4 : World} {va va' : Value} {d : List Nv} {u : Value} {x : Nd} (hD : ∀ b, D b → b < N) (hN : N ≤ P) (h : RQ D p va d Wd) (h3 : D p) (h5 : va.ownBlock ≠ some p) (hu : Cps (fun b => N ≤ b) Wd u x.lf) (hP : Wd.heap[P]? = some (.cells (ndc (u, x)) 41 (0, 0))) (hW3 : W3 = Wd.alloc (.cells (ndc (u, x)) 41)) (hA : Apd W3 va w4)
    (h7 : Rw (fun b => (D b ∧ va.ownBlock = some b) ∨ W3.heap.size ≤ b) 5 41 w4 va' (d.length + 1) (fl flN d ++ flN (u, x))) :
    w4.rangeAt P 0 (ndc (u, x)).toList ∧ w4.cell? ⟨p, 0, none⟩ = some va ∧ w4.frozen? ⟨p, 0, none⟩ = false ∧ (w4.setCell ⟨p, 0, none⟩ va').rangeAt P 0 (ndc (u, x)).toList ∧ (w4.setCell ⟨p, 0, none⟩ va').cell? ⟨p, 0, none⟩ = some va' ∧ RSt (fun b => D b ∨ N ≤ b) p (w4.setCell ⟨p, 0, none⟩ va') (d.map (·.2) ++ [x]) ∧ Only (fun b => D b ∨ Wd.heap.size ≤ b) Wd (w4.setCell ⟨p, 0, none⟩ va') := by
  have hvD : ∀ k, va.ownBlock = some k → D k := fun k hk => h.rw.own k hk
  have hlp := (Array.getElem?_eq_some_iff.1 h.hp).1
  have hPl := (Array.getElem?_eq_some_iff.1 hP).1
  have hpN := hD p h3
  have hzW3 : W3.heap.size = Wd.heap.size + 1 := by rw [hW3]; simp
  have hold : ∀ k, k < Wd.heap.size → W3.heap[k]? = Wd.heap[k]? := fun k hk => by rw [hW3, heap_alloc_old _ _ hk]
  have h4b : ∀ k, k < Wd.heap.size → va.ownBlock ≠ some k → w4.heap[k]? = Wd.heap[k]? := fun k hk hn => by rw [hA.block _ (by omega) hn, hold k hk]
  have hPv : va.ownBlock ≠ some P := fun e => by have := hD _ (hvD _ e); omega
  have hbox := (h4b P hPl hPv).trans hP
  have hrg : ∀ W : World, W.heap[P]? = some (.cells (ndc (u, x)) 41 (0, 0)) → W.rangeAt P 0 (ndc (u, x)).toList := fun W hW => range_of fun i hi => by rw [Nat.zero_add, cell_of_row _ _ _ _ _ _ hW]
  have hp4 := (h4b p hlp h5).trans h.hp
  have hp5 := heap_setCell_same w4 p 0 _ _ va' hp4
  have e5 : (#[va] : Array Value).setIfInBounds 0 va' = #[va'] := rfl
  rw [e5] at hp5
  have hne : P ≠ p := by omega
  have h5b : ∀ k, k < Wd.heap.size → va.ownBlock ≠ some k → k ≠ p → (w4.setCell ⟨p, 0, none⟩ va').heap[k]? = Wd.heap[k]? := fun k hk hn hp => (heap_setCell_other _ ⟨p, 0, none⟩ _ _ hp).trans (h4b k hk hn)
  have hown : ∀ k, va'.ownBlock = some k → va.ownBlock = some k ∨ W3.heap.size ≤ k := fun k hk => (h7.own k hk).imp And.right id
  refine ⟨hrg _ hbox, (cell_of_row _ _ _ _ _ _ hp4).trans rfl, by simp [World.frozen?, hp4], hrg _ ((h5b P hPl hPv hne).trans hP), (cell_of_row _ _ _ _ _ _ hp5).trans rfl, ⟨va', d ++ [(u, x)], by rw [List.map_append]; rfl, hp5, Or.inl h3, ?_, fun e => ?_, fun y hy => ?_⟩, ?_⟩
  · have e : fl flN (d ++ [(u, x)]) = fl flN d ++ flN (u, x) := by simp [fl]
    rw [e, List.length_append]
    refine h7.carry fun b hb hS => ⟨?_, heap_setCell_other _ ⟨p, 0, none⟩ _ _ fun e => ?_⟩
    · rcases hS with ⟨h, _⟩ | h
      · exact Or.inl h
      · exact Or.inr (by omega)
    · have e : b = p := e
      subst e
      rcases hS with ⟨_, h⟩ | h
      · exact h5 h
      · omega
  · rcases hown _ e with h | h
    · exact h5 h
    · omega
  · rcases List.mem_append.1 hy with hy | hy
    · refine (h.lf y hy).carry fun b hb hS => ⟨⟨Or.inl hS.1, hS.2.1, fun e => ?_⟩, h5b b hb hS.2.2 hS.2.1⟩
      rcases hown _ e with h | h
      · exact hS.2.2 h
      · omega
    · obtain rfl := List.mem_singleton.1 hy
      refine Cps.carry (fun b hb hS => ?_) hu
      have hS : N ≤ b := hS
      have h1 : va.ownBlock ≠ some b := fun e => by have := hD _ (hvD _ e); omega
      have h2 : b ≠ p := by omega
      exact ⟨⟨Or.inr hS, h2, fun e => by
        rcases hown _ e with h | h
        · exact h1 h
        · omega⟩, h5b b hb h1 h2⟩
  · refine (⟨hA.os.trans ?_, hA.tape.trans ?_, hA.output.trans ?_, ?_, fun k hk => ?_⟩ : Only _ Wd w4).setCell (p := ⟨p, 0, none⟩) (Or.inl h3) va'
    · rw [hW3]; rfl
    · rw [hW3]; rfl
    · rw [hW3]; rfl
    · have := hA.size; omega
    · rcases Nat.lt_or_ge k Wd.heap.size with hl | hl
      · exact h4b k hl fun e => hk (Or.inl (hvD _ e))
      · exact absurd (Or.inr hl) hk
theorem Nd.ext' {x y : Nd} (h1 : x.fd = y.fd) (h2 : x.n = y.n) (h3 : x.hi = y.hi) (h4 : x.lo = y.lo) (h5 : x.lf = y.lf) : x = y := by
  obtain ⟨a, b, c, d, e⟩ := x
  obtain ⟨a', b', c', d', e'⟩ := y
  simp only at h1 h2 h3 h4 h5
  subst h1 h2 h3 h4 h5
  rfl
set_option maxHeartbeats 12800000 in
theorem rput_any {D : Nat → Prop} {p N : Nat} {w : World} {all : List Nd} (h : RSt D p w all) (hD : ∀ b, D b → b < N) (hN : N ≤ w.heap.size) (x : Nd) (u : Value) (hu : Cps (fun b => N ≤ b) w u x.lf) (hk : ∀ y ∈ all, Kd y.lf) (hx : Kd x.lf) (hl : all.length ≤ 65536) :
    Calls Tryd.prog 26 #[ptr p, .agg (ndc (u, x))] w fun e w' => ∃ id er all', e = .returned (.tuple #[.int .i64 id, .int .i64 er]) ∧ PutR all x id er all' ∧ RSt (fun b => D b ∨ N ≤ b) p w' all' ∧ Only (fun b => D b ∨ w.heap.size ≤ b) w w' := by
  obtain ⟨va, d, rfl, h2, h3, h4, h5, h6⟩ := h
  obtain ⟨ao, cap, rfl⟩ := h4.form
  obtain ⟨a1, c1, rfl, -⟩ := hu.form
  obtain ⟨W1, hW1⟩ : ∃ W1, W1 = w.alloc (.cells (ndc (.slice a1 x.lf.length c1, x)) 41) := ⟨_, rfl⟩
  have HW : Hid (w.alloc (.cells (ndc (.slice a1 x.lf.length c1, x)) 41) = W1) := hW1.symm
  have hB1 : Below w.heap.size w W1 := by rw [hW1]; exact (Below.refl _ _).alloc (Nat.le_refl _) _
  have HB1 := hid hB1
  have HBX : Hid (W1.heap[w.heap.size]? = some (.cells (ndc (.slice a1 x.lf.length c1, x)) 41 (0, 0))) := by show _ = _; rw [hW1]; exact heap_alloc_new _ _
  have HQ : Hid (RQ D p (.slice ao d.length cap) d W1) := RQ.on ⟨h2, h4, h6⟩ hB1
  have HU : Hid (Cps (fun b => N ≤ b ∧ b < w.heap.size) W1 (.slice a1 x.lf.length c1) x.lf) := Cps.carry (fun b hb hS => ⟨⟨hS, hb⟩, hB1.block b hb⟩) hu
  have HD := hid hD
  have HN := hid hN
  have HL : Hid (d.length ≤ 65536) := by show _ ≤ _; simpa using hl
  have HKd := hid (And.intro (fun y (hy : y ∈ d) => hk y.2 (List.mem_map.2 ⟨y, hy, rfl⟩)) hx)
  have HP := hid (And.intro h3 h5)
  clear hW1 hB1 h2 h3 h4 h5 h6 hu hD hN hl hk hx
  go_enter Tryd.func26, Tryd.ntmps26
  go_upto_region 1 with fail
  rw [show w.alloc (.cells (ndc (.slice a1 x.lf.length c1, x)) 41) = W1 from HW.out]
  clear HW
  go_upto_region 2 with fail
  go_loopw [6] (fun si wr => ∃ i : Nat, si = .int .i64 ((i : Nat) : Int) ∧ i ≤ d.length ∧ Hid (∀ j (h : j < d.length), j < i → d[j].2 ≠ x) ∧ Hid (Below W1.heap.size W1 wr)) (fun si _ => d.length - (intOf si).toNat)
  case atStart => exact ⟨0, rfl, Nat.zero_le _, fun j _ h => by omega, Below.refl _ _⟩
  case round =>
    obtain ⟨i, rfl, hi1, HNe, HB⟩ := hrel
    have c0 : wr.cell? ⟨p, 0, none⟩ = some (.slice ao d.length cap) := (cell_of_row _ _ _ _ _ _ (HQ.out.on HB.out).hp).trans rfl
    by_cases hi : i < d.length
    · have hd : decide ((i : Int) < (d.length : Int)) = true := by simp; omega
      have hiw : IntKind.i64.wrap ((i : Int) + 1) = (i : Int) + 1 := by rw [IntKind.wrap_i64]; have := HL.out; omega
      have hlf := (HQ.out.on HB.out).lf _ (List.getElem_mem hi)
      obtain ⟨g, o, rfl, -, hcap, hgl, hra⟩ := (HQ.out.on HB.out).rw.rg flN5 rfl i hi
      have hic : i < cap := by omega
      have hra : wr.rangeAt g (o + i * 5) (ndc (d[i].1, d[i].2)).toList := hra
      have HNx : Hid (d[i].2 ≠ x → ∀ j (h : j < d.length), j < i + 1 → d[j].2 ≠ x) := fun hn j hj hji => by
        by_cases e : j = i
        · subst e; exact hn
        · exact HNe.out j hj (by omega)
      have HYes : Hid (d[i].2 = x → PutR (d.map (·.2)) x ((i : Nat) : Int) 0 (d.map (·.2))) := fun e => Or.inl ⟨i, by simpa using hi, by simpa using e, rfl, rfl, rfl⟩
      have HKy : Hid (Kd d[i].2.lf) := HKd.out.1 _ (List.getElem_mem hi)
      generalize d[i].1 = u0 at hlf hra
      generalize d[i].2 = y at hlf hra HNx HYes HKy
      obtain ⟨a0, k0, rfl, -⟩ := hlf.form
      have HRA := hid hra
      have HLF : Hid (Cps D wr (.slice a0 y.lf.length k0) y.lf) := hlf.carry fun b _ hS => ⟨hS.1, rfl⟩
      clear hra hlf hgl hcap HNe
      go_upto_region 5 with (first
        | (refine ldMid 41 (.tmp 22) rfl rfl g (o + i * 5) rfl (ndc (.slice a0 y.lf.length k0, y)) _ Tryd.underlying41 rfl (infoNODE _) HRA.out ?_)
        | (refine stNew 41 (.tmp 7) (.tmp 23) rfl rfl _ 41 (ndc (nilS, zNd)) (ndc (.slice a0 y.lf.length k0, y)) rfl rfl rfl (infoNODE _) rfl (ndc_one rfl _) ?_))
      clear c0 HRA hd hic
      have hal : Below wr.heap.size wr (wr.alloc (.cells (ndc (.slice a0 y.lf.length k0, y)) 41)) := (Below.refl _ _).alloc (Nat.le_refl _) _
      have HB7 := hid (HB.out.trans (hal.mono HB.out.size))
      have HC7 := hid (HLF.out.on hal)
      have hnew := heap_alloc_new wr (.cells (ndc (.slice a0 y.lf.length k0, y)) 41)
      clear hal HLF HB
      generalize wr.alloc (.cells (ndc (.slice a0 y.lf.length k0, y)) 41) = W7 at HB7 HC7 hnew ⊢
      generalize wr.heap.size = P7 at hnew ⊢
      obtain ⟨y0, y1, y2, y3⟩ := ndc_cells hnew
      have y4 : W7.cell? ⟨P7, 4, none⟩ = some (.slice a0 y.lf.length k0) := (cell_of_row _ _ _ _ _ _ hnew).trans rfl
      have hx7 : W7.heap[w.heap.size]? = some (.cells (ndc (.slice a1 x.lf.length c1, x)) 41 (0, 0)) := (HB7.out.block _ (Array.getElem?_eq_some_iff.1 HBX.out).1).trans HBX.out
      obtain ⟨x0, x1, x2, x3⟩ := ndc_cells hx7
      have x4 : W7.cell? ⟨w.heap.size, 4, none⟩ = some (.slice a1 x.lf.length c1) := (cell_of_row _ _ _ _ _ _ hx7).trans rfl
      clear hnew hx7
      cases e1 : (y.fd == x.fd)
      · have HNx2 := hid (HNx.out fun e => by rw [e] at e1; simp at e1)
        clear HNx HYes
        go_wp2
        go_roundw
        case rel => exact ⟨i + 1, by rw [show (((i + 1 : Nat) : Nat) : Int) = (i : Int) + 1 by omega], hi, HNx2, HB7⟩
        case measure => simp [intOf]; omega
      cases e2 : (y.n == x.n)
      · have HNx2 := hid (HNx.out fun e => by rw [e] at e2; simp at e2)
        clear HNx HYes
        go_wp2
        go_roundw
        case rel => exact ⟨i + 1, by rw [show (((i + 1 : Nat) : Nat) : Int) = (i : Int) + 1 by omega], hi, HNx2, HB7⟩
        case measure => simp [intOf]; omega
      cases e3 : (y.hi == x.hi)
      · have HNx2 := hid (HNx.out fun e => by rw [e] at e3; simp at e3)
        clear HNx HYes
        go_wp2
        go_roundw
        case rel => exact ⟨i + 1, by rw [show (((i + 1 : Nat) : Nat) : Int) = (i : Int) + 1 by omega], hi, HNx2, HB7⟩
        case measure => simp [intOf]; omega
      cases e4 : (y.lo == x.lo)
      · have HNx2 := hid (HNx.out fun e => by rw [e] at e4; simp at e4)
        clear HNx HYes
        go_wp2
        go_roundw
        case rel => exact ⟨i + 1, by rw [show (((i + 1 : Nat) : Nat) : Int) = (i : Int) + 1 by omega], hi, HNx2, HB7⟩
        case measure => simp [intOf]; omega
      have hAl := ralike_any W7 (.slice a0 y.lf.length k0) (.slice a1 x.lf.length c1) y.lf x.lf HC7.out (HU.out.on HB7.out) (fun b hb => by
        have h1 := HD.out b hb
        have h2 := HN.out
        have h3 := HB1.out.size
        have h4 := HB7.out.size
        omega) (fun b hb => by
        have h1 := hb.2
        have h3 := HB1.out.size
        have h4 := HB7.out.size
        omega) HKy.out HKd.out.2
      by_cases hq : y.lf = x.lf
      · have HA : Hid (Calls Tryd.prog 41 #[.slice a0 y.lf.length k0, .slice a1 x.lf.length c1] W7 fun e w' => e = .returned (.bool true) ∧ Below W7.heap.size W7 w') := hAl.mono fun e w' ⟨r, h1, h2, h3⟩ => ⟨by rw [h1, h2.2 hq], h3⟩
        have HPut := hid (HYes.out (Nd.ext' (beq_iff_eq.1 e1) (beq_iff_eq.1 e2) (beq_iff_eq.1 e3) (beq_iff_eq.1 e4) hq))
        clear HNx HYes hAl hq
        go_wp2_with (go_at_call 41; refine (HA.out).mono ?_; rintro e W8 ⟨rfl, hb⟩; have HB8 := hid (HB7.out.trans (hb.mono HB7.out.size)); clear hb HA)
        refine bodyPost_ret (results_tmp2 rfl _ _ _) rfl ?_
        exact ⟨_, 0, _, rfl, HPut.out, (HQ.out.on HB8.out).st HP.out.1 HP.out.2 fun b hb => Or.inl hb, only_of (HB1.out.trans (HB8.out.mono HB1.out.size)) fun b hb => Or.inr hb⟩
      · have HA : Hid (Calls Tryd.prog 41 #[.slice a0 y.lf.length k0, .slice a1 x.lf.length c1] W7 fun e w' => e = .returned (.bool false) ∧ Below W7.heap.size W7 w') := hAl.mono fun e w' ⟨r, h1, h2, h3⟩ => ⟨by
          cases r
          · exact h1
          · exact absurd (h2.1 rfl) hq, h3⟩
        have HNx2 := hid (HNx.out fun e => hq (by rw [e]))
        clear HNx HYes hAl hq
        go_wp2_with (go_at_call 41; refine (HA.out).mono ?_; rintro e W8 ⟨rfl, hb⟩; have HB8 := hid (HB7.out.trans (hb.mono HB7.out.size)); clear hb HA)
        go_roundw
        case rel => exact ⟨i + 1, by rw [show (((i + 1 : Nat) : Nat) : Int) = (i : Int) + 1 by omega], hi, HNx2, HB8⟩
        case measure => simp [intOf]; omega
    · have hd : decide ((i : Int) < (d.length : Int)) = false := by simp; omega
      obtain rfl : i = d.length := by omega
      have HNM : Hid (x ∉ d.map (·.2)) := fun hm => by
        obtain ⟨y, hy, e⟩ := List.mem_map.1 hm
        obtain ⟨j, hj, rfl⟩ := List.getElem_of_mem hy
        exact HNe.out j hj hj e
      clear HNe
      by_cases hfl : 65536 ≤ d.length
      · have d7 : decide ((65536 : Int) ≤ ((d.length : Nat) : Int)) = true := decide_eq_true (by omega)
        have HFl := hid hfl
        clear hfl
        go_wp2
        refine bodyPost_ret (results_tmp2 rfl _ _ _) rfl ?_
        exact ⟨0, 200, _, rfl, Or.inr (Or.inl ⟨HNM.out, by simpa using HFl.out, rfl, rfl, rfl⟩), (HQ.out.on HB.out).st HP.out.1 HP.out.2 fun b hb => Or.inl hb, only_of (HB1.out.trans (HB.out.mono HB1.out.size)) fun b hb => Or.inr hb⟩
      · have d7 : decide ((65536 : Int) ≤ ((d.length : Nat) : Int)) = false := decide_eq_false (by omega)
        have HFl : Hid (d.length < 65536) := by show _ < _; omega
        clear hfl
        go_upto_region 9 with fail
        clear hd d7 hi hi1 c0
        have hdr : Below wr.heap.size wr wr.drew := (Gro.refl _).drew.below
        have hBd := HB.out.trans (hdr.mono HB.out.size)
        have HBd := hid hBd
        have hQd := HQ.out.on hBd
        have hxd : wr.drew.heap[w.heap.size]? = some (.cells (ndc (.slice a1 x.lf.length c1, x)) 41 (0, 0)) := (hBd.block _ (Array.getElem?_eq_some_iff.1 HBX.out).1).trans HBX.out
        have c0 : wr.drew.cell? ⟨p, 0, none⟩ = some (.slice ao d.length cap) := (cell_of_row _ _ _ _ _ _ hQd.hp).trans rfl
        have C0 := hid c0
        have hbx : wr.drew.rangeAt w.heap.size 0 (ndc (.slice a1 x.lf.length c1, x)).toList := range_of fun i hi => by rw [Nat.zero_add, cell_of_row _ _ _ _ _ _ hxd]
        have HBX2 := hid hbx
        have hB3 : Below wr.drew.heap.size wr.drew (wr.drew.alloc (.cells (ndc (.slice a1 x.lf.length c1, x)) 41)) := (Below.refl _ _).alloc (Nat.le_refl _) _
        have hHeld3 : (wr.drew.alloc (.cells (ndc (.slice a1 x.lf.length c1, x)) 41)).rangeAt w.heap.size 0 (ndc (.slice a1 x.lf.length c1, x)).toList := fun k v hk => (cell_same (hB3.block _ (Array.getElem?_eq_some_iff.1 hxd).1)).trans (hbx k v hk)
        have C3 : Hid ((wr.drew.alloc (.cells (ndc (.slice a1 x.lf.length c1, x)) 41)).cell? ⟨p, 0, none⟩ = some (.slice ao d.length cap)) := cell_on hB3 c0
        have HR3 := hid (hQd.on hB3).rw
        have HN3 : Hid (∀ (j : Nat) (v : Value), (flN (.slice a1 x.lf.length c1, x))[j]? = some v → (wr.drew.alloc (.cells (ndc (.slice a1 x.lf.length c1, x)) 41)).cell? (Addr.add ⟨wr.drew.heap.size, 0, none⟩ j) = some v) := fun j v hv => by
          rw [Addr.add_lit, Nat.zero_add, cell_of_row _ _ _ _ _ _ (heap_alloc_new _ _), ← hv]; simp
        have HX := hid (fun (w4 : World) (va' : Value) (hA : Apd (wr.drew.alloc (.cells (ndc (.slice a1 x.lf.length c1, x)) 41)) (.slice ao d.length cap) w4) h7 => radd_of (w4 := w4) (va' := va') HD.out HN.out hQd HP.out.1 HP.out.2 ((HU.out.on hBd).carry fun b _ hS => ⟨hS.1, rfl⟩) hxd rfl hA h7)
        clear hdr hBd hQd hxd c0 hbx hB3
        refine wp_region_held_drew (S := (fun w' => w'.rangeAt w.heap.size 0 (ndc (.slice a1 x.lf.length c1, x)).toList)) (by kernel_rfl) HBX2.out (fun hHeld => ?_)
        refine wpAnyH_take (i := 0) (v := ?_) rfl (by kernel_rfl) (by kernel_rfl) (by kernel_rfl) (fun _ _ _ h => h) (Or.inl ⟨by rfl, ?_⟩) hHeld ?_
        rotate_left
        · intro w' hSw
          clear hSw
          go_simp
          first | done | with_reducible rfl
        simp only [Act.put, List.getElem_toArray, List.getElem_cons_zero, List.setIfInBounds_toArray, List.set_cons_zero, List.set_cons_succ]
        refine wpAnyH_take (i := 1) (v := ?_) rfl (by kernel_rfl) (by kernel_rfl) (by kernel_rfl) (fun _ _ _ h => h) (Or.inl ⟨by rfl, ?_⟩) hHeld ?_
        rotate_left
        · intro w' hSw
          clear hSw
          go_simp
          first | done | with_reducible rfl
        simp only [Act.put, List.getElem_toArray, List.getElem_cons_succ, List.getElem_cons_zero, List.setIfInBounds_toArray, List.set_cons_zero, List.set_cons_succ]
        refine wpAnyH_take (i := 2) (v := ?_) rfl (by kernel_rfl) (by kernel_rfl) (by kernel_rfl) (fun _ _ _ h => h) (Or.inl ⟨by rfl, ?_⟩) hHeld ?_
        rotate_left
        · intro w' hSw
          clear hSw
          go_simp
          first | done | with_reducible rfl
        simp only [Act.put, List.getElem_toArray, List.getElem_cons_succ, List.getElem_cons_zero, List.setIfInBounds_toArray, List.set_cons_zero, List.set_cons_succ]
        refine wpAnyH_take (i := 3) (v := ?_) rfl (by kernel_rfl) (by kernel_rfl) (by kernel_rfl) (fun _ _ _ h => h) (Or.inl ⟨by rfl, ?_⟩) hHeld ?_
        rotate_left
        · intro w' hSw
          clear hSw
          go_simp
          first | done | with_reducible rfl
        simp only [Act.put, List.getElem_toArray, List.getElem_cons_succ, List.getElem_cons_zero, List.setIfInBounds_toArray, List.set_cons_zero, List.set_cons_succ]
        refine wpAnyH_take (i := 5) (v := .agg (ndc (.slice a1 x.lf.length c1, x))) rfl (by kernel_rfl) (by kernel_rfl) (by kernel_rfl) (fun _ _ _ h => h) (Or.inl ⟨by rfl, ?_⟩) hHeld ?_
        · intro w' hSw
          exact runLd 41 (.tmp 3) rfl w.heap.size 0 rfl (ndc (.slice a1 x.lf.length c1, x)) _ hSw Tryd.underlying41 rfl (infoNODE _)
        simp only [Act.put, List.getElem_toArray, List.getElem_cons_succ, List.getElem_cons_zero, List.setIfInBounds_toArray, List.set_cons_zero, List.set_cons_succ]
        refine an2 4 6 _ _ (by kernel_rfl) rfl rfl ?_ ?_
        · skip
          refine Sp.ldN (.tmp 67) rfl rfl p 0 ao d.length cap rfl C0.out ?_
          refine ⟨HBX2.out, ?_⟩
          simp only [Act.put, List.getElem_toArray, List.getElem_cons_succ, List.getElem_cons_zero, List.setIfInBounds_toArray, List.set_cons_zero, List.set_cons_succ]
          refine an1 6 _ (by kernel_rfl) rfl ?_
          refine Sp.bs 28 41 (.tmp 69) rfl rfl (ndc (.slice a1 x.lf.length c1, x)) rfl Tryd.underlying28 infNODE rfl (by omega) (by omega) ?_
          have HS3 := hid (hHeld3)
          refine ⟨hHeld3, ?_⟩
          simp only [Act.put, List.getElem_toArray, List.getElem_cons_succ, List.getElem_cons_zero, List.setIfInBounds_toArray, List.set_cons_zero, List.set_cons_succ]
          refine an1 7 _ (by kernel_rfl) rfl ?_
          refine Sp.rw (.tmp 68) (.tmp 70) 28 rfl rfl (S := D) (k := 5) (t := 41) (n := d.length) (m := 1) (c := 1) (xs := fl flN d) (us := flN (.slice a1 x.lf.length c1, x)) (ad := ⟨wr.drew.heap.size, 0, none⟩) rfl rfl Tryd.underlying28 infNODE rfl (by omega) (by omega) HR3.out (by rfl) HN3.out (flN_one rfl (.slice a1 x.lf.length c1, x)) (by have := HFl.out; omega) (Or.inl (by omega)) ?_
          intro va' w4 hA hW
          have HQ2 := hid (HX.out w4 va' hA (hW _ _ HR3.out.self))
          obtain ⟨s4, c4, rfl⟩ : ∃ s4 c4, va' = .slice s4 (d.length + 1) c4 := (hW _ _ HR3.out).form
          clear hA hW
          refine ⟨HQ2.out.1, ?_⟩
          simp only [Act.put, List.getElem_toArray, List.getElem_cons_succ, List.getElem_cons_zero, List.setIfInBounds_toArray, List.set_cons_zero, List.set_cons_succ]
          have hHeld := HQ2.out.1
          refine wpAnyH_take (i := 8) (v := ?_) rfl (by kernel_rfl) (by kernel_rfl) (by kernel_rfl) (fun _ _ _ h => h) (Or.inl ⟨by rfl, ?_⟩) hHeld ?_
          rotate_left
          · intro w' hSw
            clear hSw
            go_simp
            first | done | with_reducible rfl
          simp only [Act.put, List.getElem_toArray, List.getElem_cons_succ, List.getElem_cons_zero, List.setIfInBounds_toArray, List.set_cons_zero, List.set_cons_succ]
          refine wpAnyH_take (i := 9) (v := ?_) rfl (by kernel_rfl) (by kernel_rfl) (by kernel_rfl) (fun _ _ _ h => h) (Or.inl ⟨by rfl, ?_⟩) hHeld ?_
          rotate_left
          · intro w' hSw
            clear hSw
            go_simp
            first | done | with_reducible rfl
          simp only [Act.put, List.getElem_toArray, List.getElem_cons_succ, List.getElem_cons_zero, List.setIfInBounds_toArray, List.set_cons_zero, List.set_cons_succ]
          refine an1 10 _ (by kernel_rfl) rfl ?_
          refine Sp.stN (.tmp 73) (.tmp 71) rfl rfl p 0 s4 (d.length + 1) c4 _ rfl rfl HQ2.out.2.1 HQ2.out.2.2.1 ?_
          refine ⟨HQ2.out.2.2.2.1, ?_⟩
          simp only [Act.put, List.getElem_toArray, List.getElem_cons_succ, List.getElem_cons_zero]
          refine wpAnyH_done (by kernel_rfl) ?_ _
          have hc0 := HQ2.out.2.2.2.2.1
          clear HX HR3 HN3 HS3 hHeld hHeld3
          have HF := hid HQ2.out.2.2.2.2.2
          clear HQ2
          generalize w4.setCell ⟨p, 0, none⟩ (.slice s4 (d.length + 1) c4) = w5 at hc0 HF ⊢
          have hw1 : IntKind.i64.wrap ((d.length : Nat) : Int) = ((d.length : Nat) : Int) := by have := HFl.out; rw [IntKind.wrap_i64]; omega
          have hwl : wrap64 ((d.length : Nat) : Int) = ((d.length : Nat) : Int) := by unfold wrap64; have := HFl.out; omega
          have hw2 : (((d.length + 1 : Nat) : Int)) = ((d.length : Nat) : Int) + 1 := by omega
          go_wp2
          refine bodyPost_ret (results_tmp2 rfl _ _ _) rfl ?_
          exact ⟨((d.length : Nat) : Int), 0, by rfl, d.map (·.2) ++ [x], Or.inr (Or.inr ⟨HNM.out, by simpa using HFl.out, by simp, rfl, rfl⟩), HF.out.1, (only_of (HB1.out.trans (HBd.out.mono HB1.out.size)) fun b hb => Or.inr hb).trans (HF.out.2.mono fun b hb => hb.imp id fun h => Nat.le_trans (Nat.le_trans HB1.out.size HBd.out.size) h)⟩
        · skip
          refine Sp.bs 28 41 (.tmp 69) rfl rfl (ndc (.slice a1 x.lf.length c1, x)) rfl Tryd.underlying28 infNODE rfl (by omega) (by omega) ?_
          refine ⟨hHeld3, ?_⟩
          simp only [Act.put, List.getElem_toArray, List.getElem_cons_succ, List.getElem_cons_zero, List.setIfInBounds_toArray, List.set_cons_zero, List.set_cons_succ]
          refine an1 4 _ (by kernel_rfl) rfl ?_
          refine Sp.ldN (.tmp 67) rfl rfl p 0 ao d.length cap rfl C3.out ?_
          have HS3 := hid (hHeld3)
          refine ⟨hHeld3, ?_⟩
          simp only [Act.put, List.getElem_toArray, List.getElem_cons_succ, List.getElem_cons_zero, List.setIfInBounds_toArray, List.set_cons_zero, List.set_cons_succ]
          refine an1 7 _ (by kernel_rfl) rfl ?_
          refine Sp.rw (.tmp 68) (.tmp 70) 28 rfl rfl (S := D) (k := 5) (t := 41) (n := d.length) (m := 1) (c := 1) (xs := fl flN d) (us := flN (.slice a1 x.lf.length c1, x)) (ad := ⟨wr.drew.heap.size, 0, none⟩) rfl rfl Tryd.underlying28 infNODE rfl (by omega) (by omega) HR3.out (by rfl) HN3.out (flN_one rfl (.slice a1 x.lf.length c1, x)) (by have := HFl.out; omega) (Or.inl (by omega)) ?_
          intro va' w4 hA hW
          have HQ2 := hid (HX.out w4 va' hA (hW _ _ HR3.out.self))
          obtain ⟨s4, c4, rfl⟩ : ∃ s4 c4, va' = .slice s4 (d.length + 1) c4 := (hW _ _ HR3.out).form
          clear hA hW
          refine ⟨HQ2.out.1, ?_⟩
          simp only [Act.put, List.getElem_toArray, List.getElem_cons_succ, List.getElem_cons_zero, List.setIfInBounds_toArray, List.set_cons_zero, List.set_cons_succ]
          have hHeld := HQ2.out.1
          refine wpAnyH_take (i := 8) (v := ?_) rfl (by kernel_rfl) (by kernel_rfl) (by kernel_rfl) (fun _ _ _ h => h) (Or.inl ⟨by rfl, ?_⟩) hHeld ?_
          rotate_left
          · intro w' hSw
            clear hSw
            go_simp
            first | done | with_reducible rfl
          simp only [Act.put, List.getElem_toArray, List.getElem_cons_succ, List.getElem_cons_zero, List.setIfInBounds_toArray, List.set_cons_zero, List.set_cons_succ]
          refine wpAnyH_take (i := 9) (v := ?_) rfl (by kernel_rfl) (by kernel_rfl) (by kernel_rfl) (fun _ _ _ h => h) (Or.inl ⟨by rfl, ?_⟩) hHeld ?_
          rotate_left
          · intro w' hSw
            clear hSw
            go_simp
            first | done | with_reducible rfl
          simp only [Act.put, List.getElem_toArray, List.getElem_cons_succ, List.getElem_cons_zero, List.setIfInBounds_toArray, List.set_cons_zero, List.set_cons_succ]
          refine an1 10 _ (by kernel_rfl) rfl ?_
          refine Sp.stN (.tmp 73) (.tmp 71) rfl rfl p 0 s4 (d.length + 1) c4 _ rfl rfl HQ2.out.2.1 HQ2.out.2.2.1 ?_
          refine ⟨HQ2.out.2.2.2.1, ?_⟩
          simp only [Act.put, List.getElem_toArray, List.getElem_cons_succ, List.getElem_cons_zero]
          refine wpAnyH_done (by kernel_rfl) ?_ _
          have hc0 := HQ2.out.2.2.2.2.1
          clear HX HR3 HN3 HS3 hHeld hHeld3
          have HF := hid HQ2.out.2.2.2.2.2
          clear HQ2
          generalize w4.setCell ⟨p, 0, none⟩ (.slice s4 (d.length + 1) c4) = w5 at hc0 HF ⊢
          have hw1 : IntKind.i64.wrap ((d.length : Nat) : Int) = ((d.length : Nat) : Int) := by have := HFl.out; rw [IntKind.wrap_i64]; omega
          have hwl : wrap64 ((d.length : Nat) : Int) = ((d.length : Nat) : Int) := by unfold wrap64; have := HFl.out; omega
          have hw2 : (((d.length + 1 : Nat) : Int)) = ((d.length : Nat) : Int) + 1 := by omega
          go_wp2
          refine bodyPost_ret (results_tmp2 rfl _ _ _) rfl ?_
          exact ⟨((d.length : Nat) : Int), 0, by rfl, d.map (·.2) ++ [x], Or.inr (Or.inr ⟨HNM.out, by simpa using HFl.out, by simp, rfl, rfl⟩), HF.out.1, (only_of (HB1.out.trans (HBd.out.mono HB1.out.size)) fun b hb => Or.inr hb).trans (HF.out.2.mono fun b hb => hb.imp id fun h => Nat.le_trans (Nat.le_trans HB1.out.size HBd.out.size) h)⟩
end Go.Proofs.YtggbokghhohofaaDoor
