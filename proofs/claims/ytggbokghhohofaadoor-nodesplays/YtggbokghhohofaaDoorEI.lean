/-
  Proved here: the document's Leaf and Test over its store: what LeafR, TestR tell. Conditions: the arguments fit their kinds; no more nodes than there may be, each a leaf or a test.
-/
import Derived.Test.YtggbokghhohofaaDoorEH
namespace Go.Proofs.YtggbokghhohofaaDoor
open Go.RowKit Go.Maps
set_option maxRecDepth 100000

theorem kd_of {K : List (List Ac)} (h : Oks K) : Kd K := fun r hr a ha => by
  have := (h r hr a ha).1
  simp only [okS, Bool.and_eq_true, decide_eq_true_eq] at this
  exact this.1
theorem rleaf_any {D T : Nat → Prop} {p : Nat} {w : World} {all : List Nd} (h : RSt D p w all) (hD : ∀ b, D b → b < w.heap.size) (v : Value) (L : List (List Ac)) (hc : Cps T w v L) (hTl : ∀ b, T b → b < w.heap.size) (ht : tot L ≤ 10000) (hk : ∀ y ∈ all, Kd y.lf) (hl : all.length ≤ 65536) :
    Calls Tryd.prog 12 #[ptr p, v] w fun e w' => ∃ id er all', e = .returned (.tuple #[.int .i64 id, .int .i64 er]) ∧ LeafR all L id er all' ∧ RSt (fun b => D b ∨ w.heap.size ≤ b) p w' all' ∧ Only (fun b => D b ∨ w.heap.size ≤ b) w w' := by
  obtain ⟨hn1, hn2⟩ := tot_len L
  have hR := rRows_any w v L hc hTl (by omega) (fun r hr => by have := hn2 r hr; omega)
  have HFit : Hid (∀ r ∈ L, ∀ a ∈ r, InB a.n) := fun r hr a ha => (hc.fit r hr a ha).2.2
  have HH := hid h
  have HD := hid hD
  obtain ⟨ao, cap, rfl, -⟩ := hc.form
  clear hc hn1 hn2 h hD
  cases hN : nrows L with
  | none =>
    have HC : Hid (Calls Tryd.prog 25 #[.slice ao L.length cap] w fun e w' => ∃ v', e = .returned (.tuple #[v', .bool false]) ∧ Below w.heap.size w w') := hR.mono (by
      rintro e w' ⟨hb, ⟨_, v', he⟩ | ⟨v', K, hK, _⟩⟩
      · exact ⟨v', he, hb⟩
      · rw [hN] at hK; cases hK)
    have HN := hid hN
    clear hR hN
    go_enter Tryd.func12, Tryd.ntmps12
    go_wp2_with (go_at_call 25; refine (HC.out).mono ?_; rintro e w1 ⟨v', rfl, hb⟩; have HB := hid hb; clear hb HC)
    refine bodyPost_ret (results_tmp2 rfl _ _ _) rfl ?_
    obtain ⟨va, d, h1, h2, h3, h4, h5, h6⟩ := HH.out.keep fun b hb => HB.out.block b (HD.out b hb)
    subst h1
    exact ⟨0, 2, _, rfl, Or.inl ⟨HN.out, rfl, rfl, rfl⟩, RQ.st ⟨h2, h4, h6⟩ h3 h5 fun b hb => Or.inl hb, only_of HB.out fun b hb => Or.inr hb⟩
  | some K =>
    have HC : Hid (Calls Tryd.prog 25 #[.slice ao L.length cap] w fun e w' => ∃ (a : Option Addr) (n c : Nat), e = .returned (.tuple #[.slice a n c, .bool true]) ∧ Below w.heap.size w w' ∧ Cps (fun b => w.heap.size ≤ b) w' (.slice a n c) K) := hR.mono (by
      rintro e w' ⟨hb, ⟨hK, _⟩ | ⟨v', K', hK, he, hcp⟩⟩
      · rw [hN] at hK; cases hK
      · rw [hN] at hK
        simp only [Option.some.injEq] at hK
        subst hK
        obtain ⟨a, c, rfl, -⟩ := hcp.form
        exact ⟨a, _, c, he, hb, hcp⟩)
    have HN := hid hN
    have HOk := hid (nrows_oks hN HFit.out)
    clear hR hN
    have hbL := fun (a1 : Option Addr) (n1 c1 : Nat) (W : World) => run_bL a1 n1 c1 K W
    go_enter Tryd.func12, Tryd.ntmps12
    go_upto_region 4 with (go_at_call 25; refine (HC.out).mono ?_; rintro e W1 ⟨a1, n1, c1, rfl, hb, hcp⟩; have HB1 := hid hb; have HK1 := hid hcp; clear hb hcp HC)
    have HPut := hid (rput_any (HH.out.keep fun b hb => HB1.out.block b (HD.out b hb)) HD.out HB1.out.size (lfN K) (.slice a1 n1 c1) HK1.out hk (kd_of HOk.out) hl)
    go_wp2_with (go_at_call 26; refine (HPut.out).mono ?_; rintro e W2 ⟨id, er, all2, rfl, hr, hs, ho⟩; have HRes := hid (And.intro hr (And.intro hs ho)); clear hr hs ho HPut)
    refine bodyPost_ret (results_tmp2 rfl _ _ _) rfl ?_
    exact ⟨id, er, all2, rfl, Or.inr ⟨K, HN.out, HRes.out.1⟩, HRes.out.2.1, (only_of HB1.out fun b hb => Or.inr hb).trans (HRes.out.2.2.mono fun b hb => hb.imp (fun h => h) fun h => Nat.le_trans HB1.out.size h)⟩
theorem ordH_no {y : Nd} {fd : Int} (h : ordH y fd = false) (_h0 : 0 ≤ fd) (hy : y.fd = -1 ∨ 0 ≤ y.fd) : decide (0 ≤ y.fd) = true ∧ decide (y.fd ≤ fd) = true := by
  simp only [ordH, Bool.or_eq_false_iff, beq_eq_false_iff_ne, decide_eq_false_iff_not] at h
  exact ⟨decide_eq_true (by omega), decide_eq_true (by omega)⟩
theorem ordL_no {y : Nd} {fd n : Int} (h : ordL y fd n = false) (hy : y.fd = -1 ∨ 0 ≤ y.fd) : decide (0 ≤ y.fd) = true ∧ (decide (y.fd < fd) = true ∨ (decide (y.fd < fd) = false ∧ (y.fd == fd) = true ∧ decide (y.n ≤ n) = true)) := by
  simp only [ordL, Bool.or_eq_false_iff, beq_eq_false_iff_ne, decide_eq_false_iff_not] at h
  refine ⟨decide_eq_true (by omega), ?_⟩
  obtain ⟨h1, h2⟩ := h
  unfold orI at h2
  split at h2
  · rename_i e
    have e := cmpI_eq.1 e
    refine Or.inr ⟨decide_eq_false (by omega), by simp [e], decide_eq_true ?_⟩
    unfold cmpI at h2
    split at h2 <;> (try split at h2) <;> omega
  · rename_i e
    have e : y.fd ≠ fd := fun e' => e (cmpI_eq.2 e')
    refine Or.inl (decide_eq_true ?_)
    unfold cmpI at h2
    split at h2 <;> (try split at h2) <;> omega
set_option maxHeartbeats 12800000 in
theorem rtest_any {D : Nat → Prop} {p : Nat} {w : World} {all : List Nd} (h : RSt D p w all) (hD : ∀ b, D b → b < w.heap.size) (fd n hi lo : Int) (hf : Tf fd n hi lo) (hk : ∀ y ∈ all, Kd y.lf) (hg : ∀ y ∈ all, y.fd = -1 ∨ 0 ≤ y.fd) (hl : all.length ≤ 65536) :
    Calls Tryd.prog 14 #[ptr p, .int .i8 fd, .int .u64 n, .int .i64 hi, .int .i64 lo] w fun e w' => ∃ id er all', e = .returned (.tuple #[.int .i64 id, .int .i64 er]) ∧ TestR all fd n hi lo id er all' ∧ RSt (fun b => D b ∨ w.heap.size ≤ b) p w' all' ∧ Only (fun b => D b ∨ w.heap.size ≤ b) w w' := by
  obtain ⟨va, d, rfl, h2, h3, h4, h5, h6⟩ := h
  obtain ⟨ao, cap, rfl⟩ := h4.form
  have HQ : Hid (RQ D p (.slice ao d.length cap) d w) := ⟨h2, h4, h6⟩
  have HD := hid hD
  have HKg := hid (And.intro hk hg)
  have HL := hid hl
  have HP := hid (And.intro h3 h5)
  have HF := hid (rfits_any fd n hf.n)
  have HTf := hid hf
  have c0 : w.cell? ⟨p, 0, none⟩ = some (.slice ao d.length cap) := (cell_of_row _ _ _ _ _ _ h2).trans rfl
  have HBad : Hid (okT (d.map (·.2)) fd n hi lo = false → ∀ w', Below w.heap.size w w' → TestR (d.map (·.2)) fd n hi lo 0 2 (d.map (·.2)) ∧ RSt (fun b => D b ∨ w.heap.size ≤ b) p w' (d.map (·.2)) ∧ Only (fun b => D b ∨ w.heap.size ≤ b) w w') := fun e w' hb => ⟨Or.inl ⟨e, rfl, rfl, rfl⟩, (HQ.out.on hb).st HP.out.1 HP.out.2 fun b hb => Or.inl hb, only_of hb fun b hb => Or.inr hb⟩
  clear h2 h3 h4 h5 h6 hD hk hg hl hf
  cases e1 : fitB fd n
  · have HK : Hid (okT (d.map (·.2)) fd n hi lo = false) := by show _ = _; unfold okT; rw [e1]; rfl
    have HF1 := hid (fun W => (HF.out W))
    rw [e1] at HF1
    clear HF
    go_enter Tryd.func14, Tryd.ntmps14
    go_wp2_with (go_at_call 30; refine (HF1.out _).mono ?_; rintro e w' ⟨rfl, hw⟩; obtain rfl : w = w' := hw.symm; clear hw)
    refine bodyPost_ret (results_tmp2 rfl _ _ _) rfl ?_
    exact ⟨0, 2, _, rfl, HBad.out HK.out _ (Below.refl _ _)⟩
  have HF1 := hid (fun W => (HF.out W))
  rw [e1] at HF1
  clear HF
  by_cases l1 : hi < 0
  · have HK : Hid (okT (d.map (·.2)) fd n hi lo = false) := by
      show _ = _
      have : inL (d.map (·.2)) hi = false := by simp only [inL, Bool.and_eq_false_iff, decide_eq_false_iff_not]; omega
      unfold okT; rw [this]; simp
    have t1 : decide (hi < 0) = true := decide_eq_true l1
    clear l1
    go_enter Tryd.func14, Tryd.ntmps14
    go_wp2_with (go_at_call 30; refine (HF1.out _).mono ?_; rintro e w' ⟨rfl, hw⟩; obtain rfl : w = w' := hw.symm; clear hw)
    refine bodyPost_ret (results_tmp2 rfl _ _ _) rfl ?_
    exact ⟨0, 2, _, rfl, HBad.out HK.out _ (Below.refl _ _)⟩
  have t1 : decide (hi < 0) = false := decide_eq_false l1
  by_cases l2 : lo < 0
  · have HK : Hid (okT (d.map (·.2)) fd n hi lo = false) := by
      show _ = _
      have : inL (d.map (·.2)) lo = false := by simp only [inL, Bool.and_eq_false_iff, decide_eq_false_iff_not]; omega
      unfold okT; rw [this]; simp
    have t2 : decide (lo < 0) = true := decide_eq_true l2
    clear l1 l2
    go_enter Tryd.func14, Tryd.ntmps14
    go_wp2_with (go_at_call 30; refine (HF1.out _).mono ?_; rintro e w' ⟨rfl, hw⟩; obtain rfl : w = w' := hw.symm; clear hw)
    refine bodyPost_ret (results_tmp2 rfl _ _ _) rfl ?_
    exact ⟨0, 2, _, rfl, HBad.out HK.out _ (Below.refl _ _)⟩
  have t2 : decide (lo < 0) = false := decide_eq_false l2
  obtain ⟨i, rfl⟩ : ∃ i : Nat, hi = (i : Int) := ⟨hi.toNat, by omega⟩
  obtain ⟨j, rfl⟩ : ∃ j : Nat, lo = (j : Int) := ⟨lo.toNat, by omega⟩
  clear l1 l2
  by_cases l3 : i < d.length
  case neg =>
    have HK : Hid (okT (d.map (·.2)) fd n ((i : Nat) : Int) ((j : Nat) : Int) = false) := by
      show _ = _
      have : inL (d.map (·.2)) ((i : Nat) : Int) = false := by simp only [inL, Bool.and_eq_false_iff, decide_eq_false_iff_not, List.length_map]; omega
      unfold okT; rw [this]; simp
    have t3 : decide ((d.length : Int) ≤ ((i : Nat) : Int)) = true := decide_eq_true (by omega)
    have q3 : d.length ≤ i := by omega
    have p3 : decide (d.length ≤ i) = true := decide_eq_true q3
    clear l3
    go_enter Tryd.func14, Tryd.ntmps14
    go_wp2_with (go_at_call 30; refine (HF1.out _).mono ?_; rintro e w' ⟨rfl, hw⟩; obtain rfl : w = w' := hw.symm; clear hw)
    refine bodyPost_ret (results_tmp2 rfl _ _ _) rfl ?_
    exact ⟨0, 2, _, rfl, HBad.out HK.out _ (Below.refl _ _)⟩
  have t3 : decide ((d.length : Int) ≤ ((i : Nat) : Int)) = false := decide_eq_false (by omega)
  have q3 : ¬ d.length ≤ i := by omega
  have p3 : decide (d.length ≤ i) = false := decide_eq_false q3
  by_cases l4 : j < d.length
  case neg =>
    have HK : Hid (okT (d.map (·.2)) fd n ((i : Nat) : Int) ((j : Nat) : Int) = false) := by
      show _ = _
      have : inL (d.map (·.2)) ((j : Nat) : Int) = false := by simp only [inL, Bool.and_eq_false_iff, decide_eq_false_iff_not, List.length_map]; omega
      unfold okT; rw [this]; simp
    have t4 : decide ((d.length : Int) ≤ ((j : Nat) : Int)) = true := decide_eq_true (by omega)
    have q4 : d.length ≤ j := by omega
    have p4 : decide (d.length ≤ j) = true := decide_eq_true q4
    clear l3 l4
    go_enter Tryd.func14, Tryd.ntmps14
    go_wp2_with (go_at_call 30; refine (HF1.out _).mono ?_; rintro e w' ⟨rfl, hw⟩; obtain rfl : w = w' := hw.symm; clear hw)
    refine bodyPost_ret (results_tmp2 rfl _ _ _) rfl ?_
    exact ⟨0, 2, _, rfl, HBad.out HK.out _ (Below.refl _ _)⟩
  have t4 : decide ((d.length : Int) ≤ ((j : Nat) : Int)) = false := decide_eq_false (by omega)
  have q4 : ¬ d.length ≤ j := by omega
  have p4 : decide (d.length ≤ j) = false := decide_eq_false q4
  have HOkT : Hid (okT (d.map (·.2)) fd n ((i : Nat) : Int) ((j : Nat) : Int) = (ordH d[i].2 fd && ordL d[j].2 fd n)) := by
    show _ = _
    have h1 : inL (d.map (·.2)) ((i : Nat) : Int) = true := by simp only [inL, Bool.and_eq_true, decide_eq_true_eq, List.length_map]; omega
    have h2 : inL (d.map (·.2)) ((j : Nat) : Int) = true := by simp only [inL, Bool.and_eq_true, decide_eq_true_eq, List.length_map]; omega
    unfold okT
    rw [e1, h1, h2, nd_at i (by simpa using l3), nd_at j (by simpa using l4)]
    simp
  have HFa : Hid (d[i].2.fd = -1 ∨ 0 ≤ d[i].2.fd) := HKg.out.2 _ (List.mem_map.2 ⟨d[i], List.getElem_mem l3, rfl⟩)
  have HFb : Hid (d[j].2.fd = -1 ∨ 0 ≤ d[j].2.fd) := HKg.out.2 _ (List.mem_map.2 ⟨d[j], List.getElem_mem l4, rfl⟩)
  have hf0 : 0 ≤ fd := by
    have := e1
    simp only [fitB, Bool.and_eq_true, decide_eq_true_eq] at this
    exact this.1.1
  have HF0 := hid hf0
  have hlfa := (HQ.out).lf _ (List.getElem_mem l3)
  have hlfb := (HQ.out).lf _ (List.getElem_mem l4)
  obtain ⟨g, o, rfl, -, hcap, hgl, hra⟩ := (HQ.out).rw.rg flN5 rfl i l3
  obtain ⟨g', o', eg, -, -, hgl', hrb⟩ := (HQ.out).rw.rg flN5 rfl j l4
  simp only [Option.some.injEq, Addr.mk.injEq] at eg
  obtain ⟨eg, eo, -⟩ := eg
  subst eg eo
  have hra : w.rangeAt g (o + i * 5) (ndc (d[i].1, d[i].2)).toList := hra
  have hrb : w.rangeAt g (o + j * 5) (ndc (d[j].1, d[j].2)).toList := hrb
  have hic : i < cap := by omega
  have hjc : j < cap := by omega
  generalize d[i].1 = ua at hlfa hra
  generalize d[i].2 = a at hlfa hra HOkT HFa
  generalize d[j].1 = ub at hlfb hrb
  generalize d[j].2 = b at hlfb hrb HOkT HFb
  obtain ⟨a0, k0, rfl, -⟩ := hlfa.form
  obtain ⟨a2, k2, rfl, -⟩ := hlfb.form
  clear hlfa hlfb
  have hal : Below w.heap.size w (w.alloc (.cells (ndc (.slice a0 a.lf.length k0, a)) 41)) := (Below.refl _ _).alloc (Nat.le_refl _) _
  have HRA := hid hra
  have HRB : Hid ((w.alloc (.cells (ndc (.slice a0 a.lf.length k0, a)) 41)).rangeAt g (o + j * 5) (ndc (.slice a2 b.lf.length k2, b)).toList) := fun q z hz => (cell_same (hal.block _ hgl)).trans (hrb q z hz)
  have hcB : (w.alloc (.cells (ndc (.slice a0 a.lf.length k0, a)) 41)).cell? ⟨p, 0, none⟩ = some (.slice (some ⟨g, o, none⟩) d.length cap) := cell_on hal c0
  clear hra hrb hgl hgl' hcap hal
  go_enter Tryd.func14, Tryd.ntmps14
  go_upto_region 4 with (first
    | (go_at_call 30; refine (HF1.out _).mono ?_; rintro e w' ⟨rfl, hw⟩; obtain rfl : w = w' := hw.symm; clear hw)
    | (refine ldMid 41 (.tmp 49) rfl rfl g (o + i * 5) rfl (ndc (.slice a0 a.lf.length k0, a)) _ Tryd.underlying41 rfl (infoNODE _) HRA.out ?_)
    | (refine stNew 41 (.tmp 12) (.tmp 50) rfl rfl _ 41 (ndc (nilS, zNd)) (ndc (.slice a0 a.lf.length k0, a)) rfl rfl rfl (infoNODE _) rfl (ndc_one rfl _) ?_))
  clear HRA c0
  have hnew := heap_alloc_new w (.cells (ndc (.slice a0 a.lf.length k0, a)) 41)
  have HB1 : Hid (Below w.heap.size w (w.alloc (.cells (ndc (.slice a0 a.lf.length k0, a)) 41))) := (Below.refl _ _).alloc (Nat.le_refl _) _
  generalize w.alloc (.cells (ndc (.slice a0 a.lf.length k0, a)) 41) = W1 at hnew HB1 HRB hcB ⊢
  have HX := hid hnew
  clear hnew
  go_upto_region 5 with (first
    | (refine ldMid 41 (.tmp 56) rfl rfl g (o + j * 5) rfl (ndc (.slice a2 b.lf.length k2, b)) _ Tryd.underlying41 rfl (infoNODE _) HRB.out ?_)
    | (refine stNew 41 (.tmp 13) (.tmp 57) rfl rfl _ 41 (ndc (nilS, zNd)) (ndc (.slice a2 b.lf.length k2, b)) rfl rfl rfl (infoNODE _) rfl (ndc_one rfl _) ?_))
  clear HRB hcB t1 t2 t3 t4 q3 q4 p3 p4 hic hjc
  have hnew := heap_alloc_new W1 (.cells (ndc (.slice a2 b.lf.length k2, b)) 41)
  have hal2 : Below W1.heap.size W1 (W1.alloc (.cells (ndc (.slice a2 b.lf.length k2, b)) 41)) := (Below.refl _ _).alloc (Nat.le_refl _) _
  have hx2 := (hal2.block _ (Array.getElem?_eq_some_iff.1 HX.out).1).trans HX.out
  have HB2 := hid (HB1.out.trans (hal2.mono HB1.out.size))
  clear hal2 HX HB1
  generalize W1.alloc (.cells (ndc (.slice a2 b.lf.length k2, b)) 41) = W2 at hnew hx2 HB2 ⊢
  generalize W1.heap.size = P13 at hnew ⊢
  obtain ⟨x0, x1, -, -⟩ := ndc_cells hx2
  obtain ⟨y0, y1, -, -⟩ := ndc_cells hnew
  clear hnew hx2
  cases oH : ordH a fd
  · have HK : Hid (okT (d.map (·.2)) fd n ((i : Nat) : Int) ((j : Nat) : Int) = false) := by show _ = _; rw [HOkT.out, oH]; rfl
    obtain ⟨f1, f2⟩ := ordH_no oH HF0.out HFa.out
    clear oH hf0 x1 y1
    go_wp2
    refine bodyPost_ret (results_tmp2 rfl _ _ _) rfl ?_
    exact ⟨0, 2, _, rfl, HBad.out HK.out _ HB2.out⟩
  cases oL : ordL b fd n
  · have HK : Hid (okT (d.map (·.2)) fd n ((i : Nat) : Int) ((j : Nat) : Int) = false) := by show _ = _; rw [HOkT.out, oL]; simp
    have hH := ordH_cases oH HF0.out
    obtain ⟨s1, hL⟩ := ordL_no oL HFb.out
    clear oH oL hf0 x1
    rcases hH with f1 | ⟨f1, f2⟩ <;> rcases hL with s2 | ⟨s2, s3, s4⟩
    all_goals
      go_wp2
      refine bodyPost_ret (results_tmp2 rfl _ _ _) rfl ?_
      exact ⟨0, 2, _, rfl, HBad.out HK.out _ HB2.out⟩
  have HK : Hid (okT (d.map (·.2)) fd n ((i : Nat) : Int) ((j : Nat) : Int) = true) := by show _ = _; rw [HOkT.out, oH, oL]; rfl
  have hH := ordH_cases oH HF0.out
  have hL := ordL_cases oL HF0.out
  have HPut := hid (rput_any (p := p) (all := d.map (·.2)) ((HQ.out.on HB2.out).st HP.out.1 HP.out.2 fun b hb => hb) HD.out HB2.out.size (tsN fd n ((i : Nat) : Int) ((j : Nat) : Int)) nilS (Lst.nil _ _ _ _) HKg.out.1 (fun r hr => by cases hr) HL.out)
  have hbN := fun W => run_bN fd n ((i : Nat) : Int) ((j : Nat) : Int) W
  clear oH oL hf0
  by_cases he : (i : Int) = (j : Int)
  · have de : (((i : Nat) : Int) == ((j : Nat) : Int)) = true := beq_iff_eq.2 he
    have HE := hid he
    clear he HPut hbN
    rcases hH with f1 | ⟨f1, f2⟩ <;> rcases hL with s1 | ⟨s1, s2, s3⟩ | ⟨s1, s2, s3, s4⟩
    all_goals
      go_wp2
      refine bodyPost_ret (results_tmp2 rfl _ _ _) rfl ?_
      exact ⟨_, 0, _, rfl, Or.inr (Or.inl ⟨HK.out, HE.out, rfl, rfl, rfl⟩), (HQ.out.on HB2.out).st HP.out.1 HP.out.2 fun b hb => Or.inl hb, only_of HB2.out fun b hb => Or.inr hb⟩
  · have de : (((i : Nat) : Int) == ((j : Nat) : Int)) = false := beq_eq_false_iff_ne.2 he
    have HE := hid he
    clear he
    rcases hH with f1 | ⟨f1, f2⟩ <;> rcases hL with s1 | ⟨s1, s2, s3⟩ | ⟨s1, s2, s3, s4⟩
    all_goals
      go_wp2_with (go_at_call 26; refine (HPut.out).mono ?_; rintro e W3 ⟨id, er, all2, rfl, hr, hs, ho⟩; have HRes := hid (And.intro hr (And.intro hs ho)); clear hr hs ho HPut)
      refine bodyPost_ret (results_tmp2 rfl _ _ _) rfl ?_
      exact ⟨id, er, all2, rfl, Or.inr (Or.inr ⟨HK.out, HE.out, HRes.out.1⟩), HRes.out.2.1, (only_of HB2.out fun b hb => Or.inr hb).trans (HRes.out.2.2.mono fun b hb => hb.imp (fun h => h) fun h => Nat.le_trans HB2.out.size h)⟩
end Go.Proofs.YtggbokghhohofaaDoor
