/-
  Proved here: Do of package flows, in each of its cases. Conditions: the widths' table holds its numbers; numbers are of their width; fewer than 2 to 31 were added, and Cookies gone.
-/
import Derived.Test.YtdehlnaoehjehaaGreatDoorzKJ
namespace Go.Proofs.YtdehlnaoehjehaaGreatDoor
set_option maxRecDepth 100000
open Go.RowKit Go.Maps

theorem remove_after {S : Nat → Prop} (w w2 : World) (g : Nat) (room ad : Int) (es : List Fe) (gs : List Ge) (h : Fl S w g room ad es gs) (hf : Fresh S w) (hb : Below w.heap.size w w2) (l : List Fe) (v : Value) (hR : Rw (fun b => w.heap.size ≤ b) 1 96 w2 v l.length (eps l)) (hl : ∀ x ∈ l, x ∈ es) (hd : l.Pairwise fun a b => a.k ≠ b.k) (had : ad < 2147483640) (hgl : gs.length + l.length < 2147483648) :
    Calls Tryz.prog 44 #[pv g, v] w2 fun e w3 => e = .returned (.int .i64 (l.length : Nat)) ∧ (∀ b, w.heap.size ≤ b → b < w2.heap.size → w3.heap[b]? = w2.heap[b]?) ∧ Only S w w3 ∧ ∃ gs', Fl S w3 g room ad (rmL es l) gs' ∧ gfn gs' = loL (gfn gs) l ∧ gs'.length ≤ gs.length + l.length := by
  have hsz := hb.size
  obtain ⟨S1, hS1⟩ : ∃ S1 : Nat → Prop, ∀ b, S1 b ↔ S b ∧ ¬ (w.heap.size ≤ b ∧ b < w2.heap.size) := ⟨fun b => S b ∧ ¬ (w.heap.size ≤ b ∧ b < w2.heap.size), fun _ => Iff.rfl⟩
  have hF1 : Fl S1 w2 g room ad es gs := h.carry fun b hb' hS => ⟨(hS1 b).2 ⟨hS, by omega⟩, hb.block b hb'⟩
  have hfr : Fresh S1 w2 := fun k hk => (hS1 k).2 ⟨hf k (by omega), by omega⟩
  have hR1 : Rw (fun b => w.heap.size ≤ b ∧ b < w2.heap.size) 1 96 w2 v l.length (eps l) := hR.carry fun b hb' hS => ⟨⟨hS, hb'⟩, rfl⟩
  refine (remove_any w2 g room ad es gs hF1 hfr l v hR1 (fun b hb' hS => ((hS1 b).1 hS).2 hb') hl hd had hgl).mono ?_
  rintro e w3 ⟨rfl, hO, gs', f1, f2, f3⟩
  rw [List.take_length] at f1 f2
  exact ⟨rfl, fun b h1 h2 => hO.block b fun hS => ((hS1 b).1 hS).2 ⟨h1, h2⟩, (Only.of hb hf).trans (hO.mono fun k hk => ((hS1 k).1 hk).1), gs', f1.carry fun b _ hS => ⟨((hS1 b).1 hS).1, rfl⟩, f2, f3⟩
/-- What Do does, on rules and on what is gone. -/
def Stp (es : List Fe) (G : Int → Option (Int × Int)) (ad room what : Int) (r : Rl) (n er : Int) (es' : List Fe) (G' : Int → Option (Int × Int)) (ad' : Int) : Prop :=
  (¬ (0 ≤ what ∧ what ≤ 3) ∧ n = 0 ∧ er = 2 ∧ es' = es ∧ G' = G ∧ ad' = ad) ∨
  ((0 ≤ what ∧ what ≤ 3) ∧ mOk r.mt = false ∧ n = 0 ∧ er = 20 ∧ es' = es ∧ G' = G ∧ ad' = ad) ∨
  (mOk r.mt = true ∧ what = 0 ∧ (es.filter (fun x => eqP x.r r) = [] ∧ room ≤ es.length) ∧ n = 0 ∧ er = 4 ∧ es' = es ∧ G' = G ∧ ad' = ad) ∨
  (mOk r.mt = true ∧ what = 0 ∧ ¬ (es.filter (fun x => eqP x.r r) = [] ∧ room ≤ es.length) ∧ n = 1 ∧ er = 0 ∧ (∃ p u, es' = rmL es (es.filter fun x => eqP x.r r) ++ [⟨p, ad + 1, r, u, 0, 0⟩]) ∧ G' = loL G (es.filter fun x => eqP x.r r) ∧ ad' = ad + 1) ∨
  (mOk r.mt = true ∧ what = 1 ∧ er = 0 ∧ (∃ (ds : List Fe) (u : Value), ds.Perm es ∧ n = ((ds.filter fun e => und e.r.mt r.mt).length : Nat) ∧ es' = mdL es (ds.filter fun e => und e.r.mt r.mt) r u ∧ G' = mgL r G (ds.filter fun e => und e.r.mt r.mt)) ∧ ad' = ad) ∨
  (mOk r.mt = true ∧ what = 2 ∧ er = 0 ∧ (∃ ds : List Fe, ds.Perm es ∧ n = ((ds.filter fun e => und e.r.mt r.mt).length : Nat) ∧ es' = rmL es (ds.filter fun e => und e.r.mt r.mt) ∧ G' = loL G (ds.filter fun e => und e.r.mt r.mt)) ∧ ad' = ad) ∨
  (mOk r.mt = true ∧ what = 3 ∧ er = 0 ∧ n = ((es.filter fun x => eqP x.r r).length : Nat) ∧ es' = rmL es (es.filter fun x => eqP x.r r) ∧ G' = loL G (es.filter fun x => eqP x.r r) ∧ ad' = ad)
def DoP (S : Nat → Prop) (w : World) (g : Nat) (room ad : Int) (es : List Fe) (gs : List Ge) (what : Int) (r : Rl) (e : Ending) (w' : World) : Prop :=
  ∃ (n er ad' : Int) (es' : List Fe) (gs' : List Ge), e = .returned (.tuple #[.int .i64 n, .int .i64 er]) ∧ Only S w w' ∧ Fl S w' g room ad' es' gs' ∧ gs'.length ≤ gs.length + 1024 ∧ (ad ≤ ad' ∧ ad' ≤ ad + 1) ∧ Stp es (gfn gs) ad room what r n er es' (gfn gs') ad'
structure Hdo (b : Nat) (r : Rl) (u : Value) (w : World) : Prop where
  rr : w.rangeAt b 0 (rlc r u).toList
  rm : w.rangeAt b 1 (row 22 r.mt).toList
theorem Hdo.of {b : Nat} {r : Rl} {u : Value} {w : World} (h : w.heap[b]? = some (.cells (rlc r u) 35 (0, 0))) : Hdo b r u w := ⟨row_range h, range_of fun i hi => by
  rw [row_size] at hi
  rw [cell_of_row _ _ _ _ _ _ h, row_at 22 _ _ hi]; exact rc_mat _ _ _ _ _ hi⟩
set_option maxHeartbeats 6400000 in
set_option maxRecDepth 100000 in
theorem do_flows {S T : Nat → Prop} (w : World) (g : Nat) (room ad : Int) (es : List Fe) (gs : List Ge) (h : Fl S w g room ad es gs) (hf : Fresh S w) (ht : Tab w) (h0S : ¬ S 0) (what : Int) (hwh : -128 ≤ what ∧ what < 128) (r : Rl) (u : Value) (hr : r.Fit) (had : ad < 2147483640) (hgl : gs.length < 2147480000) (hu : Cps T w u r.cp) (hT : ∀ b, T b → b < w.heap.size ∧ ¬ S b) :
    Calls Tryz.prog 13 #[pv g, .int .i8 what, .agg (rlc r u)] w (DoP S w g room ad es gs what r) := by
  obtain ⟨hnum, -, hrmm, hlenr, -, -⟩ := h.inv
  have hlen1 : es.length ≤ 1024 := by omega
  obtain ⟨W0, hW0⟩ : ∃ W0, W0 = w.alloc (.cells (rlc r u) 35) := ⟨_, rfl⟩
  have hB0 : Below w.heap.size w W0 := by rw [hW0]; exact (Below.refl _ _).alloc (Nat.le_refl _) _
  have hs0 : W0.heap.size = w.heap.size + 1 := by rw [hW0]; simp
  have hX0 : W0.heap[w.heap.size]? = some (.cells (rlc r u) 35 (0, 0)) := by rw [hW0]; exact heap_alloc_new _ _
  have HR0 := hid (Hdo.of hX0)
  have HC := hid (check_any r.mt W0 (ht.on hB0))
  have HW0 := hid hW0
  have kne : ∀ {l ds : List Fe}, ds.Perm es → l = (ds.filter fun e => und e.r.mt r.mt) → l.Pairwise fun a b => a.k ≠ b.k := fun {l ds} hp hl => by
    rw [hl]
    refine List.Pairwise.filter _ ((hp.pairwise_iff (fun {a b} h => Ne.symm h)).2 (hnum.imp fun {a b} h e => ?_))
    rw [e] at h; omega
  have HZ : Hid (∀ w1, Below W0.heap.size W0 w1 → Below w.heap.size w w1 ∧ Hdo w.heap.size r u w1 ∧ Fl S w1 g room ad es gs ∧ Fresh S w1 ∧ Tab w1 ∧ Cps T w1 u r.cp ∧ ∀ b, T b → b < w1.heap.size ∧ ¬ S b) := fun w1 hb => by
    have hb1 : Below w.heap.size w w1 := hB0.trans (hb.mono hB0.size)
    exact ⟨hb1, Hdo.of ((hb.block _ (by omega)).trans hX0), h.on hb1, hf.on hb1.size, ht.on hb1, Cps.carry (fun b hb' hS => ⟨hS, hb1.block b hb'⟩) hu, fun b hb' => ⟨by have := (hT b hb').1; have := hb1.size; omega, (hT b hb').2⟩⟩
  have HBad : Hid (¬ (0 ≤ what ∧ what ≤ 3) → DoP S w g room ad es gs what r (.returned (.tuple #[.int .i64 0, .int .i64 2])) W0) := fun hq => ⟨0, 2, ad, es, gs, rfl, Only.of hB0 hf, h.on hB0, by omega, ⟨by omega, by omega⟩, Or.inl ⟨hq, rfl, rfl, rfl, rfl, rfl⟩⟩
  have HBm : Hid ((0 ≤ what ∧ what ≤ 3) → mOk r.mt = false → ∀ w1, Below W0.heap.size W0 w1 → DoP S w g room ad es gs what r (.returned (.tuple #[.int .i64 0, .int .i64 20])) w1) := fun hq hm w1 hb => by
    obtain ⟨q1, -, q3, -⟩ := HZ.out w1 hb
    exact ⟨0, 20, ad, es, gs, rfl, Only.of q1 hf, q3, by omega, ⟨by omega, by omega⟩, Or.inr (Or.inl ⟨hq, hm, rfl, rfl, rfl, rfl, rfl⟩)⟩
  have HAd : Hid (what = 0 → mOk r.mt = true → ∀ w1, Below W0.heap.size W0 w1 → Calls Tryz.prog 42 #[pv g, .agg (rlc r u)] w1 fun e w2 => ∃ n er, e = .returned (.tuple #[.int .i64 n, .int .i64 er]) ∧ DoP S w g room ad es gs what r (.returned (.tuple #[.int .i64 n, .int .i64 er])) w2) := fun hq hm w1 hb => by
    obtain ⟨q1, -, q3, q4, q5, q6, q7⟩ := HZ.out w1 hb
    refine (fadd_any w1 g room ad es gs q3 q4 q5 h0S r u hr hm had (by omega) q6 q7).mono ?_
    rintro e w2 ⟨hO, ⟨e1, e2, rfl, hF⟩ | ⟨e1, rfl, p, u', gs', hF, hg, hl⟩⟩
    · exact ⟨0, 4, rfl, 0, 4, ad, es, gs, rfl, (Only.of q1 hf).trans hO, hF, by omega, ⟨by omega, by omega⟩, Or.inr (Or.inr (Or.inl ⟨hm, hq, ⟨e1, e2⟩, rfl, rfl, rfl, rfl, rfl⟩))⟩
    · have : (es.filter fun x => eqP x.r r).length ≤ es.length := List.length_filter_le _ _
      exact ⟨1, 0, rfl, 1, 0, ad + 1, _, gs', rfl, (Only.of q1 hf).trans hO, hF, by omega, ⟨by omega, by omega⟩, Or.inr (Or.inr (Or.inr (Or.inl ⟨hm, hq, e1, rfl, rfl, ⟨p, u', rfl⟩, hg, rfl⟩)))⟩
  have HMd : Hid (what = 1 → mOk r.mt = true → ∀ w1, Below W0.heap.size W0 w1 → Calls Tryz.prog 43 #[pv g, .agg (rlc r u)] w1 fun e w2 => ∃ n : Int, e = .returned (.int .i64 n) ∧ DoP S w g room ad es gs what r (.returned (.tuple #[.int .i64 n, .int .i64 0])) w2) := fun hq hm w1 hb => by
    obtain ⟨q1, -, q3, q4, q5, q6, q7⟩ := HZ.out w1 hb
    refine (modify_any w1 g room ad es gs q3 q4 q5 r u hr hgl q6 q7).mono ?_
    rintro e w2 ⟨ds, u', gs', hp, -, rfl, hO, hF, hg, hl⟩
    exact ⟨_, rfl, _, 0, ad, _, gs', rfl, (Only.of q1 hf).trans hO, hF, by omega, ⟨by omega, by omega⟩, Or.inr (Or.inr (Or.inr (Or.inr (Or.inl ⟨hm, hq, rfl, ⟨ds, u', hp, rfl, rfl, hg⟩, rfl⟩))))⟩
  have HDe : Hid (what = 2 → mOk r.mt = true → ∀ w1, Below W0.heap.size W0 w1 → Hdo w.heap.size r u w1.drew ∧ Calls Tryz.prog 45 #[pv g, mv r.mt] w1.drew fun e w2 => (∃ ao n cap, e = .returned (.slice ao n cap)) ∧ Hdo w.heap.size r u w2 ∧ ∀ v, e = .returned v → Calls Tryz.prog 44 #[pv g, v] w2 fun e w3 => ∃ n : Int, e = .returned (.int .i64 n) ∧ Hdo w.heap.size r u w3 ∧ DoP S w g room ad es gs what r (.returned (.tuple #[.int .i64 n, .int .i64 0])) w3) := fun hq hm w1 hb => by
    obtain ⟨q1, q2, q3, q4, q5, q6, q7⟩ := HZ.out w1 hb
    have q3d : Fl S w1.drew g room ad es gs := q3.carry fun b _ hS => ⟨hS, rfl⟩
    refine ⟨⟨q2.rr, q2.rm⟩, ?_⟩
    have q3' := q3d
    obtain ⟨o, vm, br, bp, bg, Gr, Gp, Gg, k1, k2⟩ := q3'
    refine (sunder_any w1.drew g vm br bp bg Gr Gp Gg room es gs ad k1 k2 r.mt q5).mono ?_
    rintro e w2 ⟨v, ds, rfl, hp, -, hb2, hR⟩
    have hb02 : Below W0.heap.size W0 w2 := hb.drew.trans (hb2.mono hb.size)
    obtain ⟨a1, a2, -⟩ := HZ.out w2 hb02
    obtain ⟨ao, cap, hv⟩ := hR.form
    refine ⟨⟨ao, _, cap, by rw [hv]⟩, a2, fun v' hv' => ?_⟩
    obtain rfl : v = v' := by simpa using hv'
    have hll : (ds.filter fun e => und e.r.mt r.mt).length ≤ es.length := by rw [← hp.length_eq]; exact List.length_filter_le _ _
    refine (remove_after w w2 g room ad es gs h hf a1 _ v (hR.carry fun b _ hS => ⟨Nat.le_trans q1.size hS, rfl⟩) (fun x hx => hp.subset (List.mem_filter.1 hx).1) (kne hp rfl) had (by omega)).mono ?_
    rintro e w3 ⟨rfl, keep, hO, gs', f1, f2, f3⟩
    refine ⟨_, rfl, Hdo.of ?_, _, 0, ad, _, gs', rfl, hO, f1, by omega, ⟨by omega, by omega⟩, Or.inr (Or.inr (Or.inr (Or.inr (Or.inr (Or.inl ⟨hm, hq, rfl, ⟨ds, hp, rfl, rfl, f2⟩, rfl⟩)))))⟩
    rw [keep w.heap.size (Nat.le_refl _) (by have := hb02.size; omega), hb02.block _ (by omega)]; exact hX0
  have HSt : Hid (what = 3 → mOk r.mt = true → ∀ w1, Below W0.heap.size W0 w1 → Hdo w.heap.size r u w1.drew ∧ Calls Tryz.prog 46 #[pv g, .agg (rlc r u)] w1.drew fun e w2 => (∃ ao n cap, e = .returned (.slice ao n cap)) ∧ Hdo w.heap.size r u w2 ∧ ∀ v, e = .returned v → Calls Tryz.prog 44 #[pv g, v] w2 fun e w3 => ∃ n : Int, e = .returned (.int .i64 n) ∧ Hdo w.heap.size r u w3 ∧ DoP S w g room ad es gs what r (.returned (.tuple #[.int .i64 n, .int .i64 0])) w3) := fun hq hm w1 hb => by
    obtain ⟨q1, q2, q3, q4, q5, q6, q7⟩ := HZ.out w1 hb
    refine ⟨⟨q2.rr, q2.rm⟩, ?_⟩
    refine (ofPlace_any w1.drew g room ad es gs (q3.carry fun b _ hS => ⟨hS, rfl⟩) r u hr).mono ?_
    rintro e w2 ⟨v, rfl, hb2, hR⟩
    have hb02 : Below W0.heap.size W0 w2 := hb.drew.trans (hb2.mono hb.size)
    obtain ⟨a1, a2, -⟩ := HZ.out w2 hb02
    obtain ⟨ao, cap, hv⟩ := hR.form
    refine ⟨⟨ao, _, cap, by rw [hv]⟩, a2, fun v' hv' => ?_⟩
    obtain rfl : v = v' := by simpa using hv'
    have hll : (es.filter fun x => eqP x.r r).length ≤ es.length := List.length_filter_le _ _
    refine (remove_after w w2 g room ad es gs h hf a1 _ v (hR.carry fun b _ hS => ⟨Nat.le_trans q1.size hS, rfl⟩) (fun x hx => (List.mem_filter.1 hx).1) ((hnum.imp fun h => by omega).filter _) had (by omega)).mono ?_
    rintro e w3 ⟨rfl, keep, hO, gs', f1, f2, f3⟩
    refine ⟨_, rfl, Hdo.of ?_, _, 0, ad, _, gs', rfl, hO, f1, by omega, ⟨by omega, by omega⟩, Or.inr (Or.inr (Or.inr (Or.inr (Or.inr (Or.inr ⟨hm, hq, rfl, rfl, rfl, f2, rfl⟩)))))⟩
    rw [keep w.heap.size (Nat.le_refl _) (by have := hb02.size; omega), hb02.block _ (by omega)]; exact hX0
  clear h hf ht h0S hr had hgl hu hT hB0 hs0 hX0 hW0 hnum hrmm hlenr kne
  by_cases hq : 0 ≤ what ∧ what ≤ 3
  · have hq1 : decide (what < 0) = false := decide_eq_false (by omega)
    have hq2 : decide (3 < what) = false := decide_eq_false (by omega)
    cases hm : mOk r.mt with
    | false =>
      have HE := hid (HBm.out hq hm)
      have hck := chk_bad hm
      clear HBm HBad HAd HMd HDe HSt HZ hq hm hwh
      go_enter Tryz.func13, Tryz.ntmps13
      go_upto_region 1 with fail
      rw [← HW0.out]
      clear HW0
      go_wp2_with (first
        | (refine ldMid 32 (.tmp 19) rfl rfl w.heap.size 1 rfl (row 22 r.mt) _ Tryz.underlying32 rfl (size26 _) HR0.out.rm ?_)
        | (go_at_call 41; refine (HC.out).mono ?_; rw [hck]; rintro e w1 ⟨rfl, hb1⟩; have HB1 := hid hb1; clear hb1 HC))
      refine bodyPost_ret (results_tmp2 rfl _ _ _) rfl ?_
      exact HE.out w1 HB1.out
    | true =>
      have hck := chk_ok hm
      have hcase : what = 0 ∨ what = 1 ∨ what = 2 ∨ what = 3 := by omega
      rcases hcase with rfl | rfl | rfl | rfl
      · have HE := hid (HAd.out rfl hm)
        clear HBm HBad HAd HMd HDe HSt hq hm hwh hq1 hq2
        go_enter Tryz.func13, Tryz.ntmps13
        go_upto_region 1 with fail
        rw [← HW0.out]
        clear HW0
        go_wp2_with (first
          | (refine ldMid 32 (.tmp 19) rfl rfl w.heap.size 1 rfl (row 22 r.mt) _ Tryz.underlying32 rfl (size26 _) HR0.out.rm ?_)
          | (go_at_call 41; refine (HC.out).mono ?_; rw [hck]; rintro e w1 ⟨rfl, hb1⟩; have HB1 := hid hb1; have HR1 := hid (HZ.out w1 hb1).2.1; have HEE := hid (HE.out w1 hb1); clear hb1 HC HZ)
          | (refine ldMid 35 (.tmp 5) rfl rfl w.heap.size 0 rfl (rlc r u) _ Tryz.underlying35 rfl (size_rl r u) HR1.out.rr ?_)
          | (go_at_call 42; refine (HEE.out).mono ?_; rintro e w2 ⟨n, er, rfl, hx⟩; have HX := hid hx; clear hx HEE))
        refine bodyPost_ret (results_tmp2 rfl _ _ _) rfl ?_
        exact HX.out
      · have HE := hid (HMd.out rfl hm)
        clear HBm HBad HAd HMd HDe HSt hq hm hwh hq1 hq2
        go_enter Tryz.func13, Tryz.ntmps13
        go_upto_region 1 with fail
        rw [← HW0.out]
        clear HW0
        go_wp2_with (first
          | (refine ldMid 32 (.tmp 19) rfl rfl w.heap.size 1 rfl (row 22 r.mt) _ Tryz.underlying32 rfl (size26 _) HR0.out.rm ?_)
          | (go_at_call 41; refine (HC.out).mono ?_; rw [hck]; rintro e w1 ⟨rfl, hb1⟩; have HB1 := hid hb1; have HR1 := hid (HZ.out w1 hb1).2.1; have HEE := hid (HE.out w1 hb1); clear hb1 HC HZ)
          | (refine ldMid 35 (.tmp 5) rfl rfl w.heap.size 0 rfl (rlc r u) _ Tryz.underlying35 rfl (size_rl r u) HR1.out.rr ?_)
          | (go_at_call 43; refine (HEE.out).mono ?_; rintro e w2 ⟨n, rfl, hx⟩; have HX := hid hx; clear hx HEE))
        refine bodyPost_ret (results_tmp2 rfl _ _ _) rfl ?_
        exact HX.out
      · have HE := hid (HDe.out rfl hm)
        clear HBm HBad HAd HMd HDe HSt hq hm hwh hq1 hq2
        go_enter Tryz.func13, Tryz.ntmps13
        go_upto_region 1 with fail
        rw [← HW0.out]
        clear HW0
        go_upto_region 14 with (first
          | (refine ldMid 32 (.tmp 19) rfl rfl w.heap.size 1 rfl (row 22 r.mt) _ Tryz.underlying32 rfl (size26 _) HR0.out.rm ?_)
          | (go_at_call 41; refine (HC.out).mono ?_; rw [hck]; rintro e w1 ⟨rfl, hb1⟩; have HB1 := hid hb1; clear hb1 HC))
        obtain ⟨y1, y2⟩ := HE.out w1 HB1.out
        have HY2 := hid y2
        refine wp_region_held_drew (S := Hdo w.heap.size r u) (by kernel_rfl) y1 (fun hHeld => ?_)
        clear y2
        refine wpAnyH_take (i := 0) (v := ?_) rfl (by kernel_rfl) (by kernel_rfl) (by kernel_rfl) (fun _ _ _ h => h) (Or.inl ⟨by rfl, ?_⟩) hHeld ?_
        rotate_left
        · intro w' hSw
          clear hSw
          go_simp
          first | done | with_reducible rfl
        simp only [Act.put, List.getElem_toArray, List.getElem_cons_zero, List.setIfInBounds_toArray, List.set_cons_zero, List.set_cons_succ]
        refine wpAnyH_take (i := 1) (v := ?_) rfl (by kernel_rfl) (by kernel_rfl) (by kernel_rfl) (fun _ _ _ h => h) (Or.inl ⟨by rfl, ?_⟩) hHeld ?_
        rotate_left
        · intro w' hSw
          clear hSw
          go_simp
          first | done | with_reducible rfl
        simp only [Act.put, List.getElem_toArray, List.getElem_cons_succ, List.getElem_cons_zero, List.setIfInBounds_toArray, List.set_cons_zero, List.set_cons_succ]
        refine wpAnyH_take (i := 2) (v := ?_) rfl (by kernel_rfl) (by kernel_rfl) (by kernel_rfl) (fun _ _ _ h => h) (Or.inl ⟨by rfl, ?_⟩) hHeld ?_
        rotate_left
        · intro w' hSw
          clear hSw
          go_simp
          first | done | with_reducible rfl
        simp only [Act.put, List.getElem_toArray, List.getElem_cons_succ, List.getElem_cons_zero, List.setIfInBounds_toArray, List.set_cons_zero, List.set_cons_succ]
        refine wpAnyH_take (i := 3) (v := ?_) rfl (by kernel_rfl) (by kernel_rfl) (by kernel_rfl) (fun _ _ _ h => h) (Or.inl ⟨by rfl, ?_⟩) hHeld ?_
        rotate_left
        · intro w' hSw
          clear hSw
          go_simp
          first | done | with_reducible rfl
        simp only [Act.put, List.getElem_toArray, List.getElem_cons_succ, List.getElem_cons_zero, List.setIfInBounds_toArray, List.set_cons_zero, List.set_cons_succ]
        refine wpAnyH_take (i := 4) (v := ?_) rfl (by kernel_rfl) (by kernel_rfl) (by kernel_rfl) (fun _ _ _ h => h) (Or.inl ⟨by rfl, ?_⟩) hHeld ?_
        rotate_left
        · intro w' hSw
          clear hSw
          go_simp
          first | done | with_reducible rfl
        simp only [Act.put, List.getElem_toArray, List.getElem_cons_succ, List.getElem_cons_zero, List.setIfInBounds_toArray, List.set_cons_zero, List.set_cons_succ]
        refine wpAnyH_take (i := 5) (v := mv r.mt) rfl (by kernel_rfl) (by kernel_rfl) (by kernel_rfl) (fun _ _ _ h => h) (Or.inl ⟨by rfl, ?_⟩) hHeld ?_
        · intro w' hSw
          exact runLd 32 (.tmp 49) rfl w.heap.size 1 rfl (row 22 r.mt) _ hSw.rm Tryz.underlying32 rfl (size26 r.mt)
        simp only [Act.put, List.getElem_toArray, List.getElem_cons_succ, List.getElem_cons_zero, List.setIfInBounds_toArray, List.set_cons_zero, List.set_cons_succ]
        refine wpAnyH_ready (rs := [6]) (by kernel_rfl) (by simp) ?_
        refine AllReadyH.cons rfl (fun K hK => ?_) AllReadyH.nil
        refine stepFnW 45 (.func 45) [.tmp 48, .tmp 50] _ [pv g, mv r.mt] rfl rfl rfl rfl (fun _ => rfl) _ HY2.out ?_
        rintro e w2 ⟨⟨ao, nn, cap, rfl⟩, z1, z2⟩
        refine Or.inl ⟨_, rfl, ?_⟩
        refine hK.out _ _ z1 (fun hHeld => ?_)
        clear hK K
        simp only [Act.put, List.getElem_toArray, List.getElem_cons_succ, List.getElem_cons_zero, List.setIfInBounds_toArray, List.set_cons_zero, List.set_cons_succ]
        refine wpAnyH_ready (rs := [7]) (by kernel_rfl) (by simp) ?_
        refine AllReadyH.cons rfl (fun K hK => ?_) AllReadyH.nil
        refine stepFnW 44 (.func 44) [.tmp 45, .tmp 51] _ [pv g, .slice ao nn cap] rfl rfl rfl rfl (fun _ => rfl) _ (z2 _ rfl) ?_
        rintro e w3 ⟨n, rfl, v1, v2⟩
        refine Or.inl ⟨_, rfl, ?_⟩
        refine hK.out _ _ v1 (fun hHeld => ?_)
        clear hK K
        simp only [Act.put, List.getElem_toArray, List.getElem_cons_succ, List.getElem_cons_zero, List.setIfInBounds_toArray, List.set_cons_zero, List.set_cons_succ]
        refine wpAnyH_take (i := 8) (v := ?_) rfl (by kernel_rfl) (by kernel_rfl) (by kernel_rfl) (fun _ _ _ h => h) (Or.inl ⟨by rfl, ?_⟩) hHeld ?_
        rotate_left
        · intro w' hSw
          clear hSw
          go_simp
          first | done | with_reducible rfl
        simp only [Act.put, List.getElem_toArray, List.getElem_cons_succ, List.getElem_cons_zero, List.setIfInBounds_toArray, List.set_cons_zero, List.set_cons_succ]
        refine wpAnyH_take (i := 9) (v := ?_) rfl (by kernel_rfl) (by kernel_rfl) (by kernel_rfl) (fun _ _ _ h => h) (Or.inl ⟨by rfl, ?_⟩) hHeld ?_
        rotate_left
        · intro w' hSw
          clear hSw
          go_simp
          first | done | with_reducible rfl
        simp only [Act.put, List.getElem_toArray, List.getElem_cons_succ, List.getElem_cons_zero, List.setIfInBounds_toArray, List.set_cons_zero, List.set_cons_succ]
        refine wpAnyH_done (by kernel_rfl) ?_ _
        have HX := hid v2
        clear v1 v2 z1 z2 y1 HY2 HE HZ
        go_wp2
        refine bodyPost_ret (results_tmp2 rfl _ _ _) rfl ?_
        exact HX.out
      · have HE := hid (HSt.out rfl hm)
        clear HBm HBad HAd HMd HDe HSt hq hm hwh hq1 hq2
        go_enter Tryz.func13, Tryz.ntmps13
        go_upto_region 1 with fail
        rw [← HW0.out]
        clear HW0
        go_upto_region 8 with (first
          | (refine ldMid 32 (.tmp 19) rfl rfl w.heap.size 1 rfl (row 22 r.mt) _ Tryz.underlying32 rfl (size26 _) HR0.out.rm ?_)
          | (go_at_call 41; refine (HC.out).mono ?_; rw [hck]; rintro e w1 ⟨rfl, hb1⟩; have HB1 := hid hb1; clear hb1 HC))
        obtain ⟨y1, y2⟩ := HE.out w1 HB1.out
        have HY2 := hid y2
        refine wp_region_held_drew (S := Hdo w.heap.size r u) (by kernel_rfl) y1 (fun hHeld => ?_)
        clear y2
        refine wpAnyH_take (i := 0) (v := ?_) rfl (by kernel_rfl) (by kernel_rfl) (by kernel_rfl) (fun _ _ _ h => h) (Or.inl ⟨by rfl, ?_⟩) hHeld ?_
        rotate_left
        · intro w' hSw
          clear hSw
          go_simp
          first | done | with_reducible rfl
        simp only [Act.put, List.getElem_toArray, List.getElem_cons_zero, List.setIfInBounds_toArray, List.set_cons_zero, List.set_cons_succ]
        refine wpAnyH_take (i := 1) (v := ?_) rfl (by kernel_rfl) (by kernel_rfl) (by kernel_rfl) (fun _ _ _ h => h) (Or.inl ⟨by rfl, ?_⟩) hHeld ?_
        rotate_left
        · intro w' hSw
          clear hSw
          go_simp
          first | done | with_reducible rfl
        simp only [Act.put, List.getElem_toArray, List.getElem_cons_succ, List.getElem_cons_zero, List.setIfInBounds_toArray, List.set_cons_zero, List.set_cons_succ]
        refine wpAnyH_take (i := 2) (v := ?_) rfl (by kernel_rfl) (by kernel_rfl) (by kernel_rfl) (fun _ _ _ h => h) (Or.inl ⟨by rfl, ?_⟩) hHeld ?_
        rotate_left
        · intro w' hSw
          clear hSw
          go_simp
          first | done | with_reducible rfl
        simp only [Act.put, List.getElem_toArray, List.getElem_cons_succ, List.getElem_cons_zero, List.setIfInBounds_toArray, List.set_cons_zero, List.set_cons_succ]
        refine wpAnyH_take (i := 3) (v := ?_) rfl (by kernel_rfl) (by kernel_rfl) (by kernel_rfl) (fun _ _ _ h => h) (Or.inl ⟨by rfl, ?_⟩) hHeld ?_
        rotate_left
        · intro w' hSw
          clear hSw
          go_simp
          first | done | with_reducible rfl
        simp only [Act.put, List.getElem_toArray, List.getElem_cons_succ, List.getElem_cons_zero, List.setIfInBounds_toArray, List.set_cons_zero, List.set_cons_succ]
        refine wpAnyH_take (i := 4) (v := .agg (rlc r u)) rfl (by kernel_rfl) (by kernel_rfl) (by kernel_rfl) (fun _ _ _ h => h) (Or.inl ⟨by rfl, ?_⟩) hHeld ?_
        · intro w' hSw
          exact runLd 35 (.tmp 5) rfl w.heap.size 0 rfl (rlc r u) _ hSw.rr Tryz.underlying35 rfl (size_rl r u)
        simp only [Act.put, List.getElem_toArray, List.getElem_cons_succ, List.getElem_cons_zero, List.setIfInBounds_toArray, List.set_cons_zero, List.set_cons_succ]
        refine wpAnyH_ready (rs := [5]) (by kernel_rfl) (by simp) ?_
        refine AllReadyH.cons rfl (fun K hK => ?_) AllReadyH.nil
        refine stepFnW 46 (.func 46) [.tmp 27, .tmp 28] _ [pv g, .agg (rlc r u)] rfl rfl rfl rfl (fun _ => rfl) _ HY2.out ?_
        rintro e w2 ⟨⟨ao, nn, cap, rfl⟩, z1, z2⟩
        refine Or.inl ⟨_, rfl, ?_⟩
        refine hK.out _ _ z1 (fun hHeld => ?_)
        clear hK K
        simp only [Act.put, List.getElem_toArray, List.getElem_cons_succ, List.getElem_cons_zero, List.setIfInBounds_toArray, List.set_cons_zero, List.set_cons_succ]
        refine wpAnyH_ready (rs := [6]) (by kernel_rfl) (by simp) ?_
        refine AllReadyH.cons rfl (fun K hK => ?_) AllReadyH.nil
        refine stepFnW 44 (.func 44) [.tmp 24, .tmp 29] _ [pv g, .slice ao nn cap] rfl rfl rfl rfl (fun _ => rfl) _ (z2 _ rfl) ?_
        rintro e w3 ⟨n, rfl, v1, v2⟩
        refine Or.inl ⟨_, rfl, ?_⟩
        refine hK.out _ _ v1 (fun hHeld => ?_)
        clear hK K
        simp only [Act.put, List.getElem_toArray, List.getElem_cons_succ, List.getElem_cons_zero, List.setIfInBounds_toArray, List.set_cons_zero, List.set_cons_succ]
        refine wpAnyH_take (i := 7) (v := ?_) rfl (by kernel_rfl) (by kernel_rfl) (by kernel_rfl) (fun _ _ _ h => h) (Or.inl ⟨by rfl, ?_⟩) hHeld ?_
        rotate_left
        · intro w' hSw
          clear hSw
          go_simp
          first | done | with_reducible rfl
        simp only [Act.put, List.getElem_toArray, List.getElem_cons_succ, List.getElem_cons_zero, List.setIfInBounds_toArray, List.set_cons_zero, List.set_cons_succ]
        refine wpAnyH_take (i := 8) (v := ?_) rfl (by kernel_rfl) (by kernel_rfl) (by kernel_rfl) (fun _ _ _ h => h) (Or.inl ⟨by rfl, ?_⟩) hHeld ?_
        rotate_left
        · intro w' hSw
          clear hSw
          go_simp
          first | done | with_reducible rfl
        simp only [Act.put, List.getElem_toArray, List.getElem_cons_succ, List.getElem_cons_zero, List.setIfInBounds_toArray, List.set_cons_zero, List.set_cons_succ]
        refine wpAnyH_done (by kernel_rfl) ?_ _
        have HX := hid v2
        clear v1 v2 z1 z2 y1 HY2 HE HZ
        go_wp2
        refine bodyPost_ret (results_tmp2 rfl _ _ _) rfl ?_
        exact HX.out
  · have HE := hid (HBad.out hq)
    by_cases hneg : what < 0
    · have hq1 : decide (what < 0) = true := decide_eq_true hneg
      clear HBm HBad HAd HMd HDe HSt HZ hq hwh hneg HC
      go_enter Tryz.func13, Tryz.ntmps13
      go_upto_region 1 with fail
      rw [← HW0.out]
      clear HW0
      go_wp2
      refine bodyPost_ret (results_tmp2 rfl _ _ _) rfl ?_
      exact HE.out
    · have hq1 : decide (what < 0) = false := decide_eq_false hneg
      have hq2 : decide (3 < what) = true := decide_eq_true (by omega)
      clear HBm HBad HAd HMd HDe HSt HZ hq hwh hneg HC
      go_enter Tryz.func13, Tryz.ntmps13
      go_upto_region 1 with fail
      rw [← HW0.out]
      clear HW0
      go_wp2
      refine bodyPost_ret (results_tmp2 rfl _ _ _) rfl ?_
      exact HE.out
end Go.Proofs.YtdehlnaoehjehaaGreatDoor
