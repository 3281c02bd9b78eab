/-
  Proved here: joined of package policy: a row's plain form. Conditions: the tables; the kids lie in memory from B on; a Filter has its kid, as a part of that Op; at most 4096 terms.
-/
import Derived.Test.YtjallmncajhamaaDoorTE
namespace Go.Proofs.YtjallmncajhamaaDoor
open Go.RowKit
set_option maxRecDepth 100000

theorem LqS.here {S T : Nat → Prop} {w : World} {ks : List Tm} {v : Value} {wr : World} (h : LqS S w ks v wr) (hST : ∀ b, b < w.heap.size → S b → T b) : LqS T wr ks v wr := by
  obtain ⟨xs, g1, g2⟩ := h.ks
  have hz := h.low.size
  exact ⟨Below.refl _ _, xs, g1.carry fun b _ hS => ⟨⟨hST b hS.2 hS.1, by omega⟩, rfl⟩, UmL.carry (fun b _ hS => ⟨⟨hST b hS.2 hS.1, by omega⟩, rfl⟩) _ _ g2⟩
theorem TlS.um {S T : Nat → Prop} {w : World} {l : List Tm} {v : Value} {wr : World} (h : TlS S w (tis l) v wr) (hT : ∀ b, w.heap.size ≤ b → T b) (hST : ∀ b, S b → T b) : ∃ xs, Rx T 4 wr v l.length xs ∧ UmL T wr l xs := by
  obtain ⟨xs, g1, g2⟩ := h.ks
  rw [tis_len] at g1
  exact ⟨xs, g1.rx.carry fun b _ hS => ⟨hT b hS, rfl⟩, UmL.carry (fun b _ hS => ⟨hST b hS.1.1, rfl⟩) _ _ g2⟩
/-- behind the result's block and the joint's -/
structure Tj (w : World) (r : Nat) (W1 : World) : Prop where
  b : Below w.heap.size w W1
  rr : W1.heap[w.heap.size]? = some (.cells (tmc 0 0 0 nilS) 26 (0, 0))
  j : W1.heap[w.heap.size + 1]? = some (.cells (jtc r) 121 (0, 0))
  sz : w.heap.size + 1 + 1 ≤ W1.heap.size
theorem Tj.new (w : World) (r : Nat) : Tj w r ((w.alloc (.cells (tmc 0 0 0 nilS) 26)).alloc (.cells (jtc r) 121)) :=
  ⟨((Below.refl _ _).alloc (Nat.le_refl _) _).alloc (by simp) _, (heap_alloc_old _ _ (by simp)).trans (heap_alloc_new _ _), by have := heap_alloc_new (w.alloc (.cells (tmc 0 0 0 nilS) 26)) (.cells (jtc r) 121); simpa using this, by simp⟩
theorem Tj.on {w : World} {r : Nat} {W1 W2 : World} (h : Tj w r W1) (hb : Below W1.heap.size W1 W2) : Tj w r W2 :=
  ⟨h.b.trans (hb.mono h.b.size), (hb.block _ (by have := h.sz; omega)).trans h.rr, (hb.block _ (by have := h.sz; omega)).trans h.j, by have := h.sz; have := hb.size; omega⟩
theorem Tj.put {w W1 : World} {r : Nat} {ds : Array Value} (h : Tj w r W1) {B : Nat} {t : Tm} (ht : UmV (fun b => B ≤ b ∧ b ≠ w.heap.size) W1 t ds) : Below w.heap.size w (W1.setRow w.heap.size ds) ∧ UmV (fun b => B ≤ b) (W1.setRow w.heap.size ds) t ds :=
  ⟨bel_row h.b (by omega) _, um_on ht fun b _ hS => ⟨hS.1, setRow_other W1 _ b _ hS.2⟩⟩
theorem jen_eop {r : Nat} (hr : isRow r = true) {h : Nat} (hh : h ≤ 10) : ((h : Nat) : Int) = jen r ↔ h = eop r := by
  rcases isRow_iff.1 hr with rfl | rfl | rfl | rfl <;> simp [jen, eop] <;> omega
theorem any_eop {r : Nat} (hr : isRow r = true) {ks : List Tm} (hh : ∀ k ∈ ks, hd k ≤ 10) : (ks.any fun k => decide ((hd k : Int) = jen r)) = ks.any fun k => decide (hd k = eop r) := by
  rw [Bool.eq_iff_iff, List.any_eq_true, List.any_eq_true]
  constructor
  · rintro ⟨k, h1, h2⟩
    exact ⟨k, h1, decide_eq_true ((jen_eop hr (hh k h1)).1 (of_decide_eq_true h2))⟩
  · rintro ⟨k, h1, h2⟩
    exact ⟨k, h1, decide_eq_true ((jen_eop hr (hh k h1)).2 (of_decide_eq_true h2))⟩
set_option maxHeartbeats 12800000 in
theorem joined8_any (B r : Nat) (hr : isRow r = true) (ks : List Tm) (ao : Option Addr) (cap : Nat) (w : World) (hB : B ≤ w.heap.size) (hS : LqS (fun b => B ≤ b) w ks (.slice ao ks.length cap) w) (hk : ∀ k ∈ ks, (k.op = 6 → k.ks ≠ []) ∧ (k.op = r → k.ks ≠ [])) (hh : ∀ k ∈ ks, hd k ≤ 10) (hs : szs ks ≤ 4096) (hT : TabP w) (hz : 3 ≤ w.heap.size) :
    Calls Tryd.prog 69 #[.int .i8 ((r : Nat) : Int), .slice ao ks.length cap] w fun e w' => ∃ ds, e = .returned (.agg ds) ∧ Below w.heap.size w w' ∧ UmV (fun b => B ≤ b) w' (jnd r ks) ds := by
  have hr10 := row_lt hr
  have HRw := hid hr
  have HTw := hid hT
  have hkl : ks.length ≤ 4096 := by have := len_le_szs ks; omega
  have g10 : decide ((10 : Int) ≤ (r : Int)) = false := decide_eq_false (by omega)
  have hmf : ∀ (fn : Fn) (first cap : Array Value) (w : World), (Instr.makeFunc fn first cap).run Tryd.prog w = .ok (.func fn first cap) w := fun _ _ _ _ => rfl
  obtain ⟨W1, hW1⟩ : ∃ W1, W1 = (w.alloc (.cells (tmc 0 0 0 nilS) 26)).alloc (.cells (jtc r) 121) := ⟨_, rfl⟩
  have HJ : Hid (Tj w r W1) := by show Tj _ _ _; rw [hW1]; exact Tj.new _ _
  have HRg : Hid ((w.alloc (.cells (tmc 0 0 0 nilS) 26)).rangeAt 1 (r * 2) (jtc r).toList) := (hT.on ((Below.refl _ _).alloc (Nat.le_refl _) _) hz).jt r hr10
  have hS1 : LqS (fun b => B ≤ b ∧ b ≠ w.heap.size) W1 ks (.slice ao ks.length cap) W1 := (hS.keep HJ.out.b).here fun b hb hSb => ⟨hSb, by omega⟩
  have HS1 := hid hS1
  obtain ⟨q, hq⟩ : ∃ q, q = ks.any fun k => decide ((hd k : Int) = jen r) := ⟨_, rfl⟩
  have HCf := hid (cfT_any _ ks hkl ao cap W1 hS1 (fun k hk1 => (hk k hk1).1) (w.heap.size + 1) (jid r) (jen r) HJ.out.j q hq)
  have HQ : Hid (q = ks.any fun k => decide (hd k = eop r)) := by show _ = _; rw [hq]; exact any_eop hr hh
  have HGa : Hid (∀ W, Below W1.heap.size W1 W → Calls Tryd.prog 103 #[.int .i8 ((r : Nat) : Int), .slice ao ks.length cap] W fun e w' => ∃ v, e = .returned v ∧ TlS (fun b => B ≤ b ∧ b ≠ w.heap.size) W (tis (gth r ks)) v w') := fun W hb =>
    gather8_any _ r hr ks ao cap W ((hS1.keep hb).here fun b _ h => h) hk hs (hT.on (HJ.out.b.trans (hb.mono HJ.out.b.size)) hz) (by have := hb.size; have := HJ.out.sz; omega)
  have HSa : Hid (∀ (what : Nat) (W : World), Tj w r W → Calls Tryd.prog 102 #[.int .i8 ((what : Nat) : Int), .int .i8 ((r : Nat) : Int)] W fun e w' => ∃ ds, e = .returned (.agg ds) ∧ Below W.heap.size W w' ∧ UmV (fun b => W.heap.size ≤ b) w' (sayT what r) ds) := fun what W hj =>
    saying8_any what r W (hT.on hj.b hz) (by have := hj.sz; omega) (by omega)
  have HE : Hid ((w.alloc (.cells #[.int .i8 0, .int .i8 0, .int .u64 0, .slice none 0 0] 26)).alloc (.cells #[.int .i8 (jid r), .int .i8 (jen r)] 121) = W1) := hW1.symm
  have HJe : Hid (q = true → jen r = ((eop r : Nat) : Int)) := fun e => by
    rw [HQ.out, List.any_eq_true] at e
    obtain ⟨k, h1, h2⟩ := e
    have h3 := of_decide_eq_true h2
    rw [← h3]
    exact ((jen_eop HRw.out (hh k h1)).2 h3).symm
  have HIe := hid (iop_jid HRw.out)
  have HP : Hid (jnd r ks = if q = true then sayT (eop r) r else fin1 r (gth r ks)) := by show _ = _; rw [HQ.out]; rfl
  have hgl : (gth r ks).length ≤ 4096 := by have := gth_len (r := r) hs ks.length; rwa [List.take_length] at this
  have HRs := hid hs
  clear hS hk hh hs hT hS1 hq hW1 hr
  go_enter Tryd.func69, Tryd.ntmps69
  go_upto_region 2 with (first
    | (refine ldMid 121 (.tmp 8) rfl rfl 1 (r * 2) rfl (jtc r) _ Tryd.underlying121 rfl infoJT HRg.out ?_)
    | (refine stNew 121 (.tmp 5) (.tmp 9) rfl rfl (w.alloc (.cells (tmc 0 0 0 nilS) 26)) 121 #[.int .i8 0, .int .i8 0] (jtc r) rfl rfl rfl infoJT rfl rfl ?_))
  rw [show (w.alloc (.cells #[.int .i8 0, .int .i8 0, .int .u64 0, .slice none 0 0] 26)).alloc (.cells #[.int .i8 (jid r), .int .i8 (jen r)] 121) = W1 from HE.out]
  clear HE HRg
  cases q with
  | true =>
    have HP2 : Hid (jnd r ks = sayT (eop r) r) := by show _ = _; rw [HP.out, if_pos rfl]
    have HJ2 := hid (HJe.out rfl)
    clear HP HJe HIe HGa HQ hgl
    go_wp2_with (first
      | (go_at_call 99; refine (HCf.out).mono ?_; rintro e w2 ⟨rfl, hw⟩; have HJ3 := hid (HJ.out.on hw); have j1 : w2.cell? ⟨w.heap.size + 1, 1, none⟩ = some (.int .i8 ((eop r : Nat) : Int)) := (by rw [← HJ2.out]; exact (cell_of_row _ _ _ _ _ _ HJ3.out.j).trans rfl); clear hw HCf)
      | (refine stRow 26 (.tmp 4) (.tmp 16) rfl rfl w.heap.size ds rfl rfl 26 (tmc 0 0 0 nilS) HJ4.out.rr HI4.out HS4.out HO4.out ?_)
      | (go_at_call 102; refine (HSa.out (eop r) w2 HJ3.out).mono ?_; rintro e w3 ⟨ds, rfl, hw, hu⟩; have HJ4 := hid (HJ3.out.on hw); have HU := hid (um_on hu fun b hb hS => (⟨⟨by have := HJ3.out.sz; omega, by have := HJ3.out.sz; omega⟩, rfl⟩ : (B ≤ b ∧ b ≠ w.heap.size) ∧ _)); have HI4 := hid hu.info; have HO4 := hid hu.one; have HS4 : Hid ((tmc 0 0 0 nilS).size = ds.size) := (by show _ = _; rw [hu.size]; rfl); clear hw hu))
    refine bodyPost_ret (v := .agg ds) (res_tm Tryd.results69 _ _ w.heap.size _ HI4.out rfl (setRow_heap w3 _ _ _ _ _ HJ4.out.rr)) rfl ?_
    obtain ⟨q1, q2⟩ := HJ4.out.put HU.out
    exact ⟨_, rfl, q1, by rw [HP2.out]; exact q2⟩
  | false =>
    have HPf : Hid (jnd r ks = fin1 r (gth r ks)) := by show _ = _; rw [HP.out]; simp
    clear HP HJe HQ
    generalize gth r ks = l at HGa HPf hgl
    match l with
    | [] =>
      have HP2 : Hid (jnd r ks = sayT (iop r) r) := HPf.out
      clear HPf
      go_wp2_with (first
        | (go_at_call 99; refine (HCf.out).mono ?_; rintro e w2 ⟨rfl, hw⟩; have HJ3 := hid (HJ.out.on hw); have HGa2 := hid (HGa.out w2 hw); clear hw HCf)
        | (go_at_call 103; refine (HGa2.out).mono ?_; rintro e w3 ⟨v, rfl, hw⟩; obtain ⟨ao3, cap3, rfl⟩ := hw.form; have HJ4 := hid (HJ3.out.on hw.low); have j0 : w3.cell? ⟨w.heap.size + 1, 0, none⟩ = some (.int .i8 ((iop r : Nat) : Int)) := (by rw [HIe.out]; exact (cell_of_row _ _ _ _ _ _ HJ4.out.j).trans rfl); clear hw HGa2)
        | (refine stRow 26 (.tmp 4) (.tmp 27) rfl rfl w.heap.size ds rfl rfl 26 (tmc 0 0 0 nilS) HJ5.out.rr HI5.out HS5.out HO5.out ?_)
        | (go_at_call 102; refine (HSa.out (iop r) w3 HJ4.out).mono ?_; rintro e w4 ⟨ds, rfl, hw, hu⟩; have HJ5 := hid (HJ4.out.on hw); have HU := hid (um_on hu fun b hb hS => (⟨⟨by have := HJ4.out.sz; omega, by have := HJ4.out.sz; omega⟩, rfl⟩ : (B ≤ b ∧ b ≠ w.heap.size) ∧ _)); have HI5 := hid hu.info; have HO5 := hid hu.one; have HS5 : Hid ((tmc 0 0 0 nilS).size = ds.size) := (by show _ = _; rw [hu.size]; rfl); clear hw hu))
      refine bodyPost_ret (v := .agg ds) (res_tm Tryd.results69 _ _ w.heap.size _ HI5.out rfl (setRow_heap w4 _ _ _ _ _ HJ5.out.rr)) rfl ?_
      obtain ⟨q1, q2⟩ := HJ5.out.put HU.out
      exact ⟨_, rfl, q1, by rw [HP2.out]; exact q2⟩
    | [x] =>
      have HP2 : Hid (jnd r ks = x) := HPf.out
      clear HPf
      go_upto_region 5 with (first
        | (go_at_call 99; refine (HCf.out).mono ?_; rintro e w2 ⟨rfl, hw⟩; have HJ3 := hid (HJ.out.on hw); have HGa2 := hid (HGa.out w2 hw); clear hw HCf)
        | (go_at_call 103; refine (HGa2.out).mono ?_; rintro e w3 ⟨v, rfl, hw⟩; have HJ4 := hid (HJ3.out.on hw.low); have HTl := hid (hw.um (T := fun b => B ≤ b ∧ b ≠ w.heap.size) (fun b hb => ⟨by have := HJ3.out.sz; omega, by have := HJ3.out.sz; omega⟩) (fun b h => h)); clear hw HGa2))
      obtain ⟨zs, z1, z2⟩ := HTl.out
      obtain ⟨ao3, cap3, rfl⟩ := z1.form
      obtain ⟨g, o, rfl, hc, hg, hgl2, x0, x1, x2, x3, hkv, hra⟩ := UmL.kid z1 z2 (j := 0) (by simp)
      simp only [List.getElem_cons_zero, Nat.zero_mul, Nat.add_zero] at hkv hra
      have hcp : 0 < cap3 := by simp at hc; omega
      have HU := hid hkv
      have HO4 := hid hkv.one
      have HRA := hid hra
      clear z1 z2 hkv hra hg hgl2 hc HTl
      go_wp2_with (first
        | (refine ldMid 26 (.tmp 31) rfl rfl g o rfl #[x0, x1, x2, x3] _ Tryd.underlying26 rfl sizeTM HRA.out ?_)
        | (refine stRow 26 (.tmp 4) (.tmp 32) rfl rfl w.heap.size #[x0, x1, x2, x3] rfl rfl 26 (tmc 0 0 0 nilS) HJ4.out.rr sizeTM rfl HO4.out ?_))
      refine bodyPost_ret (v := .agg #[x0, x1, x2, x3]) (res_tm Tryd.results69 _ _ w.heap.size _ sizeTM rfl (setRow_heap w3 _ _ _ _ _ HJ4.out.rr)) rfl ?_
      obtain ⟨q1, q2⟩ := HJ4.out.put HU.out
      exact ⟨_, rfl, q1, by rw [HP2.out]; exact q2⟩
    | x :: y :: l =>
      have HP2 : Hid (jnd r ks = .mk r 0 0 (x :: y :: l)) := HPf.out
      have hL0 : 2 ≤ (x :: y :: l).length := by simp
      clear HPf
      generalize x :: y :: l = l2 at HP2 HGa hgl hL0
      have e0 : (((l2.length : Nat) : Int) == 0) = false := beq_eq_false_iff_ne.2 (by omega)
      have e1 : (((l2.length : Nat) : Int) == 1) = false := beq_eq_false_iff_ne.2 (by omega)
      go_upto_region 5 with (first
        | (go_at_call 99; refine (HCf.out).mono ?_; rintro e w2 ⟨rfl, hw⟩; have HJ3 := hid (HJ.out.on hw); have HGa2 := hid (HGa.out w2 hw); clear hw HCf)
        | (go_at_call 103; refine (HGa2.out).mono ?_; rintro e w3 ⟨v, rfl, hw⟩; have HJ4 := hid (HJ3.out.on hw.low); have HTl := hid (hw.um (T := fun b => B ≤ b ∧ b ≠ w.heap.size) (fun b hb => ⟨by have := HJ3.out.sz; omega, by have := HJ3.out.sz; omega⟩) (fun b h => h)); clear hw HGa2))
      obtain ⟨zs, z1, z2⟩ := HTl.out
      obtain ⟨ao3, cap3, rfl⟩ := z1.form
      have HU : Hid (UmV (fun b => B ≤ b ∧ b ≠ w.heap.size) w3 (.mk r 0 0 l2) (tmc r 0 0 (.slice ao3 l2.length cap3))) := UmV.of z1 z2
      have HO := hid (over8_any ((r : Nat) : Int) ao3 l2.length cap3 w3)
      clear z1 z2 HTl
      go_wp2_with (first
        | (go_at_call 98; refine (HO.out).mono ?_; rintro e w4 ⟨rfl, hw⟩; have HJ5 := hid (HJ4.out.on hw); have HU5 := hid (um_on HU.out fun b hb hS => (⟨hS, hw.block b hb⟩ : (B ≤ b ∧ b ≠ w.heap.size) ∧ _)); clear hw HO)
        | (refine stRow 26 (.tmp 4) (.tmp 35) rfl rfl w.heap.size (tmc r 0 0 (.slice ao3 l2.length cap3)) rfl rfl 26 (tmc 0 0 0 nilS) HJ5.out.rr sizeTM rfl (tic_one _ _ _ _ _ _) ?_))
      refine bodyPost_ret (v := .agg (tmc r 0 0 (.slice ao3 l2.length cap3))) (res_tm Tryd.results69 _ _ w.heap.size _ sizeTM rfl (setRow_heap w4 _ _ _ _ _ HJ5.out.rr)) rfl ?_
      obtain ⟨q1, q2⟩ := HJ5.out.put HU5.out
      exact ⟨_, rfl, q1, by rw [HP2.out]; exact q2⟩
end Go.Proofs.YtjallmncajhamaaDoor
