/-
  Proved here: the document's Plain of layer 18. Condition: the policy lies in old memory.
-/
import Derived.Test.YtjallmncajhamaaDoorVNB
namespace Go.Proofs.YtjallmncajhamaaDoor
open Go.RowKit
set_option maxRecDepth 100000

/-- the plain policy under way: its block is the first behind w; the queries that it has -/
structure RnS (B : Nat) (w : World) (x0 x1 x2 x3 : Value) (acc : List Qi) (v : Value) (wr : World) : Prop where
  hB : B ≤ w.heap.size
  low : Below w.heap.size w wr
  row : wr.heap[w.heap.size]? = some (.cells #[x0, x1, x2, x3, v] 29 (0, 0))
  ks : ∃ xs, Rw (fun b => w.heap.size < b) 5 40 wr v acc.length xs ∧ QiL (fun b => ((b < B ∨ w.heap.size < b) ∧ v.ownBlock ≠ some b) ∧ b < wr.heap.size) wr acc xs
theorem RnS.on {B : Nat} {w : World} {x0 x1 x2 x3 : Value} {acc : List Qi} {v : Value} {wr w' : World} (h : RnS B w x0 x1 x2 x3 acc v wr) (hb : Below wr.heap.size wr w') : RnS B w x0 x1 x2 x3 acc v w' := by
  obtain ⟨xs, g1, g2⟩ := h.ks
  have hB := (Array.getElem?_eq_some_iff.1 h.row).1
  have hz := hb.size
  exact ⟨h.hB, h.low.trans (hb.mono h.low.size), (hb.block _ hB).trans h.row, xs, g1.carry fun b hl hS => ⟨hS, hb.block b hl⟩, QiL.carry (fun b hl hS => ⟨⟨hS.1, by omega⟩, hb.block b hl⟩) _ _ g2⟩
theorem RnS.beg {B : Nat} (w : World) (hB : B ≤ w.heap.size) (x0 x1 x2 x3 : Value) : RnS B w x0 x1 x2 x3 [] nilS (w.alloc (.cells #[x0, x1, x2, x3, nilS] 29)) :=
  ⟨hB, (Below.refl _ _).alloc (Nat.le_refl _) _, heap_alloc_new _ _, [], Rw.nil _ _ _ _, rfl⟩
theorem QiL.snoc9 {S : Nat → Prop} {w : World} {q : Qi} {cs : Array Value} (ht : TiV S w q.pd cs) : ∀ (qs : List Qi) (xs : List Value), QiL S w qs xs → QiL S w (qs ++ [q]) (xs ++ (.string q.nm :: cs.toList))
  | [], xs, h => by
    have : xs = [] := h
    subst this
    exact ⟨cs, [], by simp, ht, rfl⟩
  | a :: qs, xs, h => by
    obtain ⟨ds, ys, rfl, h2, h3⟩ := h
    exact ⟨ds, ys ++ (.string q.nm :: cs.toList), by simp, h2, QiL.snoc9 ht qs ys h3⟩
theorem RnS.app {B : Nat} {w : World} {x0 x1 x2 x3 : Value} {acc : List Qi} {v v' : Value} {wr w1 w2 w3 : World} {q : Qi} {cs : Array Value} {xs : List Value} (h : RnS B w x0 x1 x2 x3 acc v wr) (hb1 : Below wr.heap.size wr w1) (ht : TiV (fun b => b < B ∨ wr.heap.size ≤ b) w1 q.pd cs) (h2 : w2 = w1.alloc (.cells (#[.string q.nm] ++ cs) 40)) (hA : Apd w2 v w3)
    (g1 : Rw (fun b => w.heap.size < b) 5 40 w2 v acc.length xs) (g2 : QiL (fun b => ((b < B ∨ w.heap.size < b) ∧ v.ownBlock ≠ some b) ∧ b < w2.heap.size) w2 acc xs) (hw : ∀ S, Rw S 5 40 w2 v acc.length xs → Rw (fun b => S b ∨ w2.heap.size ≤ b) 5 40 w3 v' (acc.length + 1) (xs ++ (.string q.nm :: cs.toList))) : RnS B w x0 x1 x2 x3 (acc ++ [q]) v' (w3.setCell ⟨w.heap.size, 4, none⟩ v') := by
  have hb2 : Below w1.heap.size w1 w2 := by rw [h2]; exact (Below.refl _ _).alloc (Nat.le_refl _) _
  have hb12 : Below wr.heap.size wr w2 := hb1.trans (hb2.mono hb1.size)
  have hJ := h.on hb12
  have hBw := h.hB
  have hz := h.low.size
  have hz1 := hb1.size
  have hz2 := hb2.size
  have hz3 := hA.size
  have hBr := (Array.getElem?_eq_some_iff.1 h.row).1
  have hown : ∀ b, v.ownBlock = some b → w.heap.size < b := fun b hb => g1.own b hb
  have hownlt : ∀ b, v.ownBlock = some b → b < wr.heap.size := fun b hb => by
    obtain ⟨ys, q1, -⟩ := h.ks
    exact q1.ownLt b hb
  have hself := hw (fun b => v.ownBlock = some b) (g1.self.carry fun b _ hS => ⟨hS.2, rfl⟩)
  have hv' : ∀ b, v'.ownBlock = some b → v.ownBlock = some b ∨ w2.heap.size ≤ b := fun b hb => hself.own b hb
  have hne : ∀ b, b < w2.heap.size → v.ownBlock ≠ some b → v'.ownBlock ≠ some b := fun b hb hn e => by
    rcases hv' b e with q | q
    · exact hn q
    · omega
  have hB3 : w3.heap[w.heap.size]? = some (.cells #[x0, x1, x2, x3, v] 29 (0, 0)) := (hA.block _ (by omega) (fun e => by have := hown _ e; omega)).trans hJ.row
  have ho3 : Only (fun b => w.heap.size ≤ b) w2 w3 := hA.only (fun b hb => by show w.heap.size ≤ b; omega) (fun b hb => by have := hown b hb; show w.heap.size ≤ b; omega)
  have hl3 : Below w.heap.size w w3 := hJ.low.trans (ho3.below fun k hk => hk)
  have hoth : ∀ k, k ≠ w.heap.size → (w3.setCell ⟨w.heap.size, 4, none⟩ v').heap[k]? = w3.heap[k]? := fun k hk => heap_setCell_other w3 ⟨w.heap.size, 4, none⟩ k v' hk
  have hzs : (w3.setCell ⟨w.heap.size, 4, none⟩ v').heap.size = w3.heap.size := by simp
  refine ⟨hBw, hl3.setCell (p := ⟨w.heap.size, 4, none⟩) (Nat.le_refl _) v', ?_, xs ++ (.string q.nm :: cs.toList), ?_, ?_⟩
  · have := heap_setCell_same w3 w.heap.size 4 #[x0, x1, x2, x3, v] 29 v' hB3
    simpa using this
  · rw [List.length_append]
    exact (hw _ g1).carry fun b _ hS => by
      have hS' : w.heap.size < b := by
        rcases hS with q | q
        · exact q
        · omega
      exact ⟨hS', hoth b (by omega)⟩
  · rw [hzs]
    refine QiL.carry (S := fun b => ((b < B ∨ w.heap.size < b) ∧ v'.ownBlock ≠ some b) ∧ b < w3.heap.size) (w := w3) (fun b _ hS => ⟨hS, hoth b (by rcases hS.1.1 with h9 | h9 <;> omega)⟩) _ _ ?_
    refine QiL.snoc9 (ti_on (w := w1) ht fun b hb hS => ?_) _ _ (QiL.carry (fun b hb hS => ⟨⟨⟨hS.1.1, hne b hb hS.1.2⟩, by omega⟩, hA.block b hb hS.1.2⟩) _ _ g2)
    have hn : v.ownBlock ≠ some b := fun e => by have := hown b e; have := hownlt b e; rcases hS with h9 | h9 <;> omega
    exact ⟨⟨⟨by rcases hS with h9 | h9; exact Or.inl h9; exact Or.inr (by omega), hne b (by omega) hn⟩, by omega⟩, (hA.block b (by omega) hn).trans (hb2.block b hb)⟩
/-- what the round reads -/
structure Rq8 (A : Nat) (qv : Value) (g k : Nat) (nm : ByteArray) (ds : Array Value) (W : World) : Prop where
  c4 : W.cell? ⟨A, 4, none⟩ = some qv
  n0 : W.cell? ⟨g, k, none⟩ = some (.string nm)
  rk : W.rangeAt g (k + 1) ds.toList
theorem Rq8.on {A : Nat} {qv : Value} {g k : Nat} {nm : ByteArray} {ds : Array Value} {W W' : World} (h : Rq8 A qv g k nm ds W) (hA : W'.heap[A]? = W.heap[A]?) (hg : W'.heap[g]? = W.heap[g]?) : Rq8 A qv g k nm ds W' := ⟨(cell_same hA).trans h.c4, (cell_same hg).trans h.n0, fun i v hi => (cell_same hg).trans (h.rk i v hi)⟩
set_option maxHeartbeats 6400000 in
theorem rplain8_no (p : Pi) (cs : Array Value) (w : World) (hp : PiV (fun b => b < w.heap.size) w p cs) (hc : chk p ≠ 0) : Calls Tryd.prog 18 #[.agg cs] w fun e w' => e = .returned (.tuple #[.agg pz, .int .i64 ((chk p : Nat) : Int)]) ∧ Below w.heap.size w w' := by
  have HPV := hid hp
  obtain ⟨x0, x1, x2, x3, ao, cap, xs, rfl, -, -, -⟩ := hp.five
  obtain ⟨W1, hW1⟩ : ∃ W1, W1 = (w.alloc (.cells #[x0, x1, x2, x3, .slice ao p.qs.length cap] 29)).alloc (.cells pz 29) := ⟨_, rfl⟩
  have HE : Hid ((w.alloc (.cells #[x0, x1, x2, x3, .slice ao p.qs.length cap] 29)).alloc (.cells #[.int .i8 0, .int .i8 0, .int .u64 0, .slice none 0 0, .slice none 0 0] 29) = W1) := hW1.symm
  have HT : Hid (Tp w #[x0, x1, x2, x3, .slice ao p.qs.length cap] W1) := by show Tp _ _ _; rw [hW1]; exact Tp.new _ _
  have HC := hid (rcheck8_any p _ W1 (HPV.out.carry fun b hb hS => ⟨by have := HT.out.b.size; omega, HT.out.b.block b hb⟩))
  have gc : (((chk p : Nat) : Int) != 0) = true := by simp; exact hc
  generalize chk p = c at HC gc ⊢
  clear hW1 hp hc
  go_enter Tryd.func18, Tryd.ntmps18
  go_upto_region 1 with fail
  rw [show (w.alloc (.cells #[x0, x1, x2, x3, .slice ao p.qs.length cap] 29)).alloc (.cells #[.int .i8 0, .int .i8 0, .int .u64 0, .slice none 0 0, .slice none 0 0] 29) = W1 from HE.out]
  clear HE
  go_wp2_with (first
    | (refine ldRow 29 (.tmp 1) rfl rfl w.heap.size rfl 29 #[x0, x1, x2, x3, .slice ao p.qs.length cap] _ Tryd.underlying29 rfl sizePO HT.out.n ?_)
    | (go_at_call 13; refine (HC.out).mono ?_; rintro e w2 ⟨rfl, hw⟩; have HT2 := hid (HT.out.on hw); clear hw HC)
    | (refine stRow 29 (.tmp 2) (.tmp 11) rfl rfl (w.heap.size + 1) pz rfl rfl 29 pz HT2.out.r sizePO rfl pz1 ?_))
  refine bodyPost_ret (v := .tuple #[.agg pz, .int .i64 ((c : Nat) : Int)]) (res_pe Tryd.results18 _ _ (w.heap.size + 1) _ sizePO rfl (setRow_heap _ _ _ _ _ _ HT2.out.r)) rfl ?_
  exact ⟨rfl, bel_row HT2.out.b (by omega) _⟩
set_option maxHeartbeats 25600000 in
theorem rplain8_ok (P : Po) (cs : Array Value) (w : World) (hp : PiV (fun b => b < w.heap.size) w (pi P) cs) (hok : OkW P) : Calls Tryd.prog 18 #[.agg cs] w fun e w' => ∃ ds, e = .returned (.tuple #[.agg ds, .int .i64 0]) ∧ Below w.heap.size w w' ∧ PiV (fun b => b < w'.heap.size) w' (pi (plPo P)) ds := by
  have HPV := hid hp
  have HOk := hid hok
  obtain ⟨x0, x1, x2, x3, ao, cap, xs, rfl, h1, h2, h3⟩ := hp.five
  rw [pi_len] at h2 HPV ⊢
  have HQ : Hid (Rx (fun b => b < w.heap.size) 5 w (.slice ao P.qs.length cap) P.qs.length xs ∧ QiL (fun b => b < w.heap.size) w (pi P).qs xs) := ⟨h2, h3⟩
  have HM := hid h1
  have hl32 := hok.l
  obtain ⟨W1, hW1⟩ : ∃ W1, W1 = (w.alloc (.cells #[x0, x1, x2, x3, .slice ao P.qs.length cap] 29)).alloc (.cells pz 29) := ⟨_, rfl⟩
  have HE : Hid ((w.alloc (.cells #[x0, x1, x2, x3, .slice ao P.qs.length cap] 29)).alloc (.cells #[.int .i8 0, .int .i8 0, .int .u64 0, .slice none 0 0, .slice none 0 0] 29) = W1) := hW1.symm
  have HT : Hid (Tp w #[x0, x1, x2, x3, .slice ao P.qs.length cap] W1) := by show Tp _ _ _; rw [hW1]; exact Tp.new _ _
  have hC := rcheck8_any (pi P) _ W1 (HPV.out.carry fun b hb hS => ⟨by have := HT.out.b.size; omega, HT.out.b.block b hb⟩)
  rw [okW_chk hok] at hC
  have HC := hid hC
  have HPl : Hid (∀ (t : Tm) (b : Bool) (es : Array Value) (W : World), sz t ≤ 4096 → oneT b t = true → Below w.heap.size w W → UmV (fun b => b < w.heap.size) w t es → Calls Tryd.prog 47 #[.agg es] W fun e w' => ∃ ds, e = .returned (.agg ds) ∧ Below W.heap.size W w' ∧ UmV (Old (fun b => b < w.heap.size) W) w' (pl t) ds) := fun t b es W hs ho hb hv => rplain_any 4096 t es b (fun b => b < w.heap.size) W hs (Nat.le_refl _) ho (um_on hv fun b hl hS => ⟨hS, hb.block b hl⟩)
  clear hW1 hp h1 h2 h3 hC hok HPV
  go_enter Tryd.func18, Tryd.ntmps18
  go_upto_region 1 with fail
  rw [show (w.alloc (.cells #[x0, x1, x2, x3, .slice ao P.qs.length cap] 29)).alloc (.cells #[.int .i8 0, .int .i8 0, .int .u64 0, .slice none 0 0, .slice none 0 0] 29) = W1 from HE.out]
  clear HE
  go_upto_region 4 with (first
    | (refine ldRow 29 (.tmp 1) rfl rfl w.heap.size rfl 29 #[x0, x1, x2, x3, .slice ao P.qs.length cap] _ Tryd.underlying29 rfl sizePO HT.out.n ?_)
    | (go_at_call 13; refine (HC.out).mono ?_; rintro e w2 ⟨rfl, hw⟩; have HT2 := hid (HT.out.on hw); clear hw HC))
  clear HT
  have HRg2 := hid (five_rng HT2.out.n)
  have HPl2 := hid (HPl.out P.main false #[x0, x1, x2, x3] w2 (by have := HOk.out.s; omega) HOk.out.m HT2.out.b HM.out)
  go_upto_region 5 with (first
    | (refine ldMid 26 (.tmp 13) rfl rfl w.heap.size 0 rfl #[x0, x1, x2, x3] _ Tryd.underlying26 rfl sizeTM HRg2.out ?_)
    | (refine stNew 29 (.tmp 5) (.tmp 16) rfl rfl w3 29 pz #[y0, y1, y2, y3, .slice none 0 0] rfl rfl rfl sizePO rfl HY5.out ?_)
    | (go_at_call 47; refine (HPl2.out).mono ?_; rintro e w3 ⟨ds, rfl, hw, hu⟩; obtain ⟨y0, y1, y2, y3, rfl⟩ := arr4 hu.size; have hbp := run_bpm y0 y1 y2 y3; have HT3 := hid (HT2.out.on hw); have HY5 : Hid ((#[y0, y1, y2, y3, .slice none 0 0] : Array Value).all (·.oneCell') = true) := (by show _ = _; have h1 := hu.one; simp only [List.all_toArray, List.all_cons, List.all_nil, Bool.and_true] at h1 ⊢; simpa [Value.oneCell', and_assoc] using h1); have HU3 := hid hu; clear hw hu HPl2))
  have HL0 := hid (RnS.beg (B := w.heap.size) w3 (by have := HT3.out.sz; omega) y0 y1 y2 y3)
  have hM3 : w.heap.size + 1 < w3.heap.size := by have := HT3.out.sz; omega
  have HM3 := hid hM3
  have HUm : Hid (UmV (fun b => b ≠ w.heap.size + 1) w3 (pl P.main) #[y0, y1, y2, y3]) := um_on HU3.out fun b _ hS => ⟨by have := HT2.out.sz; rcases hS with ⟨-, h⟩ | h <;> omega, rfl⟩
  clear HT2 HU3 HRg2 hbp hM3 HY5
  generalize hW4 : w3.alloc (.cells #[y0, y1, y2, y3, nilS] 29) = W4 at HL0
  clear hW4
  have c4 : W4.cell? ⟨w.heap.size, 4, none⟩ = some (.slice ao P.qs.length cap) := (cell_of_row _ _ _ _ _ _ ((HL0.out.low.block _ (by have := HM3.out; omega)).trans HT3.out.n)).trans rfl
  go_upto_region 6 with fail
  clear c4
  go_loopw [6] (fun v wr => ∃ (j : Nat) (vo : Option Addr) (vc : Nat), v = .int .i64 ((j : Nat) : Int) ∧ j ≤ P.qs.length ∧ Hid (RnS w.heap.size w3 y0 y1 y2 y3 ((pi (plPo P)).qs.take j) (.slice vo j vc) wr)) (fun v _ => P.qs.length - (intOf v).toNat)
  case atStart => exact ⟨0, none, 0, rfl, Nat.zero_le _, by rw [List.take_zero]; exact HL0⟩
  case round =>
    clear HL0
    obtain ⟨j, vo, vc, rfl, hj1, HS⟩ := hrel
    have HBx := hid ((HS.out.low.block _ (show w.heap.size < w3.heap.size by have := HM3.out; omega)).trans HT3.out.n)
    have c4 : wr.cell? ⟨w.heap.size, 4, none⟩ = some (.slice ao P.qs.length cap) := (cell_of_row _ _ _ _ _ _ HBx.out).trans rfl
    by_cases hj : j < P.qs.length
    · have hjp : j < (pi P).qs.length := by rw [pi_len]; exact hj
      have hq1 := HQ.out
      rw [← pi_len P] at hq1
      obtain ⟨g, o, c9, e1, hcap, hgl, zs, ht, hn0, hra⟩ := QiL.rng hq1.1 hq1.2 hjp
      rw [pi_len] at e1 hcap
      cases e1
      rw [pi_at P hj hjp] at ht hn0
      have hs3 : decide ((j : Int) < (P.qs.length : Int)) = true := by simp; omega
      have hjc : j < cap := by omega
      have hw3 : IntKind.i64.wrap ((j : Int) + 1) = (j : Int) + 1 := by rw [IntKind.wrap_i64]; omega
      have HJJ := hid (plq_take hj)
      have hqm : P.qs[j] ∈ P.qs := List.getElem_mem hj
      obtain ⟨nm, hnm⟩ : ∃ nm, nm = (P.qs[j]).nm := ⟨_, rfl⟩
      obtain ⟨qt, hqt⟩ : ∃ qt, qt = (P.qs[j]).pd := ⟨_, rfl⟩
      have hqok : oneT true qt = true ∧ sz qt ≤ 4096 := by rw [hqt]; exact ⟨HOk.out.q _ hqm, by have := HOk.out.s; have := qsz_mem hqm; omega⟩
      simp only [← hnm, ← hqt] at ht hn0 HJJ
      have hz4 := ht.size
      obtain ⟨z0, z1, z2, z3, rfl⟩ := arr4 hz4
      have hlow : Below w.heap.size w wr := HT3.out.b.trans (HS.out.low.mono HT3.out.b.size)
      have HC := hid (HPl.out qt true #[z0, z1, z2, z3] wr.drew hqok.2 hqok.1 (bel_drew hlow) ht)
      have HR : Hid (Rq8 w.heap.size (.slice (some ⟨g, o, none⟩) P.qs.length cap) g (o + j * 5) nm #[z0, z1, z2, z3] wr.drew) := ⟨c4, (cell_same (hlow.block _ hgl)).trans hn0, fun i v hi => (cell_same (hlow.block _ hgl)).trans (hra i v hi)⟩
      have HSd : Hid (RnS w.heap.size w3 y0 y1 y2 y3 ((pi (plPo P)).qs.take j) (.slice vo j vc) wr.drew) := HS.out.on (bel_drew (Below.refl _ _))
      have HMr : Hid (∀ W, RnS w.heap.size w3 y0 y1 y2 y3 ((pi (plPo P)).qs.take j) (.slice vo j vc) W → Rm w3.heap.size (.slice vo j vc) W) := fun W hW => Rm.of hW.row
      have HMr0 := hid (HMr.out _ HSd.out)
      have HLo : Hid (Below w.heap.size w wr.drew) := bel_drew hlow
      have HGl : Hid (g < w.heap.size ∧ w.heap.size < w3.heap.size ∧ w3.heap.size ≤ wr.drew.heap.size) := ⟨hgl, by have := HM3.out; omega, HSd.out.low.size⟩
      have HHd : Hid (∀ (W' : World), Below wr.drew.heap.size wr.drew W' → Rq8 w.heap.size (.slice (some ⟨g, o, none⟩) P.qs.length cap) g (o + j * 5) nm #[z0, z1, z2, z3] W') := fun W' hb => HR.out.on (hb.block _ (by have := HGl.out; omega)) (hb.block _ (by have := HGl.out; omega))
      have HOwr : Hid (∀ b, (Value.slice vo j vc).ownBlock = some b → b < wr.drew.heap.size ∧ w3.heap.size < b) := fun b hb => by
        obtain ⟨ys, q1, -⟩ := HSd.out.ks
        exact ⟨q1.ownLt b hb, q1.own b hb⟩
      clear ht hn0 hra hnm hqt hqm hqok hlow HS hq1 hgl HBx
      go_upto_region 8 with fail
      clear c4
      refine wpK_begin (Rq8 w.heap.size (.slice (some ⟨g, o, none⟩) P.qs.length cap) g (o + j * 5) nm #[z0, z1, z2, z3]) (Rm w3.heap.size (.slice vo j vc)) 17 (by kernel_rfl) HR.out HMr0.out (fun hHeld => ?_)
      generalize wr.drew = wd at HC HSd HR HHd HMr0 HLo HGl HOwr hHeld ⊢
      refine wpK_takeS (i := 0) (v := ?_) rfl (by kernel_rfl) (by kernel_rfl) (by kernel_rfl) (by decide) (fun _ _ _ h => h) (Or.inl ⟨by rfl, ?_⟩) hHeld ?_
      rotate_left
      · intro w' hSw
        clear hSw
        go_simp
        first | done | with_reducible rfl
      simp only [Act.put, List.getElem_toArray, List.getElem_cons_zero, List.setIfInBounds_toArray, List.set_cons_zero, List.set_cons_succ]
      refine wpK_takeT (i := 1) (v := ?_) rfl (by kernel_rfl) (by kernel_rfl) (by kernel_rfl) (by decide) (by kernel_rfl) rfl (fun _ _ _ h => h) (Or.inl ⟨by rfl, ?_⟩) hHeld ?_
      rotate_left
      · intro w' hSw
        have m4 := hSw.2.m4
        clear hSw
        go_simp
        first | done | with_reducible rfl
      simp only [Act.put, List.getElem_toArray, List.getElem_cons_succ, List.getElem_cons_zero, List.setIfInBounds_toArray, List.set_cons_zero, List.set_cons_succ]
      refine wpK_takeS (i := 2) (v := ?_) rfl (by kernel_rfl) (by kernel_rfl) (by kernel_rfl) (by decide) (fun _ _ _ h => h) (Or.inl ⟨by rfl, ?_⟩) hHeld ?_
      rotate_left
      · intro w' hSw
        clear hSw
        go_simp
        first | done | with_reducible rfl
      simp only [Act.put, List.getElem_toArray, List.getElem_cons_succ, List.getElem_cons_zero, List.setIfInBounds_toArray, List.set_cons_zero, List.set_cons_succ]
      refine wpK_takeS (i := 3) (v := ?_) rfl (by kernel_rfl) (by kernel_rfl) (by kernel_rfl) (by decide) (fun _ _ _ h => h) (Or.inl ⟨by rfl, ?_⟩) hHeld ?_
      rotate_left
      · intro w' hSw
        have c4 := hSw.c4
        clear hSw
        go_simp
        first | done | with_reducible rfl
      simp only [Act.put, List.getElem_toArray, List.getElem_cons_succ, List.getElem_cons_zero, List.setIfInBounds_toArray, List.set_cons_zero, List.set_cons_succ]
      refine wpK_takeS (i := 4) (v := ?_) rfl (by kernel_rfl) (by kernel_rfl) (by kernel_rfl) (by decide) (fun _ _ _ h => h) (Or.inl ⟨by rfl, ?_⟩) hHeld ?_
      rotate_left
      · intro w' hSw
        clear hSw
        go_simp
        first | done | with_reducible rfl
      simp only [Act.put, List.getElem_toArray, List.getElem_cons_succ, List.getElem_cons_zero, List.setIfInBounds_toArray, List.set_cons_zero, List.set_cons_succ]
      refine wpK_takeS (i := 5) (v := ?_) rfl (by kernel_rfl) (by kernel_rfl) (by kernel_rfl) (by decide) (fun _ _ _ h => h) (Or.inl ⟨by rfl, ?_⟩) hHeld ?_
      rotate_left
      · intro w' hSw
        clear hSw
        go_simp
        first | done | with_reducible rfl
      simp only [Act.put, List.getElem_toArray, List.getElem_cons_succ, List.getElem_cons_zero, List.setIfInBounds_toArray, List.set_cons_zero, List.set_cons_succ]
      refine wpK_takeS (i := 6) (v := ?_) rfl (by kernel_rfl) (by kernel_rfl) (by kernel_rfl) (by decide) (fun _ _ _ h => h) (Or.inl ⟨by rfl, ?_⟩) hHeld ?_
      rotate_left
      · intro w' hSw
        clear hSw
        go_simp
        first | done | with_reducible rfl
      simp only [Act.put, List.getElem_toArray, List.getElem_cons_succ, List.getElem_cons_zero, List.setIfInBounds_toArray, List.set_cons_zero, List.set_cons_succ]
      refine wpK_takeS (i := 7) (v := ?_) rfl (by kernel_rfl) (by kernel_rfl) (by kernel_rfl) (by decide) (fun _ _ _ h => h) (Or.inl ⟨by rfl, ?_⟩) hHeld ?_
      rotate_left
      · intro w' hSw
        have n0 := hSw.n0
        clear hSw
        go_simp
        first | done | with_reducible rfl
      simp only [Act.put, List.getElem_toArray, List.getElem_cons_succ, List.getElem_cons_zero, List.setIfInBounds_toArray, List.set_cons_zero, List.set_cons_succ]
      refine wpK_takeS (i := 8) (v := ?_) rfl (by kernel_rfl) (by kernel_rfl) (by kernel_rfl) (by decide) (fun _ _ _ h => h) (Or.inl ⟨by rfl, ?_⟩) hHeld ?_
      rotate_left
      · intro w' hSw
        clear hSw
        go_simp
        first | done | with_reducible rfl
      simp only [Act.put, List.getElem_toArray, List.getElem_cons_succ, List.getElem_cons_zero, List.setIfInBounds_toArray, List.set_cons_zero, List.set_cons_succ]
      refine wpK_takeS (i := 9) (v := ?_) rfl (by kernel_rfl) (by kernel_rfl) (by kernel_rfl) (by decide) (fun _ _ _ h => h) (Or.inl ⟨by rfl, ?_⟩) hHeld ?_
      rotate_left
      · intro w' hSw
        have c4 := hSw.c4
        clear hSw
        go_simp
        first | done | with_reducible rfl
      simp only [Act.put, List.getElem_toArray, List.getElem_cons_succ, List.getElem_cons_zero, List.setIfInBounds_toArray, List.set_cons_zero, List.set_cons_succ]
      refine wpK_takeS (i := 10) (v := ?_) rfl (by kernel_rfl) (by kernel_rfl) (by kernel_rfl) (by decide) (fun _ _ _ h => h) (Or.inl ⟨by rfl, ?_⟩) hHeld ?_
      rotate_left
      · intro w' hSw
        clear hSw
        go_simp
        first | done | with_reducible rfl
      simp only [Act.put, List.getElem_toArray, List.getElem_cons_succ, List.getElem_cons_zero, List.setIfInBounds_toArray, List.set_cons_zero, List.set_cons_succ]
      refine wpK_takeS (i := 11) (v := ?_) rfl (by kernel_rfl) (by kernel_rfl) (by kernel_rfl) (by decide) (fun _ _ _ h => h) (Or.inl ⟨by rfl, ?_⟩) hHeld ?_
      rotate_left
      · intro w' hSw
        clear hSw
        go_simp
        first | done | with_reducible rfl
      simp only [Act.put, List.getElem_toArray, List.getElem_cons_succ, List.getElem_cons_zero, List.setIfInBounds_toArray, List.set_cons_zero, List.set_cons_succ]
      refine wpK_takeS (i := 12) (v := ?_) rfl (by kernel_rfl) (by kernel_rfl) (by kernel_rfl) (by decide) (fun _ _ _ h => h) (Or.inl ⟨by rfl, ?_⟩) hHeld ?_
      rotate_left
      · intro w' hSw
        clear hSw
        go_simp
        first | done | with_reducible rfl
      simp only [Act.put, List.getElem_toArray, List.getElem_cons_succ, List.getElem_cons_zero, List.setIfInBounds_toArray, List.set_cons_zero, List.set_cons_succ]
      refine wpK_takeS (i := 13) (v := .agg #[z0, z1, z2, z3]) rfl (by kernel_rfl) (by kernel_rfl) (by kernel_rfl) (by decide) (fun _ _ _ h => h) (Or.inl ⟨by rfl, ?_⟩) hHeld ?_
      · intro w' hSw
        exact runLd 26 (.tmp 36) rfl g (o + j * 5 + 1) rfl #[z0, z1, z2, z3] _ hSw.rk Tryd.underlying26 rfl sizeTM
      simp only [Act.put, List.getElem_toArray, List.getElem_cons_succ, List.getElem_cons_zero, List.setIfInBounds_toArray, List.set_cons_zero, List.set_cons_succ]
      refine kn1 14 _ (by kernel_rfl) rfl (Sp.of rfl (stepFnW 47 (.func 47) [.tmp 37] _ [.agg #[z0, z1, z2, z3]] rfl rfl rfl rfl (fun _ => rfl) _ HC.out ?_))
      rintro e w5 ⟨ds, rfl, hw, hds⟩
      refine Or.inl ⟨_, rfl, ?_⟩
      obtain ⟨d0, d1, d2, d3, rfl⟩ := arr4 hds.size
      have HS5 := hid (HSd.out.on hw)
      have HX := hid (And.intro hw hds)
      have HD1 := hid (one_of4 hds.one nm)
      clear hds
      refine ⟨⟨HHd.out _ hw, Or.inr (HMr.out _ HS5.out)⟩, ?_⟩
      have hHeld : Rq8 w.heap.size (.slice (some ⟨g, o, none⟩) P.qs.length cap) g (o + j * 5) nm #[z0, z1, z2, z3] w5 ∧ Til 17 (Rm w3.heap.size (.slice vo j vc)) #[true, true, true, true, true, true, true, true, true, true, true, true, true, true, true, false, false, false, false, false] w5 := ⟨HHd.out _ hw, Or.inr (HMr.out _ HS5.out)⟩
      clear hw
      simp only [Act.put, List.getElem_toArray, List.getElem_cons_succ, List.getElem_cons_zero, List.setIfInBounds_toArray, List.set_cons_zero, List.set_cons_succ]
      refine wpK_takeS (i := 15) (v := .agg #[.string nm, d0, d1, d2, d3]) rfl (by kernel_rfl) (by kernel_rfl) (by kernel_rfl) (by decide) (fun _ _ _ h => h) (Or.inl ⟨by rfl, ?_⟩) hHeld ?_
      · intro w' hSw
        exact runBd (us := #[(0, .string nm), (1, .agg #[d0, d1, d2, d3])]) _ rfl (by kernel_rfl) (run_bq _ _ _ _ _ _)
      simp only [Act.put, List.getElem_toArray, List.getElem_cons_succ, List.getElem_cons_zero, List.setIfInBounds_toArray, List.set_cons_zero, List.set_cons_succ]
      refine kn1 16 _ (by kernel_rfl) rfl (Sp.bs 27 40 (.tmp 39) rfl rfl #[.string nm, d0, d1, d2, d3] rfl Tryd.underlying27 infoQY rfl (by omega) (by omega) ?_)
      have hb6 : Below w5.heap.size w5 (w5.alloc (.cells #[.string nm, d0, d1, d2, d3] 40)) := (Below.refl _ _).alloc (Nat.le_refl _) _
      have HS6 := hid (HS5.out.on hb6)
      have hb36 := HX.out.1.trans (hb6.mono HX.out.1.size)
      refine ⟨⟨HHd.out _ hb36, Or.inr (HMr.out _ HS6.out)⟩, ?_⟩
      simp only [Act.put, List.getElem_toArray, List.getElem_cons_succ, List.getElem_cons_zero, List.setIfInBounds_toArray, List.set_cons_zero, List.set_cons_succ]
      obtain ⟨xs', g1, g2⟩ := HS6.out.ks
      have hpl : (plPo P).qs.length = P.qs.length := by simp [plPo]
      have hacc : ((pi (plPo P)).qs.take j).length = j := by rw [List.length_take, pi_len]; omega
      have g1' := g1
      rw [hacc] at g1'
      have hN6 : (w5.alloc (.cells #[.string nm, d0, d1, d2, d3] 40)).heap[w5.heap.size]? = some (.cells #[.string nm, d0, d1, d2, d3] 40 (0, 0)) := heap_alloc_new _ _
      refine kn1 17 _ (by kernel_rfl) rfl (Sp.rw (.tmp 25) (.tmp 40) 27 rfl rfl (k := 5) (t := 40) (n := j) (m := 1) (c := 1) (us := [.string nm, d0, d1, d2, d3]) (ad := ⟨w5.heap.size, 0, none⟩) rfl rfl Tryd.underlying27 infoQY rfl (by omega) (by omega) g1' rfl (fun jj x hx => by rw [Addr.add_lit, Nat.zero_add, cell_of_row _ _ _ _ _ _ hN6, ← Array.getElem?_toList]; exact hx) (fun x hx => by have h1 := HD1.out; rw [Array.all_eq_true_iff_forall_mem] at h1; exact h1 x (List.mem_toArray.2 hx)) (by omega) (Or.inl (by omega)) ?_)
      intro v' w7 hA hW
      obtain ⟨ao', cap', rfl⟩ := (hW _ g1').form
      have hmn : RnS w.heap.size w3 y0 y1 y2 y3 ((pi (plPo P)).qs.take j ++ [⟨nm, ti (pl qt)⟩]) (.slice ao' (j + 1) cap') (w7.setCell ⟨w3.heap.size, 4, none⟩ (.slice ao' (j + 1) cap')) := HSd.out.app (q := ⟨nm, ti (pl qt)⟩) (cs := #[d0, d1, d2, d3]) HX.out.1 (ti_on HX.out.2 fun b _ hS => ⟨by
        rcases hS with ⟨-, h⟩ | h
        · exact Or.inl h
        · exact Or.inr h, rfl⟩) rfl hA g1 g2 (by rw [hacc]; exact hW)
      have HS8 : Hid (RnS w.heap.size w3 y0 y1 y2 y3 ((pi (plPo P)).qs.take (j + 1)) (.slice ao' (j + 1) cap') (w7.setCell ⟨w3.heap.size, 4, none⟩ (.slice ao' (j + 1) cap'))) := by rw [HJJ.out]; exact hmn
      have hz6 := hb36.size
      have hMlt : w3.heap.size < wd.heap.size := (Array.getElem?_eq_some_iff.1 HSd.out.row).1
      have hM7 : w7.heap[w3.heap.size]? = some (.cells #[y0, y1, y2, y3, .slice vo j vc] 29 (0, 0)) := (hA.block _ (by omega) (fun e => by have := (HOwr.out _ e).2; omega)).trans HS6.out.row
      have hk7 : ∀ b, b < w3.heap.size → w7.heap[b]? = wd.heap[b]? := fun b hb => (hA.block _ (by omega) (fun e => by have := (HOwr.out _ e).2; omega)).trans (hb36.block _ (by omega))
      have hk5 : Rq8 w.heap.size (.slice (some ⟨g, o, none⟩) P.qs.length cap) g (o + j * 5) nm #[z0, z1, z2, z3] w7 := HR.out.on (hk7 _ HGl.out.2.1) (hk7 _ (by have := HGl.out; omega))
      clear hA hW g1 g1' g2 hmn hk7
      refine ⟨⟨hk5, Or.inl rfl⟩, ?_⟩
      have hHeld : Rq8 w.heap.size (.slice (some ⟨g, o, none⟩) P.qs.length cap) g (o + j * 5) nm #[z0, z1, z2, z3] w7 ∧ Til 17 (Rm w3.heap.size (.slice vo j vc)) #[true, true, true, true, true, true, true, true, true, true, true, true, true, true, true, true, true, true, false, false] w7 := ⟨hk5, Or.inl rfl⟩
      simp only [Act.put, List.getElem_toArray, List.getElem_cons_succ, List.getElem_cons_zero, List.setIfInBounds_toArray, List.set_cons_zero, List.set_cons_succ]
      refine wpK_takeS (i := 18) (v := ?_) rfl (by kernel_rfl) (by kernel_rfl) (by kernel_rfl) (by decide) (fun _ _ _ h => h) (Or.inl ⟨by rfl, ?_⟩) hHeld ?_
      rotate_left
      · intro w' hSw
        clear hSw
        go_simp
        first | done | with_reducible rfl
      simp only [Act.put, List.getElem_toArray, List.getElem_cons_succ, List.getElem_cons_zero, List.setIfInBounds_toArray, List.set_cons_zero, List.set_cons_succ]
      refine kn1 19 _ (by kernel_rfl) rfl (Sp.stq (.tmp 42) (.tmp 41) rfl rfl w3.heap.size 4 ao' (j + 1) cap' _ rfl rfl ((cell_of_row _ _ _ _ _ _ hM7).trans rfl) (row_frozen8 hM7) ?_)
      have hg8 : ∀ b, b < w3.heap.size → (w7.setCell ⟨w3.heap.size, 4, none⟩ (.slice ao' (j + 1) cap')).heap[b]? = w7.heap[b]? := fun b hb => heap_setCell_other w7 ⟨w3.heap.size, 4, none⟩ b _ (by show b ≠ w3.heap.size; omega)
      refine ⟨⟨hk5.on (hg8 _ HGl.out.2.1) (hg8 _ (by have := HGl.out; omega)), Or.inl rfl⟩, ?_⟩
      simp only [Act.put, List.getElem_toArray, List.getElem_cons_succ, List.getElem_cons_zero]
      refine wpK_done (by kernel_rfl) ?_ _
      clear hHeld hk5 hM7 hg8
      generalize w7.setCell ⟨w3.heap.size, 4, none⟩ (.slice ao' (j + 1) cap') = w8 at HS8 ⊢
      go_wp2
      have hX : ∃ (k : Nat) (vo : Option Addr) (vc : Nat), Value.int .i64 ((j : Int) + 1) = .int .i64 ((k : Nat) : Int) ∧ k ≤ P.qs.length ∧ Hid (RnS w.heap.size w3 y0 y1 y2 y3 ((pi (plPo P)).qs.take k) (.slice vo k vc) w8) := ⟨j + 1, ao', cap', by rw [show (((j + 1 : Nat) : Nat) : Int) = (j : Int) + 1 by omega], hj, HS8⟩
      refine ⟨?_, ?_⟩
      · first
          | exact hX
          | ((repeat apply Exists.intro); refine ⟨?_, rfl⟩; exact hX)
      · simp [intOf]; omega
    · have hs3 : decide ((j : Int) < (P.qs.length : Int)) = false := by simp; omega
      obtain rfl : j = P.qs.length := by omega
      have HMr := hid HS.out.row
      have HRr : Hid (wr.heap[w.heap.size + 1]? = some (.cells pz 29 (0, 0))) := (HS.out.low.block _ HM3.out).trans HT3.out.r
      have HLw := hid (HT3.out.b.trans (HS.out.low.mono HT3.out.b.size))
      have hmo : (#[y0, y1, y2, y3] : Array Value).all (·.oneCell') = true := HUm.out.one
      have HO5 : Hid ((#[y0, y1, y2, y3, .slice vo P.qs.length vc] : Array Value).all (·.oneCell') = true) := by
        show _ = _
        simp only [List.all_toArray, List.all_cons, List.all_nil, Bool.and_true] at hmo ⊢
        simpa [Value.oneCell', and_assoc] using hmo
      have HPi : Hid (PiV (fun b => b ≠ w.heap.size + 1 ∧ b < wr.heap.size) wr (pi (plPo P)) #[y0, y1, y2, y3, .slice vo P.qs.length vc]) := by
        obtain ⟨xs', g1, g2⟩ := HS.out.ks
        have hll : (pi (plPo P)).qs.take P.qs.length = (pi (plPo P)).qs := List.take_of_length_le (by rw [pi_len]; simp [plPo])
        rw [hll] at g1 g2
        have hz9 := HS.out.low.size
        have hm9 := HM3.out
        refine ⟨#[y0, y1, y2, y3], .slice vo P.qs.length vc, xs', rfl, ti_on HUm.out fun b hb hS => ⟨⟨hS, by omega⟩, HS.out.low.block b hb⟩, g1.rx.carry fun b hb hS => ⟨⟨by omega, hb⟩, rfl⟩, QiL.carry (fun b hb hS => ⟨⟨by rcases hS.1.1 with h9 | h9 <;> omega, hb⟩, rfl⟩) _ _ g2⟩
      clear hmo HBx HS
      go_wp2_with (first
        | (refine ldRow 29 (.tmp 5) rfl rfl w3.heap.size rfl 29 #[y0, y1, y2, y3, .slice vo P.qs.length vc] _ Tryd.underlying29 rfl sizePO HMr.out ?_)
        | (refine stRow 29 (.tmp 2) (.tmp 43) rfl rfl (w.heap.size + 1) #[y0, y1, y2, y3, .slice vo P.qs.length vc] rfl rfl 29 pz HRr.out sizePO rfl HO5.out ?_))
      have hbR : Below w.heap.size w (wr.setRow (w.heap.size + 1) #[y0, y1, y2, y3, .slice vo P.qs.length vc]) := bel_row HLw.out (by omega) _
      refine bodyPost_ret (v := .tuple #[.agg #[y0, y1, y2, y3, .slice vo P.qs.length vc], .int .i64 0]) (res_pe Tryd.results18 _ _ (w.heap.size + 1) _ sizePO rfl (setRow_heap wr _ _ _ _ _ HRr.out)) rfl ?_
      exact ⟨_, rfl, hbR, HPi.out.carry fun b hb hS => ⟨by simp [World.setRow]; exact hb, setRow_other wr _ b _ hS.1⟩⟩
end Go.Proofs.YtjallmncajhamaaDoor
