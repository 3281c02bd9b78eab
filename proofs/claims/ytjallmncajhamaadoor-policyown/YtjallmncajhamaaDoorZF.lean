/-
  Proved here: the body of PolicyOwn says true. Conditions: the tables; the policy lies in old memory, its Ops are of eight bits.
-/
import Derived.Test.YtjallmncajhamaaDoorZD
import Derived.Test.YtjallmncajhamaaDoorZE
import Derived.Test.YtjallmncajhamaaDoorTN
namespace Go.Proofs.YtjallmncajhamaaDoor
open Go.RowKit
set_option maxRecDepth 100000

/-- the plain policy under way: its block is the first behind w; the queries that it has -/
structure RnS (B : Nat) (w : World) (x0 x1 x2 x3 : Value) (acc : List Qi) (v : Value) (wr : World) : Prop where
  hB : B ≤ w.heap.size
  low : Below w.heap.size w wr
  row : wr.heap[w.heap.size]? = some (.cells #[x0, x1, x2, x3, v] 29 (0, 0))
  ks : ∃ xs, Rw (fun b => w.heap.size < b) 5 40 wr v acc.length xs ∧ QiL (fun b => ((b < B ∨ w.heap.size < b) ∧ v.ownBlock ≠ some b) ∧ b < wr.heap.size) wr acc xs
theorem RnS.on {B : Nat} {w : World} {x0 x1 x2 x3 : Value} {acc : List Qi} {v : Value} {wr w' : World} (h : RnS B w x0 x1 x2 x3 acc v wr) (hb : Below wr.heap.size wr w') : RnS B w x0 x1 x2 x3 acc v w' := by
  obtain ⟨xs, g1, g2⟩ := h.ks
  have hB := (Array.getElem?_eq_some_iff.1 h.row).1
  have hz := hb.size
  exact ⟨h.hB, h.low.trans (hb.mono h.low.size), (hb.block _ hB).trans h.row, xs, g1.carry fun b hl hS => ⟨hS, hb.block b hl⟩, QiL.carry (fun b hl hS => ⟨⟨hS.1, by omega⟩, hb.block b hl⟩) _ _ g2⟩
theorem RnS.beg {B : Nat} (w : World) (hB : B ≤ w.heap.size) (x0 x1 x2 x3 : Value) : RnS B w x0 x1 x2 x3 [] nilS (w.alloc (.cells #[x0, x1, x2, x3, nilS] 29)) :=
  ⟨hB, (Below.refl _ _).alloc (Nat.le_refl _) _, heap_alloc_new _ _, [], Rw.nil _ _ _ _, rfl⟩
theorem QiL.snoc9 {S : Nat → Prop} {w : World} {q : Qi} {cs : Array Value} (ht : TiV S w q.pd cs) : ∀ (qs : List Qi) (xs : List Value), QiL S w qs xs → QiL S w (qs ++ [q]) (xs ++ (.string q.nm :: cs.toList))
  | [], xs, h => by
    have : xs = [] := h
    subst this
    exact ⟨cs, [], by simp, ht, rfl⟩
  | a :: qs, xs, h => by
    obtain ⟨ds, ys, rfl, h2, h3⟩ := h
    exact ⟨ds, ys ++ (.string q.nm :: cs.toList), by simp, h2, QiL.snoc9 ht qs ys h3⟩
theorem RnS.app {B : Nat} {w : World} {x0 x1 x2 x3 : Value} {acc : List Qi} {v v' : Value} {wr w1 w2 w3 : World} {q : Qi} {cs : Array Value} {xs : List Value} (h : RnS B w x0 x1 x2 x3 acc v wr) (hb1 : Below wr.heap.size wr w1) (ht : TiV (fun b => b < B ∨ wr.heap.size ≤ b) w1 q.pd cs) (h2 : w2 = w1.alloc (.cells (#[.string q.nm] ++ cs) 40)) (hA : Apd w2 v w3)
    (g1 : Rw (fun b => w.heap.size < b) 5 40 w2 v acc.length xs) (g2 : QiL (fun b => ((b < B ∨ w.heap.size < b) ∧ v.ownBlock ≠ some b) ∧ b < w2.heap.size) w2 acc xs) (hw : ∀ S, Rw S 5 40 w2 v acc.length xs → Rw (fun b => S b ∨ w2.heap.size ≤ b) 5 40 w3 v' (acc.length + 1) (xs ++ (.string q.nm :: cs.toList))) : RnS B w x0 x1 x2 x3 (acc ++ [q]) v' (w3.setCell ⟨w.heap.size, 4, none⟩ v') := by
  have hb2 : Below w1.heap.size w1 w2 := by rw [h2]; exact (Below.refl _ _).alloc (Nat.le_refl _) _
  have hb12 : Below wr.heap.size wr w2 := hb1.trans (hb2.mono hb1.size)
  have hJ := h.on hb12
  have hBw := h.hB
  have hz := h.low.size
  have hz1 := hb1.size
  have hz2 := hb2.size
  have hz3 := hA.size
  have hBr := (Array.getElem?_eq_some_iff.1 h.row).1
  have hown : ∀ b, v.ownBlock = some b → w.heap.size < b := fun b hb => g1.own b hb
  have hownlt : ∀ b, v.ownBlock = some b → b < wr.heap.size := fun b hb => by
    obtain ⟨ys, q1, -⟩ := h.ks
    exact q1.ownLt b hb
  have hself := hw (fun b => v.ownBlock = some b) (g1.self.carry fun b _ hS => ⟨hS.2, rfl⟩)
  have hv' : ∀ b, v'.ownBlock = some b → v.ownBlock = some b ∨ w2.heap.size ≤ b := fun b hb => hself.own b hb
  have hne : ∀ b, b < w2.heap.size → v.ownBlock ≠ some b → v'.ownBlock ≠ some b := fun b hb hn e => by
    rcases hv' b e with q | q
    · exact hn q
    · omega
  have hB3 : w3.heap[w.heap.size]? = some (.cells #[x0, x1, x2, x3, v] 29 (0, 0)) := (hA.block _ (by omega) (fun e => by have := hown _ e; omega)).trans hJ.row
  have ho3 : Only (fun b => w.heap.size ≤ b) w2 w3 := hA.only (fun b hb => by show w.heap.size ≤ b; omega) (fun b hb => by have := hown b hb; show w.heap.size ≤ b; omega)
  have hl3 : Below w.heap.size w w3 := hJ.low.trans (ho3.below fun k hk => hk)
  have hoth : ∀ k, k ≠ w.heap.size → (w3.setCell ⟨w.heap.size, 4, none⟩ v').heap[k]? = w3.heap[k]? := fun k hk => heap_setCell_other w3 ⟨w.heap.size, 4, none⟩ k v' hk
  have hzs : (w3.setCell ⟨w.heap.size, 4, none⟩ v').heap.size = w3.heap.size := by simp
  refine ⟨hBw, hl3.setCell (p := ⟨w.heap.size, 4, none⟩) (Nat.le_refl _) v', ?_, xs ++ (.string q.nm :: cs.toList), ?_, ?_⟩
  · have := heap_setCell_same w3 w.heap.size 4 #[x0, x1, x2, x3, v] 29 v' hB3
    simpa using this
  · rw [List.length_append]
    exact (hw _ g1).carry fun b _ hS => by
      have hS' : w.heap.size < b := by
        rcases hS with q | q
        · exact q
        · omega
      exact ⟨hS', hoth b (by omega)⟩
  · rw [hzs]
    refine QiL.carry (S := fun b => ((b < B ∨ w.heap.size < b) ∧ v'.ownBlock ≠ some b) ∧ b < w3.heap.size) (w := w3) (fun b _ hS => ⟨hS, hoth b (by rcases hS.1.1 with h9 | h9 <;> omega)⟩) _ _ ?_
    refine QiL.snoc9 (ti_on (w := w1) ht fun b hb hS => ?_) _ _ (QiL.carry (fun b hb hS => ⟨⟨⟨hS.1.1, hne b hb hS.1.2⟩, by omega⟩, hA.block b hb hS.1.2⟩) _ _ g2)
    have hn : v.ownBlock ≠ some b := fun e => by have := hown b e; have := hownlt b e; rcases hS with h9 | h9 <;> omega
    exact ⟨⟨⟨by rcases hS with h9 | h9; exact Or.inl h9; exact Or.inr (by omega), hne b (by omega) hn⟩, by omega⟩, (hA.block b (by omega) hn).trans (hb2.block b hb)⟩
/-- what the round reads -/
structure Rq8 (A : Nat) (qv : Value) (g k : Nat) (nm : ByteArray) (ds : Array Value) (W : World) : Prop where
  c4 : W.cell? ⟨A, 4, none⟩ = some qv
  n0 : W.cell? ⟨g, k, none⟩ = some (.string nm)
  rk : W.rangeAt g (k + 1) ds.toList
theorem Rq8.on {A : Nat} {qv : Value} {g k : Nat} {nm : ByteArray} {ds : Array Value} {W W' : World} (h : Rq8 A qv g k nm ds W) (hA : W'.heap[A]? = W.heap[A]?) (hg : W'.heap[g]? = W.heap[g]?) : Rq8 A qv g k nm ds W' := ⟨(cell_same hA).trans h.c4, (cell_same hg).trans h.n0, fun i v hi => (cell_same hg).trans (h.rk i v hi)⟩
theorem run_bpm (x0 x1 x2 x3 : Value) (W : World) : (Instr.build 29 #[(0, .agg #[x0, x1, x2, x3])]).run Tryd.prog W = .ok (.agg #[x0, x1, x2, x3, .slice none 0 0]) W := by kernel_rfl
theorem row_frozen8 {W : World} {b t j : Nat} {cs : Array Value} (h : W.heap[b]? = some (.cells cs t (0, 0))) : W.frozen? ⟨b, j, none⟩ = false := by simp [World.frozen?, h]
theorem own_great (p : Pi) (cs : Array Value) (w : World) (hp : GpV (fun b => b < w.heap.size) w p cs) (hT : TabP w) (hz : 3 ≤ w.heap.size) (hg : 8192 < szI p.main + qszI p.qs) :
    Calls Tryd.prog 5 #[.agg cs] w fun e w' => e = .returned (.bool true) ∧ Below w.heap.size w w' := by
  have hB1 : Below w.heap.size w (w.alloc (.cells cs 29)) := (Below.refl _ _).alloc (Nat.le_refl _) _
  have HN1 : Hid ((w.alloc (.cells cs 29)).heap[w.heap.size]? = some (.cells cs 29 (0, 0))) := heap_alloc_new _ _
  have HG : Hid (Calls Tryd.prog 20 #[.agg cs] (w.alloc (.cells cs 29)) fun e w' => e = .returned (.bool true) ∧ Below (w.alloc (.cells cs 29)).heap.size (w.alloc (.cells cs 29)) w') := by
    refine (great9_any p cs _ (hp.carry fun b hb _ => ⟨by have := hB1.size; omega, hB1.block b hb⟩)).mono ?_
    rintro e w' ⟨rfl, h⟩
    exact ⟨by rw [decide_eq_true hg], h⟩
  have HB1 := hid hB1
  have HIn := hid hp.info
  have HWk : Hid (∀ W, Below w.heap.size w W → Calls Tryd.prog 16 #[] W fun e w' => e = .returned (.bool true) ∧ Below W.heap.size W w') := fun W hb => wakes8_any W (hT.on hb hz) (by have := hb.size; omega)
  clear hp hB1 hT hg
  go_enter Tryd.func5, Tryd.ntmps5
  go_upto_region 1 with fail
  generalize w.alloc (.cells cs 29) = W1 at HN1 HB1 HG ⊢
  go_wp2_with (first
    | (refine ldRow 29 (.tmp 1) rfl rfl w.heap.size rfl 29 cs _ Tryd.underlying29 rfl HIn.out HN1.out ?_)
    | (go_at_call 20; refine (HG.out).mono ?_; rintro e w2 ⟨rfl, hw⟩; have HB2 := hid (HB1.out.trans (hw.mono HB1.out.size)); have HW2 := hid (HWk.out w2 HB2.out); clear hw HG)
    | (go_at_call 16; refine (HW2.out).mono ?_; rintro e w3 ⟨rfl, hw⟩; have HB3 := hid (HB2.out.trans (hw.mono HB2.out.size)); clear hw HW2))
  go_ret
  exact ⟨rfl, HB3.out⟩
end Go.Proofs.YtjallmncajhamaaDoor
