/-
  Proved here: the parts of the document's Take: what holds between them. No condition.
-/
import Derived.Test.YtijjcopglbcoiaaE4
import Derived.BigQuiet
namespace Go.Proofs.Ytijjcopglbcoiaa
open Go.RowKit Seal

/-- An end's numbers are small. -/
structure Fit (e : E) : Prop where
  ep : e.ep < 4294967296
  got : e.got + e.sent.length < 2000000000
  come : e.come < 2000000000
  new : e.new.length < 2000000000
  lens : ∀ m ∈ e.sent, m.length ≤ 8192

/-- One message comes. -/
def adS (e : E) (f : Nat) (m : List Int) : E := if f = e.come then { e with new := e.new ++ [m], come := e.come + 1 } else e
theorem ad_snoc : ∀ (l : List (List Int)) (e : E) (f : Nat) (m : List Int), ad e f (l ++ [m]) = adS (ad e f l) (f + l.length) m
  | [], e, f, m => rfl
  | x :: l, e, f, m => by
    show ad (adS e f x) (f + 1) (l ++ [m]) = adS (ad (adS e f x) (f + 1) l) _ m
    rw [ad_snoc l, List.length_cons, show f + 1 + l.length = f + (l.length + 1) by omega]
theorem ad_take {l : List (List Int)} {j : Nat} (h : j < l.length) (e : E) (f : Nat) : ad e f (l.take (j + 1)) = adS (ad e f (l.take j)) (f + j) (l.getD j []) := by
  have e1 : l.take (j + 1) = l.take j ++ [l.getD j []] := by
    rw [List.take_add_one, List.getD_eq_getElem?_getD, List.getElem?_eq_getElem h]; rfl
  rw [e1, ad_snoc, List.length_take, Nat.min_eq_left (by omega)]
theorem ad_bd : ∀ (l : List (List Int)) (e : E) (f : Nat), (ad e f l).ep = e.ep ∧ (ad e f l).sent = e.sent ∧ (ad e f l).got = e.got ∧ (ad e f l).come ≤ e.come + l.length ∧ (ad e f l).new.length ≤ e.new.length + l.length
  | [], e, f => by simp [ad]
  | m :: l, e, f => by
    have h := ad_bd l (adS e f m) (f + 1)
    show (ad (adS e f m) (f + 1) l).ep = _ ∧ _
    have h2 : (adS e f m).ep = e.ep ∧ (adS e f m).sent = e.sent ∧ (adS e f m).got = e.got ∧ (adS e f m).come ≤ e.come + 1 ∧ (adS e f m).new.length ≤ e.new.length + 1 := by
      unfold adS; split <;> simp
    refine ⟨by rw [h.1, h2.1], by rw [← h2.2.1]; exact h.2.1, by rw [← h2.2.2.1]; exact h.2.2.1, ?_, ?_⟩
    · have := h.2.2.2.1; simp only [List.length_cons]; show (ad (adS e f m) (f + 1) l).come ≤ _; omega
    · have := h.2.2.2.2; simp only [List.length_cons]; show (ad (adS e f m) (f + 1) l).new.length ≤ _; omega

/-- Within Take: the end at g as it stands for e, the opened bytes d in v1, the messages l in u2. -/
structure St6 (S : Nat → Prop) (f : Nat → Nat) (g : Nat) (w0 w : World) (e : E) (vs vn v1 u2 : Value) (d : List Int) (l : List (List Int)) : Prop where
  only : Only S w0 w
  fresh : Fresh S w
  new2 : ∀ k, w.heap.size ≤ k → f k = 2
  sg : S g
  fg : f g = 0
  blk : w.heap[g]? = some (.cells #[.int .u32 e.ep, vs, .int .u32 e.got, .int .u32 e.come, vn] 57 (0, 0))
  sent : Sp (fun k => S k ∧ f k = 1) (fun k => S k ∧ f k = 3) w vs e.sent
  nw : Sp (fun k => S k ∧ f k = 2) (fun k => S k ∧ f k = 4) w vn e.new
  bytes : SlC (fun k => S k ∧ f k = 4) w v1 d
  ms : Sp (fun k => S k ∧ f k = 5) (fun k => S k ∧ f k = 4) w u2 l
theorem St6.re {S : Nat → Prop} {f : Nat → Nat} {g : Nat} {w0 w : World} {e : E} {vs vn v1 u2 : Value} {d : List Int} {l : List (List Int)} (h : St6 S f g w0 w e vs vn v1 u2 d l) : RE S w (.pointer (some ⟨g, 0, none⟩)) e :=
  ⟨g, f, vs, vn, rfl, h.sg, h.fg, h.blk, h.sent, h.nw⟩
/-- The end's own block turns. -/
theorem St6.upd {S : Nat → Prop} {f : Nat → Nat} {g : Nat} {w0 w w' : World} {e e' : E} {vs vn vs' vn' v1 u2 : Value} {d : List Int} {l : List (List Int)} (h : St6 S f g w0 w e vs vn v1 u2 d l) (ho : Only (fun k => f k = 0) w w') (ho2 : Only S w w') (hb : w'.heap[g]? = some (.cells #[.int .u32 e'.ep, vs', .int .u32 e'.got, .int .u32 e'.come, vn'] 57 (0, 0)))
    (h1 : Sp (fun k => S k ∧ f k = 1) (fun k => S k ∧ f k = 3) w vs' e'.sent) (h2 : Sp (fun k => S k ∧ f k = 2) (fun k => S k ∧ f k = 4) w vn' e'.new) : St6 S f g w0 w' e' vs' vn' v1 u2 d l := by
  have hc : ∀ i, i ≠ 0 → ∀ k, k < w.heap.size → (S k ∧ f k = i) → (S k ∧ f k = i) ∧ w'.heap[k]? = w.heap[k]? := fun i hi k _ hk => ⟨hk, ho.block k (by omega)⟩
  exact ⟨h.only.trans ho2, h.fresh.on ho.size, fun k hk => h.new2 k (Nat.le_trans ho.size hk), h.sg, h.fg, hb, h1.carry (hc 1 (by omega)) (hc 3 (by omega)), h2.carry (hc 2 (by omega)) (hc 4 (by omega)), h.bytes.carry (hc 4 (by omega)), h.ms.carry (hc 5 (by omega)) (hc 4 (by omega))⟩
theorem St6.drew {S : Nat → Prop} {f : Nat → Nat} {g : Nat} {w0 w : World} {e : E} {vs vn v1 u2 : Value} {d : List Int} {l : List (List Int)} (h : St6 S f g w0 w e vs vn v1 u2 d l) : St6 S f g w0 w.drew e vs vn v1 u2 d l :=
  ⟨h.only.drew, h.fresh, h.new2, h.sg, h.fg, h.blk, h.sent.carry (fun _ _ h => ⟨h, rfl⟩) (fun _ _ h => ⟨h, rfl⟩), h.nw.carry (fun _ _ h => ⟨h, rfl⟩) (fun _ _ h => ⟨h, rfl⟩), h.bytes.carry (fun _ _ h => ⟨h, rfl⟩), h.ms.carry (fun _ _ h => ⟨h, rfl⟩) (fun _ _ h => ⟨h, rfl⟩)⟩
theorem St6.drewN {S : Nat → Prop} {f : Nat → Nat} {g : Nat} {w0 w : World} {e : E} {vs vn v1 u2 : Value} {d : List Int} {l : List (List Int)} (h : St6 S f g w0 w e vs vn v1 u2 d l) (n : Nat) : St6 S f g w0 (w.drewN n) e vs vn v1 u2 d l :=
  ⟨⟨h.only.os, h.only.tape, h.only.output, h.only.size, h.only.block⟩, h.fresh, h.new2, h.sg, h.fg, h.blk, h.sent.carry (fun _ _ h => ⟨h, rfl⟩) (fun _ _ h => ⟨h, rfl⟩), h.nw.carry (fun _ _ h => ⟨h, rfl⟩) (fun _ _ h => ⟨h, rfl⟩), h.bytes.carry (fun _ _ h => ⟨h, rfl⟩), h.ms.carry (fun _ _ h => ⟨h, rfl⟩) (fun _ _ h => ⟨h, rfl⟩)⟩
/-- It is reset. -/
theorem St6.reset {S : Nat → Prop} {f : Nat → Nat} {g : Nat} {w0 w : World} {e : E} {vs vn v1 u2 : Value} {d : List Int} {l : List (List Int)} (h : St6 S f g w0 w e vs vn v1 u2 d l) (p : Nat) :
    St6 S f g w0 (((((w.setCell ⟨g, 0, none⟩ (.int .u32 (p : Nat))).setCell ⟨g, 1, none⟩ (.slice none 0 0)).setCell ⟨g, 2, none⟩ (.int .u32 0)).setCell ⟨g, 3, none⟩ (.int .u32 0)).setCell ⟨g, 4, none⟩ (.slice none 0 0)) (E.mk0 p) nilS nilS v1 u2 d l := by
  refine h.upd ?_ ?_ ?_ (Sp.nil _ _ _) (Sp.nil _ _ _)
  · exact (((((Only.refl _ w).setCell (p := ⟨g, 0, none⟩) h.fg _).setCell (p := ⟨g, 1, none⟩) h.fg _).setCell (p := ⟨g, 2, none⟩) h.fg _).setCell (p := ⟨g, 3, none⟩) h.fg _).setCell (p := ⟨g, 4, none⟩) h.fg _
  · exact (((((Only.refl _ w).setCell (p := ⟨g, 0, none⟩) h.sg _).setCell (p := ⟨g, 1, none⟩) h.sg _).setCell (p := ⟨g, 2, none⟩) h.sg _).setCell (p := ⟨g, 3, none⟩) h.sg _).setCell (p := ⟨g, 4, none⟩) h.sg _
  · rw [heap_setCell_same _ g 4 _ _ _ (heap_setCell_same _ g 3 _ _ _ (heap_setCell_same _ g 2 _ _ _ (heap_setCell_same _ g 1 _ _ _ (heap_setCell_same _ g 0 _ _ _ h.blk))))]; rfl
/-- Some more are got. -/
theorem St6.got {S : Nat → Prop} {f : Nat → Nat} {g : Nat} {w0 w : World} {e : E} {b o n cap : Nat} {vn v1 u2 : Value} {d : List Int} {l : List (List Int)} (h : St6 S f g w0 w e (.slice (some ⟨b, o, none⟩) n cap) vn v1 u2 d l) (k : Nat) (hk : k ≤ e.sent.length) :
    St6 S f g w0 ((w.setCell ⟨g, 1, none⟩ (.slice (if cap = k then some ⟨b, o, none⟩ else some ⟨b, o + k, none⟩) (e.sent.length - k) (cap - k))).setCell ⟨g, 2, none⟩ (.int .u32 ((e.got + k : Nat) : Int))) { e with sent := e.sent.drop k, got := e.got + k } (.slice (if cap = k then some ⟨b, o, none⟩ else some ⟨b, o + k, none⟩) (e.sent.length - k) (cap - k)) vn v1 u2 d l := by
  refine h.upd ?_ ?_ ?_ (h.sent.drop k hk) h.nw
  · exact ((Only.refl _ w).setCell (p := ⟨g, 1, none⟩) h.fg _).setCell (p := ⟨g, 2, none⟩) h.fg _
  · exact ((Only.refl _ w).setCell (p := ⟨g, 1, none⟩) h.sg _).setCell (p := ⟨g, 2, none⟩) h.sg _
  · rw [heap_setCell_same _ g 2 _ _ _ (heap_setCell_same _ g 1 _ _ _ h.blk)]; rfl
/-- A one-cell block is made for the append to New. -/
theorem St6.alloc {S : Nat → Prop} {f : Nat → Nat} {g : Nat} {w0 w : World} {e : E} {vs vn v1 u2 : Value} {d : List Int} {l : List (List Int)} (h : St6 S f g w0 w e vs vn v1 u2 d l) (o : Obj) : St6 S f g w0 (w.alloc o) e vs vn v1 u2 d l := by
  have hb : Below w.heap.size w (w.alloc o) := (Below.refl _ _).alloc (Nat.le_refl _) _
  have hc : ∀ i k, k < w.heap.size → (S k ∧ f k = i) → (S k ∧ f k = i) ∧ (w.alloc o).heap[k]? = w.heap[k]? := fun i k hk h => ⟨h, heap_alloc_old _ _ hk⟩
  exact ⟨h.only.alloc h.fresh o, h.fresh.on hb.size, fun k hk => h.new2 k (Nat.le_trans hb.size hk), h.sg, h.fg, by rw [heap_alloc_old _ _ (Array.getElem?_eq_some_iff.1 h.blk).1]; exact h.blk, h.sent.carry (hc 1) (hc 3), h.nw.carry (hc 2) (hc 4), h.bytes.carry (hc 4), h.ms.carry (hc 5) (hc 4)⟩
/-- A message has come: New was appended to. -/
theorem St6.apd {S : Nat → Prop} {f : Nat → Nat} {g : Nat} {w0 w w' : World} {e : E} {vs vn vn' v1 u2 : Value} {d : List Int} {l : List (List Int)} {m : List Int} (h : St6 S f g w0 w e vs vn v1 u2 d l) (A : Apd w vn w') (P : Sp (fun k => (S k ∧ f k = 2) ∨ w.heap.size ≤ k) (fun k => S k ∧ f k = 4) w' vn' (e.new ++ [m])) :
    w'.heap[g]? = some (.cells #[.int .u32 e.ep, vs, .int .u32 e.got, .int .u32 e.come, vn] 57 (0, 0)) ∧
    St6 S f g w0 ((w'.setCell ⟨g, 4, none⟩ vn').setCell ⟨g, 3, none⟩ (.int .u32 ((e.come + 1 : Nat) : Int))) { e with new := e.new ++ [m], come := e.come + 1 } vs vn' v1 u2 d l := by
  have hown : ∀ k, vn.ownBlock = some k → f k = 2 := fun k hk => (h.nw.own k hk).2
  have hg : w'.heap[g]? = some (.cells #[.int .u32 e.ep, vs, .int .u32 e.got, .int .u32 e.come, vn] 57 (0, 0)) := by
    rw [A.block g (Array.getElem?_eq_some_iff.1 h.blk).1 (fun e => by have := hown g e; have := h.fg; omega)]; exact h.blk
  refine ⟨hg, ?_⟩
  have hO2 : Only S w w' := A.only h.fresh fun k hk => (h.nw.own k hk).1
  have hS : Only S w ((w'.setCell ⟨g, 4, none⟩ vn').setCell ⟨g, 3, none⟩ (.int .u32 ((e.come + 1 : Nat) : Int))) := (hO2.setCell (p := ⟨g, 4, none⟩) h.sg _).setCell (p := ⟨g, 3, none⟩) h.sg _
  have hset : ∀ k, k ≠ g → ((w'.setCell ⟨g, 4, none⟩ vn').setCell ⟨g, 3, none⟩ (.int .u32 ((e.come + 1 : Nat) : Int))).heap[k]? = w'.heap[k]? := fun k hk => by
    rw [heap_setCell_other _ ⟨g, 3, none⟩ k _ hk, heap_setCell_other _ ⟨g, 4, none⟩ k _ hk]
  have hne : ∀ i k, i ≠ 0 → f k = i → k ≠ g := fun i k hi hk e => by subst e; have := h.fg; omega
  have hc : ∀ i, i ≠ 0 → i ≠ 2 → ∀ k, k < w.heap.size → (S k ∧ f k = i) → (S k ∧ f k = i) ∧ ((w'.setCell ⟨g, 4, none⟩ vn').setCell ⟨g, 3, none⟩ (.int .u32 ((e.come + 1 : Nat) : Int))).heap[k]? = w.heap[k]? := fun i hi hi2 k hk hh => ⟨hh, by
    rw [hset k (hne i k hi hh.2), A.block k hk (fun e => by have := hown k e; omega)]⟩
  refine ⟨h.only.trans hS, h.fresh.on hS.size, fun k hk => h.new2 k (Nat.le_trans hS.size hk), h.sg, h.fg, ?_, h.sent.carry (hc 1 (by omega) (by omega)) (hc 3 (by omega) (by omega)), ?_, h.bytes.carry (hc 4 (by omega) (by omega)), h.ms.carry (hc 5 (by omega) (by omega)) (hc 4 (by omega) (by omega))⟩
  · rw [heap_setCell_same _ g 3 _ _ _ (heap_setCell_same _ g 4 _ _ _ hg)]; rfl
  · refine P.carry (fun k _ hk => ?_) (fun k _ hk => ⟨hk, hset k (hne 4 k (by omega) hk.2)⟩)
    rcases hk with hk | hk
    · exact ⟨hk, hset k (hne 2 k (by omega) hk.2)⟩
    · exact ⟨⟨h.fresh k hk, h.new2 k hk⟩, hset k (hne 2 k (by omega) (h.new2 k hk))⟩

/-- How Take begins: what was opened and split. -/
theorem St6.start {S : Nat → Prop} {w w1 w2 : World} {v v1 u2 : Value} {e : E} {d : List Int} {l : List (List Int)} (h : RE S w v e) (hf : Fresh S w) (hb1 : Below w.heap.size w w1) (hd : SlC (fun k => w.heap.size ≤ k ∧ k < w1.heap.size) w1 v1 d) (hb2 : Below w1.heap.size w1 w2) (hl : Sp (fun k => w1.heap.size ≤ k) (fun k => (w.heap.size ≤ k ∧ k < w1.heap.size) ∧ k < w1.heap.size) w2 u2 l) :
    ∃ f g vs vn, v = .pointer (some ⟨g, 0, none⟩) ∧ St6 S f g w w2 e vs vn v1 u2 d l := by
  obtain ⟨g, f, vs, vn, rfl, h2, h3, h4, h5, h6⟩ := h
  have hg := (Array.getElem?_eq_some_iff.1 h4).1
  have hb : Below w.heap.size w w2 := hb1.trans (hb2.mono hb1.size)
  let f2 : Nat → Nat := fun k => if k < w.heap.size then f k else if k < w1.heap.size then 4 else if k < w2.heap.size then 5 else 2
  have f2o : ∀ k, k < w.heap.size → f2 k = f k := fun k hk => by simp [f2, hk]
  have f24 : ∀ k, w.heap.size ≤ k → k < w1.heap.size → f2 k = 4 := fun k h1 h2 => by simp only [f2]; rw [if_neg (by omega), if_pos h2]
  have f25 : ∀ k, w1.heap.size ≤ k → k < w2.heap.size → f2 k = 5 := fun k h1 h2 => by have := hb1.size; simp only [f2]; rw [if_neg (by omega), if_neg (by omega), if_pos h2]
  have f22 : ∀ k, w2.heap.size ≤ k → f2 k = 2 := fun k h1 => by have := hb1.size; have := hb2.size; simp only [f2]; rw [if_neg (by omega), if_neg (by omega), if_neg (by omega)]
  have hc : ∀ i k, k < w.heap.size → (S k ∧ f k = i) → (S k ∧ f2 k = i) ∧ w2.heap[k]? = w.heap[k]? := fun i k hk hh => ⟨⟨hh.1, by rw [f2o k hk]; exact hh.2⟩, hb.block k hk⟩
  refine ⟨f2, g, vs, vn, rfl, Only.of hb hf, hf.on hb.size, f22, h2, by rw [f2o g hg]; exact h3, by rw [hb.block g hg]; exact h4, h5.carry (hc 1) (hc 3), h6.carry (hc 2) (hc 4), ?_, ?_⟩
  · exact hd.carry fun k _ hk => ⟨⟨hf k hk.1, f24 k hk.1 hk.2⟩, hb2.block k hk.2⟩
  · exact hl.carry (fun k hk h1 => ⟨⟨hf k (Nat.le_trans hb1.size h1), f25 k h1 hk⟩, rfl⟩) (fun k hk h1 => ⟨⟨hf k h1.1.1, f24 k h1.1.1 h1.1.2⟩, rfl⟩)
end Go.Proofs.Ytijjcopglbcoiaa
