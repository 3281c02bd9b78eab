/-
  Plain, and laws of our own: what a test, a leaf make of a store (TestR, LeafR); a store that has one node more (StM.grow); what a store's calls leave as it was (StFr). No condition.
-/
import Derived.Test.YtggbokghhohofaaDoorCC
namespace Go.Proofs.YtggbokghhohofaaDoor
open Go.RowKit Go.Maps
set_option maxRecDepth 100000

instance : Inhabited Nd := ⟨⟨0, 0, 0, 0, []⟩⟩
def nd (all : List Nd) (i : Int) : Nd := all.getD i.toNat default
def okT (all : List Nd) (fd n hi lo : Int) : Bool := fitB fd n && (inL all hi && (inL all lo && (ordH (nd all hi) fd && ordL (nd all lo) fd n)))
/-- A node is asked for: its number, if it is there; else it comes behind the others, where there is room. -/
def PutR (all : List Nd) (x : Nd) (id er : Int) (all' : List Nd) : Prop :=
  (∃ i, ∃ h : i < all.length, all[i] = x ∧ id = ((i : Nat) : Int) ∧ er = 0 ∧ all' = all) ∨
  (x ∉ all ∧ 65536 ≤ all.length ∧ id = 0 ∧ er = 200 ∧ all' = all) ∨
  (x ∉ all ∧ all.length < 65536 ∧ id = ((all.length : Nat) : Int) ∧ er = 0 ∧ all' = all ++ [x])
def TestR (all : List Nd) (fd n hi lo id er : Int) (all' : List Nd) : Prop :=
  (okT all fd n hi lo = false ∧ id = 0 ∧ er = 2 ∧ all' = all) ∨
  (okT all fd n hi lo = true ∧ hi = lo ∧ id = hi ∧ er = 0 ∧ all' = all) ∨
  (okT all fd n hi lo = true ∧ hi ≠ lo ∧ PutR all (tsN fd n hi lo) id er all')
def LeafR (all : List Nd) (rows : List (List Ac)) (id er : Int) (all' : List Nd) : Prop :=
  (nrows rows = none ∧ id = 0 ∧ er = 2 ∧ all' = all) ∨ ∃ K, nrows rows = some K ∧ PutR all (lfN K) id er all'
/-- What a store's calls leave as it was: all but its own blocks. -/
structure StFr (B : Nat) (w w' : World) : Prop where
  os : w'.os = w.os
  tape : w'.tape = w.tape
  output : w'.output = w.output
  size : w.heap.size ≤ w'.heap.size
  blk : ∀ b, b < w.heap.size → (b < B ∨ ∃ cur t fr, w.heap[b]? = some (.cells cur t fr) ∧ t ≠ 59 ∧ t ≠ 41) → w'.heap[b]? = w.heap[b]?
theorem StFr.of {B : Nat} {w w' : World} (h : Below w.heap.size w w') : StFr B w w' := ⟨h.os, h.tape, h.output, h.size, fun b hb _ => h.block b hb⟩
theorem StFr.trans {B : Nat} {a b c : World} (h : StFr B a b) (k : StFr B b c) : StFr B a c :=
  ⟨k.os.trans h.os, k.tape.trans h.tape, k.output.trans h.output, Nat.le_trans h.size k.size, fun x hx hc => by
    have e := h.blk x hx hc
    rw [k.blk x (Nat.lt_of_lt_of_le hx h.size) (hc.imp id fun ⟨cur, t, fr, h1, h2⟩ => ⟨cur, t, fr, e.trans h1, h2⟩), e]⟩
theorem StFr.below {B : Nat} {w w' : World} (h : StFr B w w') (hB : B ≤ w.heap.size) : Below B w w' := ⟨h.os, h.tape, h.output, h.size, fun k hk => h.blk k (by omega) (Or.inl hk)⟩
theorem StM.fr {B p : Nat} {w w' : World} {all : List Nd} {va : Value} {bt bl nt nl : Nat} {Gt Gl : Lit → Option Value} {d : List Nv} (h : StM B p w all va bt bl nt nl Gt Gl d) (ho : Only (fun b => Own1 p bt bl va b ∨ w.heap.size ≤ b) w w') : StFr B w w' :=
  ⟨ho.os, ho.tape, ho.output, ho.size, fun b hb hc => ho.block b fun hS => by
    rcases hS with hS | hS
    · rcases hc with hc | ⟨cur, t, fr, h1, h2, h3⟩
      · have := (h.own b hS).1; omega
      · rcases hS with rfl | rfl | rfl | hS
        · rw [h.hp] at h1; simp at h1; exact h2 h1.2.1.symm
        · obtain ⟨D, ⟨es, clock, q, -⟩, -⟩ := h.mt; rw [q] at h1; simp at h1
        · obtain ⟨D, ⟨es, clock, q, -⟩, -⟩ := h.ml; rw [q] at h1; simp at h1
        · rcases h.rw.ge with ⟨e, _⟩ | ⟨g, o, cap, cu, e, -, q, -⟩
          · rw [e] at hS; simp [Value.ownBlock] at hS
          · rw [e] at hS
            simp [Value.ownBlock] at hS
            subst hS
            rw [q] at h1; simp at h1; exact h3 h1.2.1.symm
    · omega⟩
theorem StM.map_lt {B p : Nat} {w : World} {all : List Nd} {va : Value} {bt bl nt nl : Nat} {Gt Gl : Lit → Option Value} {d : List Nv} (h : StM B p w all va bt bl nt nl Gt Gl d) : bt ≠ p ∧ bl ≠ p ∧ va.ownBlock ≠ some bt ∧ va.ownBlock ≠ some bl := by
  obtain ⟨D, ⟨es, clock, q, -⟩, -⟩ := h.mt
  obtain ⟨D', ⟨es', clock', q', -⟩, -⟩ := h.ml
  refine ⟨fun e => ?_, fun e => ?_, fun e => ?_, fun e => ?_⟩
  · subst e; rw [h.hp] at q; simp at q
  · subst e; rw [h.hp] at q'; simp at q'
  all_goals
    rcases h.rw.ge with ⟨e1, _⟩ | ⟨g, o, cap, cu, e1, -, q2, -⟩
    · rw [e1] at e; simp [Value.ownBlock] at e
    · rw [e1] at e
      simp [Value.ownBlock] at e
      subst e
      first
        | (rw [q2] at q; simp at q)
        | (rw [q2] at q'; simp at q')
/-- A store with one node more. -/
theorem StM.grow {B p : Nat} {w w1 w2 : World} {all : List Nd} {va va' : Value} {bt bl nt nl nt' nl' bm : Nat} {Gt Gl Gt' Gl' : Lit → Option Value} {d : List Nv} {u : Value} {x : Nd} (h : StM B p w all va bt bl nt nl Gt Gl d) (hA : AddP B p w va bt bl d (u, x) va' w1) (hT : Tur w1 w2 bm) (hbm : bm = bt ∨ bm = bl) (mt : Mp w2 70 bt nt' Gt') (ml : Mp w2 9 bl nl' Gl') (hnt : nt' ≤ all.length + 1) (hnl : nl' ≤ all.length + 1)
    (hu : Cps (fun b => B ≤ b ∧ b < w.heap.size ∧ ¬ Own1 p bt bl va b) w u x.lf) (ok : NdOk x)
    (gt : ∀ k v, Gt' k = some v ↔ Gt k = some v ∨ (0 ≤ x.fd ∧ x.lf = [] ∧ k = kt x.fd x.n x.hi x.lo ∧ v = .int .i64 ((all.length : Nat) : Int)))
    (gl : ∀ k v, Gl' k = some v ↔ Gl k = some v ∨ (x = lfN x.lf ∧ k = keyR x.lf ∧ v = .int .i64 ((all.length : Nat) : Int))) (hl : all.length < 65536) :
    StM B p w2 (all ++ [x]) va' bt bl nt' nl' Gt' Gl' (d ++ [(u, x)]) ∧ StFr B w w2 := by
  obtain ⟨m1, m2, m3, m4⟩ := h.map_lt
  have hbp : bm ≠ p := by rcases hbm with rfl | rfl <;> assumption
  have hlt := h.own
  have hold : ∀ b, b < w.heap.size → ¬ Own1 p bt bl va b → w2.heap[b]? = w.heap[b]? := fun b hb hn => by
    rw [hT.block b (fun e => hn (by rcases hbm with rfl | rfl <;> simp [Own1, e])), hA.only.block b fun hS => by
      rcases hS with e | e | e
      · exact hn (Or.inl e)
      · exact hn (Or.inr (Or.inr (Or.inr e)))
      · omega]
  have hvb : va'.ownBlock ≠ some bm := fun e => by
    rcases hA.own _ e with e | e
    · rcases hbm with rfl | rfl
      · exact m3 e
      · exact m4 e
    · have : bm < w.heap.size := by rcases hbm with rfl | rfl; exact h.mt.lt; exact h.ml.lt
      omega
  have hlen : (all ++ [x]).length = all.length + 1 := by simp
  have hgetl : ∀ (i : Nat) (hi : i < (all ++ [x]).length), (i < all.length ∧ ∃ h' : i < all.length, (all ++ [x])[i] = all[i]) ∨ (i = all.length ∧ (all ++ [x])[i] = x) := fun i hi => by
    rw [hlen] at hi
    by_cases hi2 : i < all.length
    · exact Or.inl ⟨hi2, hi2, List.getElem_append_left hi2⟩
    · have : i = all.length := by omega
      subst this
      exact Or.inr ⟨rfl, by simp⟩
  constructor
  · refine ⟨by rw [List.map_append, h.dm]; rfl, h.hB, (hT.block p (Ne.symm hbp)).trans hA.hp, ?_, mt, ml, by rw [hlen]; exact hnt, by rw [hlen]; exact hnl, fun y hy => ?_, fun y hy => ?_, fun k v => ?_, fun k v => ?_, by rw [hlen]; omega⟩
    · have h1 := hA.rw.self
      rw [List.length_append]
      refine h1.carry fun b hb hS => ⟨hS.1, hT.block b fun e => hvb (e ▸ hS.2)⟩
    · have hc : ∀ b, b < w.heap.size → (B ≤ b ∧ ¬ Own1 p bt bl va b) → (B ≤ b ∧ b ≠ p ∧ b ≠ bt ∧ b ≠ bl ∧ va'.ownBlock ≠ some b) ∧ w2.heap[b]? = w.heap[b]? := fun b hb hS => by
        have hn := hS.2
        simp only [Own1, not_or] at hn
        refine ⟨⟨hS.1, hn.1, hn.2.1, hn.2.2.1, fun e => ?_⟩, hold b hb hS.2⟩
        rcases hA.own b e with e | e
        · exact hn.2.2.2 e
        · omega
      rcases List.mem_append.1 hy with hy | hy
      · refine Cps.carry hc ((h.lf y hy).carry fun b _ hS => ⟨⟨hS.1, ?_⟩, rfl⟩)
        simp only [Own1, not_or]
        exact hS.2
      · obtain rfl := List.mem_singleton.1 hy
        exact Cps.carry hc (hu.carry fun b _ hS => ⟨⟨hS.1, hS.2.2⟩, rfl⟩)
    · rcases List.mem_append.1 hy with hy | hy
      · exact h.ok y hy
      · obtain rfl := List.mem_singleton.1 hy
        exact ok
    · rw [gt, h.gt]
      constructor
      · rintro (⟨i, hi, fd, n, hh, l, e1, e2, e3, e4⟩ | ⟨e0, e1, e2, e3⟩)
        · exact ⟨i, by rw [hlen]; omega, fd, n, hh, l, by rw [List.getElem_append_left hi]; exact e1, e2, e3, e4⟩
        · refine ⟨all.length, by rw [hlen]; omega, x.fd, x.n, x.hi, x.lo, ?_, e0, e2, e3⟩
          rw [List.getElem_append_right (Nat.le_refl _)]
          obtain ⟨a1, a2, a3, a4, a5⟩ := x
          simp at e1 ⊢
          exact e1
      · rintro ⟨i, hi, fd, n, hh, l, e1, e2, e3, e4⟩
        rcases hgetl i hi with ⟨hi2, _, e⟩ | ⟨rfl, e⟩
        · exact Or.inl ⟨i, hi2, fd, n, hh, l, e ▸ e1, e2, e3, e4⟩
        · rw [e] at e1
          subst e1
          exact Or.inr ⟨e2, rfl, e3, e4⟩
    · rw [gl, h.gl]
      constructor
      · rintro (⟨i, hi, K, e1, e2, e3⟩ | ⟨e1, e2, e3⟩)
        · exact ⟨i, by rw [hlen]; omega, K, by rw [List.getElem_append_left hi]; exact e1, e2, e3⟩
        · exact ⟨all.length, by rw [hlen]; omega, x.lf, by rw [List.getElem_append_right (Nat.le_refl _)]; simpa using e1, e2, e3⟩
      · rintro ⟨i, hi, K, e1, e2, e3⟩
        rcases hgetl i hi with ⟨hi2, _, e⟩ | ⟨rfl, e⟩
        · exact Or.inl ⟨i, hi2, K, e ▸ e1, e2, e3⟩
        · rw [e] at e1
          subst e1
          exact Or.inr ⟨rfl, e2, e3⟩
  · refine h.fr ⟨hT.os.trans hA.only.os, hT.tape.trans hA.only.tape, hT.output.trans hA.only.output, by rw [hT.size]; exact hA.only.size, fun b hb => ?_⟩
    rcases Nat.lt_or_ge b w.heap.size with h1 | h1
    · exact hold b h1 fun e => hb (Or.inl e)
    · exact absurd (Or.inr h1) hb
end Go.Proofs.YtggbokghhohofaaDoor
