/-
  Proved here: PolicyTwice's region that compares the two plain forms, of a policy that Check takes. No condition.
-/
import Derived.Test.YtabbdnmbpepdbaaDoorPTB
namespace Go.Proofs.YtabbdnmbpepdbaaDoor
open Go.RowKit
set_option maxRecDepth 100000

/-- what PolicyTwice reads: the policy, its plain form, that one's plain form -/
structure T5R (P0 A B : Nat) (x0 x1 x2 x3 xq a0 a1 a2 a3 aq b0 b1 b2 b3 bq : Value) (W : World) : Prop where
  p : W.heap[P0]? = some (.cells #[x0, x1, x2, x3, xq] 29 (0, 0))
  a : W.heap[A]? = some (.cells #[a0, a1, a2, a3, aq] 29 (0, 0))
  b : W.heap[B]? = some (.cells #[b0, b1, b2, b3, bq] 29 (0, 0))
section
variable {P0 A B : Nat} {x0 x1 x2 x3 xq a0 a1 a2 a3 aq b0 b1 b2 b3 bq : Value} {W W' : World}
theorem T5R.on (h : T5R P0 A B x0 x1 x2 x3 xq a0 a1 a2 a3 aq b0 b1 b2 b3 bq W) (hb : Below W.heap.size W W') : T5R P0 A B x0 x1 x2 x3 xq a0 a1 a2 a3 aq b0 b1 b2 b3 bq W' :=
  ⟨(hb.block _ (Array.getElem?_eq_some_iff.1 h.p).1).trans h.p, (hb.block _ (Array.getElem?_eq_some_iff.1 h.a).1).trans h.a, (hb.block _ (Array.getElem?_eq_some_iff.1 h.b).1).trans h.b⟩
theorem T5R.ra (h : T5R P0 A B x0 x1 x2 x3 xq a0 a1 a2 a3 aq b0 b1 b2 b3 bq W) : W.rangeAt A 0 (#[a0, a1, a2, a3, aq] : Array Value).toList := row4_rng h.a
theorem T5R.rb (h : T5R P0 A B x0 x1 x2 x3 xq a0 a1 a2 a3 aq b0 b1 b2 b3 bq W) : W.rangeAt B 0 (#[b0, b1, b2, b3, bq] : Array Value).toList := row4_rng h.b
theorem T5R.ram (h : T5R P0 A B x0 x1 x2 x3 xq a0 a1 a2 a3 aq b0 b1 b2 b3 bq W) : W.rangeAt A 0 (#[a0, a1, a2, a3] : Array Value).toList := five_rng h.a
theorem T5R.rpm (h : T5R P0 A B x0 x1 x2 x3 xq a0 a1 a2 a3 aq b0 b1 b2 b3 bq W) : W.rangeAt P0 0 (#[x0, x1, x2, x3] : Array Value).toList := five_rng h.p
theorem T5R.a4 (h : T5R P0 A B x0 x1 x2 x3 xq a0 a1 a2 a3 aq b0 b1 b2 b3 bq W) : W.cell? ⟨A, 4, none⟩ = some aq := (cell_of_row _ _ _ _ _ _ h.a).trans rfl
theorem T5R.p4 (h : T5R P0 A B x0 x1 x2 x3 xq a0 a1 a2 a3 aq b0 b1 b2 b3 bq W) : W.cell? ⟨P0, 4, none⟩ = some xq := (cell_of_row _ _ _ _ _ _ h.p).trans rfl
end
/-- where PolicyTwice is -/
structure T5S (w : World) (P : Po) (A B : Nat) (x0 x1 x2 x3 xq a0 a1 a2 a3 aq b0 b1 b2 b3 bq : Value) (W : World) : Prop where
  low : Below w.heap.size w W
  r : T5R w.heap.size A B x0 x1 x2 x3 xq a0 a1 a2 a3 aq b0 b1 b2 b3 bq W
  vp : PiV (fun b => b < W.heap.size) W (pi P) #[x0, x1, x2, x3, xq]
  va : PiV (fun b => b < W.heap.size) W (pi (plPo P)) #[a0, a1, a2, a3, aq]
  vb : PiV (fun b => b < W.heap.size) W (pi (plPo P)) #[b0, b1, b2, b3, bq]
theorem T5S.on {w : World} {P : Po} {A B : Nat} {x0 x1 x2 x3 xq a0 a1 a2 a3 aq b0 b1 b2 b3 bq : Value} {W W' : World} (h : T5S w P A B x0 x1 x2 x3 xq a0 a1 a2 a3 aq b0 b1 b2 b3 bq W) (hb : Below W.heap.size W W') : T5S w P A B x0 x1 x2 x3 xq a0 a1 a2 a3 aq b0 b1 b2 b3 bq W' :=
  have hc : ∀ b, b < W.heap.size → b < W.heap.size → b < W'.heap.size ∧ W'.heap[b]? = W.heap[b]? := fun b hl _ => ⟨by have := hb.size; omega, hb.block b hl⟩
  ⟨h.low.trans (hb.mono h.low.size), h.r.on hb, h.vp.carry hc, h.va.carry hc, h.vb.carry hc⟩
theorem sz_pl_le {b : Bool} {t : Tm} (h : oneT b t = true) (hs : sz t ≤ 4096) : sz (pl t) ≤ sz t := (gd_pl b t h hs).s
end Go.Proofs.YtabbdnmbpepdbaaDoor
