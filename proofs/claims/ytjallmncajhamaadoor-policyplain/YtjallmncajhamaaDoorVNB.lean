/-
  Proved here: plain of the document's layer 18 at any term. Conditions: at most 4096 terms; the term is a predicate (or a policy).
-/
import Derived.Test.YtjallmncajhamaaDoorVNX
import Derived.Test.YtjallmncajhamaaDoorVNY
namespace Go.Proofs.YtjallmncajhamaaDoor
open Go.RowKit
set_option maxRecDepth 100000

theorem rplain_any : ∀ (N : Nat) (t : Tm) (cs : Array Value) (b : Bool) (S : Nat → Prop) (w : World), sz t ≤ N → N ≤ 4096 → oneT b t = true → UmV S w t cs → Calls Tryd.prog 47 #[.agg cs] w fun e w' => ∃ ds, e = .returned (.agg ds) ∧ Below w.heap.size w w' ∧ UmV (Old S w) w' (pl t) ds := by
  intro N
  induction N with
  | zero => intro t cs b S w hN; have := sz_pos t; omega
  | succ N ih =>
    rintro ⟨op, fd, n, ks⟩ cs b S w hN hsm h1 ht
    have hop : op = 0 ∨ op = 1 ∨ op = 2 ∨ op = 3 ∨ op = 4 ∨ op = 5 ∨ op = 6 ∨ op = 7 ∨ op = 8 ∨ op = 9 ∨ op = 10 := by
      have h9 := (oneT_iff.1 h1).1
      cases b
      · have := sideT_f.1 h9; omega
      · have := sideT_t.1 h9; omega
    rcases hop with rfl | rfl | rfl | rfl | rfl | rfl | rfl | rfl | rfl | rfl | rfl
    · exact rplain_0 N ih fd n ks cs b S w hN hsm h1 ht
    · exact rplain_1 N ih fd n ks cs b S w hN hsm h1 ht
    · exact rplain_2 N ih fd n ks cs b S w hN hsm h1 ht
    · exact rplain_3 N ih fd n ks cs b S w hN hsm h1 ht
    · exact rplain_4 N ih fd n ks cs b S w hN hsm h1 ht
    · exact rplain_5 N ih fd n ks cs b S w hN hsm h1 ht
    · exact rplain_6 N ih fd n ks cs b S w hN hsm h1 ht
    · exact rplain_7 N ih fd n ks cs b S w hN hsm h1 ht
    · exact rplain_8 N ih fd n ks cs b S w hN hsm h1 ht
    · exact rplain_9 N ih fd n ks cs b S w hN hsm h1 ht
    · exact rplain_10 N ih fd n ks cs b S w hN hsm h1 ht
end Go.Proofs.YtjallmncajhamaaDoor
