/-
  Proved here: what Policy answers of a text, told apart, and that it stays. Condition: strconv's two errors are some.
-/
import Derived.Test.YtcifeankgnjndaaGreatDoorFBL
namespace Go.Proofs.YtcifeankgnjndaaGreatDoor
set_option maxRecDepth 100000
open Go.RowKit
set_option maxRecDepth 100000

/-- What Policy answers, told apart. -/
theorem pol_ok {s : ByteArray} {p : Po} (w : World) (hT : Tab0 w) (hs : s.size ≤ 9223372036854775806) (hp : prs s = .ok p) : Calls Tryz.prog 9 #[.string s] w fun e w' => Below w.heap.size w w' ∧ ∃ cs, e = .returned (.tuple #[.agg cs, .nilIface]) ∧ PoV (fun b => w.heap.size ≤ b) w' p cs := by
  refine (policy_any s w hT hs).mono ?_
  intro e w' h
  unfold PlP at h
  rw [hp] at h
  exact h
theorem pol_no {s : ByteArray} {c a : Nat} {t : ByteArray} (w : World) (hT : Tab0 w) (hs : s.size ≤ 9223372036854775806) (hp : prs s = .no c a t) : Calls Tryz.prog 9 #[.string s] w fun e w' => Below w.heap.size w w' ∧ ∃ N, e = .returned (.tuple #[.agg #[.int .i8 0, .int .i8 0, .int .u64 0, .slice none 0 0, .slice none 0 0], .iface 66 (ptr N)]) ∧ w.heap.size ≤ N ∧ w'.heap[N]? = some (.cells (flc c a t) 68 (0, 0)) := by
  refine (policy_any s w hT hs).mono ?_
  intro e w' h
  unfold PlP at h
  rw [hp] at h
  exact h
theorem prs_all {s : ByteArray} {p : Po} (h : prs s = .ok p) : ∃ l, all s = .ok l := by
  unfold prs at h
  cases ha : all s with
  | ok l => exact ⟨l, rfl⟩
  | no c a t => rw [ha] at h; cases h
/-- what Policy told of a text, in memory -/
def Psd (s : ByteArray) (n : Nat) (cs : Array Value) (er : Value) (w : World) : Prop :=
  (∃ p, prs s = .ok p ∧ er = .nilIface ∧ n = p.qs.length ∧ PoV (fun _ => True) w p cs) ∨ (∃ N c a t, prs s = .no c a t ∧ er = .iface 66 (ptr N) ∧ w.heap[N]? = some (.cells (flc c a t) 68 (0, 0)))
theorem Psd.on {s : ByteArray} {n : Nat} {cs : Array Value} {er : Value} {w w' : World} (h : Psd s n cs er w) (hb : Below w.heap.size w w') : Psd s n cs er w' := by
  rcases h with ⟨p, h1, h2, h3, h4⟩ | ⟨N, c, a, t, h1, h2, h3⟩
  · exact Or.inl ⟨p, h1, h2, h3, h4.carry fun b hl _ => ⟨trivial, hb.block b hl⟩⟩
  · exact Or.inr ⟨N, c, a, t, h1, h2, (hb.block _ (Array.getElem?_eq_some_iff.1 h3).1).trans h3⟩
theorem pol_all (s : ByteArray) (w : World) (hT : Tab0 w) (hs : s.size ≤ 9223372036854775806) : Calls Tryz.prog 9 #[.string s] w fun e w' => Below w.heap.size w w' ∧ ∃ cs er ao n ca, e = .returned (.tuple #[.agg cs, er]) ∧ cs.size = 5 ∧ cs.all (·.oneCell') = true ∧ cs[4]? = some (.slice ao n ca) ∧ Psd s n cs er w' := by
  cases hp : prs s with
  | ok p =>
    refine (pol_ok w hT hs hp).mono ?_
    rintro e w' ⟨hb, cs, rfl, hpv⟩
    have hsz := hpv.size
    have hone := hpv.one
    have hpv' : PoV (fun _ => True) w' p cs := hpv.carry fun b _ _ => ⟨trivial, rfl⟩
    obtain ⟨ms, qv, xs, e1, h2, h3, -⟩ := hpv
    obtain ⟨ao, ca, rfl⟩ := h3.form
    refine ⟨hb, cs, .nilIface, ao, p.qs.length, ca, rfl, hsz, hone, ?_, Or.inl ⟨p, hp, rfl, rfl, hpv'⟩⟩
    rw [e1, Array.getElem?_append_right (by rw [h2.size]; decide), h2.size]
    rfl
  | no c a t =>
    refine (pol_no w hT hs hp).mono ?_
    rintro e w' ⟨hb, N, rfl, -, hN⟩
    exact ⟨hb, _, _, none, 0, 0, rfl, rfl, by kernel_rfl, rfl, Or.inr ⟨N, c, a, t, hp, rfl, hN⟩⟩
/-- a policy that was told, in a variable -/
structure PlS (s : ByteArray) (P n : Nat) (cs : Array Value) (er : Value) (w : World) : Prop where
  row : w.heap[P]? = some (.cells cs 30 (0, 0))
  told : Psd s n cs er w
theorem PlS.on {s : ByteArray} {P n : Nat} {cs : Array Value} {er : Value} {w w' : World} (h : PlS s P n cs er w) (hb : Below w.heap.size w w') : PlS s P n cs er w' :=
  ⟨(hb.block _ (Array.getElem?_eq_some_iff.1 h.row).1).trans h.row, h.told.on hb⟩
theorem PlS.new {s : ByteArray} {n : Nat} {cs : Array Value} {er : Value} {w : World} (h : Psd s n cs er w) : PlS s w.heap.size n cs er (w.alloc (.cells cs 30)) :=
  ⟨heap_alloc_new _ _, h.on ((Below.refl _ _).alloc (Nat.le_refl _) _)⟩
end Go.Proofs.YtcifeankgnjndaaGreatDoor
