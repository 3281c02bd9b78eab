/-
  Proved here: inOrder of package flows: a new slice of all rules, by falling rank and rising number. Condition: fewer than 2 to 31 rules.
-/
import Derived.Test.YtfbehaodhooaaaaGreatDoorFQ
namespace Go.Proofs.YtfbehaodhooaaaaGreatDoor
set_option maxRecDepth 100000
open Go.RowKit Go.Maps

theorem sorted_any (w : World) (Bm b nn : Nat) (D : DataW Value) (Gr : Lit → Option Value) (es : List Fe) (hD : ∀ l, (Gr l = none → Maps.has D l = false) ∧ ∀ v, Gr l = some v → Maps.has D l = true ∧ ∀ z, D.atKey l z = .held v)
    (hg : ∀ l v, Gr l = some v ↔ ∃ e ∈ es, l = .int .i64 e.k ∧ v = pv e.p) (hn : es.Pairwise fun a b => a.k < b.k) (hsz : Maps.size D < 2147483648) (hlen : es.length < 2147483648) (hr : Rds w es) (hBm : Bm < w.heap.size) (hm : w.cell? ⟨Bm, 0, none⟩ = some (.map (some b))) (hown : w.ownsMap Tryz.prog 3 tok b nn D) :
    Calls Tryz.prog 60 #[.func (.func 77) #[] #[.pointer (some ⟨Bm, 0, none⟩)], .func (.func 62) #[] #[]] w (SoP w es) := by
  have hDp : ∀ l, Maps.has D l = true → ∃ p, ∀ zd, D.atKey l zd = .held (pv p) := fun l hl => by
    cases hG : Gr l with
    | none => rw [(hD l).1 hG] at hl; cases hl
    | some v =>
      obtain ⟨e, -, -, rfl⟩ := (hg l v).1 hG
      exact ⟨e.p, ((hD l).2 _ hG).2⟩
  have HC := hid (collect_any Bm b nn D hDp hsz w hBm hm hown)
  have HS : Hid (∀ w1 v xs, Vals D xs → w1.ownsRow w.heap.size 66 1 v xs.length (xs.map pv) → (v = .slice none 0 0 ↔ xs = []) → Below w.heap.size w w1 → (∃ ao n cap, v = .slice ao n cap) ∧ Calls Tryz.prog 76 #[v, .func (.func 62) #[] #[]] w1 fun e w' => e = .returned (.tuple #[]) ∧ SoP w es (.returned v) w') := fun w1 v xs h1 h2 h3 h4 => by
    obtain ⟨dl, hp, rfl⟩ := vals_perm h1 hD hg hn
    refine ⟨by obtain ⟨ao, cap, e⟩ := own_form h2; exact ⟨_, _, _, e⟩, ?_⟩
    refine (sortE_any w1 es dl v w.heap.size hp (hr.on h4) (fun e he => cell_lt (hr e he).1) hlen (by rw [List.length_map, List.map_map] at h2; exact h2) (by rw [h3]; simp)).mono ?_
    rintro e w' ⟨rfl, ds, q1, q2, q3, q4⟩
    exact ⟨rfl, v, ds, rfl, q1, q2, h4.trans q3, q4⟩
  clear hown hm hr hDp hD hg hn
  go_enter Tryz.func60, Tryz.ntmps60
  go_wp2_with (first
    | (go_at_call 75; refine (HC.out).mono ?_; rintro e w1 ⟨v, xs, rfl, h1, h2, h3, h4⟩; obtain ⟨⟨ao, n, cap, rfl⟩, hs⟩ := HS.out w1 v xs h1 h2 h3 h4; have HSS := hid hs; clear h1 h2 h3 h4 hs HC)
    | (go_at_call 76; refine (HSS.out).mono ?_; rintro e w2 ⟨rfl, hp⟩; have HP := hid hp; clear hp HSS))
  go_ret
  exact HP.out
theorem Mp.data {w : World} {K : TypeId} {b n : Nat} {G : Lit → Option Value} (h : Mp w K b n G) : ∃ D : DataW Value, w.ownsMap Tryz.prog K tok b n D ∧ Maps.size D = n ∧ ∀ l, (G l = none → Maps.has D l = false) ∧ ∀ v, G l = some v → Maps.has D l = true ∧ ∀ z, D.atKey l z = .held v := h
theorem FlM.rds {S : Nat → Prop} {o : Nat → Fg} {w : World} {g : Nat} {vm : Value} {br bp bg : Nat} {Gr Gp Gg : Lit → Option Value} {room : Int} {es : List Fe} {gs : List Ge} {ad : Int} (h : FlM S o w g vm br bp bg Gr Gp Gg room es gs ad) : Rds w es := fun e he => by
  have h1 := (h.ent e he).h
  refine ⟨by rw [cell_of_row _ _ _ _ _ _ h1]; exact (fec_at e).2.2, ?_⟩
  rw [cell_of_row _ _ _ _ _ _ h1, show 3 = 3 + 0 from rfl, fec_rl e 0 (by omega)]
  exact rc_rank _ _ _ _
/-- The cells of a table. -/
theorem FlM.cells {S : Nat → Prop} {o : Nat → Fg} {w : World} {g : Nat} {vm : Value} {br bp bg : Nat} {Gr Gp Gg : Lit → Option Value} {room : Int} {es : List Fe} {gs : List Ge} {ad : Int} (h : FlM S o w g vm br bp bg Gr Gp Gg room es gs ad) : w.cell? ⟨g, 0, none⟩ = some vm ∧ w.cell? ⟨g, 1, none⟩ = some (.map (some br)) ∧ w.cell? ⟨g, 2, none⟩ = some (.map (some bp)) ∧ w.cell? ⟨g, 3, none⟩ = some (.int .i64 room) ∧ w.cell? ⟨g, 4, none⟩ = some (.map (some bg)) := by
  refine ⟨?_, ?_, ?_, ?_, ?_⟩ <;> rw [cell_of_row _ _ _ _ _ _ h.hg] <;> rfl
theorem inOrder_any {S : Nat → Prop} {o : Nat → Fg} (w : World) (g : Nat) (vm : Value) (br bp bg : Nat) (Gr Gp Gg : Lit → Option Value) (room : Int) (es : List Fe) (gs : List Ge) (ad : Int) (h : FlM S o w g vm br bp bg Gr Gp Gg room es gs ad) (hI : FInv Gr Gp Gg room es gs ad) : Calls Tryz.prog 41 #[pv g] w (SoP w es) := by
  obtain ⟨D, hown, hsz, hD⟩ := h.mr.data
  have hlen : es.length < 2147483648 := by have := hI.len; have := hI.rm; omega
  have hB1 : Below w.heap.size w (w.alloc (.cells #[.map (some br)] 56)) := (Below.refl _ _).alloc (Nat.le_refl _) _
  have hown1 : (w.alloc (.cells #[.map (some br)] 56)).ownsMap Tryz.prog 3 tok br es.length D := by
    have hbl := hown.lt
    obtain ⟨es', clock, hb, Ft, hs, hD'⟩ := hown
    exact ⟨es', clock, (hB1.block br hbl).trans hb, Ft, hs, hD'⟩
  have HS := hid (sorted_any (w.alloc (.cells #[.map (some br)] 56)) w.heap.size br es.length D Gr es hD hI.gr hI.num (by omega) hlen (h.rds.on hB1) (by simp) (by rw [cell_of_row _ _ _ _ _ _ (heap_alloc_new _ _)]; rfl) hown1)
  obtain ⟨-, c1, -, -, -⟩ := h.cells
  have HB1 := hid hB1
  clear h hI hown hD hown1 hB1 hsz
  go_enter Tryz.func41, Tryz.ntmps41
  go_wp2_with (first
    | (go_at_call 61; refine (values_any br w).mono ?_; rintro e w1 ⟨rfl, rfl⟩)
    | (go_at_call 60; refine (HS.out).mono ?_; rintro e w2 ⟨v, ds, rfl, q1, q2, q3, q4⟩; have HP := hid (And.intro q1 (And.intro q2 (And.intro q3 q4))); clear q1 q2 q3 q4 HS))
  go_ret
  obtain ⟨q1, q2, q3, q4⟩ := HP.out
  exact ⟨v, ds, rfl, q1, q2, HB1.out.trans (q3.mono HB1.out.size), q4.carry fun b _ hb => ⟨by simp at hb; omega, rfl⟩⟩
end Go.Proofs.YtfbehaodhooaaaaGreatDoor
