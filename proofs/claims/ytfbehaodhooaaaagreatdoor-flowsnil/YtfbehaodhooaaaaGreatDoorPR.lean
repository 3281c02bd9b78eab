/-
  Proved here: higher of package tuples; placed at rows puts one to its place, by its top. Condition: fewer than 2 to 31 rows.
-/
import Derived.Test.YtfbehaodhooaaaaGreatDoorTM
namespace Go.Proofs.YtfbehaodhooaaaaGreatDoor
set_option maxRecDepth 100000
open Go.RowKit

abbrev pv (p : Nat) : Value := .pointer (some ⟨p, 0, none⟩)
theorem higher_any (p q : Nat) (a b : Int) (w : World) (hp : w.cell? ⟨p, 11, none⟩ = some (.int .i64 a)) (hq : w.cell? ⟨q, 11, none⟩ = some (.int .i64 b)) :
    Calls Tryz.prog 104 #[pv p, pv q] w fun e w' => e = .returned (.bool (decide (b < a))) ∧ Below w.heap.size w w' := by
  have hbd : Hid (Below w.heap.size w w) := Below.refl _ _
  go_enter Tryz.func104, Tryz.ntmps104
  go_wp2_with fail
  go_quiet (fail)
  go_wp2
  go_ret
  exact ⟨rfl, ⟨rfl, rfl, rfl, Nat.le_refl _, fun _ _ => rfl⟩⟩
/-- Where a row of that top goes, from the first q on. -/
def posr (l : List Ro) (t : Int) : Nat → Nat
  | 0 => 0
  | k + 1 => if (l[k]?.map Ro.top).getD 0 < t then posr l t k else k + 1
theorem posr_le (l : List Ro) (t : Int) : ∀ k, posr l t k ≤ k
  | 0 => Nat.le_refl _
  | k + 1 => by
    have := posr_le l t k
    unfold posr
    split <;> omega
def placeR (l : List Ro) (x : Ro) : List Ro := l.take (posr l x.top l.length) ++ [x] ++ l.drop (posr l x.top l.length)
abbrev pts (l : List Ro) : List Value := l.map fun ρ => pv ρ.p
theorem pts_one (l : List Ro) : ∀ x ∈ pts l, x.oneCell' = true := by
  intro x hx
  obtain ⟨q, hq, rfl⟩ := List.mem_map.1 hx
  rfl
/-- What placed leaves. -/
def PlR (S : Nat → Prop) (w : World) (v : Value) (l : List Ro) (r : Ending) (w' : World) : Prop := ∃ v', r = .returned v' ∧ Apd w v w' ∧ Rw (fun b => S b ∨ w.heap.size ≤ b) 1 131 w' v' l.length (pts l)
theorem plR_fin {S : Nat → Prop} {w wr : World} {v : Value} {l : List Ro} {x : Ro} {q : Nat} (h : Rw S 1 131 w v l.length (pts l)) (hb : Below w.heap.size w wr) (hq : posr l x.top l.length = q) (hql : q ≤ l.length) (hn : l.length < 2147483647) :
    Calls Tryz.prog 123 #[v, .int .i64 (q : Nat), .slice (some ⟨wr.heap.size, 0, none⟩) 1 1] (wr.alloc (.cells #[pv x.p] 131)) fun r w' => PlR S w v (placeR l x) r w' := by
  have hs := hb.size
  have hw : Below w.heap.size w (wr.alloc (.cells #[pv x.p] 131)) := hb.alloc hs _
  have hR : Rw S 1 131 (wr.alloc (.cells #[pv x.p] 131)) v l.length (pts l) := h.carry fun b hb' hS => ⟨hS, hw.block b hb'⟩
  refine (inR_any _ v l.length q wr.heap.size (pts l) [pv x.p] hR hql rfl hn (heap_alloc_new _ _) (fun e => by have := h.ownLt _ e; omega) (pts_one l) (fun x hx => by rw [List.mem_singleton.1 hx]; rfl)).mono ?_
  rintro r w' ⟨v', rfl, hA, hR'⟩
  have hs2 := hw.size
  have hpl : (placeR l x).length = l.length + 1 := by unfold placeR; rw [hq]; simp; omega
  refine ⟨v', rfl, ⟨hA.os.trans hw.os, hA.tape.trans hw.tape, hA.output.trans hw.output, Nat.le_trans hs2 hA.size, fun k hk hne => by rw [hA.block k (by omega) hne, hw.block k hk]⟩, ?_⟩
  rw [hpl]
  have e1 : pts (placeR l x) = (pts l).take q ++ [pv x.p] ++ (pts l).drop q := by
    unfold placeR pts; rw [hq]; simp only [List.map_append, List.map_take, List.map_drop, List.map_cons, List.map_nil]
  rw [e1]
  refine hR'.carry fun b _ hS => ⟨?_, rfl⟩
  rcases hS with hS | hS
  · exact Or.inl hS
  · exact Or.inr (by omega)
set_option maxHeartbeats 1600000 in
set_option maxRecDepth 100000 in
theorem placedR_any {S : Nat → Prop} (w : World) (v : Value) (l : List Ro) (x : Ro) (h : Rw S 1 131 w v l.length (pts l)) (hx : w.cell? ⟨x.p, 11, none⟩ = some (.int .i64 x.top)) (hl : ∀ y ∈ l, w.cell? ⟨y.p, 11, none⟩ = some (.int .i64 y.top)) (hn : l.length < 2147483647) :
    Calls Tryz.prog 103 #[v, pv x.p, .func (.func 104) #[] #[]] w fun r w' => PlR S w v (placeR l x) r w' := by
  have HFin : Hid (∀ (wr : World) (q : Nat), Below w.heap.size w wr → posr l x.top l.length = q → q ≤ l.length → Calls Tryz.prog 123 #[v, .int .i64 (q : Nat), .slice (some ⟨wr.heap.size, 0, none⟩) 1 1] (wr.alloc (.cells #[pv x.p] 131)) fun r w' => PlR S w v (placeR l x) r w') := fun wr q h1 h2 h3 => plR_fin h h1 h2 h3 hn
  obtain ⟨ao, cap, rfl⟩ := h.form
  have H := hid h
  have HX := hid hx
  have HL := hid hl
  clear h hx hl
  go_enter Tryz.func103, Tryz.ntmps103
  go_upto_region 2 with fail
  go_loopw [7] (fun i wr => ∃ q : Nat, q ≤ l.length ∧ i = .int .i64 q ∧ Below w.heap.size w wr ∧ posr l x.top l.length = posr l x.top q) (fun i _ => (intOf i).toNat)
  case atStart => exact ⟨l.length, by omega, rfl, Below.refl _ _, rfl⟩
  case round =>
    obtain ⟨q, hq, rfl, hlow, hpos⟩ := hrel
    generalize wr = wx at *
    have HBx := hid hlow
    clear hlow
    by_cases hq0 : q = 0
    · subst hq0
      have HI := hid (HFin.out wx 0 HBx.out hpos (Nat.zero_le _))
      have d00 : decide ((0 : Int) < ((0 : Nat) : Int)) = false := rfl
      clear hpos HFin
      go_wp2_with (go_at_call 123; refine (HI.out).mono ?_; rintro r w5 ⟨v', rfl, h1, h2⟩; have HF := hid (And.intro h1 h2); clear h1 h2)
      go_ret
      exact ⟨_, rfl, HF.out⟩
    · obtain ⟨j, hqj⟩ : ∃ j, q = j + 1 := ⟨q - 1, by omega⟩
      have hj : j < l.length := by omega
      rcases H.out with ⟨hxl, ⟨_, hz0⟩ | ⟨g, o, cap', cur, he, hb1, hb2, hb3, hb4, hb5⟩⟩
      · omega
      obtain ⟨rfl, rfl⟩ : ao = some ⟨g, o, none⟩ ∧ cap = cap' := by simpa using he
      obtain ⟨y, hy⟩ : ∃ y : Ro, y = l[j] := ⟨_, rfl⟩
      have hgl := (Array.getElem?_eq_some_iff.1 hb2).1
      have hgx : wx.heap[g]? = some (.cells cur 131 (0, 0)) := (HBx.out.block g hgl).trans hb2
      have d0 : wx.cell? ⟨g, o + j, none⟩ = some (pv y.p) := by
        rw [cell_of_row _ _ _ _ _ _ hgx]
        have := cells_at hb5 (j := j) (by omega)
        rw [this, hy]
        simp [pts, hj]
      have hym : y ∈ l := hy ▸ List.getElem_mem hj
      have e1 : wx.cell? ⟨x.p, 11, none⟩ = some (.int .i64 x.top) := by rw [HBx.out.cell (p := ⟨x.p, 11, none⟩) (cell_lt HX.out)]; exact HX.out
      have e2 : wx.cell? ⟨y.p, 11, none⟩ = some (.int .i64 y.top) := by rw [HBx.out.cell (p := ⟨y.p, 11, none⟩) (cell_lt (HL.out y hym))]; exact HL.out y hym
      have hpd : posr l x.top q = if y.top < x.top then posr l x.top j else j + 1 := by
        rw [hqj]
        show (if (l[j]?.map Ro.top).getD 0 < x.top then _ else _) = _
        rw [List.getElem?_eq_getElem hj, ← hy]; rfl
      have HC := hid (higher_any x.p y.p x.top y.top wx e1 e2)
      have hw1 : IntKind.i64.wrap ((q : Int) - 1) = (j : Int) := by rw [IntKind.wrap_i64]; omega
      have hjl : decide ((j : Int) < (l.length : Int)) = true := decide_eq_true (by omega)
      have hq1 : decide ((0 : Int) < (q : Int)) = true := decide_eq_true (by omega)
      have hq2 : 0 < q := by omega
      have HPd := hid (hpos.trans hpd)
      have HQj := hid hqj
      clear hxl he hb1 hb2 hb3 hb4 hb5 hgl hgx hpd hpos hqj e1 e2 hym
      by_cases hlt : y.top < x.top
      · rw [decide_eq_true hlt] at HC
        have HPd' : Hid (posr l x.top l.length = posr l x.top j) := by show _ = _; rw [HPd.out, if_pos hlt]
        clear hlt hy HPd
        go_wp2_with (go_at_call 104; refine (HC.out).mono ?_; rintro r w5 ⟨rfl, hb5⟩; have HB5 := hid (HBx.out.trans (hb5.mono HBx.out.size)); clear hb5)
        go_roundw
        case rel => exact ⟨j, by have := HQj.out; omega, by go_num, HB5.out, HPd'.out⟩
        case measure => simp [intOf]; have := HQj.out; omega
      · rw [decide_eq_false hlt] at HC
        have HPd' : Hid (posr l x.top l.length = q) := by show _ = _; rw [HPd.out, if_neg hlt, HQj.out]
        clear hlt hy HPd
        go_wp2_with (first
          | (go_at_call 104; refine (HC.out).mono ?_; rintro r w5 ⟨rfl, hb5⟩; have HB5 := hid (HBx.out.trans (hb5.mono HBx.out.size)); have HI := hid (HFin.out w5 q HB5.out HPd'.out hq); clear hb5 HC)
          | (go_at_call 123; refine (HI.out).mono ?_; rintro r w6 ⟨v', rfl, h1, h2⟩; have HF := hid (And.intro h1 h2); clear h1 h2))
        go_ret
        exact ⟨_, rfl, HF.out⟩
end Go.Proofs.YtfbehaodhooaaaaGreatDoor
